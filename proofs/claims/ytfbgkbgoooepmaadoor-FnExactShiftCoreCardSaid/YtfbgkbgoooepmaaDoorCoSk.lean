/-
  Contract of the program's ShiftCore. Condition: the core term lies in memory, and the table of forms reads as the program's text lays it.
-/
import Derived.Test.YtfbgkbgoooepmaaDoorCoVc
namespace Go.Proofs.YtfbgkbgoooepmaaDoor.Con
open Go.RowKit
set_option linter.unusedVariables false

theorem shCd_in {t : Co} {n f : Int} (hok : okC t = true) (hn : inV n 0 64 = true) (hf : inV f 0 255 = true) : shCd t n f = vcCd (t.sh n f) := by
  have h0 : 0 ≤ n := by unfold inV at hn; simp at hn; exact hn.1
  rw [vcCd_sh hok h0]
  unfold shCd
  rw [if_pos hok, hn, hf]
  rfl

set_option maxRecDepth 100000 in
set_option maxHeartbeats 1000000 in
theorem impl_shiftCo (u : LK) (w : World) (n f : Int) (h : u.Ok w) (hT : KTbl w) : Calls Tryd.prog 36 #[u.val, .int .i64 n, .int .i64 f] w (ShP w u.co n f) := by
  have hA := coAt.new (e := 30) h
  have gR := ((Gw.refl w).alloc (u.obj 30)).alloc (.cells #[.int .i64 0, .int .i64 0, .slice none 0 0, .slice none 0 0] 30)
  have hR := heap_alloc_new (w.alloc (u.obj 30)) (.cells #[.int .i64 0, .int .i64 0, .slice none 0 0, .slice none 0 0] 30)
  rw [World.size_alloc] at hR
  have HA := Lib.hid (hA.grow ((Gw.refl (w.alloc (u.obj 30))).alloc (.cells #[.int .i64 0, .int .i64 0, .slice none 0 0, .slice none 0 0] 30)))
  have G := Lib.hid gR
  have HR := Lib.hid hR
  have T1 := Lib.hid (hT.grow gR)
  clear h hA gR hR hT
  go_enter Tryd.func36, Tryd.ntmps36
  go_upto_region 1 with (fail)
  generalize ((w.alloc (.cells #[.int .i64 u.k, .int .i64 u.v, .slice u.da u.ds.length u.dc, .slice u.a u.ks.length u.cap] 30)).alloc (.cells #[.int .i64 0, .int .i64 0, .slice none 0 0, .slice none 0 0] 30)) = w1 at *
  obtain ⟨p0, p1, p2, p3⟩ := HA.out.c
  simp only [Nat.zero_add] at p1 p2 p3
  have KV0 := impl_validCo u w1 HA.out.2 T1.out
  have HR1 := Lib.hid (Array.getElem?_eq_some_iff.1 HR.out).1
  cases hok : okC u.co with
  | false =>
    rw [hok] at KV0
    have KV := Lib.hid KV0
    have C := Lib.hid (show shCd u.co n f = 1 by unfold shCd; rw [hok]; rfl)
    clear KV0 hok
    go_wp2_with fail
    refine KV.out.mono ?_
    rintro e w2 ⟨rfl, g2⟩
    have R2 := Lib.hid ((g2.block _ HR1.out).trans HR.out)
    have G2 := Lib.hid (G.out.trans g2)
    clear g2 KV p0 p1 p2 p3
    obtain ⟨r0, r1, r2, r3, rf0, rf1, rf2, rf3⟩ := zero_at R2.out
    go_wp2_with fail
    refine bodyPost_ret (v := .tuple #[zeK.val, .int .i64 1]) (by simp [results, Tryd.results36, go_sem, r0, r1, r2, r3]; exact ⟨rfl, rfl, ⟨rfl, rfl, rfl⟩, rfl, rfl, rfl⟩) rfl ⟨zeK, by rw [C.out], by unfold shRs; rw [C.out]; rfl, zeK_new _ _, by_four G2.out⟩
  | true =>
    rw [hok] at KV0
    have KV := Lib.hid KV0
    have HOK := Lib.hid hok
    clear KV0 hok
    go_wp2_with fail
    refine KV.out.mono ?_
    rintro e w2 ⟨rfl, g2⟩
    have R2 := Lib.hid ((g2.block _ HR1.out).trans HR.out)
    have A2 := Lib.hid (HA.out.grow g2)
    have T2 := Lib.hid (T1.out.grow g2)
    have G2 := Lib.hid (G.out.trans g2)
    have L2 := Lib.hid (Nat.lt_of_lt_of_le HR1.out g2.size)
    clear g2 KV p0 p1 p2 p3
    obtain ⟨r0, r1, r2, r3, rf0, rf1, rf2, rf3⟩ := zero_at R2.out
    have KN : Calls Tryd.prog 72 #[.int .i64 n, .int .i64 65] w2 fun e w' => e = .returned (.bool (inV n 0 64)) ∧ w2 = w' := impl_isIndex n 65 w2
    have KF : Calls Tryd.prog 72 #[.int .i64 f, .int .i64 256] w2 fun e w' => e = .returned (.bool (inV f 0 255)) ∧ w2 = w' := impl_isIndex f 256 w2
    cases hn : inV n 0 64 with
    | false =>
      rw [hn] at KN
      have KNN := Lib.hid KN
      have C := Lib.hid (show shCd u.co n f = 2 by unfold shCd; rw [if_pos HOK.out, hn]; rfl)
      clear KN KF hn
      go_wp2_with fail
      refine KNN.out.mono ?_
      rintro e w3 ⟨rfl, rfl⟩
      go_wp2_with fail
      refine bodyPost_ret (v := .tuple #[zeK.val, .int .i64 2]) (by simp [results, Tryd.results36, go_sem, r0, r1, r2, r3]; exact ⟨rfl, rfl, ⟨rfl, rfl, rfl⟩, rfl, rfl, rfl⟩) rfl ⟨zeK, by rw [C.out], by unfold shRs; rw [C.out]; rfl, zeK_new _ _, by_four G2.out⟩
    | true =>
    cases hf : inV f 0 255 with
    | false =>
      rw [hn] at KN
      rw [hf] at KF
      have KNN := Lib.hid KN
      have KFF := Lib.hid KF
      have C := Lib.hid (show shCd u.co n f = 2 by unfold shCd; rw [if_pos HOK.out, hn, hf]; rfl)
      clear KN KF hn hf
      go_wp2_with fail
      refine KNN.out.mono ?_
      rintro e w3 ⟨rfl, rfl⟩
      go_wp2_with fail
      refine KFF.out.mono ?_
      rintro e w3 ⟨rfl, rfl⟩
      go_wp2_with fail
      refine bodyPost_ret (v := .tuple #[zeK.val, .int .i64 2]) (by simp [results, Tryd.results36, go_sem, r0, r1, r2, r3]; exact ⟨rfl, rfl, ⟨rfl, rfl, rfl⟩, rfl, rfl, rfl⟩) rfl ⟨zeK, by rw [C.out], by unfold shRs; rw [C.out]; rfl, zeK_new _ _, by_four G2.out⟩
    | true =>
    have C := Lib.hid (shCd_in HOK.out hn hf)
    have HV := Lib.hid (show (0 ≤ n ∧ n ≤ 64) ∧ (0 ≤ f ∧ f ≤ 255) by
      have h1 := hn
      have h2 := hf
      unfold inV at h1 h2
      simp at h1 h2
      exact ⟨h1, h2⟩)
    rw [hn] at KN
    rw [hf] at KF
    have KNN := Lib.hid KN
    have KFF := Lib.hid KF
    have SH := Lib.hid (impl_shifted u w2 _ _ n f A2.out HOK.out (by have := HV.out.1; omega) HV.out.2)
    clear KN KF hn hf r0 r1 r2 r3 rf0 rf1 rf2 rf3
    go_wp2_with fail
    refine KNN.out.mono ?_
    rintro e w3 ⟨rfl, rfl⟩
    go_wp2_with fail
    refine KFF.out.mono ?_
    rintro e w3 ⟨rfl, rfl⟩
    go_wp2_with fail
    refine SH.out.mono ?_
    rintro e w3 ⟨xb, xo, x, rfl, hx, hxc, hbl, g3, _⟩
    have KC := impl_validCopy x w3 xb xo hx (T2.out.grow g3)
    rw [hxc] at KC
    have KCC := Lib.hid KC
    have G3 := Lib.hid (G2.out.trans g3)
    have R3 := Lib.hid ((g3.block _ L2.out).trans R2.out)
    have L3 := Lib.hid (Nat.lt_of_lt_of_le L2.out g3.size)
    clear hx hxc hbl g3 SH KNN KFF KC
    go_wp2_with fail
    refine KCC.out.mono ?_
    rintro e w4 ⟨y, rfl, hy, hnew, g4⟩
    have HY := Lib.hid hy
    have NY := Lib.hid hnew
    have G4 := Lib.hid (G3.out.trans g4)
    have R4 := Lib.hid ((g4.block _ L3.out).trans R3.out)
    clear hy hnew g4 KCC
    obtain ⟨r0, r1, r2, r3, rf0, rf1, rf2, rf3⟩ := zero_at R4.out
    go_wp2_with fail
    refine bodyPost_ret (v := .tuple #[y.val, .int .i64 (vcCd (u.co.sh n f))]) (by simp [results, Tryd.results36, go_sem, r0, r1, r2, r3]) rfl ⟨y, by rw [C.out], ?_, ?_, by_four G4.out⟩
    · unfold shRs; rw [C.out, HY.out]
    · refine (gNew.same coFr NY.out fun z hz => ?_).mono (by have := L3.out; omega)
      have := (NY.out.2.2 z hz).1
      have := L3.out
      rw [Below.heap_setCell _ _ _ _ (by simp; omega), Below.heap_setCell _ _ _ _ (by simp; omega), Below.heap_setCell _ _ _ _ (by simp; omega), Below.heap_setCell _ _ _ _ (by simp; omega)]

end Go.Proofs.YtfbgkbgoooepmaaDoor.Con
