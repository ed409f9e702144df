/-
  Contract of the model's l06Depth. Condition: the core term lies in memory and is nested at most 100000 levels deep.
  Contracts of the model's l06Instance and InstantiateCore. Condition: the core terms lie in memory.
-/
import Derived.Test.YtfbgkbgoooepmaaDoorCoHi
import Derived.Test.YtfbgkbgoooepmaaDoorCoPu
namespace Go.Proofs.YtfbgkbgoooepmaaDoor.Con
open Go.RowKit
set_option linter.unusedVariables false

theorem cdps_take (ks : List Co) (j : Nat) (hj : j < ks.length) : cdps (ks.take (j + 1)) = max (cdps (ks.take j)) ks[j].dp := by
  induction ks generalizing j with
  | nil => simp at hj
  | cons t ts ih =>
    cases j with
    | zero => simp [cdps, Co.dp.dps]
    | succ j =>
      have := ih j (by simpa using hj)
      simp only [List.take_succ_cons, cdps, Co.dp.dps, List.getElem_cons_succ] at this ⊢
      rw [this]
      omega
def KDp (u : LK) : Prop := ∀ (w : World) (b o : Nat), coAt w b o u → u.co.dp ≤ 100000 → Calls Tryd.prog 111 #[.pointer (some ⟨b, o, none⟩)] w fun e w' => e = .returned (.int .i64 (u.co.dp : Nat)) ∧ w' = w
theorem kdp_of (u : LK) (ih : ∀ t ∈ u.ks, KDp t) : KDp u := by
  intro w b o h hdp
  have hll := h.2.kl
  have A := Lib.hid h
  have F := Lib.hid (Co.dp_eq u.co)
  have HD := Lib.hid hdp
  obtain ⟨p0, p1, p2, p3⟩ := h.c
  clear h
  go_enter Tryd.func111, Tryd.ntmps111
  go_wp2_with fail
  clear p0 p1 p2 p3
  go_loopw [3, 4] (fun s x wr => ∃ j : Nat, j ≤ u.ks.length ∧ x = .int .i64 j ∧ s = .int .i64 (cdps (u.co.ks.take j) : Nat) ∧ wr = w) (fun _ x _ => u.ks.length - (intOf x).toNat)
  case atStart => exact ⟨0, Nat.zero_le _, rfl, rfl, rfl⟩
  case round =>
    obtain ⟨j, hj, rfl, rfl, rfl⟩ := hrel
    obtain ⟨p0, p1, p2, p3⟩ := A.out.c
    by_cases hlt : j < u.ks.length
    · obtain ⟨bk, ok, ha, hkid⟩ := coAt.kid A.out.2.kids j hlt
      rw [ha] at p3
      have IH := Lib.hid (ih u.ks[j] (List.getElem_mem hlt) wr _ _ hkid (by have := dp_kid (u := u) j hlt; omega))
      have ST := Lib.hid (show cdps (u.co.ks.take (j + 1)) = max (cdps (u.co.ks.take j)) u.ks[j].co.dp by
        rw [cdps_take u.co.ks j (by rw [u.co_len]; exact hlt), u.co_kid j hlt])
      clear ha hkid p0 p1 p2
      go_wp2_with fail
      refine IH.out.mono ?_
      rintro e w1 ⟨rfl, rfl⟩
      go_wp2_with fail
      refine (spec_maxC _ _ _).mono ?_
      rintro e w2 ⟨rfl, rfl⟩
      go_wp2_with fail
      go_roundw
      case rel => exact ⟨j + 1, by omega, by go_num, by rw [ST.out]; congr 1; omega, trivial⟩
      case measure => simp [intOf]; omega
    · obtain rfl : j = u.ks.length := by omega
      have E := Lib.hid (show ((cdps (u.co.ks.take u.ks.length) : Nat) : Int) + 1 = (u.co.dp : Nat) by
        rw [F.out, List.take_of_length_le (by rw [u.co_len]; exact Nat.le_refl _)]; omega)
      have w1 : IntKind.i64.wrap (((cdps (u.co.ks.take u.ks.length) : Nat) : Int) + 1) = ((cdps (u.co.ks.take u.ks.length) : Nat) : Int) + 1 := by
        rw [E.out]; have := HD.out; unfold IntKind.wrap; simp [IntKind.signed, IntKind.bits]; omega
      generalize ((cdps (u.co.ks.take u.ks.length) : Nat) : Int) = m at *
      go_wp2_with fail
      go_ret
      exact ⟨ret_int E.out, rfl⟩
theorem kdp_all (u : LK) : KDp u := by
  refine LK.ind (P := KDp) (fun k v da dc ds a c ks ih => ?_) u
  exact kdp_of (.mk k v da dc ds a c ks) ih

end Go.Proofs.YtfbgkbgoooepmaaDoor.Con

namespace Go.Proofs.YtfbgkbgoooepmaaDoor.Con
open Go.RowKit
set_option linter.unusedVariables false

/-- A core term and a code: the term is new, and the zero term if the code is not 0. -/
def CdP (w : World) (c : Int) (t : Co) (e : Ending) (w' : World) : Prop := ∃ x : LK, e = .returned (.tuple #[x.val, .int .i64 c]) ∧ x.co = (if c = 0 then t else zeC) ∧ x.New w.heap.size w' ∧ Gw w w'

set_option maxRecDepth 100000 in
set_option maxHeartbeats 1000000 in
theorem spec_instance (u a : LK) (w : World) (b o ab ao : Nat) (h : coAt w b o u) (ha : coAt w ab ao a) (hu : okC u.co = true) (hka : okC a.co = true) : Calls Tryd.prog 79 #[.pointer (some ⟨b, o, none⟩), .pointer (some ⟨ab, ao, none⟩)] w (CdP w (vcCd (u.co.pu a.co 0)) (u.co.pu a.co 0)) := by
  have gR := (Gw.refl w).alloc (.cells #[.int .i64 0, .int .i64 0, .slice none 0 0, .slice none 0 0] 30)
  have hR := heap_alloc_new w (.cells #[.int .i64 0, .int .i64 0, .slice none 0 0, .slice none 0 0] 30)
  have A1 := Lib.hid (h.grow gR)
  have AA1 := Lib.hid (ha.grow gR)
  have G1 := Lib.hid gR
  have HR := Lib.hid hR
  have GU := Lib.hid (okC_good hu)
  have GA := Lib.hid (okC_good hka)
  have VC := Lib.hid (vcCd_pu hu hka)
  have HRW := Lib.hid gR.size
  have NN := Lib.hid (pu_nn u.co a.co 0 GU.out.1)
  have CN := Lib.hid (cntP_cn GU.out.1)
  have CL := Lib.hid (show u.co.cn 0 ≤ u.co.nn by rw [← CN.out]; exact cntP_le _ _ _ _)
  clear h ha gR hR hu hka
  go_enter Tryd.func79, Tryd.ntmps79
  go_upto_region 1 with (fail)
  generalize w.alloc (.cells #[.int .i64 0, .int .i64 0, .slice none 0 0, .slice none 0 0] 30) = w1 at *
  have HR1 := Lib.hid (Array.getElem?_eq_some_iff.1 HR.out).1
  have KC := Lib.hid (kcn_all u w1 b o 0 0 0 A1.out GU.out.1 (by have := GU.out.2.1; omega) (by omega) (by have := GU.out.2.1; omega) (by have := GU.out.2.2; omega))
  rw [CN.out] at KC
  go_wp2_with fail
  refine KC.out.mono ?_
  rintro e w2 ⟨rfl, g2⟩
  have G2 := Lib.hid (G1.out.trans g2)
  have A2 := Lib.hid (A1.out.grow g2)
  have AA2 := Lib.hid (AA1.out.grow g2)
  have R2 := Lib.hid ((g2.block _ HR1.out).trans HR.out)
  clear g2 KC
  have KU := knd_all u w2 b o 80 400 (by omega) (by omega) A2.out
  rw [ndC_yes GU.out] at KU
  have KUU := Lib.hid KU
  have KAA := Lib.hid (show ∀ W, Gw w2 W → Calls Tryd.prog 56 #[.pointer (some ⟨ab, ao, none⟩), .int .i64 80, .int .i64 400] W (IntGw ((a.co.nn : Nat) : Int) W) from fun W g => by
    have := knd_all a W ab ao 80 400 (by omega) (by omega) (AA2.out.grow g)
    rw [ndC_yes GA.out] at this
    exact this)
  clear KU
  obtain ⟨n1, hn1⟩ : ∃ n, n = u.co.nn := ⟨_, rfl⟩
  obtain ⟨n2, hn2⟩ : ∃ n, n = a.co.nn := ⟨_, rfl⟩
  obtain ⟨c0, hc0⟩ : ∃ n, n = u.co.cn 0 := ⟨_, rfl⟩
  obtain ⟨nr, hnr⟩ : ∃ n, n = (u.co.pu a.co 0).nn := ⟨_, rfl⟩
  have BN := Lib.hid (show n1 ≤ 400 ∧ n2 ≤ 400 ∧ c0 ≤ n1 ∧ 1 ≤ n2 ∧ nr + c0 = n1 + c0 * n2 from ⟨by rw [hn1]; exact GU.out.2.2, by rw [hn2]; exact GA.out.2.2, by rw [hc0, hn1]; exact CL.out, by rw [hn2]; exact Co.nn_pos _, by rw [hnr, hc0, hn1, hn2]; exact NN.out⟩)
  rw [← hn1] at KUU
  rw [← hn2] at KAA
  rw [← hc0]
  rw [← hnr] at VC
  have HNR := Lib.hid hnr
  clear NN CN CL hn1 hn2 hc0 hnr
  have hmul : (c0 : Int) * ((n2 : Int) - 1) = (nr : Int) - n1 := by
    have h1 := BN.out.2.2.2.2
    have h2 : ((c0 * n2 : Nat) : Int) = (c0 : Int) * (n2 : Int) := by simp
    rw [Int.mul_sub, Int.mul_one, ← h2]
    omega
  have hr0 : nr ≤ 160400 := by
    obtain ⟨h1, h2, h3, h4, h5⟩ := BN.out
    have : c0 * n2 ≤ 400 * 400 := Nat.mul_le_mul (by omega) h2
    omega
  have w1' : IntKind.i64.wrap ((n2 : Int) - 1) = (n2 : Int) - 1 := by have := BN.out; unfold IntKind.wrap; simp [IntKind.signed, IntKind.bits]; omega
  have w2' : IntKind.i64.wrap ((c0 : Int) * ((n2 : Int) - 1)) = (c0 : Int) * ((n2 : Int) - 1) := by rw [hmul]; have := BN.out; unfold IntKind.wrap; simp [IntKind.signed, IntKind.bits]; omega
  have w3' : IntKind.i64.wrap ((n1 : Int) + (c0 : Int) * ((n2 : Int) - 1)) = nr := by rw [hmul]; have := BN.out; unfold IntKind.wrap; simp [IntKind.signed, IntKind.bits]; omega
  by_cases hbig : 400 < nr
  · have q := decide_eq_true (show (400 : Int) < nr by omega)
    have C := Lib.hid (show vcCd (u.co.pu a.co 0) = 4 by rw [VC.out, if_pos (.inl hbig)])
    clear hbig hmul hr0
    go_wp2_with fail
    refine KUU.out.mono ?_
    rintro e w3 ⟨rfl, g3⟩
    go_wp2_with fail
    refine (KAA.out _ g3).mono ?_
    rintro e w4 ⟨rfl, g4⟩
    have G4 := Lib.hid (G2.out.trans (g3.trans g4))
    have R4 := Lib.hid (((g3.trans g4).block _ (Array.getElem?_eq_some_iff.1 R2.out).1).trans R2.out)
    clear g3 g4 KUU KAA
    obtain ⟨r0, r1, r2, r3, rf0, rf1, rf2, rf3⟩ := zero_atP R4.out
    go_wp2_with fail
    refine bodyPost_ret (v := .tuple #[zeK.val, .int .i64 4]) (by simp [results, Tryd.results79, go_sem, r0, r1, r2, r3]; exact ⟨rfl, rfl, ⟨rfl, rfl, rfl⟩, rfl, rfl, rfl⟩) rfl ⟨zeK, by rw [C.out], by rw [C.out]; rfl, zeK_new _ _, by_fourP G4.out⟩
  · have q := decide_eq_false (show ¬ (400 : Int) < nr by omega)
    have HB := Lib.hid hbig
    have DPL := Lib.hid (show (u.co.pu a.co 0).dp ≤ 160 by have := pu_dp u.co a.co 0; have := GU.out.2.1; have := GA.out.2.1; omega)
    clear hbig hmul hr0
    go_wp2_with fail
    refine KUU.out.mono ?_
    rintro e w3 ⟨rfl, g3⟩
    go_wp2_with fail
    refine (KAA.out _ g3).mono ?_
    rintro e w4 ⟨rfl, g4⟩
    have G4 := Lib.hid (G2.out.trans (g3.trans g4))
    have R4 := Lib.hid (((g3.trans g4).block _ (Array.getElem?_eq_some_iff.1 R2.out).1).trans R2.out)
    have A4 := Lib.hid (A2.out.grow (g3.trans g4))
    have AA4 := Lib.hid (AA2.out.grow (g3.trans g4))
    clear g3 g4 KUU KAA
    have PU := Lib.hid (pu_all u w4 b o ab ao a 0 A4.out AA4.out GU.out.1 ⟨GA.out.1, by have := GA.out.2.1; omega⟩ (by omega) (by have := GU.out.2.1; omega))
    have LR4 := Lib.hid (Array.getElem?_eq_some_iff.1 R4.out).1
    go_wp2_with fail
    refine PU.out.mono ?_
    rintro e w5 ⟨x, rfl, hx, hnew, g5⟩
    have HX := Lib.hid hx
    have G5 := Lib.hid (G4.out.trans g5)
    have lR := Nat.lt_of_lt_of_le LR4.out g5.size
    have R5 := (g5.block _ LR4.out).trans R4.out
    have AX := coAt.new (e := 30) hnew.1
    have g6 := (Gw.refl w5).alloc (x.obj 30)
    have KD := Lib.hid (kdp_all x _ _ _ AX (by rw [hx]; have := DPL.out; omega))
    have KH := Lib.hid (khi_all x _ _ _ AX)
    have AXX := Lib.hid AX
    have R6 := Lib.hid ((g6.block _ lR).trans R5)
    have N6 := Lib.hid (hnew.grow coGr g6)
    have G6 := Lib.hid (G5.out.trans g6)
    have WS := Lib.hid (show w.heap.size + 1 ≤ w4.heap.size by have := LR4.out; omega)
    clear hx hnew g5 g6 AX PU lR R5
    go_wp2_with fail
    generalize w5.alloc (.cells #[.int .i64 x.k, .int .i64 x.v, .slice x.da x.ds.length x.dc, .slice x.a x.ks.length x.cap] 30) = w6 at *
    obtain ⟨X3, hX3⟩ : ∃ y, y = w5.heap.size := ⟨_, rfl⟩
    rw [← hX3] at AXX KH KD
    rw [← hX3]
    clear hX3
    refine KD.out.mono ?_
    rintro e w7 ⟨rfl, rfl⟩
    obtain ⟨r0, r1, r2, r3, rf0, rf1, rf2, rf3⟩ := zero_atP R6.out
    obtain ⟨x0, x1, x2, x3⟩ := AXX.out.c
    simp only [Nat.zero_add] at x1 x2 x3
    rw [← HX.out] at VC
    clear KD
    by_cases hd : 80 < x.co.dp
    · have q2 := decide_eq_true (show (80 : Int) < (x.co.dp : Nat) by omega)
      have C := Lib.hid (show vcCd x.co = 4 by rw [VC.out, if_pos (.inr hd)])
      clear x0 x1 x2 x3 hd
      go_wp2_with fail
      refine bodyPost_ret (v := .tuple #[zeK.val, .int .i64 4]) (by simp [results, Tryd.results79, go_sem, r0, r1, r2, r3]; exact ⟨rfl, rfl, ⟨rfl, rfl, rfl⟩, rfl, rfl, rfl⟩) rfl ⟨zeK, by rw [← HX.out, C.out], by rw [← HX.out, C.out]; rfl, zeK_new _ _, by_fourP G6.out⟩
    have q2 := decide_eq_false (show ¬ (80 : Int) < (x.co.dp : Nat) by omega)
    have HD := Lib.hid hd
    clear hd
    by_cases hh : 255 < x.co.hi
    · have q3 := decide_eq_true hh
      have C := Lib.hid (show vcCd x.co = 2 by rw [VC.out, if_neg (fun e => by have h1 := HB.out; have h2 := HD.out; omega), if_pos hh])
      clear x0 x1 x2 x3 hh
      go_wp2_with fail
      refine KH.out.mono ?_
      rintro e w8 ⟨rfl, rfl⟩
      go_wp2_with fail
      refine bodyPost_ret (v := .tuple #[zeK.val, .int .i64 2]) (by simp [results, Tryd.results79, go_sem, r0, r1, r2, r3]; exact ⟨rfl, rfl, ⟨rfl, rfl, rfl⟩, rfl, rfl, rfl⟩) rfl ⟨zeK, by rw [← HX.out, C.out], by rw [← HX.out, C.out]; rfl, zeK_new _ _, by_fourP G6.out⟩
    · have q3 := decide_eq_false hh
      have C := Lib.hid (show vcCd x.co = 0 by rw [VC.out, if_neg (fun e => by have h1 := HB.out; have h2 := HD.out; omega), if_neg hh])
      clear hh
      go_wp2_with fail
      refine KH.out.mono ?_
      rintro e w8 ⟨rfl, rfl⟩
      go_wp2_with fail
      refine bodyPost_ret (v := .tuple #[x.val, .int .i64 0]) (by simp [results, Tryd.results79, go_sem, r0, r1, r2, r3]) rfl ⟨x, by rw [← HX.out, C.out], by rw [← HX.out, C.out]; rfl, ?_, by_fourP G6.out⟩
      refine (gNew.same coFr N6.out fun y hy => ?_).mono (by have := WS.out; omega)
      have := (N6.out.2.2 y hy).1
      have := WS.out
      rw [Below.heap_setCell _ _ _ _ (by simp; omega), Below.heap_setCell _ _ _ _ (by simp; omega), Below.heap_setCell _ _ _ _ (by simp; omega), Below.heap_setCell _ _ _ _ (by simp; omega)]

theorem inCd_in {t a : Co} (ht : okC t = true) (ha : okC a = true) : inCd t a = vcCd (t.pu a 0) := by unfold inCd; rw [if_pos ht, if_pos ha]
theorem by_fourN {w w2 : World} {n : Nat} (h : Gw w w2) {x0 x1 x2 x3 : Value} : Gw w ((((w2.setCell ⟨w.heap.size + n, 0, none⟩ x0).setCell ⟨w.heap.size + n, 1, none⟩ x1).setCell ⟨w.heap.size + n, 2, none⟩ x2).setCell ⟨w.heap.size + n, 3, none⟩ x3) :=
  (((Below.setCell h (by simp) _).setCell (by simp) _).setCell (by simp) _).setCell (by simp) _

set_option maxRecDepth 100000 in
set_option maxHeartbeats 1000000 in
theorem spec_instCo (u a : LK) (w : World) (h : u.Ok w) (ha : a.Ok w) : Calls Tryd.prog 39 #[u.val, a.val] w (CdP w (inCd u.co a.co) (u.co.pu a.co 0)) := by
  have gA : Gw w ((w.alloc (u.obj 30)).alloc (a.obj 30)) := ((Gw.refl w).alloc _).alloc _
  have hA : coAt ((w.alloc (u.obj 30)).alloc (a.obj 30)) w.heap.size 0 u := (coAt.new (e := 30) h).grow ((Gw.refl _).alloc _)
  have hB := coAt.new (e := 30) (ha.grow ((Gw.refl w).alloc (u.obj 30)))
  rw [World.size_alloc] at hB
  have gZ := (Gw.refl ((w.alloc (u.obj 30)).alloc (a.obj 30))).alloc (.cells #[.int .i64 0, .int .i64 0, .slice none 0 0, .slice none 0 0] 30)
  have hR := heap_alloc_new ((w.alloc (u.obj 30)).alloc (a.obj 30)) (.cells #[.int .i64 0, .int .i64 0, .slice none 0 0, .slice none 0 0] 30)
  rw [World.size_alloc, World.size_alloc] at hR
  have HA := Lib.hid (hA.grow gZ)
  have HB := Lib.hid (hB.grow gZ)
  have G := Lib.hid (gA.trans gZ)
  have HR := Lib.hid hR
  clear h ha hA hB gA gZ hR
  go_enter Tryd.func39, Tryd.ntmps39
  go_upto_region 1 with (fail)
  generalize (((w.alloc (.cells #[.int .i64 u.k, .int .i64 u.v, .slice u.da u.ds.length u.dc, .slice u.a u.ks.length u.cap] 30)).alloc (.cells #[.int .i64 a.k, .int .i64 a.v, .slice a.da a.ds.length a.dc, .slice a.a a.ks.length a.cap] 30)).alloc (.cells #[.int .i64 0, .int .i64 0, .slice none 0 0, .slice none 0 0] 30)) = w1 at *
  have KO := spec_l06Ok u w1 _ _ HA.out
  cases hok : okC u.co with
  | false =>
    rw [hok] at KO
    have KOO := Lib.hid KO
    have C := Lib.hid (show inCd u.co a.co = 1 by unfold inCd; rw [hok]; rfl)
    clear KO hok
    go_wp2_with fail
    refine KOO.out.mono ?_
    rintro e w2 ⟨rfl, g2⟩
    have R2 := Lib.hid ((g2.block _ (Array.getElem?_eq_some_iff.1 HR.out).1).trans HR.out)
    have G2 := Lib.hid (G.out.trans g2)
    clear g2 KOO
    obtain ⟨r0, r1, r2, r3, rf0, rf1, rf2, rf3⟩ := zero_atP R2.out
    go_wp2_with fail
    refine bodyPost_ret (v := .tuple #[zeK.val, .int .i64 1]) (by simp [results, Tryd.results39, go_sem, r0, r1, r2, r3]; exact ⟨rfl, rfl, ⟨rfl, rfl, rfl⟩, rfl, rfl, rfl⟩) rfl ⟨zeK, by rw [C.out], by rw [C.out]; rfl, zeK_new _ _, by_fourN (n := 2) G2.out⟩
  | true =>
  rw [hok] at KO
  have KOO := Lib.hid KO
  have HOK := Lib.hid hok
  clear KO hok
  go_wp2_with fail
  refine KOO.out.mono ?_
  rintro e w2 ⟨rfl, g2⟩
  have R2 := Lib.hid ((g2.block _ (Array.getElem?_eq_some_iff.1 HR.out).1).trans HR.out)
  have G2 := Lib.hid (G.out.trans g2)
  have A2 := Lib.hid (HA.out.grow g2)
  have B2 := Lib.hid (HB.out.grow g2)
  clear g2 KOO
  have KO := spec_l06Ok a w2 _ _ B2.out
  cases hok : okC a.co with
  | false =>
    rw [hok] at KO
    have KOO := Lib.hid KO
    have C := Lib.hid (show inCd u.co a.co = 1 by unfold inCd; rw [HOK.out, hok]; rfl)
    clear KO hok
    go_wp2_with fail
    refine KOO.out.mono ?_
    rintro e w3 ⟨rfl, g3⟩
    have R3 := Lib.hid ((g3.block _ (Array.getElem?_eq_some_iff.1 R2.out).1).trans R2.out)
    have G3 := Lib.hid (G2.out.trans g3)
    clear g3 KOO
    obtain ⟨r0, r1, r2, r3, rf0, rf1, rf2, rf3⟩ := zero_atP R3.out
    go_wp2_with fail
    refine bodyPost_ret (v := .tuple #[zeK.val, .int .i64 1]) (by simp [results, Tryd.results39, go_sem, r0, r1, r2, r3]; exact ⟨rfl, rfl, ⟨rfl, rfl, rfl⟩, rfl, rfl, rfl⟩) rfl ⟨zeK, by rw [C.out], by rw [C.out]; rfl, zeK_new _ _, by_fourN (n := 2) G3.out⟩
  | true =>
  rw [hok] at KO
  have KOO := Lib.hid KO
  have C := Lib.hid (inCd_in HOK.out hok)
  have HOKA := Lib.hid hok
  clear KO hok
  go_wp2_with fail
  refine KOO.out.mono ?_
  rintro e w3 ⟨rfl, g3⟩
  have R3 := Lib.hid ((g3.block _ (Array.getElem?_eq_some_iff.1 R2.out).1).trans R2.out)
  have G3 := Lib.hid (G2.out.trans g3)
  have KI := Lib.hid (spec_instance u a w3 _ _ _ _ (A2.out.grow g3) (B2.out.grow g3) HOK.out HOKA.out)
  clear g3 KOO
  go_wp2_with fail
  refine KI.out.mono ?_
  rintro e w4 ⟨x, rfl, hx, hnew, g4⟩
  have HX := Lib.hid hx
  have NX := Lib.hid hnew
  have LR := Lib.hid (Array.getElem?_eq_some_iff.1 R3.out).1
  have R4 := Lib.hid ((g4.block _ LR.out).trans R3.out)
  have G4 := Lib.hid (G3.out.trans g4)
  clear hx hnew g4 KI
  obtain ⟨r0, r1, r2, r3, rf0, rf1, rf2, rf3⟩ := zero_atP R4.out
  go_wp2_with fail
  refine bodyPost_ret (v := .tuple #[x.val, .int .i64 (vcCd (u.co.pu a.co 0))]) (by simp [results, Tryd.results39, go_sem, r0, r1, r2, r3]) rfl ⟨x, by rw [C.out], by rw [C.out, HX.out], ?_, by_fourN (n := 2) G4.out⟩
  refine (gNew.same coFr NX.out fun y hy => ?_).mono (by have := LR.out; omega)
  have := (NX.out.2.2 y hy).1
  have := LR.out
  rw [Below.heap_setCell _ _ _ _ (by simp; omega), Below.heap_setCell _ _ _ _ (by simp; omega), Below.heap_setCell _ _ _ _ (by simp; omega), Below.heap_setCell _ _ _ _ (by simp; omega)]

end Go.Proofs.YtfbgkbgoooepmaaDoor.Con
