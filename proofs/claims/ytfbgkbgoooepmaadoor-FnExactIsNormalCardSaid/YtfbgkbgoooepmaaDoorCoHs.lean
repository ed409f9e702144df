/-
  Contract of the model's ShiftCore. Condition: the core term lies in memory.
-/
import Derived.Test.YtfbgkbgoooepmaaDoorCoHi
namespace Go.Proofs.YtfbgkbgoooepmaaDoor.Con
open Go.RowKit
set_option linter.unusedVariables false

/-- The code and the core term that ShiftCore gives back. -/
def shCd (t : Co) (n f : Int) : Int := if okC t = true then (if (inV n 0 64 && inV f 0 255) = true then (if 255 < (t.sh n f).hi then 2 else 0) else 2) else 1
def zeC : Co := .mk 0 0 [] []
def shRs (t : Co) (n f : Int) : Co := if shCd t n f = 0 then t.sh n f else zeC
def ShP (w : World) (t : Co) (n f : Int) (e : Ending) (w' : World) : Prop := ∃ x : LK, e = .returned (.tuple #[x.val, .int .i64 (shCd t n f)]) ∧ x.co = shRs t n f ∧ x.New w.heap.size w' ∧ Gw w w'
def zeK : LK := .mk 0 0 none 0 [] none 0 []
theorem zeK_new (B : Nat) (w : World) : zeK.New B w := LK.new_mk (B := B) (B1 := B) (B2 := B) (by unfold cin64; omega) (by unfold cin64; omega) ⟨⟨Nat.le_refl _, Nat.zero_le _, .inl rfl⟩, by simp [nbl], fun b hb => by simp [nbl] at hb⟩ (coNew_nil B w) (fun b hb => by simp [nbl] at hb) (Nat.le_refl _) (Nat.le_refl _)

theorem by_four {w w2 : World} (h : Gw w w2) {x0 x1 x2 x3 : Value} : Gw w ((((w2.setCell ⟨w.heap.size + 1, 0, none⟩ x0).setCell ⟨w.heap.size + 1, 1, none⟩ x1).setCell ⟨w.heap.size + 1, 2, none⟩ x2).setCell ⟨w.heap.size + 1, 3, none⟩ x3) :=
  (((Below.setCell h (Nat.le_succ _) _).setCell (Nat.le_succ _) _).setCell (Nat.le_succ _) _).setCell (Nat.le_succ _) _

set_option maxRecDepth 100000 in
set_option maxHeartbeats 1000000 in
theorem spec_shiftCo (u : LK) (w : World) (n f : Int) (h : u.Ok w) : Calls Tryd.prog 35 #[u.val, .int .i64 n, .int .i64 f] w (ShP w u.co n f) := by
  have hA := coAt.new (e := 30) h
  have gR := ((Gw.refl w).alloc (u.obj 30)).alloc (.cells #[.int .i64 0, .int .i64 0, .slice none 0 0, .slice none 0 0] 30)
  have hR := heap_alloc_new (w.alloc (u.obj 30)) (.cells #[.int .i64 0, .int .i64 0, .slice none 0 0, .slice none 0 0] 30)
  rw [World.size_alloc] at hR
  have HA := Lib.hid (hA.grow ((Gw.refl (w.alloc (u.obj 30))).alloc (.cells #[.int .i64 0, .int .i64 0, .slice none 0 0, .slice none 0 0] 30)))
  have G := Lib.hid gR
  have HR := Lib.hid hR
  clear h hA gR hR
  go_enter Tryd.func35, Tryd.ntmps35
  go_upto_region 1 with (fail)
  generalize ((w.alloc (.cells #[.int .i64 u.k, .int .i64 u.v, .slice u.da u.ds.length u.dc, .slice u.a u.ks.length u.cap] 30)).alloc (.cells #[.int .i64 0, .int .i64 0, .slice none 0 0, .slice none 0 0] 30)) = w1 at *
  cases hok : okC u.co with
  | false =>
    have KO := spec_l06Ok u w1 _ _ HA.out
    rw [hok] at KO
    have KOO := Lib.hid KO
    clear KO
    go_wp2_with fail
    refine KOO.out.mono ?_
    rintro e w2 ⟨rfl, g2⟩
    have R2 := Lib.hid ((g2.block _ (Array.getElem?_eq_some_iff.1 HR.out).1).trans HR.out)
    have r0 : w2.cell? ⟨w.heap.size + 1, 0, none⟩ = some (.int .i64 0) := cell_of_row _ _ 0 _ _ _ R2.out
    have r1 : w2.cell? ⟨w.heap.size + 1, 1, none⟩ = some (.int .i64 0) := cell_of_row _ _ 1 _ _ _ R2.out
    have r2 : w2.cell? ⟨w.heap.size + 1, 2, none⟩ = some (.slice none 0 0) := cell_of_row _ _ 2 _ _ _ R2.out
    have r3 : w2.cell? ⟨w.heap.size + 1, 3, none⟩ = some (.slice none 0 0) := cell_of_row _ _ 3 _ _ _ R2.out
    have rf : ∀ j, w2.frozen? ⟨w.heap.size + 1, j, none⟩ = false := fun j => by simp [World.frozen?, R2.out]
    have rf0 := rf 0
    have rf1 := rf 1
    have rf2 := rf 2
    have rf3 := rf 3
    clear rf
    have G2 := Lib.hid (G.out.trans g2)
    have C := Lib.hid (show shCd u.co n f = 1 by unfold shCd; rw [hok]; rfl)
    clear g2 KOO hok
    go_wp2_with fail
    refine bodyPost_ret (v := .tuple #[zeK.val, .int .i64 1]) (by simp [results, Tryd.results35, go_sem, r0, r1, r2, r3]; exact ⟨rfl, rfl, ⟨rfl, rfl, rfl⟩, rfl, rfl, rfl⟩) rfl ⟨zeK, by rw [C.out], by unfold shRs; rw [C.out]; rfl, zeK_new _ _, by_four G2.out⟩
  | true =>
    have KO := spec_l06Ok u w1 _ _ HA.out
    rw [hok] at KO
    have KOO := Lib.hid KO
    have HOK := Lib.hid hok
    clear KO hok
    go_wp2_with fail
    refine KOO.out.mono ?_
    rintro e w2 ⟨rfl, g2⟩
    have R2 := Lib.hid ((g2.block _ (Array.getElem?_eq_some_iff.1 HR.out).1).trans HR.out)
    have A2 := Lib.hid (HA.out.grow g2)
    have G2 := Lib.hid (G.out.trans g2)
    have HR1 := Lib.hid (Array.getElem?_eq_some_iff.1 HR.out).1
    have S12 := Lib.hid g2.size
    clear g2 KOO
    have r0 : w2.cell? ⟨w.heap.size + 1, 0, none⟩ = some (.int .i64 0) := cell_of_row _ _ 0 _ _ _ R2.out
    have r1 : w2.cell? ⟨w.heap.size + 1, 1, none⟩ = some (.int .i64 0) := cell_of_row _ _ 1 _ _ _ R2.out
    have r2 : w2.cell? ⟨w.heap.size + 1, 2, none⟩ = some (.slice none 0 0) := cell_of_row _ _ 2 _ _ _ R2.out
    have r3 : w2.cell? ⟨w.heap.size + 1, 3, none⟩ = some (.slice none 0 0) := cell_of_row _ _ 3 _ _ _ R2.out
    have rf : ∀ j, w2.frozen? ⟨w.heap.size + 1, j, none⟩ = false := fun j => by simp [World.frozen?, R2.out]
    have rf0 := rf 0
    have rf1 := rf 1
    have rf2 := rf 2
    have rf3 := rf 3
    clear rf
    cases hn : inV n 0 64 with
    | false =>
      have C := Lib.hid (show shCd u.co n f = 2 by unfold shCd; rw [if_pos HOK.out, hn]; rfl)
      go_wp2_with fail
      refine (specIn n 0 64 w2).mono ?_
      rw [hn]
      rintro e w3 ⟨rfl, rfl⟩
      clear hn
      go_wp2_with fail
      refine bodyPost_ret (v := .tuple #[zeK.val, .int .i64 2]) (by simp [results, Tryd.results35, go_sem, r0, r1, r2, r3]; exact ⟨rfl, rfl, ⟨rfl, rfl, rfl⟩, rfl, rfl, rfl⟩) rfl ⟨zeK, by rw [C.out], by unfold shRs; rw [C.out]; rfl, zeK_new _ _, by_four G2.out⟩
    | true =>
    cases hf : inV f 0 255 with
    | false =>
      have C := Lib.hid (show shCd u.co n f = 2 by unfold shCd; rw [if_pos HOK.out, hn, hf]; rfl)
      go_wp2_with fail
      refine (specIn n 0 64 w2).mono ?_
      rw [hn]
      rintro e w3 ⟨rfl, rfl⟩
      go_wp2_with fail
      refine (specIn f 0 255 w2).mono ?_
      rw [hf]
      rintro e w3 ⟨rfl, rfl⟩
      clear hn hf
      go_wp2_with fail
      refine bodyPost_ret (v := .tuple #[zeK.val, .int .i64 2]) (by simp [results, Tryd.results35, go_sem, r0, r1, r2, r3]; exact ⟨rfl, rfl, ⟨rfl, rfl, rfl⟩, rfl, rfl, rfl⟩) rfl ⟨zeK, by rw [C.out], by unfold shRs; rw [C.out]; rfl, zeK_new _ _, by_four G2.out⟩
    | true =>
    have GD := Lib.hid (okC_good HOK.out)
    have HV := Lib.hid (show (0 ≤ n ∧ n ≤ 64) ∧ (0 ≤ f ∧ f ≤ 255) by
      unfold inV at hn hf
      simp at hn hf
      exact ⟨hn, hf⟩)
    have C := Lib.hid (show shCd u.co n f = if 255 < (u.co.sh n f).hi then 2 else 0 by unfold shCd; rw [if_pos HOK.out, hn, hf]; rfl)
    have SH := Lib.hid (sh_all u w2 _ _ n f A2.out GD.out.1 (by have := HV.out; omega) (by have := HV.out; omega) (by have := HV.out; omega) (by have := HV.out; have := GD.out.2.1; omega))
    go_wp2_with fail
    refine (specIn n 0 64 w2).mono ?_
    rw [hn]
    rintro e w3 ⟨rfl, rfl⟩
    go_wp2_with fail
    refine (specIn f 0 255 w2).mono ?_
    rw [hf]
    rintro e w3 ⟨rfl, rfl⟩
    clear hn hf r0 r1 r2 r3 rf0 rf1 rf2 rf3
    go_wp2_with fail
    refine SH.out.mono ?_
    rintro e w3 ⟨x, rfl, hx, hnew, g3⟩
    have HX := Lib.hid hx
    have NX := Lib.hid hnew
    have G3 := Lib.hid (G2.out.trans g3)
    have R3 := Lib.hid ((g3.block _ (Nat.lt_of_lt_of_le HR1.out S12.out)).trans R2.out)
    have lR := Nat.lt_of_lt_of_le (Nat.lt_of_lt_of_le HR1.out S12.out) g3.size
    have AX := coAt.new (e := 30) hnew.1
    have g4 := (Gw.refl w3).alloc (x.obj 30)
    have KH := Lib.hid (khi_all x _ _ _ AX)
    have AXX := Lib.hid AX
    have R4 := Lib.hid ((g4.block _ lR).trans R3.out)
    have N4 := Lib.hid (hnew.grow coGr g4)
    have G4 := Lib.hid (G3.out.trans g4)
    have NEQ := Lib.hid (Nat.ne_of_lt lR)
    clear hx hnew g3 g4 AX SH lR
    have LW := Lib.hid (show w.heap.size + 1 < w2.heap.size ∧ w.heap.size ≤ w2.heap.size from ⟨Nat.lt_of_lt_of_le HR1.out S12.out, G2.out.size⟩)
    clear R3 R2 NEQ
    go_wp2_with fail
    generalize w3.alloc (.cells #[.int .i64 x.k, .int .i64 x.v, .slice x.da x.ds.length x.dc, .slice x.a x.ks.length x.cap] 30) = w4 at *
    obtain ⟨X3, hX3⟩ : ∃ y, y = w3.heap.size := ⟨_, rfl⟩
    rw [← hX3] at AXX KH
    rw [← hX3]
    clear hX3
    refine KH.out.mono ?_
    rintro e w5 ⟨rfl, rfl⟩
    have r0 : w5.cell? ⟨w.heap.size + 1, 0, none⟩ = some (.int .i64 0) := cell_of_row _ _ 0 _ _ _ R4.out
    have r1 : w5.cell? ⟨w.heap.size + 1, 1, none⟩ = some (.int .i64 0) := cell_of_row _ _ 1 _ _ _ R4.out
    have r2 : w5.cell? ⟨w.heap.size + 1, 2, none⟩ = some (.slice none 0 0) := cell_of_row _ _ 2 _ _ _ R4.out
    have r3 : w5.cell? ⟨w.heap.size + 1, 3, none⟩ = some (.slice none 0 0) := cell_of_row _ _ 3 _ _ _ R4.out
    have rf : ∀ j, w5.frozen? ⟨w.heap.size + 1, j, none⟩ = false := fun j => by simp [World.frozen?, R4.out]
    have rf0 := rf 0
    have rf1 := rf 1
    have rf2 := rf 2
    have rf3 := rf 3
    clear rf
    obtain ⟨x0, x1, x2, x3⟩ := AXX.out.c
    simp only [Nat.zero_add] at x1 x2 x3
    rw [← HX.out] at C
    clear KH
    by_cases hh : 255 < x.co.hi
    · rw [if_pos hh] at C
      have q := decide_eq_true hh
      clear x0 x1 x2 x3 hh
      go_wp2_with fail
      refine bodyPost_ret (v := .tuple #[zeK.val, .int .i64 2]) (by simp [results, Tryd.results35, go_sem, r0, r1, r2, r3]; exact ⟨rfl, rfl, ⟨rfl, rfl, rfl⟩, rfl, rfl, rfl⟩) rfl ⟨zeK, by rw [C.out], by unfold shRs; rw [C.out]; rfl, zeK_new _ _, by_four G4.out⟩
    · rw [if_neg hh] at C
      have q := decide_eq_false hh
      clear hh
      go_wp2_with fail
      refine bodyPost_ret (v := .tuple #[x.val, .int .i64 0]) (by simp [results, Tryd.results35, go_sem, r0, r1, r2, r3]) rfl ⟨x, by rw [C.out], by unfold shRs; rw [if_pos C.out, HX.out], ?_, by_four G4.out⟩
      refine (gNew.same coFr N4.out fun y hy => ?_).mono LW.out.2
      have := (N4.out.2.2 y hy).1
      have := LW.out.1
      rw [Below.heap_setCell _ _ _ _ (by simp; omega), Below.heap_setCell _ _ _ _ (by simp; omega), Below.heap_setCell _ _ _ _ (by simp; omega), Below.heap_setCell _ _ _ _ (by simp; omega)]

end Go.Proofs.YtfbgkbgoooepmaaDoor.Con
