/-
  The place of the definition main: contracts of the model's MainDef and of the program's. Condition: the program lies in memory, and the table of forms reads as the program's text lays it.
-/
import Derived.Test.YtkfplnnncfkjfaaDoorDfPI
namespace Go.Proofs.YtkfplnnncfkjfaaDoor.Con
open Go.RowKit
set_option linter.unusedVariables false

def mainN : ByteArray := ⟨#[109, 97, 105, 110]⟩
/-- What MainDef tells of a program. -/
def MdR (P : PR) (r c : Int) : Prop := (progB P = false ∧ r = 0 ∧ c = 1) ∨ (progB P = true ∧ ∃ i, IsIx mainN (nmsF P.2) i ∧ ((i < 0 ∧ r = 0 ∧ c = 3) ∨ (0 ≤ i ∧ r = i ∧ c = 0)))
theorem MdR.uniq {P : PR} {r c r' c' : Int} (h : MdR P r c) (k : MdR P r' c') : r = r' ∧ c = c' := by
  rcases h with ⟨h1, h2, h3⟩ | ⟨h1, i, hi, h2⟩ <;> rcases k with ⟨k1, k2, k3⟩ | ⟨k1, j, hj, k2⟩
  · exact ⟨by omega, by omega⟩
  · rw [h1] at k1; cases k1
  · rw [h1] at k1; cases k1
  · have := hi.uniq hj
    subst this
    rcases h2 with ⟨a, b, c⟩ | ⟨a, b, c⟩ <;> rcases k2 with ⟨d, e, f⟩ | ⟨d, e, f⟩ <;> omega
theorem MdR.no {p : LP} (h : progB p.pr = false) : MdR p.pr 0 1 := .inl ⟨h, rfl, rfl⟩
theorem MdR.lack {p : LP} {i : Int} (h : progB p.pr = true) (hi : IsIx mainN (p.fs.map LF.n) i) (h0 : i < 0) : MdR p.pr 0 3 := .inr ⟨h, i, by rw [show nmsF p.pr.2 = p.fs.map LF.n from nms_map _]; exact hi, .inl ⟨h0, rfl, rfl⟩⟩
theorem MdR.yes {p : LP} {i : Int} (h : progB p.pr = true) (hi : IsIx mainN (p.fs.map LF.n) i) (h0 : 0 ≤ i) : MdR p.pr i 0 := .inr ⟨h, i, by rw [show nmsF p.pr.2 = p.fs.map LF.n from nms_map _]; exact hi, .inr ⟨h0, rfl, rfl⟩⟩
def MdGw (P : PR) (w : World) (e : Ending) (w' : World) : Prop := ∃ r c : Int, e = .returned (.tuple #[.int .i64 r, .int .i64 c]) ∧ MdR P r c ∧ Gw w w'

theorem spec_mainDef (p : LP) (w : World) (h : pOk w p) : Calls Tryd.prog 8 #[p.val] w (MdGw p.pr w) := by
  have g0 := (Gw.refl w).alloc (.cells #[.slice p.da p.ds.length p.dc, .slice p.fa p.fs.length p.fc] 32)
  have hb := heap_alloc_new w (.cells #[.slice p.da p.ds.length p.dc, .slice p.fa p.fs.length p.fc] 32)
  have PB := Lib.hid (PBox.new w p 32)
  have KEY := Lib.hid (spec_progM p _ w.heap.size 0 ⟨cell_of_row _ _ 0 _ _ _ hb, cell_of_row _ _ 1 _ _ _ hb, h.grow g0⟩)
  have OK := Lib.hid (h.grow g0)
  have G := Lib.hid g0
  clear g0 hb h
  go_enter Tryd.func8, Tryd.ntmps8
  go_upto_region 1 with (fail)
  generalize w.alloc (.cells #[.slice p.da p.ds.length p.dc, .slice p.fa p.fs.length p.fc] 32) = w1 at *
  go_wp2_with fail
  refine KEY.out.mono ?_
  rintro e w2 ⟨rfl, g2⟩
  have PB2 := Lib.hid (PB.out.grow g2)
  have OK2 := Lib.hid (OK.out.grow g2)
  have G2 := Lib.hid (G.out.trans g2)
  clear g2
  obtain ⟨c0, c1⟩ := PB2.out.c
  cases hd : progB p.pr with
  | false =>
    have F := Lib.hid (MdR.no hd)
    clear hd
    go_wp2_with fail
    exact bodyPost_ret (v := .tuple #[.int .i64 0, .int .i64 1]) (by simp [results, Tryd.results8, go_sem]) rfl ⟨_, _, rfl, F.out, G2.out⟩
  | true =>
    have F := Lib.hid hd
    clear hd
    go_wp2_with fail
    refine (spec_namedF p.fs _ p.fa p.fc mainN OK2.out.2).mono ?_
    rintro e w3 ⟨i, rfl, hi, g3⟩
    have G3 := Lib.hid (G2.out.trans g3)
    have HI := Lib.hid hi
    clear g3 hi c0 c1
    by_cases h0 : i < 0
    · have M := Lib.hid (MdR.lack F.out HI.out h0)
      go_wp2_with fail
      exact bodyPost_ret (v := .tuple #[.int .i64 0, .int .i64 3]) (by simp [results, Tryd.results8, go_sem]) rfl ⟨_, _, rfl, M.out, G3.out⟩
    · have M := Lib.hid (MdR.yes F.out HI.out (by omega))
      go_wp2_with fail
      exact bodyPost_ret (v := .tuple #[.int .i64 i, .int .i64 0]) (by simp [results, Tryd.results8, go_sem]) rfl ⟨_, _, rfl, M.out, G3.out⟩

theorem impl_mainDef (p : LP) (w : World) (h : pOk w p) (hT : Tbl w) : Calls Tryd.prog 10 #[p.val] w (MdGw p.pr w) := by
  have g0 := (Gw.refl w).alloc (.cells #[.slice p.da p.ds.length p.dc, .slice p.fa p.fs.length p.fc] 32)
  have PB := Lib.hid (PBox.new w p 32)
  have KEY := Lib.hid (impl_validP p _ (h.grow g0) (hT.grow g0))
  have OK := Lib.hid (h.grow g0)
  have G := Lib.hid g0
  clear g0 h hT
  go_enter Tryd.func10, Tryd.ntmps10
  go_upto_region 1 with (fail)
  generalize w.alloc (.cells #[.slice p.da p.ds.length p.dc, .slice p.fa p.fs.length p.fc] 32) = w1 at *
  obtain ⟨c0, c1⟩ := PB.out.c
  go_wp2_with fail
  refine KEY.out.mono ?_
  rintro e w2 ⟨rfl, g2⟩
  have PB2 := Lib.hid (PB.out.grow g2)
  have OK2 := Lib.hid (OK.out.grow g2)
  have G2 := Lib.hid (G.out.trans g2)
  clear g2 c0 c1
  obtain ⟨c0, c1⟩ := PB2.out.c
  cases hd : progB p.pr with
  | false =>
    have F := Lib.hid (MdR.no hd)
    clear hd
    go_wp2_with fail
    exact bodyPost_ret (v := .tuple #[.int .i64 0, .int .i64 1]) (by simp [results, Tryd.results10, go_sem]) rfl ⟨_, _, rfl, F.out, G2.out⟩
  | true =>
    have F := Lib.hid hd
    clear hd
    go_wp2_with fail
    refine (impl_defIndex p.fs _ p.fa p.fc mainN OK2.out.2).mono ?_
    rintro e w3 ⟨i, rfl, hi, g3⟩
    have G3 := Lib.hid (G2.out.trans g3)
    have HI := Lib.hid hi
    clear g3 hi c0 c1
    by_cases h0 : i < 0
    · have M := Lib.hid (MdR.lack F.out HI.out h0)
      go_wp2_with fail
      exact bodyPost_ret (v := .tuple #[.int .i64 0, .int .i64 3]) (by simp [results, Tryd.results10, go_sem]) rfl ⟨_, _, rfl, M.out, G3.out⟩
    · have M := Lib.hid (MdR.yes F.out HI.out (by omega))
      go_wp2_with fail
      exact bodyPost_ret (v := .tuple #[.int .i64 i, .int .i64 0]) (by simp [results, Tryd.results10, go_sem]) rfl ⟨_, _, rfl, M.out, G3.out⟩

end Go.Proofs.YtkfplnnncfkjfaaDoor.Con
