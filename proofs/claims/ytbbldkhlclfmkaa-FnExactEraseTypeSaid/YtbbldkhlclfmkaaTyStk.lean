/-
  Contracts of the stack of places: push, empty, pop. No condition but that the stack lies in memory of the call's own.
-/
import Derived.Test.YtbbldkhlclfmkaaTySpec
import Derived.Test.YtbbldkhlclfmkaaTyTo
import Derived.Test.YtbbldkhlclfmkaaTyBox
import Derived.Outline
import Derived.Lib.Hide
import Derived.Deep.AppendLies
import Derived.OwnWalk
namespace Go.Proofs.Ytbbldkhlclfmkaa.Con
open Go.RowKit
set_option linter.unusedVariables false

/-- A place: a type and its depth. -/
def pl (t : LT) (d : Int) : List Value := [.int .i64 t.k, .string t.n, .slice t.a t.ks.length t.cap, .int .i64 d]

def PushPost (w : World) (WB B n : Nat) (sv : Value) (xs news : List Value) (e : Ending) (w' : World) : Prop :=
  ∃ g cap, e = .returned (.tuple #[]) ∧ w'.heap[WB]? = some (.cells #[.slice (some ⟨g, 0, none⟩) (n + 1) cap] 154 (0, 0)) ∧
    w'.ownsRow B 157 4 (.slice (some ⟨g, 0, none⟩) (n + 1) cap) (n + 1) (xs ++ news) ∧ (sv.ownBlock = some g ∨ w.heap.size ≤ g) ∧ Chg w w' (fun b => b = WB ∨ some b = sv.ownBlock)

theorem own_ne {w : World} {B : Nat} {e t : TypeId} {size n WB : Nat} {v : Value} {xs : List Value} {cs : Array Value} {fr : Nat × Nat} (h : w.ownsRow B e size v n xs) (hw : w.heap[WB]? = some (.cells cs t fr)) (hne : e ≠ t) : v.ownBlock ≠ some WB := by
  rcases h.2 with ⟨rfl, _⟩ | ⟨g, cap, cur, rfl, _, hg, _⟩
  · simp [Value.ownBlock]
  · intro he
    have : g = WB := by simpa [Value.ownBlock] using he
    subst this
    rw [hg] at hw
    simp at hw
    exact hne hw.2.1

theorem own_set {w : World} {B : Nat} {e : TypeId} {size n g c : Nat} {m : Nat} {xs : List Value} (h : w.ownsRow B e size (.slice (some ⟨g, 0, none⟩) m c) n xs) {p : Addr} (hp : p.block ≠ g) (u : Value) : (w.setCell p u).ownsRow B e size (.slice (some ⟨g, 0, none⟩) m c) n xs := by
  obtain ⟨hl, h⟩ := h
  refine ⟨hl, ?_⟩
  rcases h with ⟨h, _⟩ | ⟨g', cap, cur, hv, hb, hg, hr⟩
  · cases h
  · refine .inr ⟨g', cap, cur, hv, hb, ?_, hr⟩
    have : g' = g := by injection hv with h1; injection h1 with h1; injection h1 with h1; exact h1.symm
    rw [Below.heap_setCell _ _ _ _ (by omega)]
    exact hg

theorem impl_push (w : World) (WB AB B n : Nat) (sv : Value) (xs : List Value) (t : LT) (d : Int) (hB : B ≤ w.heap.size) (hn : n ≤ 100)
    (hw : w.heap[WB]? = some (.cells #[sv] 154 (0, 0))) (hown : w.ownsRow B 157 4 sv n xs)
    (ha : w.heap[AB]? = some (.cells (pl t d).toArray 157 (0, 0))) :
    Calls Try.prog 108 #[.pointer (some ⟨WB, 0, none⟩), .slice (some ⟨AB, 0, none⟩) 1 1] w (PushPost w WB B n sv xs (pl t d)) := by
  obtain ⟨i0, hi, hz0, hz1, hz2⟩ := info_parts (P := Try.prog) (e := 157) (z := .agg #[.int .i64 0, .string ⟨#[]⟩, .slice none 0 0, .int .i64 0]) (size := 4) (bytes := 56) (by kernel_rfl)
  have hc : w.cell? ⟨WB, 0, none⟩ = some sv := cell_of_row w WB 0 _ _ _ hw
  have hnews := World.news_of_block ha
  have HW := Lib.hid hw
  have HA := Lib.hid ha
  have HN := Lib.hid hnews
  have HI := Lib.hid hi
  have HZ0 := Lib.hid hz0
  have HZ1 := Lib.hid hz1
  have HZ2 := Lib.hid hz2
  clear hw ha hnews hi hz0 hz1 hz2
  go_enter Try.func108, Try.ntmps108
  go_wp2_with (at_builtin; refine wpList_append_lies _ rfl _ _ 152 rfl B 157 i0 _ 4 56 Try.underlying152 HI.out HZ0.out HZ1.out HZ2.out rfl (by decide) sv n xs rfl hown ⟨AB, 0, none⟩ 1 1 (pl t d) rfl rfl HN.out (by intro u hu; simp [pl] at hu; rcases hu with rfl | rfl | rfl | rfl <;> rfl) (by decide) (by unfold maxLen; omega) (by omega) hB _ rfl ?_)
  intro g cap w1 hown1 hgr hat hlt
  have hne : some WB ≠ sv.ownBlock := fun e => own_ne hown HW.out (by decide) e.symm
  have hw1 := (hgr.block WB (Array.getElem?_eq_some_iff.1 HW.out).1 hne).trans HW.out
  have hc1 : w1.cell? ⟨WB, 0, none⟩ = some sv := cell_of_row w1 WB 0 _ _ _ hw1
  have hf1 : w1.frozen? ⟨WB, 0, none⟩ = false := by simp [World.frozen?, hw1]
  have HW1 := Lib.hid hw1
  have HAT := Lib.hid hat
  clear hw1 hat hc
  go_wp2_with fail
  go_end0
  refine ⟨g, cap, rfl, ?_, ?_, HAT.out.imp id (fun h => by omega), ?_⟩
  · have := HW1.out
    simp [World.setCell, Array.getElem?_modify, this]
  · refine own_set hown1 ?_ _
    intro e
    rcases HAT.out with h | h
    · exact hne (by rw [h]; exact congrArg some e)
    · have := (Array.getElem?_eq_some_iff.1 HW.out).1
      simp at e; omega
  · exact ((Chg.grown hgr).mono fun x hx => .inr hx).set _ _ fun _ => .inl rfl

theorem impl_empty (w : World) (WB : Nat) (a : Option Addr) (n cap : Nat) (hn : n ≤ 100) (hw : w.heap[WB]? = some (.cells #[.slice a n cap] 154 (0, 0))) :
    Calls Try.prog 109 #[.pointer (some ⟨WB, 0, none⟩)] w fun e w' => e = .returned (.bool (decide (n = 0))) ∧ w = w' := by
  have hc : w.cell? ⟨WB, 0, none⟩ = some (.slice a n cap) := cell_of_row w WB 0 _ _ _ hw
  clear hw
  go_enter Try.func109, Try.ntmps109
  go_wp2_with fail
  go_ret
  exact ⟨ret_b (by rw [Bool.eq_iff_iff]; simp), rfl⟩

theorem own_less {w : World} {B : Nat} {e : TypeId} {n g cap : Nat} {xs ys : List Value} (h : w.ownsRow B e 4 (.slice (some ⟨g, 0, none⟩) (n + 1) cap) (n + 1) (xs ++ ys)) (hx : xs.length = n * 4) (hy : ys.length = 4) :
    w.ownsRow B e 4 (.slice (some ⟨g, 0, none⟩) n cap) n xs ∧ n ≤ cap := by
  obtain ⟨hl, h⟩ := h
  rcases h with ⟨h, _⟩ | ⟨g', cap', cur, hv, hb, hg, hc, hm, hsz, ht⟩
  · cases h
  · injection hv with h1 _ h3
    injection h1 with h1
    injection h1 with h1
    subst h1 h3
    refine ⟨⟨hx, .inr ⟨g, cap, cur, rfl, hb, hg, by omega, hm, hsz, ?_⟩⟩, by omega⟩
    have := congrArg (List.take (n * 4)) ht
    rw [List.take_take, Nat.min_eq_left (by omega), ← hx, List.take_left] at this
    rw [← hx]; exact this

def PopPost (w : World) (WB B n g cap : Nat) (xs : List Value) (t : LT) (d : Int) (e : Ending) (w' : World) : Prop :=
  e = .returned (.agg #[.int .i64 t.k, .string t.n, .slice t.a t.ks.length t.cap, .int .i64 d]) ∧ w'.heap[WB]? = some (.cells #[.slice (some ⟨g, 0, none⟩) n cap] 154 (0, 0)) ∧
    w'.ownsRow B 157 4 (.slice (some ⟨g, 0, none⟩) n cap) n xs ∧ Chg w w' (fun b => b = WB)

theorem impl_pop (w : World) (WB B n g cap : Nat) (xs : List Value) (t : LT) (d : Int) (hn : n ≤ 100) (hx : xs.length = n * 4)
    (hw : w.heap[WB]? = some (.cells #[.slice (some ⟨g, 0, none⟩) (n + 1) cap] 154 (0, 0))) (hown : w.ownsRow B 157 4 (.slice (some ⟨g, 0, none⟩) (n + 1) cap) (n + 1) (xs ++ pl t d)) :
    Calls Try.prog 110 #[.pointer (some ⟨WB, 0, none⟩)] w (PopPost w WB B n g cap xs t d) := by
  have hc : w.cell? ⟨WB, 0, none⟩ = some (.slice (some ⟨g, 0, none⟩) (n + 1) cap) := cell_of_row w WB 0 _ _ _ hw
  have hf : w.frozen? ⟨WB, 0, none⟩ = false := by simp [World.frozen?, hw]
  have hWB := (Array.getElem?_eq_some_iff.1 hw).1
  have hne : g ≠ WB := fun e => own_ne hown hw (by decide) (by rw [e]; rfl)
  have hcell : ∀ j, j < 4 → w.cell? ⟨g, n * 4 + j, none⟩ = (pl t d)[j]? := fun j hj => by
    rw [hown.cellAt (n * 4 + j) (by omega), List.getElem?_append_right (by omega)]
    congr 1; omega
  have x0 := hcell 0 (by omega)
  have x1 := hcell 1 (by omega)
  have x2 := hcell 2 (by omega)
  have x3 := hcell 3 (by omega)
  simp only [pl, List.getElem?_cons_zero, List.getElem?_cons_succ, Nat.add_zero] at x0 x1 x2 x3
  have hg : g < w.heap.size := cell_lt x0
  have hcap : n + 1 ≤ cap := by
    rcases hown.2 with ⟨h, _⟩ | ⟨g', cap', cur, hv, _, _, h1, _⟩
    · cases h
    · injection hv with _ _ h3; omega
  have HW := Lib.hid hw
  have HX := Lib.hid hx
  clear hw hx hcell
  go_enter Try.func110, Try.ntmps110
  go_wp2_with fail
  have hw' : (w.setCell ⟨WB, 0, none⟩ (.slice (some ⟨g, 0, none⟩) n cap)).heap[WB]? = some (.cells #[.slice (some ⟨g, 0, none⟩) n cap] 154 (0, 0)) := by
    have := HW.out
    simp [World.setCell, Array.getElem?_modify, this]
  have hs' : (w.setCell ⟨WB, 0, none⟩ (.slice (some ⟨g, 0, none⟩) n cap)).heap.size = w.heap.size := by simp [World.setCell]
  refine bodyPost_ret (v := .agg #[.int .i64 t.k, .string t.n, .slice t.a t.ks.length t.cap, .int .i64 d]) (by simp [results, Try.results110, go_sem]) rfl ⟨rfl, ?_, ?_, ?_⟩
  · rw [Below.heap_alloc _ _ _ (by simp; omega), Below.heap_alloc _ _ _ (by simp; omega)]
    exact hw'
  · exact (((own_less hown HX.out (by simp [pl])).1 |> fun h => own_set h (p := ⟨WB, 0, none⟩) (fun e => hne e.symm) _).alloc _).alloc _
  · exact ((((Chg.of_gw (Gw.refl w) (fun b => b = WB)).set ⟨WB, 0, none⟩ _ fun _ => rfl).alloc _).alloc _)

end Go.Proofs.Ytbbldkhlclfmkaa.Con
