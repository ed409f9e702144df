/-
  The place of a name among declarations: the model's l02Named and the program's dataIndex. No condition but that the list lies in memory.
-/
import Derived.Test.YtkfplnnncfkjfaaDoorDaEq
import Derived.Outline
import Derived.LoopTactic
namespace Go.Proofs.YtkfplnnncfkjfaaDoor.Con
open Go.RowKit
set_option linter.unusedVariables false

/-- r is the first place of the name, or -1. -/
def IsIx (nm : ByteArray) (ns : List ByteArray) (r : Int) : Prop := (∃ j : Nat, r = j ∧ ns[j]? = some nm ∧ ∀ i, i < j → ns[i]? ≠ some nm) ∨ (r = -1 ∧ ∀ i : Nat, ns[i]? ≠ some nm)
theorem IsIx.uniq {nm : ByteArray} {ns : List ByteArray} {r s : Int} (h : IsIx nm ns r) (k : IsIx nm ns s) : r = s := by
  rcases h with ⟨j, rfl, h1, h2⟩ | ⟨rfl, h⟩ <;> rcases k with ⟨j', rfl, k1, k2⟩ | ⟨rfl, k⟩
  · rcases Nat.lt_trichotomy j j' with hl | rfl | hl
    · exact absurd h1 (k2 j hl)
    · rfl
    · exact absurd k1 (h2 j' hl)
  · exact absurd h1 (k j)
  · exact absurd k1 (h j')
  · rfl

def IxGw (nm : ByteArray) (ns : List ByteArray) (w : World) (e : Ending) (w' : World) : Prop := ∃ r : Int, e = .returned (.int .i64 r) ∧ IsIx nm ns r ∧ Gw w w'

theorem ix_found {α : Type} {nm : ByteArray} {ds : List (LN α)} {j : Nat} (hj : j < ds.length) (h : ds[j].n = nm) (hb : ∀ i (hi : i < ds.length), i < j → ds[i].n ≠ nm) : IsIx nm (ds.map LN.n) j :=
  .inl ⟨j, rfl, by rw [List.getElem?_map, List.getElem?_eq_getElem hj]; simp [h], fun i hi e => by
    rw [List.getElem?_map, List.getElem?_eq_getElem (by omega : i < ds.length)] at e
    exact hb i (by omega) hi (by simpa using e)⟩
theorem ix_none {α : Type} {nm : ByteArray} {ds : List (LN α)} (hb : ∀ i (hi : i < ds.length), ds[i].n ≠ nm) : IsIx nm (ds.map LN.n) (-1) :=
  .inr ⟨rfl, fun i e => by
    rcases Nat.lt_or_ge i ds.length with hi | hi
    · rw [List.getElem?_map, List.getElem?_eq_getElem hi] at e
      exact hb i hi (by simpa using e)
    · rw [List.getElem?_map, List.getElem?_eq_none hi] at e
      cases e⟩

theorem toList_ne {a b : ByteArray} (h : ¬ a = b) : (a.toList == b.toList) = false := by
  simp only [beq_eq_false_iff_ne, ne_eq]
  exact fun e => h (by rw [ByteArray.toList_eq, ByteArray.toList_eq] at e; exact ByteArray.ext (Array.ext' e))

theorem spec_named (ds : List LD) (w : World) (a : Option Addr) (cap : Nat) (nm : ByteArray) (h : dsOk w a cap ds) : Calls Tryd.prog 87 #[.slice a ds.length cap, .string nm] w (IxGw nm (ds.map LN.n) w) := by
  have hl : ds.length ≤ 9223372036854775807 := Nat.le_trans h.1 h.2.1
  have hrow := h.2.2
  clear h
  go_enter Tryd.func87, Tryd.ntmps87
  go_wp2_with fail
  go_loopw [5] (fun i wr => ∃ j : Nat, j ≤ ds.length ∧ i = .int .i64 j ∧ (∀ i (hi : i < ds.length), i < j → ds[i].n ≠ nm) ∧ Gw w wr) (fun i _ => ds.length - (intOf i).toNat)
  case atStart => exact ⟨0, by omega, rfl, fun i _ h => absurd h (by omega), Gw.refl _⟩
  case round =>
    obtain ⟨j, hj, rfl, hall, hg⟩ := hrel
    have HALL := Lib.hid hall
    clear hall
    by_cases hlt : j < ds.length
    · obtain ⟨b, o, rfl, hr⟩ := hrow.resolve_left (fun e => by subst e; simp at hlt)
      obtain ⟨c0, c1, _⟩ := (hr.grow hg (fun _ h => h.grow hg)) j hlt
      clear hrow hr
      by_cases he : ds[j].n = nm
      · rw [he] at c0
        have HE := Lib.hid he
        clear he
        go_wp2_with fail
        go_ret
        exact ⟨j, rfl, ix_found hlt HE.out HALL.out, hg⟩
      · have hd := toList_ne he
        have HE := Lib.hid he
        clear he
        go_wp2_with fail
        go_roundw
        case rel =>
          refine ⟨j + 1, by omega, by go_num, fun i hi hij => ?_, hg⟩
          by_cases e : i = j
          · subst e; exact HE.out
          · exact HALL.out i hi (by omega)
        case measure => simp [intOf]; omega
    · obtain rfl : j = ds.length := by omega
      go_wp2_with fail
      go_ret
      exact ⟨-1, rfl, ix_none fun i hi => HALL.out i hi hi, hg⟩

theorem impl_index1 (d : LD) (w : World) (q : Nat) (nm : ByteArray) (e0 : TypeId) (hq : w.heap[q]? = some (.cells #[.string nm] e0 (0, 0))) :
    Calls Tryd.prog 132 #[d.val, .pointer (some ⟨q, 0, none⟩)] w fun e w' => e = .returned (.bool (d.n.toList == nm.toList)) ∧ Gw w w' := by
  have c : w.cell? ⟨q, 0, none⟩ = some (.string nm) := cell_of_row _ _ 0 _ _ _ hq
  have hql : q < w.heap.size := (Array.getElem?_eq_some_iff.1 hq).1
  go_enter Tryd.func132, Tryd.ntmps132
  go_wp2_with fail
  go_ret
  exact ⟨rfl, (Gw.refl w).alloc _⟩

theorem impl_indexFunc (ds : List LD) (w : World) (a : Option Addr) (cap : Nat) (nm : ByteArray) (q : Nat) (e0 : TypeId) (hq : w.heap[q]? = some (.cells #[.string nm] e0 (0, 0))) (h : dsOk w a cap ds) :
    Calls Tryd.prog 131 #[.slice a ds.length cap, .func (.func 132) #[] #[.pointer (some ⟨q, 0, none⟩)]] w (IxGw nm (ds.map LN.n) w) := by
  have hl : ds.length ≤ 9223372036854775807 := Nat.le_trans h.1 h.2.1
  have hrow := h.2.2
  have hql : q < w.heap.size := (Array.getElem?_eq_some_iff.1 hq).1
  have HQ := Lib.hid hq
  clear h hq
  go_enter Tryd.func131, Tryd.ntmps131
  go_wp2_with fail
  go_loopw [8] (fun i wr => ∃ j : Nat, j ≤ ds.length ∧ i = .int .i64 j ∧ (∀ i (hi : i < ds.length), i < j → ds[i].n ≠ nm) ∧ Gw w wr) (fun i _ => ds.length - (intOf i).toNat)
  case atStart => exact ⟨0, by omega, rfl, fun i _ h => absurd h (by omega), Gw.refl _⟩
  case round =>
    obtain ⟨j, hj, rfl, hall, hg⟩ := hrel
    have HALL := Lib.hid hall
    clear hall
    by_cases hlt : j < ds.length
    · obtain ⟨b, o, rfl, hr⟩ := hrow.resolve_left (fun e => by subst e; simp at hlt)
      obtain ⟨c0, c1, _⟩ := (hr.grow hg (fun _ h => h.grow hg)) j hlt
      have q0 : (0 : Int) ≤ j := by omega
      have q1 : (j : Int) < ds.length := by omega
      have key := impl_index1 ds[j] wr q nm e0 ((hg.block _ hql).trans HQ.out)
      have KEY := Lib.hid key
      clear hrow hr key
      go_wp2_with fail
      refine KEY.out.mono ?_
      rintro e w1 ⟨rfl, hg1⟩
      have hg2 := hg.trans hg1
      clear c0 c1
      by_cases he : ds[j].n = nm
      · have hd : (ds[j].n.toList == nm.toList) = true := by rw [he]; simp
        rw [hd]
        have HE := Lib.hid he
        clear he
        go_wp2_with fail
        go_ret
        exact ⟨j, rfl, ix_found hlt HE.out HALL.out, hg2⟩
      · have hd := toList_ne he
        rw [hd]
        have HE := Lib.hid he
        clear he
        go_wp2_with fail
        go_roundw
        case rel =>
          refine ⟨j + 1, by omega, by go_num, fun i hi hij => ?_, hg2⟩
          by_cases e : i = j
          · subst e; exact HE.out
          · exact HALL.out i hi (by omega)
        case measure => simp [intOf]; omega
    · obtain rfl : j = ds.length := by omega
      go_wp2_with fail
      go_ret
      exact ⟨-1, rfl, ix_none fun i hi => HALL.out i hi hi, hg⟩

theorem impl_dataIndex (ds : List LD) (w : World) (a : Option Addr) (cap : Nat) (nm : ByteArray) (h : dsOk w a cap ds) : Calls Tryd.prog 130 #[.slice a ds.length cap, .string nm] w (IxGw nm (ds.map LN.n) w) := by
  have g1 : Gw w (w.alloc (.cells #[.string nm] 9)) := (Gw.refl w).alloc _
  have key := impl_indexFunc ds _ a cap nm w.heap.size 9 (heap_alloc_new w (.cells #[.string nm] 9)) (dsOk.grow h g1)
  have KEY := Lib.hid key
  have G1 := Lib.hid g1
  clear key g1 h
  go_enter Tryd.func130, Tryd.ntmps130
  go_wp2_with fail
  refine KEY.out.mono ?_
  rintro e w1 ⟨r, rfl, hr, hg⟩
  have HR := Lib.hid hr
  clear hr
  go_wp2_with fail
  go_ret
  exact ⟨r, rfl, HR.out, G1.out.trans hg⟩

end Go.Proofs.YtkfplnnncfkjfaaDoor.Con
