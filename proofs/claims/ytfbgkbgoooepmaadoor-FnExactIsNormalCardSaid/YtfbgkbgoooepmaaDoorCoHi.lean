/-
  The greatest index in a core term, as a function on terms without addresses; contracts of the model's l06Highest and ShiftCore. Condition: the core term lies in memory and, for l06Highest, its numbers are small.
-/
import Derived.Test.YtfbgkbgoooepmaaDoorCoSh
import Derived.Test.YtfbgkbgoooepmaaDoorCoSp
import Derived.Deep.Cut
namespace Go.Proofs.YtfbgkbgoooepmaaDoor.Con
open Go.RowKit
set_option linter.unusedVariables false

def Co.hi : Co → Int
  | .mk k v _ ks => his ks (if k = 1 then v else -1)
where his : List Co → Int → Int
  | [], m => m
  | t :: ts, m => his ts (max m t.hi)
abbrev chis (ks : List Co) (m : Int) : Int := Co.hi.his ks m
theorem hi_eq (t : Co) : t.hi = chis t.ks (if t.k = 1 then t.v else -1) := by cases t; rw [Co.hi]; rfl
theorem chis_nil (m : Int) : chis [] m = m := by simp [chis, Co.hi.his]
theorem chis_app (m : Int) : ∀ (xs : List Co) (m : Int) (t : Co), chis (xs ++ [t]) m = max (chis xs m) t.hi
  | [], m, t => by simp [chis, Co.hi.his]
  | x :: xs, m, t => by simp only [List.cons_append, chis, Co.hi.his]; exact chis_app m xs _ t
theorem chis_take (ks : List Co) (m : Int) (j : Nat) (hj : j < ks.length) : chis (ks.take (j + 1)) m = max (chis (ks.take j) m) ks[j].hi := by
  rw [List.take_succ_eq_append_getElem hj, chis_app m]

theorem spec_maxC (a b : Int) (w : World) : Calls Tryd.prog 105 #[.int .i64 a, .int .i64 b] w fun e w' => e = .returned (.int .i64 (max a b)) ∧ w' = w := by
  by_cases h : b < a
  · have F := Lib.hid (show max a b = a by omega)
    go_enter Tryd.func105, Tryd.ntmps105
    go_wp2_with fail
    go_ret
    exact ⟨ret_int F.out.symm, rfl⟩
  · have F := Lib.hid (show max a b = b by omega)
    go_enter Tryd.func105, Tryd.ntmps105
    go_wp2_with fail
    go_ret
    exact ⟨ret_int F.out.symm, rfl⟩

def KHi (u : LK) : Prop := ∀ (w : World) (b o : Nat), coAt w b o u → Calls Tryd.prog 71 #[.pointer (some ⟨b, o, none⟩)] w fun e w' => e = .returned (.int .i64 u.co.hi) ∧ w' = w
theorem khi_of (u : LK) (ih : ∀ t ∈ u.ks, KHi t) : KHi u := by
  intro w b o h
  have hll := h.2.kl
  have A := Lib.hid h
  obtain ⟨p0, p1, p2, p3⟩ := h.c
  obtain ⟨m0, hm⟩ : ∃ m0, m0 = (if u.k = 1 then u.v else -1) := ⟨_, rfl⟩
  have F := Lib.hid (show u.co.hi = chis u.co.ks m0 by rw [hi_eq, u.co_k, u.co_v, hm])
  have cs : ((u.k == 1) = true ∧ u.v = m0) ∨ ((u.k == 1) = false ∧ (-1 : Int) = m0) := by
    by_cases h1 : u.k = 1
    · rw [if_pos h1] at hm; exact .inl ⟨by simpa using h1, hm.symm⟩
    · rw [if_neg h1] at hm; exact .inr ⟨by simpa using h1, hm.symm⟩
  clear h hm
  rcases cs with ⟨q1, e1⟩ | ⟨q1, e1⟩ <;> (
    go_enter Tryd.func71, Tryd.ntmps71
    go_wp2_with fail
    try rw [e1]
    clear p0 p1 p2 p3 q1 e1
    go_loopw [3, 4] (fun s x wr => ∃ j : Nat, j ≤ u.ks.length ∧ x = .int .i64 j ∧ s = .int .i64 (chis (u.co.ks.take j) m0) ∧ wr = w) (fun _ x _ => u.ks.length - (intOf x).toNat)
    case atStart => exact ⟨0, Nat.zero_le _, rfl, rfl, rfl⟩
    case round =>
      obtain ⟨j, hj, rfl, rfl, rfl⟩ := hrel
      obtain ⟨p0, p1, p2, p3⟩ := A.out.c
      by_cases hlt : j < u.ks.length
      · obtain ⟨bk, ok, ha, hkid⟩ := coAt.kid A.out.2.kids j hlt
        rw [ha] at p3
        have IH := Lib.hid (ih u.ks[j] (List.getElem_mem hlt) wr _ _ hkid)
        have ST := Lib.hid (show chis (u.co.ks.take (j + 1)) m0 = max (chis (u.co.ks.take j) m0) u.ks[j].co.hi by
          rw [chis_take u.co.ks m0 j (by rw [u.co_len]; exact hlt), u.co_kid j hlt])
        clear ha hkid p0 p1 p2
        go_wp2_with fail
        refine IH.out.mono ?_
        rintro e w1 ⟨rfl, rfl⟩
        go_wp2_with fail
        refine (spec_maxC _ _ _).mono ?_
        rintro e w2 ⟨rfl, rfl⟩
        go_wp2_with fail
        go_roundw
        case rel => exact ⟨j + 1, by omega, by go_num, by rw [ST.out], trivial⟩
        case measure => simp [intOf]; omega
      · obtain rfl : j = u.ks.length := by omega
        have E := Lib.hid (show chis (u.co.ks.take u.ks.length) m0 = u.co.hi by
          rw [F.out, List.take_of_length_le (by rw [u.co_len]; exact Nat.le_refl _)])
        rw [E.out]
        go_wp2_with fail
        go_ret
        exact ⟨rfl, rfl⟩)
theorem khi_all (u : LK) : KHi u := by
  refine LK.ind (P := KHi) (fun k v da dc ds a c ks ih => ?_) u
  exact khi_of (.mk k v da dc ds a c ks) ih

end Go.Proofs.YtfbgkbgoooepmaaDoor.Con
