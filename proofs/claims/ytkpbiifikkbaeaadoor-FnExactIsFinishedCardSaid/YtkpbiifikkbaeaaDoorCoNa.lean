/-
  All nodes of a core term meet a condition on heads just if the term does. No condition.
-/
import Derived.Test.YtkpbiifikkbaeaaDoorCoYd
namespace Go.Proofs.YtkpbiifikkbaeaaDoor.Con
open Go.RowKit
set_option linter.unusedVariables false

theorem nodesK_all_of (H : Int → Int → List Int → Nat → Bool) (u : LK) (ih : ∀ t ∈ u.ks, ∀ b o bd lv, (∀ x ∈ nodesK t b o bd lv, H x.u.k x.u.v x.u.ds x.u.ks.length = true) ↔ t.co.all H = true) (b o bd lv : Nat) :
    (∀ x ∈ nodesK u b o bd lv, H x.u.k x.u.v x.u.ds x.u.ks.length = true) ↔ u.co.all H = true := by
  rw [nodesK_eq, Co.all_eq, Bool.and_eq_true, calls_iff, LK.co_k, LK.co_v, LK.co_ds, LK.co_len, LK.co_ks]
  constructor
  · intro h
    refine ⟨h _ List.mem_cons_self, fun t ht => ?_⟩
    obtain ⟨s, hs, rfl⟩ := List.mem_map.1 ht
    obtain ⟨i, hi, rfl⟩ := List.mem_iff_getElem.1 hs
    refine (ih _ (List.getElem_mem hi) (blkOf u.a) (offOf u.a + i * 4) (bd + bndK u.k i) (lv + bxK u.k)).1 fun x hx => h x (List.mem_cons_of_mem _ (mem_kidsK.2 ⟨i, hi, ?_⟩))
    rw [List.getD, List.getElem?_eq_getElem hi]; exact hx
  · rintro ⟨h1, h2⟩ x hx
    rcases List.mem_cons.1 hx with rfl | hx
    · exact h1
    · obtain ⟨i, hi, hx⟩ := mem_kidsK.1 hx
      rw [List.getD, List.getElem?_eq_getElem hi] at hx
      exact (ih _ (List.getElem_mem hi) (blkOf u.a) (offOf u.a + i * 4) (bd + bndK u.k i) (lv + bxK u.k)).2 (h2 _ (List.mem_map_of_mem (List.getElem_mem hi))) x hx
theorem nodesK_all (H : Int → Int → List Int → Nat → Bool) (u : LK) : ∀ b o bd lv, (∀ x ∈ nodesK u b o bd lv, H x.u.k x.u.v x.u.ds x.u.ks.length = true) ↔ u.co.all H = true := by
  refine LK.ind (P := fun u => ∀ b o bd lv, (∀ x ∈ nodesK u b o bd lv, H x.u.k x.u.v x.u.ds x.u.ks.length = true) ↔ u.co.all H = true) (fun k v da dc ds a cap ks ih => ?_) u
  exact nodesK_all_of H (.mk k v da dc ds a cap ks) ih

end Go.Proofs.YtkpbiifikkbaeaaDoor.Con
