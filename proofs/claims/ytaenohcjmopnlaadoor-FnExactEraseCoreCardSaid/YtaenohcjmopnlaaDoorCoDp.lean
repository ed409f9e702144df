/-
  Contract of the model's l06Depth. Condition: the core term lies in memory and is nested at most 100000 levels deep.
-/
import Derived.Test.YtaenohcjmopnlaaDoorCoHi
namespace Go.Proofs.YtaenohcjmopnlaaDoor.Con
open Go.RowKit
set_option linter.unusedVariables false

theorem cdps_take (ks : List Co) (j : Nat) (hj : j < ks.length) : cdps (ks.take (j + 1)) = max (cdps (ks.take j)) ks[j].dp := by
  induction ks generalizing j with
  | nil => simp at hj
  | cons t ts ih =>
    cases j with
    | zero => simp [cdps, Co.dp.dps]
    | succ j =>
      have := ih j (by simpa using hj)
      simp only [List.take_succ_cons, cdps, Co.dp.dps, List.getElem_cons_succ] at this ⊢
      rw [this]
      omega
def KDp (u : LK) : Prop := ∀ (w : World) (b o : Nat), coAt w b o u → u.co.dp ≤ 100000 → Calls Tryd.prog 56 #[.pointer (some ⟨b, o, none⟩)] w fun e w' => e = .returned (.int .i64 (u.co.dp : Nat)) ∧ w' = w
theorem kdp_of (u : LK) (ih : ∀ t ∈ u.ks, KDp t) : KDp u := by
  intro w b o h hdp
  have hll := h.2.kl
  have A := Lib.hid h
  have F := Lib.hid (Co.dp_eq u.co)
  have HD := Lib.hid hdp
  obtain ⟨p0, p1, p2, p3⟩ := h.c
  clear h
  go_enter Tryd.func56, Tryd.ntmps56
  go_wp2_with fail
  clear p0 p1 p2 p3
  go_loopw [3, 4] (fun s x wr => ∃ j : Nat, j ≤ u.ks.length ∧ x = .int .i64 j ∧ s = .int .i64 (cdps (u.co.ks.take j) : Nat) ∧ wr = w) (fun _ x _ => u.ks.length - (intOf x).toNat)
  case atStart => exact ⟨0, Nat.zero_le _, rfl, rfl, rfl⟩
  case round =>
    obtain ⟨j, hj, rfl, rfl, rfl⟩ := hrel
    obtain ⟨p0, p1, p2, p3⟩ := A.out.c
    by_cases hlt : j < u.ks.length
    · obtain ⟨bk, ok, ha, hkid⟩ := coAt.kid A.out.2.kids j hlt
      rw [ha] at p3
      have IH := Lib.hid (ih u.ks[j] (List.getElem_mem hlt) wr _ _ hkid (by have := dp_kid (u := u) j hlt; omega))
      have ST := Lib.hid (show cdps (u.co.ks.take (j + 1)) = max (cdps (u.co.ks.take j)) u.ks[j].co.dp by
        rw [cdps_take u.co.ks j (by rw [u.co_len]; exact hlt), u.co_kid j hlt])
      clear ha hkid p0 p1 p2
      go_wp2_with fail
      refine IH.out.mono ?_
      rintro e w1 ⟨rfl, rfl⟩
      go_wp2_with fail
      refine (spec_maxC _ _ _).mono ?_
      rintro e w2 ⟨rfl, rfl⟩
      go_wp2_with fail
      go_roundw
      case rel => exact ⟨j + 1, by omega, by go_num, by rw [ST.out]; congr 1; omega, trivial⟩
      case measure => simp [intOf]; omega
    · obtain rfl : j = u.ks.length := by omega
      have E := Lib.hid (show ((cdps (u.co.ks.take u.ks.length) : Nat) : Int) + 1 = (u.co.dp : Nat) by
        rw [F.out, List.take_of_length_le (by rw [u.co_len]; exact Nat.le_refl _)]; omega)
      have w1 : IntKind.i64.wrap (((cdps (u.co.ks.take u.ks.length) : Nat) : Int) + 1) = ((cdps (u.co.ks.take u.ks.length) : Nat) : Int) + 1 := by
        rw [E.out]; have := HD.out; unfold IntKind.wrap; simp [IntKind.signed, IntKind.bits]; omega
      generalize ((cdps (u.co.ks.take u.ks.length) : Nat) : Int) = m at *
      go_wp2_with fail
      go_ret
      exact ⟨ret_int E.out, rfl⟩
theorem kdp_all (u : LK) : KDp u := by
  refine LK.ind (P := KDp) (fun k v da dc ds a c ks ih => ?_) u
  exact kdp_of (.mk k v da dc ds a c ks) ih

end Go.Proofs.YtaenohcjmopnlaaDoor.Con
