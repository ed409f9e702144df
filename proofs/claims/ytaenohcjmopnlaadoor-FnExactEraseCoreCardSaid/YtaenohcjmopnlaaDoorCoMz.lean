/-
  How many marks a core term takes hangs on the term without addresses only; a shifted one takes as many. No program in it.
-/
import Derived.Test.YtaenohcjmopnlaaDoorCoMk
import Derived.Test.YtaenohcjmopnlaaDoorCoHs
namespace Go.Proofs.YtaenohcjmopnlaaDoor.Con
open Go.RowKit
set_option linter.unusedVariables false

def Co.mc : Co → Nat
  | .mk _ _ ds ks => 2 + ds.length + mcl ks
where mcl : List Co → Nat
  | [] => 0
  | t :: ts => t.mc + mcl ts
theorem mcn_co (u : LK) : u.mcn = u.co.mc := by
  refine LK.ind (P := fun u => u.mcn = u.co.mc) (fun k v da dc ds a c ks ih => ?_) u
  have key : ∀ ts : List LK, (∀ t ∈ ts, t.mcn = t.co.mc) → mcs ts = Co.mc.mcl (ts.map LK.co) := by
    intro ts
    induction ts with
    | nil => intro _; rw [mcs_nil]; rfl
    | cons t ts iht =>
      intro h
      rw [mcs_cons, List.map_cons, Co.mc.mcl, h t (by simp), iht (fun x hx => h x (by simp [hx]))]
  rw [mcn_eq, LK.co_eq, Co.mc]
  show 2 + ds.length + mcs ks = 2 + ds.length + Co.mc.mcl (ks.map LK.co)
  rw [key ks ih]
mutual
theorem sh_mc : ∀ (t : Co) (n f : Int), (t.sh n f).mc = t.mc
  | .mk k v ds ks, n, f => by rw [Co.sh, Co.mc, Co.mc, shs_mc k 0 ks n f]
theorem shs_mc (k : Int) : ∀ (i : Nat) (ts : List Co) (n f : Int), Co.mc.mcl (Co.sh.shs k i ts n f) = Co.mc.mcl ts
  | _, [], _, _ => by rw [Co.sh.shs]
  | i, t :: ts, n, f => by rw [Co.sh.shs, Co.mc.mcl, Co.mc.mcl, sh_mc t n _, shs_mc k (i + 1) ts n f]
end
theorem mcn_sz (u : LK) : u.mcn ≤ 2 + 2 * u.sz := by
  refine LK.ind (P := fun u => u.mcn ≤ 2 + 2 * u.sz) (fun k v da dc ds a c ks ih => ?_) u
  have key : ∀ ts : List LK, (∀ t ∈ ts, t.mcn ≤ 2 + 2 * t.sz) → mcs ts ≤ 2 * LK.sz.szl ts := by
    intro ts
    induction ts with
    | nil => intro _; rw [mcs_nil]; omega
    | cons t ts iht =>
      intro h
      rw [mcs_cons, LK.sz.szl]
      have h1 := h t (by simp)
      have h2 := iht (fun x hx => h x (by simp [hx]))
      omega
  have h1 := key ks ih
  rw [mcn_eq, LK.sz]
  show 2 + ds.length + mcs ks ≤ 2 + 2 * (ds.length + LK.sz.szl ks)
  omega
/-- Marks of what lies like a small core term. -/
theorem mcn_like {u t : LK} (h : u.co = t.co) (hz : t.sz ≤ 1048576) : 1 + u.mcn ≤ 8000000 := by
  have := mcn_sz t
  rw [mcn_co, h, ← mcn_co]
  omega
theorem mcn_sh {u t : LK} {n f : Int} (h : u.co = shRs t.co n f) (hz : t.sz ≤ 1048576) : 1 + u.mcn ≤ 8000000 := by
  have := mcn_sz t
  rw [mcn_co] at this ⊢
  rw [h]
  unfold shRs
  split
  · rw [sh_mc]; omega
  · show 1 + (2 + 0 + 0) ≤ 8000000
    decide
theorem new_chg {B : Nat} {w w' : World} {u : LK} {S : Nat → Prop} (h : u.New B w) (hc : Chg w w' S) (hS : ∀ b ∈ u.bl, ¬ S b) : u.New B w' :=
  gNew.same coFr h fun y hy => hc.2.2.2.2 y (h.2.2 y hy).2.lt (hS y hy)

end Go.Proofs.YtaenohcjmopnlaaDoor.Con
