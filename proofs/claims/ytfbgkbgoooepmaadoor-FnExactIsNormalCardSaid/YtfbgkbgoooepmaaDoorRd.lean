/-
  The kind of a redex at the root of a core term, as a function on terms without addresses; contracts of the model's l08Kind and of the program's neededKid and redexKind. Condition: the core term lies in memory and its nodes fit their kinds.
-/
import Derived.Test.YtfbgkbgoooepmaaDoorCoPr
import Derived.Test.YtfbgkbgoooepmaaDoorCoIt
import Derived.Deep.RegionHeld3
import Derived.BigQuiet
namespace Go.Proofs.YtfbgkbgoooepmaaDoor.Con
open Go.RowKit
set_option linter.unusedVariables false

def rdF (k : Int) (l : Nat) (k0 v0 k1 : Int) : Int := if k = 5 then (if k0 = 4 then 1 else if k0 = 11 then 4 else 0) else if k = 3 then (if k0 = 11 then 4 else if k0 = 2 then (if k1 = 2 then 2 else if k1 = 11 then 4 else 0) else 0) else if k = 9 then (if k0 = 8 ∧ v0 < l then 3 else if k0 = 11 then 4 else 0) else if k = 10 then (if k0 = 2 then 3 else if k0 = 11 then 4 else 0) else 0
/-- The kind of the redex at the root, or 0. -/
def Co.rd (t : Co) : Int := rdF t.k t.ds.length (t.ks.getD 0 default).k (t.ks.getD 0 default).v (t.ks.getD 1 default).k
theorem getD_co {l : List Co} {i : Nat} (h : i < l.length) : l.getD i default = l[i] := by rw [List.getD, List.getElem?_eq_getElem h]; rfl
theorem rd_one (u : LK) (hl : 0 < u.ks.length) : u.co.rd = rdF u.k u.ds.length u.ks[0].k u.ks[0].v (u.co.ks.getD 1 default).k := by
  unfold Co.rd
  rw [u.co_k, u.co_ds, getD_co (show 0 < u.co.ks.length by rw [u.co_len]; exact hl), u.co_kid 0 hl, LK.co_k, LK.co_v]
theorem rd_two (u : LK) (hl : 1 < u.ks.length) : u.co.rd = rdF u.k u.ds.length u.ks[0].k u.ks[0].v u.ks[1].k := by
  rw [rd_one u (by omega), getD_co (show 1 < u.co.ks.length by rw [u.co_len]; exact hl), u.co_kid 1 hl, LK.co_k]
theorem rd_no (u : LK) (h5 : u.k ≠ 5) (h3 : u.k ≠ 3) (h9 : u.k ≠ 9) (h10 : u.k ≠ 10) : u.co.rd = 0 := by
  unfold Co.rd rdF
  rw [u.co_k, if_neg h5, if_neg h3, if_neg h9, if_neg h10]
theorem rd_len {k v : Int} {ds : List Int} {l : Nat} (h : headC k v ds l = true) : (k = 5 ∨ k = 3 → 1 < l) ∧ (k = 9 ∨ k = 10 → 0 < l) ∧ (k = 8 → 0 ≤ v) := by
  unfold headC at h
  simp only [Bool.and_eq_true] at h
  obtain ⟨h1, h2, h3, _⟩ := h
  unfold inV at h1
  simp only [decide_eq_true_eq] at h1
  refine ⟨?_, ?_, ?_⟩
  · rintro (rfl | rfl)
    · have e1 : coLo 5 = 2 := rfl
      omega
    · have e1 : coLo 3 = 2 := rfl
      omega
  · rintro (rfl | rfl)
    · have e1 : coLo 9 = 1 := rfl
      omega
    · have e1 : coLo 10 = 1 := rfl
      omega
  · rintro rfl
    have h3' : inV v 0 3 = true := h3
    unfold inV at h3'
    simp only [decide_eq_true_eq] at h3'
    exact h3'.1
theorem gw_dN (w : World) (n : Nat) : Gw w (w.drewN n) := ⟨rfl, rfl, rfl, Nat.le_refl _, fun _ _ => rfl⟩
/-- The first two kids where they lie. -/
theorem kid_zero {w : World} {b o : Nat} {u : LK} (h : coAt w b o u) (hl : 0 < u.ks.length) : ∃ bk ok, u.a = some ⟨bk, ok, none⟩ ∧ coAt w bk ok u.ks[0] := by
  obtain ⟨bk, ok, ha, hk⟩ := coAt.kid h.2.kids 0 hl
  rw [Nat.zero_mul, Nat.add_zero] at hk
  exact ⟨bk, ok, ha, hk⟩
theorem kid_one {w : World} {b o bk ok : Nat} {u : LK} (h : coAt w b o u) (hl : 1 < u.ks.length) (ha : u.a = some ⟨bk, ok, none⟩) : coAt w bk (ok + 4) u.ks[1] := by
  obtain ⟨bk', ok', e, hk⟩ := coAt.kid h.2.kids 1 hl
  rw [ha] at e
  injection e with e
  injection e with e1 e2
  subst e1 e2
  rw [Nat.one_mul] at hk
  exact hk

set_option maxRecDepth 100000 in
set_option maxHeartbeats 2000000 in
theorem spec_l08Kind (u : LK) (w : World) (b o : Nat) (h : coAt w b o u) (hh : headC u.k u.v u.ds u.ks.length = true) (hk : ∀ i (hi : i < u.ks.length), headC u.ks[i].k u.ks[i].v u.ks[i].ds u.ks[i].ks.length = true) : Calls Tryd.prog 115 #[.pointer (some ⟨b, o, none⟩)] w fun e w' => e = .returned (.int .i64 u.co.rd) ∧ Gw w w' := by
  have HL := Lib.hid (rd_len hh)
  have HV := Lib.hid (show ∀ (hl : 0 < u.ks.length), u.ks[0].k = 8 → 0 ≤ u.ks[0].v from fun hl => (rd_len (hk 0 hl)).2.2)
  have A := Lib.hid h
  have hdl := h.2.dl
  obtain ⟨p0, p1, p2, p3⟩ := h.c
  obtain ⟨K, hK⟩ : ∃ K, K = u.k := ⟨_, rfl⟩
  have HK := Lib.hid hK
  rw [← hK] at p0
  clear hh hk h hK

  by_cases h5 : K = 5
  · have hl0 : 0 < u.ks.length := by have := HL.out.1 (by rw [← HK.out, h5]; decide); omega
    have hl1 : 1 < u.ks.length := HL.out.1 (by rw [← HK.out, h5]; decide)
    obtain ⟨bk, ok, ha, x⟩ := kid_zero A.out hl0
    have X0 := Lib.hid x
    have HA := Lib.hid ha
    have y := kid_one A.out hl1 ha
    have RD0 := rd_two u hl1
    rw [ha] at p3
    have HVV := HV.out hl0
    obtain ⟨z, hz⟩ : ∃ z, z = u.ks[0] := ⟨_, rfl⟩
    rw [← hz] at x X0 RD0 HVV
    obtain ⟨x0, x1, x2, x3⟩ := x.c
    obtain ⟨K0, hK0⟩ : ∃ K, K = z.k := ⟨_, rfl⟩
    obtain ⟨V0, hV0⟩ : ∃ K, K = z.v := ⟨_, rfl⟩
    have HK0 := Lib.hid hK0
    have HV0 := Lib.hid hV0
    rw [← hK0] at x0 RD0 HVV
    rw [← hV0] at x1 RD0 HVV
    rw [← HK.out] at RD0
    obtain ⟨zy, hzy⟩ : ∃ z, z = u.ks[1] := ⟨_, rfl⟩
    rw [← hzy] at y RD0
    have Y0 := Lib.hid y
    obtain ⟨y0, y1, y2, y3⟩ := y.c
    obtain ⟨K1, hK1⟩ : ∃ K, K = zy.k := ⟨_, rfl⟩
    rw [← hK1] at y0 RD0
    clear hK1 y hzy
    have RD := Lib.hid RD0
    have ix0 : (0 : Int) < u.ks.length := by omega
    have ix1 : (1 : Int) < u.ks.length := by omega
    clear hK0 hV0 x ha RD0 hz hl0 hl1
    subst h5
    by_cases a4 : K0 = 4
    · subst a4
      have F := Lib.hid (show u.co.rd = 1 by rw [RD.out]; unfold rdF; simp)
      go_enter Tryd.func115, Tryd.ntmps115
      go_wp2_with fail
      go_ret
      exact ⟨ret_int F.out.symm, Gw.refl _⟩
    by_cases a11 : K0 = 11
    · subst a11
      have F := Lib.hid (show u.co.rd = 4 by rw [RD.out]; unfold rdF; simp)
      go_enter Tryd.func115, Tryd.ntmps115
      go_wp2_with fail
      go_ret
      exact ⟨ret_int F.out.symm, Gw.refl _⟩
    have n4 : (K0 == 4) = false := by simpa using a4
    have n11 : (K0 == 11) = false := by simpa using a11
    have F := Lib.hid (show u.co.rd = 0 by rw [RD.out]; unfold rdF; simp[a4, a11])
    go_enter Tryd.func115, Tryd.ntmps115
    go_wp2_with fail
    go_ret
    exact ⟨ret_int F.out.symm, Gw.refl _⟩
  by_cases h3 : K = 3
  · have hl0 : 0 < u.ks.length := by have := HL.out.1 (by rw [← HK.out, h3]; decide); omega
    have hl1 : 1 < u.ks.length := HL.out.1 (by rw [← HK.out, h3]; decide)
    obtain ⟨bk, ok, ha, x⟩ := kid_zero A.out hl0
    have X0 := Lib.hid x
    have HA := Lib.hid ha
    have y := kid_one A.out hl1 ha
    have RD0 := rd_two u hl1
    rw [ha] at p3
    have HVV := HV.out hl0
    obtain ⟨z, hz⟩ : ∃ z, z = u.ks[0] := ⟨_, rfl⟩
    rw [← hz] at x X0 RD0 HVV
    obtain ⟨x0, x1, x2, x3⟩ := x.c
    obtain ⟨K0, hK0⟩ : ∃ K, K = z.k := ⟨_, rfl⟩
    obtain ⟨V0, hV0⟩ : ∃ K, K = z.v := ⟨_, rfl⟩
    have HK0 := Lib.hid hK0
    have HV0 := Lib.hid hV0
    rw [← hK0] at x0 RD0 HVV
    rw [← hV0] at x1 RD0 HVV
    rw [← HK.out] at RD0
    obtain ⟨zy, hzy⟩ : ∃ z, z = u.ks[1] := ⟨_, rfl⟩
    rw [← hzy] at y RD0
    have Y0 := Lib.hid y
    obtain ⟨y0, y1, y2, y3⟩ := y.c
    obtain ⟨K1, hK1⟩ : ∃ K, K = zy.k := ⟨_, rfl⟩
    rw [← hK1] at y0 RD0
    clear hK1 y hzy
    have RD := Lib.hid RD0
    have ix0 : (0 : Int) < u.ks.length := by omega
    have ix1 : (1 : Int) < u.ks.length := by omega
    clear hK0 hV0 x ha RD0 hz hl0 hl1
    subst h3
    by_cases a11 : K0 = 11
    · subst a11
      have F := Lib.hid (show u.co.rd = 4 by rw [RD.out]; unfold rdF; simp)
      go_enter Tryd.func115, Tryd.ntmps115
      go_wp2_with fail
      go_ret
      exact ⟨ret_int F.out.symm, Gw.refl _⟩
    by_cases a2 : K0 = 2
    · subst a2
      by_cases c2 : K1 = 2
      · subst c2
        have F := Lib.hid (show u.co.rd = 2 by rw [RD.out]; unfold rdF; simp)
        go_enter Tryd.func115, Tryd.ntmps115
        go_wp2_with fail
        go_ret
        exact ⟨ret_int F.out.symm, Gw.refl _⟩
      by_cases c11 : K1 = 11
      · subst c11
        have F := Lib.hid (show u.co.rd = 4 by rw [RD.out]; unfold rdF; simp)
        go_enter Tryd.func115, Tryd.ntmps115
        go_wp2_with fail
        go_ret
        exact ⟨ret_int F.out.symm, Gw.refl _⟩
      have n2 : (K1 == 2) = false := by simpa using c2
      have n11 : (K1 == 11) = false := by simpa using c11
      have F := Lib.hid (show u.co.rd = 0 by rw [RD.out]; unfold rdF; simp[c2, c11])
      go_enter Tryd.func115, Tryd.ntmps115
      go_wp2_with fail
      go_ret
      exact ⟨ret_int F.out.symm, Gw.refl _⟩
    have n2 : (K0 == 2) = false := by simpa using a2
    have n11 : (K0 == 11) = false := by simpa using a11
    have F := Lib.hid (show u.co.rd = 0 by rw [RD.out]; unfold rdF; simp[a2, a11])
    go_enter Tryd.func115, Tryd.ntmps115
    go_wp2_with fail
    go_ret
    exact ⟨ret_int F.out.symm, Gw.refl _⟩
  by_cases h9 : K = 9
  · have hl0 : 0 < u.ks.length := by have := HL.out.2.1 (by rw [← HK.out, h9]; decide); omega
    obtain ⟨bk, ok, ha, x⟩ := kid_zero A.out hl0
    have X0 := Lib.hid x
    have HA := Lib.hid ha
    have RD0 := rd_one u hl0
    rw [ha] at p3
    have HVV := HV.out hl0
    obtain ⟨z, hz⟩ : ∃ z, z = u.ks[0] := ⟨_, rfl⟩
    rw [← hz] at x X0 RD0 HVV
    obtain ⟨x0, x1, x2, x3⟩ := x.c
    obtain ⟨K0, hK0⟩ : ∃ K, K = z.k := ⟨_, rfl⟩
    obtain ⟨V0, hV0⟩ : ∃ K, K = z.v := ⟨_, rfl⟩
    have HK0 := Lib.hid hK0
    have HV0 := Lib.hid hV0
    rw [← hK0] at x0 RD0 HVV
    rw [← hV0] at x1 RD0 HVV
    rw [← HK.out] at RD0
    obtain ⟨K1, hK1⟩ : ∃ K, K = (u.co.ks.getD 1 default).k := ⟨_, rfl⟩
    rw [← hK1] at RD0
    clear hK1
    have RD := Lib.hid RD0
    have ix0 : (0 : Int) < u.ks.length := by omega
    skip
    clear hK0 hV0 x ha RD0 hz hl0 
    subst h9
    by_cases a8 : K0 = 8
    · subst a8
      by_cases av : V0 < (u.ds.length : Int)
      · have q := decide_eq_true av
        have F := Lib.hid (show u.co.rd = 3 by rw [RD.out]; unfold rdF; simp[av])
        go_enter Tryd.func115, Tryd.ntmps115
        go_wp2_with fail
        go_quiet (fail)
        have gq := gw_dN w nq
        have A2 := Lib.hid (A.out.grow gq)
        have X2 := Lib.hid (X0.out.grow gq)
        have GQ := Lib.hid gq
        clear p0 p1 p2 p3 x0 x1 x2 x3 gq
        generalize w.drewN nq = w2 at *
        obtain ⟨p0, p1, p2, p3⟩ := A2.out.c
        obtain ⟨x0, x1, x2, x3⟩ := X2.out.c
        rw [← HK.out] at p0
        rw [HA.out] at p3
        rw [← HK0.out] at x0
        rw [← HV0.out] at x1
        go_wp2_with fail
        go_ret
        exact ⟨ret_int F.out.symm, GQ.out⟩
      · have q := decide_eq_false av
        have F := Lib.hid (show u.co.rd = 0 by rw [RD.out]; unfold rdF; simp[av])
        go_enter Tryd.func115, Tryd.ntmps115
        go_wp2_with fail
        go_quiet (fail)
        have gq := gw_dN w nq
        have A2 := Lib.hid (A.out.grow gq)
        have X2 := Lib.hid (X0.out.grow gq)
        have GQ := Lib.hid gq
        clear p0 p1 p2 p3 x0 x1 x2 x3 gq
        generalize w.drewN nq = w2 at *
        obtain ⟨p0, p1, p2, p3⟩ := A2.out.c
        obtain ⟨x0, x1, x2, x3⟩ := X2.out.c
        rw [← HK.out] at p0
        rw [HA.out] at p3
        rw [← HK0.out] at x0
        rw [← HV0.out] at x1
        go_wp2_with fail
        go_ret
        exact ⟨ret_int F.out.symm, GQ.out⟩
    by_cases a11 : K0 = 11
    · subst a11
      have F := Lib.hid (show u.co.rd = 4 by rw [RD.out]; unfold rdF; simp)
      go_enter Tryd.func115, Tryd.ntmps115
      go_wp2_with fail
      go_quiet (fail)
      have gq := gw_dN w nq
      have A2 := Lib.hid (A.out.grow gq)
      have X2 := Lib.hid (X0.out.grow gq)
      have GQ := Lib.hid gq
      clear p0 p1 p2 p3 x0 x1 x2 x3 gq
      generalize w.drewN nq = w2 at *
      obtain ⟨p0, p1, p2, p3⟩ := A2.out.c
      obtain ⟨x0, x1, x2, x3⟩ := X2.out.c
      rw [← HK.out] at p0
      rw [HA.out] at p3
      rw [← HK0.out] at x0
      rw [← HV0.out] at x1
      go_wp2_with fail
      go_ret
      exact ⟨ret_int F.out.symm, GQ.out⟩
    have n8 : (K0 == 8) = false := by simpa using a8
    have n11 : (K0 == 11) = false := by simpa using a11
    have F := Lib.hid (show u.co.rd = 0 by rw [RD.out]; unfold rdF; simp[a8, a11])
    go_enter Tryd.func115, Tryd.ntmps115
    go_wp2_with fail
    go_quiet (fail)
    have gq := gw_dN w nq
    have A2 := Lib.hid (A.out.grow gq)
    have X2 := Lib.hid (X0.out.grow gq)
    have GQ := Lib.hid gq
    clear p0 p1 p2 p3 x0 x1 x2 x3 gq
    generalize w.drewN nq = w2 at *
    obtain ⟨p0, p1, p2, p3⟩ := A2.out.c
    obtain ⟨x0, x1, x2, x3⟩ := X2.out.c
    rw [← HK.out] at p0
    rw [HA.out] at p3
    rw [← HK0.out] at x0
    rw [← HV0.out] at x1
    go_wp2_with fail
    go_ret
    exact ⟨ret_int F.out.symm, GQ.out⟩
  by_cases h10 : K = 10
  · have hl0 : 0 < u.ks.length := by have := HL.out.2.1 (by rw [← HK.out, h10]; decide); omega
    obtain ⟨bk, ok, ha, x⟩ := kid_zero A.out hl0
    have X0 := Lib.hid x
    have HA := Lib.hid ha
    have RD0 := rd_one u hl0
    rw [ha] at p3
    have HVV := HV.out hl0
    obtain ⟨z, hz⟩ : ∃ z, z = u.ks[0] := ⟨_, rfl⟩
    rw [← hz] at x X0 RD0 HVV
    obtain ⟨x0, x1, x2, x3⟩ := x.c
    obtain ⟨K0, hK0⟩ : ∃ K, K = z.k := ⟨_, rfl⟩
    obtain ⟨V0, hV0⟩ : ∃ K, K = z.v := ⟨_, rfl⟩
    have HK0 := Lib.hid hK0
    have HV0 := Lib.hid hV0
    rw [← hK0] at x0 RD0 HVV
    rw [← hV0] at x1 RD0 HVV
    rw [← HK.out] at RD0
    obtain ⟨K1, hK1⟩ : ∃ K, K = (u.co.ks.getD 1 default).k := ⟨_, rfl⟩
    rw [← hK1] at RD0
    clear hK1
    have RD := Lib.hid RD0
    have ix0 : (0 : Int) < u.ks.length := by omega
    skip
    clear hK0 hV0 x ha RD0 hz hl0 
    subst h10
    by_cases a2 : K0 = 2
    · subst a2
      have F := Lib.hid (show u.co.rd = 3 by rw [RD.out]; unfold rdF; simp)
      go_enter Tryd.func115, Tryd.ntmps115
      go_wp2_with fail
      go_ret
      exact ⟨ret_int F.out.symm, Gw.refl _⟩
    by_cases a11 : K0 = 11
    · subst a11
      have F := Lib.hid (show u.co.rd = 4 by rw [RD.out]; unfold rdF; simp)
      go_enter Tryd.func115, Tryd.ntmps115
      go_wp2_with fail
      go_ret
      exact ⟨ret_int F.out.symm, Gw.refl _⟩
    have n2 : (K0 == 2) = false := by simpa using a2
    have n11 : (K0 == 11) = false := by simpa using a11
    have F := Lib.hid (show u.co.rd = 0 by rw [RD.out]; unfold rdF; simp[a2, a11])
    go_enter Tryd.func115, Tryd.ntmps115
    go_wp2_with fail
    go_ret
    exact ⟨ret_int F.out.symm, Gw.refl _⟩
  have F := Lib.hid (rd_no u (by rw [← HK.out]; exact h5) (by rw [← HK.out]; exact h3) (by rw [← HK.out]; exact h9) (by rw [← HK.out]; exact h10))
  have n5 : (K == 5) = false := by simpa using h5
  have n3 : (K == 3) = false := by simpa using h3
  have n9 : (K == 9) = false := by simpa using h9
  have n10 : (K == 10) = false := by simpa using h10
  clear h5 h3 h9 h10
  go_enter Tryd.func115, Tryd.ntmps115
  go_wp2_with fail
  go_ret
  exact ⟨ret_int F.out.symm, Gw.refl _⟩

def ndF (k k0 : Int) : Int := if k = 5 ∨ k = 9 ∨ k = 10 then 0 else if k = 3 then (if k0 = 2 then 1 else 0) else -1
theorem nd_one {u : LK} (hl : 0 < u.ks.length) : (u.co.ks.getD 0 default).k = u.ks[0].k := by
  rw [getD_co (show 0 < u.co.ks.length by rw [u.co_len]; exact hl), u.co_kid 0 hl, LK.co_k]
set_option maxRecDepth 100000 in
theorem impl_needed (u : LK) (w : World) (b o : Nat) (h : coAt w b o u) (hh : headC u.k u.v u.ds u.ks.length = true) : Calls Tryd.prog 118 #[.pointer (some ⟨b, o, none⟩)] w fun e w' => e = .returned (.int .i64 (ndF u.k (u.co.ks.getD 0 default).k)) ∧ w' = w := by
  have HL := Lib.hid (rd_len hh)
  have A := Lib.hid h
  obtain ⟨p0, p1, p2, p3⟩ := h.c
  obtain ⟨K, hK⟩ : ∃ K, K = u.k := ⟨_, rfl⟩
  have HK := Lib.hid hK
  rw [← hK] at p0
  rw [← hK]
  clear hh h hK
  by_cases h3 : K = 3
  · have hl0 : 0 < u.ks.length := by have := HL.out.1 (by rw [← HK.out, h3]; decide); omega
    obtain ⟨bk, ok, ha, x⟩ := kid_zero A.out hl0
    rw [ha] at p3
    rw [nd_one hl0]
    obtain ⟨x0, x1, x2, x3⟩ := x.c
    obtain ⟨K0, hK0⟩ : ∃ K, K = u.ks[0].k := ⟨_, rfl⟩
    rw [← hK0] at x0
    rw [← hK0]
    have ix0 : (0 : Int) < u.ks.length := by omega
    clear hK0 ha x1 x2 x3 x
    subst h3
    by_cases a2 : K0 = 2
    · subst a2
      have KO := Lib.hid (oneIf_of true 1 rfl w)
      go_enter Tryd.func118, Tryd.ntmps118
      go_wp2_with fail
      refine KO.out.mono ?_
      rintro e w0 ⟨rfl, rfl⟩
      go_wp2_with fail
      go_ret
      exact ⟨ret_int (by simp [ndF]), rfl⟩
    · have n2 : (K0 == 2) = false := by simpa using a2
      have F := Lib.hid (show ndF 3 K0 = 0 by simp [ndF, a2])
      have KO := Lib.hid (oneIf_of false 0 rfl w)
      clear a2
      go_enter Tryd.func118, Tryd.ntmps118
      go_wp2_with fail
      refine KO.out.mono ?_
      rintro e w0 ⟨rfl, rfl⟩
      go_wp2_with fail
      go_ret
      exact ⟨ret_int (by rw [F.out]), rfl⟩
  obtain ⟨K0, hK0⟩ : ∃ K, K = (u.co.ks.getD 0 default).k := ⟨_, rfl⟩
  rw [← hK0]
  clear hK0
  by_cases h5 : K = 5
  · subst h5
    go_enter Tryd.func118, Tryd.ntmps118
    go_wp2_with fail
    go_ret
    exact ⟨ret_int (by simp [ndF]), rfl⟩
  by_cases h9 : K = 9
  · subst h9
    go_enter Tryd.func118, Tryd.ntmps118
    go_wp2_with fail
    go_ret
    exact ⟨ret_int (by simp [ndF]), rfl⟩
  by_cases h10 : K = 10
  · subst h10
    go_enter Tryd.func118, Tryd.ntmps118
    go_wp2_with fail
    go_ret
    exact ⟨ret_int (by simp [ndF]), rfl⟩
  have F := Lib.hid (show ndF K K0 = -1 by simp [ndF, h5, h3, h9, h10])
  have n5 : (K == 5) = false := by simpa using h5
  have n3 : (K == 3) = false := by simpa using h3
  have n9 : (K == 9) = false := by simpa using h9
  have n10 : (K == 10) = false := by simpa using h10
  clear h5 h3 h9 h10
  go_enter Tryd.func118, Tryd.ntmps118
  go_wp2_with fail
  go_ret
  exact ⟨ret_int F.out.symm, rfl⟩

set_option maxRecDepth 100000 in
set_option maxHeartbeats 2000000 in
theorem impl_redexKind (u : LK) (w : World) (b o : Nat) (h : coAt w b o u) (hh : headC u.k u.v u.ds u.ks.length = true) (hk : ∀ i (hi : i < u.ks.length), headC u.ks[i].k u.ks[i].v u.ks[i].ds u.ks[i].ks.length = true) : Calls Tryd.prog 88 #[.pointer (some ⟨b, o, none⟩)] w fun e w' => e = .returned (.int .i64 u.co.rd) ∧ Gw w w' := by
  have HL := Lib.hid (rd_len hh)
  have HV := Lib.hid (show ∀ (hl : 0 < u.ks.length), u.ks[0].k = 8 → 0 ≤ u.ks[0].v from fun hl => (rd_len (hk 0 hl)).2.2)
  have A := Lib.hid h
  have hdl := h.2.dl
  obtain ⟨p0, p1, p2, p3⟩ := h.c
  obtain ⟨K, hK⟩ : ∃ K, K = u.k := ⟨_, rfl⟩
  have HK := Lib.hid hK
  rw [← hK] at p0
  have NK := Lib.hid (impl_needed u w b o h hh)
  clear hh hk h hK

  by_cases h5 : K = 5
  · have hl0 : 0 < u.ks.length := by have := HL.out.1 (by rw [← HK.out, h5]; decide); omega
    have hl1 : 1 < u.ks.length := HL.out.1 (by rw [← HK.out, h5]; decide)
    obtain ⟨bk, ok, ha, x⟩ := kid_zero A.out hl0
    have X0 := Lib.hid x
    have HA := Lib.hid ha
    have y := kid_one A.out hl1 ha
    have RD0 := rd_two u hl1
    rw [ha] at p3
    have HVV := HV.out hl0
    obtain ⟨z, hz⟩ : ∃ z, z = u.ks[0] := ⟨_, rfl⟩
    rw [← hz] at x X0 RD0 HVV
    obtain ⟨x0, x1, x2, x3⟩ := x.c
    obtain ⟨K0, hK0⟩ : ∃ K, K = z.k := ⟨_, rfl⟩
    obtain ⟨V0, hV0⟩ : ∃ K, K = z.v := ⟨_, rfl⟩
    have HK0 := Lib.hid hK0
    have HV0 := Lib.hid hV0
    rw [← hK0] at x0 RD0 HVV
    rw [← hV0] at x1 RD0 HVV
    rw [← HK.out] at RD0
    rw [← HK.out, nd_one hl0, ← hz, ← hK0] at NK
    obtain ⟨zy, hzy⟩ : ∃ z, z = u.ks[1] := ⟨_, rfl⟩
    rw [← hzy] at y RD0
    have Y0 := Lib.hid y
    obtain ⟨y0, y1, y2, y3⟩ := y.c
    obtain ⟨K1, hK1⟩ : ∃ K, K = zy.k := ⟨_, rfl⟩
    rw [← hK1] at y0 RD0
    clear hK1 y hzy
    have RD := Lib.hid RD0
    have ix0 : (0 : Int) < u.ks.length := by omega
    have ix1 : (1 : Int) < u.ks.length := by omega
    clear hK0 hV0 x ha RD0 hz hl0 hl1
    subst h5
    by_cases a11 : K0 = 11
    · subst a11
      have F := Lib.hid (show u.co.rd = 4 by rw [RD.out]; unfold rdF; simp)
      rw [show ndF 5 11 = 0 by simp [ndF]] at NK
      go_enter Tryd.func88, Tryd.ntmps88
      go_wp2_with fail
      refine NK.out.mono ?_
      rintro e w0 ⟨rfl, rfl⟩
      go_wp2_with fail
      go_ret
      exact ⟨ret_int F.out.symm, Gw.refl _⟩
    by_cases a4 : K0 = 4
    · subst a4
      have F := Lib.hid (show u.co.rd = 1 by rw [RD.out]; unfold rdF; simp)
      rw [show ndF 5 4 = 0 by simp [ndF]] at NK
      go_enter Tryd.func88, Tryd.ntmps88
      go_wp2_with fail
      refine NK.out.mono ?_
      rintro e w0 ⟨rfl, rfl⟩
      go_wp2_with fail
      go_ret
      exact ⟨ret_int F.out.symm, Gw.refl _⟩
    have n4 : (K0 == 4) = false := by simpa using a4
    have n11 : (K0 == 11) = false := by simpa using a11
    have F := Lib.hid (show u.co.rd = 0 by rw [RD.out]; unfold rdF; simp[a4, a11])
    rw [show ndF 5 K0 = 0 by simp [ndF]] at NK
    go_enter Tryd.func88, Tryd.ntmps88
    go_wp2_with fail
    refine NK.out.mono ?_
    rintro e w0 ⟨rfl, rfl⟩
    go_wp2_with fail
    go_quiet (fail)
    have gq := gw_dN w0 nq
    have A2 := Lib.hid (A.out.grow gq)
    have X2 := Lib.hid (X0.out.grow gq)
    have GQ := Lib.hid gq
    clear p0 p1 p2 p3 x0 x1 x2 x3 gq
    generalize w0.drewN nq = w2 at *
    obtain ⟨p0, p1, p2, p3⟩ := A2.out.c
    obtain ⟨x0, x1, x2, x3⟩ := X2.out.c
    rw [← HK.out] at p0
    rw [HA.out] at p3
    rw [← HK0.out] at x0
    rw [← HV0.out] at x1
    go_wp2_with fail
    go_ret
    exact ⟨ret_int F.out.symm, GQ.out⟩
  by_cases h3 : K = 3
  · have hl0 : 0 < u.ks.length := by have := HL.out.1 (by rw [← HK.out, h3]; decide); omega
    have hl1 : 1 < u.ks.length := HL.out.1 (by rw [← HK.out, h3]; decide)
    obtain ⟨bk, ok, ha, x⟩ := kid_zero A.out hl0
    have X0 := Lib.hid x
    have HA := Lib.hid ha
    have y := kid_one A.out hl1 ha
    have RD0 := rd_two u hl1
    rw [ha] at p3
    have HVV := HV.out hl0
    obtain ⟨z, hz⟩ : ∃ z, z = u.ks[0] := ⟨_, rfl⟩
    rw [← hz] at x X0 RD0 HVV
    obtain ⟨x0, x1, x2, x3⟩ := x.c
    obtain ⟨K0, hK0⟩ : ∃ K, K = z.k := ⟨_, rfl⟩
    obtain ⟨V0, hV0⟩ : ∃ K, K = z.v := ⟨_, rfl⟩
    have HK0 := Lib.hid hK0
    have HV0 := Lib.hid hV0
    rw [← hK0] at x0 RD0 HVV
    rw [← hV0] at x1 RD0 HVV
    rw [← HK.out] at RD0
    rw [← HK.out, nd_one hl0, ← hz, ← hK0] at NK
    obtain ⟨zy, hzy⟩ : ∃ z, z = u.ks[1] := ⟨_, rfl⟩
    rw [← hzy] at y RD0
    have Y0 := Lib.hid y
    obtain ⟨y0, y1, y2, y3⟩ := y.c
    obtain ⟨K1, hK1⟩ : ∃ K, K = zy.k := ⟨_, rfl⟩
    rw [← hK1] at y0 RD0
    clear hK1 y hzy
    have RD := Lib.hid RD0
    have ix0 : (0 : Int) < u.ks.length := by omega
    have ix1 : (1 : Int) < u.ks.length := by omega
    clear hK0 hV0 x ha RD0 hz hl0 hl1
    subst h3
    by_cases a2 : K0 = 2
    · subst a2
      by_cases c11 : K1 = 11
      · subst c11
        have F := Lib.hid (show u.co.rd = 4 by rw [RD.out]; unfold rdF; simp)
        rw [show ndF 3 2 = 1 by simp [ndF]] at NK
        go_enter Tryd.func88, Tryd.ntmps88
        go_wp2_with fail
        refine NK.out.mono ?_
        rintro e w0 ⟨rfl, rfl⟩
        go_wp2_with fail
        go_ret
        exact ⟨ret_int F.out.symm, Gw.refl _⟩
      by_cases c2 : K1 = 2
      · subst c2
        have F := Lib.hid (show u.co.rd = 2 by rw [RD.out]; unfold rdF; simp)
        rw [show ndF 3 2 = 1 by simp [ndF]] at NK
        go_enter Tryd.func88, Tryd.ntmps88
        go_wp2_with fail
        refine NK.out.mono ?_
        rintro e w0 ⟨rfl, rfl⟩
        go_wp2_with fail
        go_ret
        exact ⟨ret_int F.out.symm, Gw.refl _⟩
      have n2 : (K1 == 2) = false := by simpa using c2
      have n11 : (K1 == 11) = false := by simpa using c11
      have F := Lib.hid (show u.co.rd = 0 by rw [RD.out]; unfold rdF; simp[c2, c11])
      rw [show ndF 3 2 = 1 by simp [ndF]] at NK
      go_enter Tryd.func88, Tryd.ntmps88
      go_wp2_with fail
      refine NK.out.mono ?_
      rintro e w0 ⟨rfl, rfl⟩
      go_wp2_with fail
      go_quiet (fail)
      have gq := gw_dN w0 nq
      have A2 := Lib.hid (A.out.grow gq)
      have X2 := Lib.hid (X0.out.grow gq)
      have GQ := Lib.hid gq
      clear p0 p1 p2 p3 x0 x1 x2 x3 gq
      generalize w0.drewN nq = w2 at *
      obtain ⟨p0, p1, p2, p3⟩ := A2.out.c
      obtain ⟨x0, x1, x2, x3⟩ := X2.out.c
      rw [← HK.out] at p0
      rw [HA.out] at p3
      rw [← HK0.out] at x0
      rw [← HV0.out] at x1
      go_wp2_with fail
      go_ret
      exact ⟨ret_int F.out.symm, GQ.out⟩
    by_cases a11 : K0 = 11
    · subst a11
      have F := Lib.hid (show u.co.rd = 4 by rw [RD.out]; unfold rdF; simp)
      rw [show ndF 3 11 = 0 by simp [ndF]] at NK
      go_enter Tryd.func88, Tryd.ntmps88
      go_wp2_with fail
      refine NK.out.mono ?_
      rintro e w0 ⟨rfl, rfl⟩
      go_wp2_with fail
      go_ret
      exact ⟨ret_int F.out.symm, Gw.refl _⟩
    have n2 : (K0 == 2) = false := by simpa using a2
    have n11 : (K0 == 11) = false := by simpa using a11
    have F := Lib.hid (show u.co.rd = 0 by rw [RD.out]; unfold rdF; simp[a2, a11])
    rw [show ndF 3 K0 = 0 by simp [ndF, a2]] at NK
    go_enter Tryd.func88, Tryd.ntmps88
    go_wp2_with fail
    refine NK.out.mono ?_
    rintro e w0 ⟨rfl, rfl⟩
    go_wp2_with fail
    go_quiet (fail)
    have gq := gw_dN w0 nq
    have A2 := Lib.hid (A.out.grow gq)
    have X2 := Lib.hid (X0.out.grow gq)
    have GQ := Lib.hid gq
    clear p0 p1 p2 p3 x0 x1 x2 x3 gq
    generalize w0.drewN nq = w2 at *
    obtain ⟨p0, p1, p2, p3⟩ := A2.out.c
    obtain ⟨x0, x1, x2, x3⟩ := X2.out.c
    rw [← HK.out] at p0
    rw [HA.out] at p3
    rw [← HK0.out] at x0
    rw [← HV0.out] at x1
    go_wp2_with fail
    go_ret
    exact ⟨ret_int F.out.symm, GQ.out⟩
  by_cases h9 : K = 9
  · have hl0 : 0 < u.ks.length := by have := HL.out.2.1 (by rw [← HK.out, h9]; decide); omega
    obtain ⟨bk, ok, ha, x⟩ := kid_zero A.out hl0
    have X0 := Lib.hid x
    have HA := Lib.hid ha
    have RD0 := rd_one u hl0
    rw [ha] at p3
    have HVV := HV.out hl0
    obtain ⟨z, hz⟩ : ∃ z, z = u.ks[0] := ⟨_, rfl⟩
    rw [← hz] at x X0 RD0 HVV
    obtain ⟨x0, x1, x2, x3⟩ := x.c
    obtain ⟨K0, hK0⟩ : ∃ K, K = z.k := ⟨_, rfl⟩
    obtain ⟨V0, hV0⟩ : ∃ K, K = z.v := ⟨_, rfl⟩
    have HK0 := Lib.hid hK0
    have HV0 := Lib.hid hV0
    rw [← hK0] at x0 RD0 HVV
    rw [← hV0] at x1 RD0 HVV
    rw [← HK.out] at RD0
    rw [← HK.out, nd_one hl0, ← hz, ← hK0] at NK
    obtain ⟨K1, hK1⟩ : ∃ K, K = (u.co.ks.getD 1 default).k := ⟨_, rfl⟩
    rw [← hK1] at RD0
    clear hK1
    have RD := Lib.hid RD0
    have ix0 : (0 : Int) < u.ks.length := by omega
    skip
    clear hK0 hV0 x ha RD0 hz hl0 
    subst h9
    by_cases a11 : K0 = 11
    · subst a11
      have F := Lib.hid (show u.co.rd = 4 by rw [RD.out]; unfold rdF; simp)
      rw [show ndF 9 11 = 0 by simp [ndF]] at NK
      go_enter Tryd.func88, Tryd.ntmps88
      go_wp2_with fail
      refine NK.out.mono ?_
      rintro e w0 ⟨rfl, rfl⟩
      go_wp2_with fail
      go_ret
      exact ⟨ret_int F.out.symm, Gw.refl _⟩
    by_cases a8 : K0 = 8
    · subst a8
      by_cases av : V0 < (u.ds.length : Int)
      · have F := Lib.hid (show u.co.rd = 3 by rw [RD.out]; unfold rdF; simp [av])
        rw [show ndF 9 8 = 0 by simp [ndF]] at NK
        have KIX := impl_isIndex V0 (u.ds.length : Int) w.drew
        rw [show inV V0 0 ((u.ds.length : Int) - 1) = true by unfold inV; exact decide_eq_true (by have := HVV rfl; omega)] at KIX
        have KIXX := Lib.hid KIX
        clear KIX av
        go_enter Tryd.func88, Tryd.ntmps88
        go_wp2_with fail
        refine NK.out.mono ?_
        rintro e w0 ⟨rfl, rfl⟩
        go_wp2_with fail
        go_region_held3 (fun W => W.cell? ⟨b, o, none⟩ = some (.int .i64 9) ∧ W.cell? ⟨b, o + 2, none⟩ = some (.slice u.da u.ds.length u.dc) ∧ W.cell? ⟨bk, ok, none⟩ = some (.int .i64 8) ∧ W.cell? ⟨bk, ok + 1, none⟩ = some (.int .i64 V0))
          (first | exact ⟨p0, p2, x0, x1⟩)
          (first
            | (go_at_call 72; refine KIXX.out.mono ?_; rintro e w3 ⟨rfl, rfl⟩))
        go_wp2_with fail
        go_ret
        exact ⟨ret_int F.out.symm, (Gw.refl _).drew⟩
      · have F := Lib.hid (show u.co.rd = 0 by rw [RD.out]; unfold rdF; simp [av])
        rw [show ndF 9 8 = 0 by simp [ndF]] at NK
        have KIX := impl_isIndex V0 (u.ds.length : Int) w.drew
        rw [show inV V0 0 ((u.ds.length : Int) - 1) = false by unfold inV; exact decide_eq_false (by have := HVV rfl; omega)] at KIX
        have KIXX := Lib.hid KIX
        clear KIX av
        go_enter Tryd.func88, Tryd.ntmps88
        go_wp2_with fail
        refine NK.out.mono ?_
        rintro e w0 ⟨rfl, rfl⟩
        go_wp2_with fail
        go_region_held3 (fun W => W.cell? ⟨b, o, none⟩ = some (.int .i64 9) ∧ W.cell? ⟨b, o + 2, none⟩ = some (.slice u.da u.ds.length u.dc) ∧ W.cell? ⟨bk, ok, none⟩ = some (.int .i64 8) ∧ W.cell? ⟨bk, ok + 1, none⟩ = some (.int .i64 V0))
          (first | exact ⟨p0, p2, x0, x1⟩)
          (first
            | (go_at_call 72; refine KIXX.out.mono ?_; rintro e w3 ⟨rfl, rfl⟩))
        go_wp2_with fail
        go_ret
        exact ⟨ret_int F.out.symm, (Gw.refl _).drew⟩
    have n8 : (K0 == 8) = false := by simpa using a8
    have n11 : (K0 == 11) = false := by simpa using a11
    have F := Lib.hid (show u.co.rd = 0 by rw [RD.out]; unfold rdF; simp[a8, a11])
    rw [show ndF 9 K0 = 0 by simp [ndF]] at NK
    go_enter Tryd.func88, Tryd.ntmps88
    go_wp2_with fail
    refine NK.out.mono ?_
    rintro e w0 ⟨rfl, rfl⟩
    go_wp2_with fail
    go_quiet (fail)
    have gq := gw_dN w0 nq
    have A2 := Lib.hid (A.out.grow gq)
    have X2 := Lib.hid (X0.out.grow gq)
    have GQ := Lib.hid gq
    clear p0 p1 p2 p3 x0 x1 x2 x3 gq
    generalize w0.drewN nq = w2 at *
    obtain ⟨p0, p1, p2, p3⟩ := A2.out.c
    obtain ⟨x0, x1, x2, x3⟩ := X2.out.c
    rw [← HK.out] at p0
    rw [HA.out] at p3
    rw [← HK0.out] at x0
    rw [← HV0.out] at x1
    go_wp2_with fail
    go_ret
    exact ⟨ret_int F.out.symm, GQ.out⟩
  by_cases h10 : K = 10
  · have hl0 : 0 < u.ks.length := by have := HL.out.2.1 (by rw [← HK.out, h10]; decide); omega
    obtain ⟨bk, ok, ha, x⟩ := kid_zero A.out hl0
    have X0 := Lib.hid x
    have HA := Lib.hid ha
    have RD0 := rd_one u hl0
    rw [ha] at p3
    have HVV := HV.out hl0
    obtain ⟨z, hz⟩ : ∃ z, z = u.ks[0] := ⟨_, rfl⟩
    rw [← hz] at x X0 RD0 HVV
    obtain ⟨x0, x1, x2, x3⟩ := x.c
    obtain ⟨K0, hK0⟩ : ∃ K, K = z.k := ⟨_, rfl⟩
    obtain ⟨V0, hV0⟩ : ∃ K, K = z.v := ⟨_, rfl⟩
    have HK0 := Lib.hid hK0
    have HV0 := Lib.hid hV0
    rw [← hK0] at x0 RD0 HVV
    rw [← hV0] at x1 RD0 HVV
    rw [← HK.out] at RD0
    rw [← HK.out, nd_one hl0, ← hz, ← hK0] at NK
    obtain ⟨K1, hK1⟩ : ∃ K, K = (u.co.ks.getD 1 default).k := ⟨_, rfl⟩
    rw [← hK1] at RD0
    clear hK1
    have RD := Lib.hid RD0
    have ix0 : (0 : Int) < u.ks.length := by omega
    skip
    clear hK0 hV0 x ha RD0 hz hl0 
    subst h10
    by_cases a11 : K0 = 11
    · subst a11
      have F := Lib.hid (show u.co.rd = 4 by rw [RD.out]; unfold rdF; simp)
      rw [show ndF 10 11 = 0 by simp [ndF]] at NK
      go_enter Tryd.func88, Tryd.ntmps88
      go_wp2_with fail
      refine NK.out.mono ?_
      rintro e w0 ⟨rfl, rfl⟩
      go_wp2_with fail
      go_ret
      exact ⟨ret_int F.out.symm, Gw.refl _⟩
    by_cases a2 : K0 = 2
    · subst a2
      have F := Lib.hid (show u.co.rd = 3 by rw [RD.out]; unfold rdF; simp)
      rw [show ndF 10 2 = 0 by simp [ndF]] at NK
      go_enter Tryd.func88, Tryd.ntmps88
      go_wp2_with fail
      refine NK.out.mono ?_
      rintro e w0 ⟨rfl, rfl⟩
      go_wp2_with fail
      go_quiet (fail)
      have gq := gw_dN w0 nq
      have A2 := Lib.hid (A.out.grow gq)
      have X2 := Lib.hid (X0.out.grow gq)
      have GQ := Lib.hid gq
      clear p0 p1 p2 p3 x0 x1 x2 x3 gq
      generalize w0.drewN nq = w2 at *
      obtain ⟨p0, p1, p2, p3⟩ := A2.out.c
      obtain ⟨x0, x1, x2, x3⟩ := X2.out.c
      rw [← HK.out] at p0
      rw [HA.out] at p3
      rw [← HK0.out] at x0
      rw [← HV0.out] at x1
      go_wp2_with fail
      go_ret
      exact ⟨ret_int F.out.symm, GQ.out⟩
    have n2 : (K0 == 2) = false := by simpa using a2
    have n11 : (K0 == 11) = false := by simpa using a11
    have F := Lib.hid (show u.co.rd = 0 by rw [RD.out]; unfold rdF; simp[a2, a11])
    rw [show ndF 10 K0 = 0 by simp [ndF]] at NK
    go_enter Tryd.func88, Tryd.ntmps88
    go_wp2_with fail
    refine NK.out.mono ?_
    rintro e w0 ⟨rfl, rfl⟩
    go_wp2_with fail
    go_quiet (fail)
    have gq := gw_dN w0 nq
    have A2 := Lib.hid (A.out.grow gq)
    have X2 := Lib.hid (X0.out.grow gq)
    have GQ := Lib.hid gq
    clear p0 p1 p2 p3 x0 x1 x2 x3 gq
    generalize w0.drewN nq = w2 at *
    obtain ⟨p0, p1, p2, p3⟩ := A2.out.c
    obtain ⟨x0, x1, x2, x3⟩ := X2.out.c
    rw [← HK.out] at p0
    rw [HA.out] at p3
    rw [← HK0.out] at x0
    rw [← HV0.out] at x1
    go_wp2_with fail
    go_ret
    exact ⟨ret_int F.out.symm, GQ.out⟩
  have F := Lib.hid (rd_no u (by rw [← HK.out]; exact h5) (by rw [← HK.out]; exact h3) (by rw [← HK.out]; exact h9) (by rw [← HK.out]; exact h10))
  rw [← HK.out, show ndF K (u.co.ks.getD 0 default).k = -1 by simp [ndF, h5, h3, h9, h10]] at NK
  clear h5 h3 h9 h10
  go_enter Tryd.func88, Tryd.ntmps88
  go_wp2_with fail
  refine NK.out.mono ?_
  rintro e w0 ⟨rfl, rfl⟩
  go_wp2_with fail
  go_ret
  exact ⟨ret_int F.out.symm, Gw.refl _⟩

end Go.Proofs.YtfbgkbgoooepmaaDoor.Con
