/-
  Contract of the model's l03Nodes: how many nodes a valid term has, or -1. No condition but that the term lies in memory.
-/
import Derived.Test.YtkfplnnncfkjfaaDoorTmFld
import Derived.StillTailTactics
namespace Go.Proofs.YtkfplnnncfkjfaaDoor.Con
open Go.RowKit
set_option linter.unusedVariables false

theorem kids_kind {k : Int} {l : Nat} (h : inI l (kidsLo k) (kidsHi k) = true) : 1 ≤ k ∧ k ≤ 11 := by
  unfold inI at h
  simp only [Bool.and_eq_true, decide_eq_true_eq] at h
  have h2 : 0 ≤ kidsHi k := by omega
  unfold kidsHi at h2
  split at h2
  · omega
  split at h2
  · omega
  split at h2
  · omega
  split at h2
  · omega
  split at h2
  · omega
  · omega
theorem ndM_no {t : Tm} {c : Bool} {d l : Nat} (h : ¬ goodM t c d l) : ndM t c d l = -1 := if_neg h
theorem ndM_yes {t : Tm} {c : Bool} {d l : Nat} (h : goodM t c d l) : ndM t c d l = t.nn := if_pos h

def KidsOk (u : LM) (d j : Nat) : Prop := ∀ i (hi : i < u.ks.length), i < j → u.ks[i].tm.ok (flg u.k i) = true ∧ u.ks[i].tm.dp ≤ d - 1
def nsum (u : LM) (j : Nat) : Nat := 1 + nns ((u.ks.map LM.tm).take j)
theorem nsum_succ (u : LM) (j : Nat) (hj : j < u.ks.length) : nsum u (j + 1) = nsum u j + u.ks[j].tm.nn := by
  unfold nsum
  rw [nns_take _ _ (by simpa using hj)]
  simp only [List.getElem_map]
  omega
theorem nsum_all (u : LM) : nsum u u.ks.length = u.tm.nn := by
  unfold nsum
  rw [nn_eq, LM.tm_ks, List.take_of_length_le (by simp)]
theorem kid_no {u : LM} {c : Bool} {d l j : Nat} (hj : j < u.ks.length) (h : ¬ goodM u.ks[j].tm (flg u.k j) (d - 1) (l - nsum u j)) : ¬ goodM u.tm c d l := fun g => h (by
  have := good_kid g j (by rw [u.tm_len]; exact hj)
  rw [u.tm_kid j hj] at this
  simp only [LM.tm_k, LM.tm_ks] at this
  exact this)
theorem kid_all {u : LM} {c : Bool} {d l : Nat} (h0 : ((u.k == 10) == c) = true) (h1 : headM u.k u.m u.n u.t.ty u.ns u.ks.length = true) (hd : 1 ≤ d) (hl : nsum u u.ks.length ≤ l) (h : KidsOk u d u.ks.length) : goodM u.tm c d l := by
  refine good_all (by rw [LM.tm_k]; exact h0) (by rw [LM.tm_k, LM.tm_m, LM.tm_n, LM.tm_t, LM.tm_ns, LM.tm_len]; exact h1) hd ?_ fun i hi => ?_
  · have := nsum_all u
    rw [nn_eq] at this
    omega
  · rw [LM.tm_len] at hi
    rw [u.tm_kid i hi, LM.tm_k]
    exact h i hi hi

def NdC (u : LM) : Prop := ∀ (w : World) (b o d l : Nat) (c : Bool), d ≤ 24 → l ≤ 160 → tmAt w b o u → Calls Tryd.prog 71 #[.pointer (some ⟨b, o, none⟩), .int .i64 d, .bool c, .int .i64 l] w (IntGw (ndM u.tm c d l) w)

theorem nd_head1 (u : LM) (w : World) (b o d l : Nat) (c : Bool) (hd : d ≤ 24) (hl : l ≤ 160) (h : tmAt w b o u) (hb : d < 1 ∨ l < 1) : Calls Tryd.prog 71 #[.pointer (some ⟨b, o, none⟩), .int .i64 d, .bool c, .int .i64 l] w (IntGw (ndM u.tm c d l) w) := by
  have F := Lib.hid (ndM_no (ndM_no3 (t := u.tm) (c := c) hb))
  obtain ⟨p0, p1, p2, p3, p4, p5, p6, p7⟩ := h.c
  clear h
  by_cases h1 : d < 1
  · have q1 : (d : Int) < 1 := by omega
    clear hb
    go_enter Tryd.func71, Tryd.ntmps71
    go_wp2_with fail
    refine (spec_kids u.k _).mono ?_
    rintro e w1 ⟨rfl, rfl⟩
    go_wp2_with fail
    go_ret
    exact ⟨ret_int F.out.symm, Gw.refl _⟩
  · have q1 : ¬ (d : Int) < 1 := by omega
    have q2 : (l : Int) < 1 := by omega
    clear hb h1
    go_enter Tryd.func71, Tryd.ntmps71
    go_wp2_with fail
    refine (spec_kids u.k _).mono ?_
    rintro e w1 ⟨rfl, rfl⟩
    go_wp2_with fail
    go_ret
    exact ⟨ret_int F.out.symm, Gw.refl _⟩

theorem nd_head2 (u : LM) (w : World) (b o d l : Nat) (c : Bool) (hd : d ≤ 24) (hl : l ≤ 160) (h : tmAt w b o u) (h1 : 1 ≤ d) (h2 : 1 ≤ l) (hb : ((u.k == 10) == c) = false) : Calls Tryd.prog 71 #[.pointer (some ⟨b, o, none⟩), .int .i64 d, .bool c, .int .i64 l] w (IntGw (ndM u.tm c d l) w) := by
  have F := Lib.hid (ndM_no (ndM_no1 (t := u.tm) (c := c) (d := d) (l := l) (by rw [LM.tm_k]; exact hb)))
  obtain ⟨p0, p1, p2, p3, p4, p5, p6, p7⟩ := h.c
  have q1 : ¬ (d : Int) < 1 := by omega
  have q2 : ¬ (l : Int) < 1 := by omega
  clear h
  cases c with
  | true =>
    have q3 : (u.k == 10) = false := by simpa using hb
    clear hb
    go_enter Tryd.func71, Tryd.ntmps71
    go_wp2_with fail
    refine (spec_kids u.k _).mono ?_
    rintro e w1 ⟨rfl, rfl⟩
    go_wp2_with fail
    go_ret
    exact ⟨ret_int F.out.symm, Gw.refl _⟩
  | false =>
    have q3 : (u.k == 10) = true := by simpa using hb
    clear hb
    go_enter Tryd.func71, Tryd.ntmps71
    go_wp2_with fail
    refine (spec_kids u.k _).mono ?_
    rintro e w1 ⟨rfl, rfl⟩
    go_wp2_with fail
    go_ret
    exact ⟨ret_int F.out.symm, Gw.refl _⟩

set_option maxRecDepth 100000 in
set_option maxHeartbeats 2000000 in
theorem nd_body (u : LM) (ih : ∀ t ∈ u.ks, NdC t) (w : World) (b o d l : Nat) (c : Bool) (hd : d ≤ 24) (hl : l ≤ 160) (h : tmAt w b o u) (h1 : 1 ≤ d) (h2 : 1 ≤ l) (q3 : (u.k == 10) = c) : Calls Tryd.prog 71 #[.pointer (some ⟨b, o, none⟩), .int .i64 d, .bool c, .int .i64 l] w (IntGw (ndM u.tm c d l) w) := by
  have hlen : u.ks.length ≤ 9223372036854775807 := Nat.le_trans h.2.kids.1 h.2.kids.2.1
  obtain ⟨p0, p1, p2, p3, p4, p5, p6, p7⟩ := h.c
  have A := Lib.hid h
  have q1 : ¬ (d : Int) < 1 := by omega
  have q2 : ¬ (l : Int) < 1 := by omega
  have Q3 := Lib.hid q3
  have Q0 := Lib.hid (show ((u.k == 10) == c) = true by rw [q3]; simp)
  clear h
  go_enter Tryd.func71, Tryd.ntmps71
  go_wp2_with fail
  refine (spec_kids u.k _).mono ?_
  rintro e w1 ⟨rfl, rfl⟩
  obtain ⟨lo, hlo⟩ : ∃ x, x = kidsLo u.k := ⟨_, rfl⟩
  obtain ⟨hi, hhi⟩ : ∃ x, x = kidsHi u.k := ⟨_, rfl⟩
  rw [← hlo, ← hhi]
  have HLO := Lib.hid hlo
  have HHI := Lib.hid hhi
  clear hlo hhi
  have hcc : (c != c) = false := by simp
  go_wp2_with fail
  refine (spec_inI u.ks.length lo hi _).mono ?_
  rintro e w1 ⟨rfl, g1⟩
  have A1 := Lib.hid (A.out.grow g1)
  have G1 := Lib.hid g1
  clear p0 p1 p2 p3 p4 p5 p6 p7 g1
  obtain ⟨p0, p1, p2, p3, p4, p5, p6, p7⟩ := A1.out.c
  cases hI : inI u.ks.length lo hi with
  | false =>
    have F := Lib.hid (ndM_no (ndM_no2 (t := u.tm) (c := c) (d := d) (l := l) (by rw [LM.tm_k, LM.tm_len]; unfold headM; rw [← HLO.out, ← HHI.out, hI]; rfl)))
    clear hI
    go_wp2_with fail
    go_ret
    exact ⟨ret_int F.out.symm, G1.out⟩
  | true =>
    have HI := Lib.hid hI
    obtain ⟨k1, k2⟩ := kids_kind (k := u.k) (l := u.ks.length) (by rw [← HLO.out, ← HHI.out]; exact hI)
    have K1 := Lib.hid k1
    have K2 := Lib.hid k2
    clear hI k1 k2
    go_wp2_with fail
    refine (spec_fld u _ b o K1.out K2.out A1.out).mono ?_
    rintro e w2 ⟨rfl, g2⟩
    have A2 := Lib.hid (A1.out.grow g2)
    have G2 := Lib.hid (G1.out.trans g2)
    clear p0 p1 p2 p3 p4 p5 p6 p7 g2
    obtain ⟨p0, p1, p2, p3, p4, p5, p6, p7⟩ := A2.out.c
    cases hF : fldM u.k u.m u.n u.t.ty u.ns with
    | false =>
      have F := Lib.hid (ndM_no (ndM_no2 (t := u.tm) (c := c) (d := d) (l := l) (by rw [LM.tm_k, LM.tm_m, LM.tm_n, LM.tm_t, LM.tm_ns]; unfold headM; rw [hF]; simp)))
      clear hF
      go_wp2_with fail
      go_ret
      exact ⟨ret_int F.out.symm, G2.out⟩
    | true =>
      have HH := Lib.hid (show headM u.k u.m u.n u.t.ty u.ns u.ks.length = true by unfold headM; rw [hF, ← HLO.out, ← HHI.out, HI.out]; rfl)
      clear hF
      go_wp2_with fail
      clear p0 p1 p2 p3 p4 p5 p6 p7 hcc
      go_loopw [11, 12] (fun n i wr => ∃ j : Nat, j ≤ u.ks.length ∧ i = .int .i64 j ∧ n = .int .i64 (nsum u j : Nat) ∧ nsum u j ≤ l ∧ Gw w2 wr ∧ KidsOk u d j) (fun _ i _ => u.ks.length - (intOf i).toNat)
      case atStart => exact ⟨0, Nat.zero_le _, rfl, rfl, by simpa [nsum, nns, Tm.nn.nns] using h2, Gw.refl _, fun i _ h => absurd h (by omega)⟩
      case round =>
        obtain ⟨j, hj, rfl, rfl, hle, hg, hall⟩ := hrel
        have HALL := Lib.hid hall
        have HG := Lib.hid hg
        have A3 := Lib.hid (A2.out.grow hg)
        clear hall hg
        obtain ⟨p0, p1, p2, p3, p4, p5, p6, p7⟩ := A3.out.c
        by_cases hlt : j < u.ks.length
        · obtain ⟨bk, ok, ha, hkid⟩ := tmAt.kid A3.out.2.kids j hlt
          rw [ha] at p7
          have r0 : (0 : Int) ≤ j := by omega
          have r1 : (j : Int) < u.ks.length := by omega
          have KID := Lib.hid hkid
          have HNS := Lib.hid (nsum_succ u j hlt)
          have e1 : (d : Int) - 1 = ((d - 1 : Nat) : Int) := by omega
          have e2 : (l : Int) - (nsum u j : Nat) = ((l - nsum u j : Nat) : Int) := by omega
          have E1 := Lib.hid e1
          have E2 := Lib.hid e2
          clear ha hkid e1 e2
          have key : ∀ c', c' = flg u.k j → Calls Tryd.prog 71 #[.pointer (some ⟨bk, ok + j * 8, none⟩), .int .i64 ((d : Int) - 1), .bool c', .int .i64 ((l : Int) - (nsum u j : Nat))] wr.drew (IntGw (ndM u.ks[j].tm (flg u.k j) (d - 1) (l - nsum u j)) wr.drew) := fun c' hc => by
            rw [E1.out, hc, E2.out]
            exact ih u.ks[j] (List.getElem_mem hlt) wr.drew bk (ok + j * 8) (d - 1) (l - nsum u j) (flg u.k j) (by omega) (by omega) (KID.out.grow (Gw.refl wr).drew)
          have KEY := Lib.hid key
          clear key
          cases h9 : (u.k == 9) with
          | false =>
            have C := Lib.hid (show false = flg u.k j by unfold flg; rw [h9]; rfl)
            go_wp2_with fail
            go_still_tail 20, (by kernel_rfl)
            change wpList _ _ _ _ _ wr.drew
            go_wp2_with fail
            refine (KEY.out _ (by exact C.out)).mono ?_
            rintro e w3 ⟨rfl, g3⟩
            have G3 := Lib.hid (HG.out.trans ((Gw.refl wr).drew.trans g3))
            clear g3 KEY p0 p1 p2 p3 p4 p5 p6 p7
            by_cases hgood : goodM u.ks[j].tm (flg u.k j) (d - 1) (l - nsum u j)
            · have hnn : u.ks[j].tm.nn ≤ l - nsum u j := hgood.2.2
              rw [ndM_yes hgood]
              have GOOD := Lib.hid hgood
              have q5 : ¬ ((u.ks[j].tm.nn : Int) < 0) := by omega
              have q6 : (nsum u j : Int) + u.ks[j].tm.nn ≤ 160 := by omega
              clear hgood
              go_wp2_with fail
              go_roundw
              case rel =>
                refine ⟨j + 1, by omega, by go_num, by have := HNS.out; congr 1; omega, by have := HNS.out; omega, G3.out, fun i hx hi => ?_⟩
                by_cases e : i = j
                · subst e; exact ⟨GOOD.out.1, GOOD.out.2.1⟩
                · exact HALL.out i hx (by omega)
              case measure => simp [intOf]; omega
            · rw [ndM_no hgood]
              have F := Lib.hid (ndM_no (kid_no (c := c) hlt hgood))
              clear hgood
              go_wp2_with fail
              go_ret
              exact ⟨ret_int F.out.symm, G2.out.trans G3.out⟩
          | true =>
            have C := Lib.hid (show decide (0 < j) = flg u.k j by unfold flg; rw [h9]; simp)
            go_wp2_with fail
            go_still_tail 20, (by kernel_rfl)
            change wpList _ _ _ _ _ wr.drew
            go_wp2_with fail
            refine (KEY.out _ (by exact C.out)).mono ?_
            rintro e w3 ⟨rfl, g3⟩
            have G3 := Lib.hid (HG.out.trans ((Gw.refl wr).drew.trans g3))
            clear g3 KEY p0 p1 p2 p3 p4 p5 p6 p7
            by_cases hgood : goodM u.ks[j].tm (flg u.k j) (d - 1) (l - nsum u j)
            · have hnn : u.ks[j].tm.nn ≤ l - nsum u j := hgood.2.2
              rw [ndM_yes hgood]
              have GOOD := Lib.hid hgood
              have q5 : ¬ ((u.ks[j].tm.nn : Int) < 0) := by omega
              have q6 : (nsum u j : Int) + u.ks[j].tm.nn ≤ 160 := by omega
              clear hgood
              go_wp2_with fail
              go_roundw
              case rel =>
                refine ⟨j + 1, by omega, by go_num, by have := HNS.out; congr 1; omega, by have := HNS.out; omega, G3.out, fun i hx hi => ?_⟩
                by_cases e : i = j
                · subst e; exact ⟨GOOD.out.1, GOOD.out.2.1⟩
                · exact HALL.out i hx (by omega)
              case measure => simp [intOf]; omega
            · rw [ndM_no hgood]
              have F := Lib.hid (ndM_no (kid_no (c := c) hlt hgood))
              clear hgood
              go_wp2_with fail
              go_ret
              exact ⟨ret_int F.out.symm, G2.out.trans G3.out⟩
        · obtain rfl : j = u.ks.length := by omega
          have F := Lib.hid (ndM_yes (kid_all (c := c) Q0.out HH.out h1 hle HALL.out))
          have FN := Lib.hid (nsum_all u)
          go_wp2_with fail
          go_ret
          exact ⟨ret_int (by rw [F.out, FN.out]), G2.out.trans HG.out⟩

theorem nd_all (u : LM) : NdC u := by
  refine LM.ind (P := NdC) (fun k m n t na nc ns a cap ks ih => ?_) u
  intro w b o d l c hd hl h
  by_cases hb : d < 1 ∨ l < 1
  · exact nd_head1 _ w b o d l c hd hl h hb
  · cases hc : (((LM.mk k m n t na nc ns a cap ks).k == 10) == c) with
    | false => exact nd_head2 _ w b o d l c hd hl h (by omega) (by omega) hc
    | true => exact nd_body (.mk k m n t na nc ns a cap ks) ih w b o d l c hd hl h (by omega) (by omega) (by simpa using hc)

theorem spec_l03Ok (u : LM) (w : World) (b o : Nat) (h : tmAt w b o u) : Calls Tryd.prog 38 #[.pointer (some ⟨b, o, none⟩)] w (BoolGw (okT u.tm) w) := by
  have key := nd_all u w b o 24 160 false (Nat.le_refl _) (Nat.le_refl _) h
  have KEY := Lib.hid key
  clear key h
  go_enter Tryd.func38, Tryd.ntmps38
  go_wp2_with fail
  refine KEY.out.mono ?_
  rintro e w1 ⟨rfl, g1⟩
  by_cases hg : goodM u.tm false 24 160
  · rw [ndM_yes hg]
    have hp := nn_pos u.tm
    have F := Lib.hid (show okT u.tm = true from decide_eq_true hg)
    have q : (0 : Int) < u.tm.nn := by omega
    clear hg
    go_wp2_with fail
    go_ret
    exact ⟨ret_b (by rw [F.out]; simp; omega), g1⟩
  · rw [ndM_no hg]
    have F := Lib.hid (show okT u.tm = false from decide_eq_false hg)
    clear hg
    go_wp2_with fail
    go_ret
    exact ⟨ret_b (by rw [F.out]), g1⟩

theorem tmAt.new {w : World} {u : LM} {e : TypeId} (h : u.Ok w) : tmAt (w.alloc (.cells #[.int .i64 u.k, .int .i64 u.m, .string u.n, .int .i64 u.t.k, .string u.t.n, .slice u.t.a u.t.ks.length u.t.cap, .slice u.na u.ns.length u.nc, .slice u.a u.ks.length u.cap] e)) w.heap.size 0 u := by
  refine ⟨fun j v hv => ?_, h.grow ((Gw.refl w).alloc _)⟩
  rw [cell_of_row _ _ _ _ _ _ (heap_alloc_new w _), Nat.zero_add]
  have : (#[.int .i64 u.k, .int .i64 u.m, .string u.n, .int .i64 u.t.k, .string u.t.n, .slice u.t.a u.t.ks.length u.t.cap, .slice u.na u.ns.length u.nc, .slice u.a u.ks.length u.cap] : Array Value).toList = tmE u := rfl
  rw [← Array.getElem?_toList, this]
  exact hv

theorem szT_no {t : Tm} (h : okT t = false) : szT t = 0 := by unfold szT; rw [h]; rfl
theorem szT_yes {t : Tm} (h : okT t = true) : szT t = t.nn := by unfold szT; rw [h]; rfl
theorem okT_good {t : Tm} (h : okT t = true) : goodM t false 24 160 := of_decide_eq_true h

end Go.Proofs.YtkfplnnncfkjfaaDoor.Con
