/-
  When a core term is stratified, as a function on terms without addresses; contracts of the model's l06All, l06Stratified and IsStratified. Condition: the core term lies in memory.
-/
import Derived.Test.YtfbgkbgoooepmaaDoorCoLv
namespace Go.Proofs.YtfbgkbgoooepmaaDoor.Con
open Go.RowKit
set_option linter.unusedVariables false
attribute [local go_sem] Oper.semAt_some

def eqsB (L : List Int) (n : Int) : Bool := L.all fun x => x == n
/-- The levels of the occurrences of the variable that kid j of a node at level lv binds. -/
def lvB (t : Co) (j lv : Nat) : List Int := lvC (t.ks.getD j default) 0 0 lv
def stH (t : Co) (lv : Nat) : Bool := decide (lv ≤ 8) && (if t.k = 4 then decide ((lvB t 0 lv).length ≤ 1) && eqsB (lvB t 0 lv) lv else if t.k = 7 then eqsB (lvB t 1 lv) lv || eqsB (lvB t 1 lv) (lv + 1) else true)
def Co.str : Co → Nat → Bool
  | .mk k v ds ks, lv => stH (.mk k v ds ks) lv && strs ks (lv + bxK k)
where strs : List Co → Nat → Bool
  | [], _ => true
  | t :: ts, lv => t.str lv && strs ts lv
theorem str_eq (t : Co) (lv : Nat) : t.str lv = (stH t lv && Co.str.strs t.ks (lv + bxK t.k)) := by cases t; rw [Co.str]; rfl
theorem strs_iff (lv : Nat) : ∀ ks : List Co, Co.str.strs ks lv = true ↔ ∀ t ∈ ks, t.str lv = true
  | [] => by rw [Co.str.strs]; simp
  | t :: ts => by rw [Co.str.strs, Bool.and_eq_true, strs_iff lv ts]; simp
theorem strs_bad {ks : List Co} {lv j : Nat} (hj : j < ks.length) (h : ks[j].str lv = false) : Co.str.strs ks lv = false := by
  cases hb : Co.str.strs ks lv with
  | false => rfl
  | true => have := (strs_iff lv ks).1 hb _ (List.getElem_mem hj); rw [h] at this; cases this
theorem strs_yes {u : LK} {lv : Nat} (h : ∀ x (hx : x < u.ks.length), u.ks[x].co.str lv = true) : Co.str.strs u.co.ks lv = true := (strs_iff lv _).2 fun t ht => by
  rw [LK.co_ks] at ht
  obtain ⟨s, hs, rfl⟩ := List.mem_map.1 ht
  obtain ⟨i, hi, rfl⟩ := List.mem_iff_getElem.1 hs
  exact h i hi
theorem lvB_kid (u : LK) (j lv : Nat) (hj : j < u.ks.length) : lvB u.co j lv = lvC u.ks[j].co 0 0 lv := by
  unfold lvB
  rw [List.getD, List.getElem?_eq_getElem (by rw [u.co_len]; exact hj), Option.getD_some, u.co_kid j hj]

theorem spec_l06All (L : List Int) (n : Int) (B : Nat) (w : World) (v : Value) (h : IRow B w v L) : Calls Tryd.prog 100 #[v, .int .i64 n] w (BoolGw (eqsB L n) w) := by
  obtain ⟨a, cap, rfl⟩ := h.form
  have hl := h.len.2
  have H := Lib.hid h
  clear h
  go_enter Tryd.func100, Tryd.ntmps100
  go_wp2_with fail
  go_loopw [5] (fun i wr => ∃ j : Nat, j ≤ L.length ∧ i = .int .i64 j ∧ Gw w wr ∧ ∀ x (hx : x < L.length), x < j → (L[x] == n) = true) (fun i _ => L.length - (intOf i).toNat)
  case atStart => exact ⟨0, by omega, rfl, Gw.refl _, fun x _ h => absurd h (by omega)⟩
  case round =>
    obtain ⟨j, hj, rfl, hg, hall⟩ := hrel
    have G := Lib.hid hg
    have HALL := Lib.hid hall
    clear hg hall
    by_cases hlt : j < L.length
    · obtain ⟨g, rfl, c0, _⟩ := (H.out.grow G.out).cell j hlt
      obtain ⟨x, hx⟩ : ∃ x, x = L[j] := ⟨_, rfl⟩
      have HX := Lib.hid hx
      rw [← hx] at c0
      have q0 : (0 : Int) ≤ j := by omega
      have q1 : (j : Int) < L.length := by omega
      clear hx
      cases hb : (x == n) with
      | true =>
        have e0 : (x != n) = false := by unfold bne; rw [hb]; rfl
        have HB := Lib.hid hb
        clear hb
        go_wp2_with fail
        go_roundw
        case rel =>
          refine ⟨j + 1, by omega, by go_num, G.out, fun y hy hi => ?_⟩
          by_cases e : y = j
          · subst e; rw [← HX.out]; exact HB.out
          · exact HALL.out y hy (by omega)
        case measure => simp [intOf]; omega
      | false =>
        have e0 : (x != n) = true := by unfold bne; rw [hb]; rfl
        have F := Lib.hid (show eqsB L n = false from List.all_eq_false.2 ⟨L[j], List.getElem_mem hlt, by rw [← HX.out, hb]; simp⟩)
        clear hb
        go_wp2_with fail
        go_ret
        exact ⟨ret_b F.out.symm, G.out⟩
    · obtain rfl : j = L.length := by omega
      have F := Lib.hid (show eqsB L n = true from List.all_eq_true.2 fun y hy => by
        obtain ⟨i, hi, rfl⟩ := List.mem_iff_getElem.1 hy
        exact HALL.out i hi hi)
      go_wp2_with fail
      go_ret
      exact ⟨ret_b F.out.symm, G.out⟩

def KSt (u : LK) : Prop := ∀ (w : World) (b o lv : Nat), coAt w b o u → u.co.all headC = true → u.co.nn ≤ 1000 → u.co.dp ≤ 1000 → lv ≤ 1000 → Calls Tryd.prog 68 #[.pointer (some ⟨b, o, none⟩), .int .i64 lv] w (BoolGw (u.co.str lv) w)

set_option maxRecDepth 100000 in
set_option maxHeartbeats 4000000 in
theorem kst_of (u : LK) (ih : ∀ t ∈ u.ks, KSt t) : KSt u := by
  intro w b o lv h hok hnn hdp hlv
  have hll := h.2.kl
  have A := Lib.hid h
  have HOK := Lib.hid hok
  have HN := Lib.hid hnn
  have HDP := Lib.hid hdp
  obtain ⟨p0, p1, p2, p3⟩ := h.c
  have SE := Lib.hid (str_eq u.co lv)
  by_cases h8 : 8 < lv
  · have F := Lib.hid (show u.co.str lv = false by rw [SE.out]; unfold stH; rw [decide_eq_false (by omega)]; rfl)
    have q8 : decide ((8 : Int) < lv) = true := decide_eq_true (by omega)
    clear h hok h8
    go_enter Tryd.func68, Tryd.ntmps68
    go_wp2_with fail
    go_ret
    exact ⟨ret_b F.out.symm, Gw.refl _⟩
  have q8 : decide ((8 : Int) < lv) = false := decide_eq_false (by omega)
  have D8 := Lib.hid (show decide (lv ≤ 8) = true from decide_eq_true (by omega))
  have hlen : u.k = 4 → u.ks.length = 1 := fun e => by
    have := hok
    rw [Co.all_eq, Bool.and_eq_true] at this
    have := this.1
    unfold headC at this
    rw [Bool.and_eq_true, u.co_k, u.co_len, e] at this
    have := this.1
    simp [coLo, coHi, inV] at this
    omega
  have hlen7 : u.k = 7 → u.ks.length = 2 := fun e => by
    have := hok
    rw [Co.all_eq, Bool.and_eq_true] at this
    have := this.1
    unfold headC at this
    rw [Bool.and_eq_true, u.co_k, u.co_len, e] at this
    have := this.1
    simp [coLo, coHi, inV] at this
    omega
  have HL4 := Lib.hid hlen
  have HL7 := Lib.hid hlen7
  have hb8 : lv ≤ 8 := by omega
  clear h hok h8 hlen hlen7
  by_cases h4 : u.k = 4
  · have hl := HL4.out h4
    obtain ⟨bk, ok, ha, hkid⟩ := coAt.kid A.out.2.kids 0 (by omega)
    rw [ha] at p3
    have r0 : (0 : Int) < u.ks.length := by omega
    have q4 : (u.k == 4) = true := by simpa using h4
    obtain ⟨K0, hK0⟩ : ∃ K, K = u.ks[0]'(by omega) := ⟨_, rfl⟩
    have KN : K0.co.nn ≤ 1000 ∧ K0.co.dp ≤ 1000 ∧ K0.co.all headC = true := by
      rw [hK0]
      have h1 := dp_kid (u := u) 0 (by omega)
      have h2 := cnns_mem (ks := u.co.ks) (t := (u.ks[0]'(by omega)).co) (by rw [LK.co_ks]; exact List.mem_map_of_mem (List.getElem_mem _))
      have h3 := Co.nn_eq u.co
      exact ⟨by omega, by omega, all_kid HOK.out 0 (by omega)⟩
    have KEY := Lib.hid (klv_all K0 w w bk ok 0 lv w.heap.size 0 (.slice none 0 0) [] (by rw [hK0]; simpa using hkid) KN.2.2 (by omega) (by omega) (by omega) (by omega) (by simp; omega) (Nat.le_refl _) (Below.refl _ _) (Nat.le_refl _) (IRow.nil _ _))
    have LB := Lib.hid (show lvB u.co 0 lv = lvC K0.co 0 0 lv by rw [lvB_kid u 0 lv (by omega), hK0])
    have LL := Lib.hid (show (lvC K0.co 0 0 lv).length ≤ 1000 by have := lvC_len K0.co 0 0 lv; omega)
    clear ha hkid hK0 KN
    obtain ⟨L, hL⟩ : ∃ L, L = lvC K0.co 0 0 lv := ⟨_, rfl⟩
    rw [← hL] at KEY LB LL
    have H4 := Lib.hid (show stH u.co lv = (decide (L.length ≤ 1) && eqsB L lv) by unfold stH; rw [D8.out, u.co_k, if_pos h4, LB.out]; rfl)
    clear h4 hL
    go_enter Tryd.func68, Tryd.ntmps68
    go_wp2_with fail
    refine KEY.out.mono ?_
    rintro e w1 ⟨v1, rfl, hr1, hb1⟩
    rw [List.nil_append] at hr1
    obtain ⟨a1, c1, rfl⟩ := hr1.form
    have HR1 := Lib.hid hr1
    have G1 := Lib.hid (show Gw w w1 from hb1)
    have hLL := LL.out
    clear hr1 hb1 KEY p0 p1 p2 p3 r0 q4
    by_cases hc : 1 < L.length
    · have qc : decide ((1 : Int) < L.length) = true := decide_eq_true (by omega)
      have F := Lib.hid (show u.co.str lv = false by rw [SE.out, H4.out, decide_eq_false (by omega)]; rfl)
      clear hc
      go_wp2_with fail
      go_ret
      exact ⟨ret_b F.out.symm, G1.out⟩
    have qc : decide ((1 : Int) < L.length) = false := decide_eq_false (by omega)
    have KA := Lib.hid (spec_l06All L lv w.heap.size w1 _ HR1.out)
    have H4' := Lib.hid (show stH u.co lv = eqsB L lv by rw [H4.out, decide_eq_true (by omega)]; rfl)
    obtain ⟨e4, he4⟩ : ∃ e, e = eqsB L lv := ⟨_, rfl⟩
    rw [← he4] at KA H4'
    clear hc he4
    go_wp2_with fail
    refine KA.out.mono ?_
    rintro e w2 ⟨rfl, g2⟩
    have GS := Lib.hid (G1.out.trans g2)
    clear g2 qc KA
    cases e4 with
    | false =>
      have F := Lib.hid (show u.co.str lv = false by rw [SE.out, H4'.out]; rfl)
      go_wp2_with fail
      go_ret
      exact ⟨ret_b F.out.symm, GS.out⟩
    | true =>
    have F := Lib.hid (show u.co.str lv = Co.str.strs u.co.ks (lv + bxK u.k) by rw [SE.out, H4'.out, u.co_k]; rfl)
    go_wp2_with fail
    go_loopw [7] (fun i wr => ∃ j : Nat, j ≤ u.ks.length ∧ i = .int .i64 j ∧ Gw w wr ∧ ∀ x (hx : x < u.ks.length), x < j → u.ks[x].co.str (lv + bxK u.k) = true) (fun i _ => u.ks.length - (intOf i).toNat)
    case atStart => exact ⟨0, by omega, rfl, GS.out, fun x _ h => absurd h (by omega)⟩
    case round =>
      obtain ⟨j, hj, rfl, hg, hall⟩ := hrel
      have HALL := Lib.hid hall
      have HG := Lib.hid hg
      have A4 := Lib.hid (A.out.grow hg)
      clear hall hg
      obtain ⟨p0, p1, p2, p3⟩ := A4.out.c
      by_cases hlt : j < u.ks.length
      · obtain ⟨bk, ok, ha, hkid⟩ := coAt.kid A4.out.2.kids j hlt
        rw [ha] at p3
        have r0 : (0 : Int) ≤ j := by omega
        have r1 : (j : Int) < u.ks.length := by omega
        have hdk := dp_kid j hlt
        have hnk : u.ks[j].co.nn ≤ u.co.nn := by
          have := cnns_mem (ks := u.co.ks) (t := u.ks[j].co) (by rw [LK.co_ks]; exact List.mem_map_of_mem (List.getElem_mem hlt))
          rw [Co.nn_eq u.co]; omega
        have KEY := Lib.hid (ih u.ks[j] (List.getElem_mem hlt) wr bk (ok + j * 4) (lv + bxK u.k) hkid (all_kid HOK.out j hlt) (by have := HN.out; omega) (by have := HDP.out; omega) (by have := bxK_le u.k; omega))
        have BADK := Lib.hid (fun hb : u.ks[j].co.str (lv + bxK u.k) = false => strs_bad (ks := u.co.ks) (lv := lv + bxK u.k) (j := j) (by rw [u.co_len]; exact hlt) (by rw [u.co_kid j hlt]; exact hb))
        obtain ⟨s, hs⟩ : ∃ s, s = u.ks[j].co.str (lv + bxK u.k) := ⟨_, rfl⟩
        rw [← hs] at KEY BADK
        have HS := Lib.hid hs
        obtain ⟨D, hD⟩ : ∃ D, D = lv + bxK u.k := ⟨_, rfl⟩
        rw [← hD] at KEY
        have cs : ((u.k == 6) = true ∧ ((lv : Int) + 1 = D)) ∨ ((u.k == 6) = false ∧ ((lv : Int) = D)) := by
          unfold bxK at hD
          by_cases h6 : u.k = 6
          · rw [if_pos h6] at hD; exact .inl ⟨by simpa using h6, by omega⟩
          · rw [if_neg h6] at hD; exact .inr ⟨by simpa using h6, by omega⟩
        clear ha hkid hs hD hnk hdk
        rcases cs with ⟨q6, e1⟩ | ⟨q6, e1⟩ <;> (
          have E1 := Lib.hid e1
          go_upto_region 18 with (fail)
          try rw [e1]
          go_wp2_with fail
          refine KEY.out.mono ?_
          rintro e w3 ⟨rfl, g3⟩
          have G3 := Lib.hid (HG.out.trans g3)
          clear g3 KEY p0 p1 p2 p3 q6 e1
          cases s with
          | false =>
            have FF := Lib.hid (BADK.out rfl)
            go_wp2_with fail
            go_ret
            exact ⟨ret_b (by rw [F.out, FF.out]), G3.out⟩
          | true =>
            go_wp2_with fail
            try rw [← E1.out]
            go_roundw
            case rel =>
              refine ⟨j + 1, by omega, by go_num, G3.out, fun x hx hi => ?_⟩
              by_cases e : x = j
              · subst e; exact HS.out.symm
              · exact HALL.out x hx (by omega)
            case measure => simp [intOf]; omega)
      · obtain rfl : j = u.ks.length := by omega
        have FF := Lib.hid (strs_yes (u := u) (lv := lv + bxK u.k) fun x hx => HALL.out x hx hx)
        go_wp2_with fail
        go_ret
        exact ⟨ret_b (by rw [F.out, FF.out]), HG.out⟩
  have q4 : (u.k == 4) = false := by simpa using h4
  have H4N := Lib.hid h4
  clear h4
  by_cases h7 : u.k = 7
  · have hl := HL7.out h7
    obtain ⟨bk, ok, ha, hkid⟩ := coAt.kid A.out.2.kids 1 (by omega)
    rw [ha] at p3
    have r0 : (1 : Int) < u.ks.length := by omega
    have q7 : (u.k == 7) = true := by simpa using h7
    obtain ⟨K0, hK0⟩ : ∃ K, K = u.ks[1]'(by omega) := ⟨_, rfl⟩
    have KN : K0.co.nn ≤ 1000 ∧ K0.co.dp ≤ 1000 ∧ K0.co.all headC = true := by
      rw [hK0]
      have h1 := dp_kid (u := u) 1 (by omega)
      have h2 := cnns_mem (ks := u.co.ks) (t := (u.ks[1]'(by omega)).co) (by rw [LK.co_ks]; exact List.mem_map_of_mem (List.getElem_mem _))
      have h3 := Co.nn_eq u.co
      exact ⟨by omega, by omega, all_kid HOK.out 1 (by omega)⟩
    have KEY := Lib.hid (klv_all K0 w w bk (ok + 4) 0 lv w.heap.size 0 (.slice none 0 0) [] (by rw [hK0]; simpa using hkid) KN.2.2 (by omega) (by omega) (by omega) (by omega) (by simp; omega) (Nat.le_refl _) (Below.refl _ _) (Nat.le_refl _) (IRow.nil _ _))
    have LB := Lib.hid (show lvB u.co 1 lv = lvC K0.co 0 0 lv by rw [lvB_kid u 1 lv (by omega), hK0])
    clear ha hkid hK0 KN
    obtain ⟨L, hL⟩ : ∃ L, L = lvC K0.co 0 0 lv := ⟨_, rfl⟩
    rw [← hL] at KEY LB
    have H7 := Lib.hid (show stH u.co lv = (eqsB L lv || eqsB L (lv + 1)) by unfold stH; rw [D8.out, u.co_k, if_neg H4N.out, if_pos h7, LB.out]; rfl)
    obtain ⟨e4, he4⟩ : ∃ e, e = eqsB L lv := ⟨_, rfl⟩
    obtain ⟨e5, he5⟩ : ∃ e, e = eqsB L (lv + 1) := ⟨_, rfl⟩
    rw [← he4, ← he5] at H7
    have HE4 := Lib.hid he4
    have HE5 := Lib.hid he5
    clear h7 hL he4 he5
    go_enter Tryd.func68, Tryd.ntmps68
    go_wp2_with fail
    refine KEY.out.mono ?_
    rintro e w1 ⟨v1, rfl, hr1, hb1⟩
    rw [List.nil_append] at hr1
    have HR1 := Lib.hid hr1
    have G1 := Lib.hid (show Gw w w1 from hb1)
    have KA := spec_l06All L lv w.heap.size w1 _ hr1
    rw [← HE4.out] at KA
    replace KA := Lib.hid KA
    clear hr1 hb1 KEY p0 p1 p2 p3 r0 q7
    cases e4 with
    | true =>
      have F := Lib.hid (show u.co.str lv = Co.str.strs u.co.ks (lv + bxK u.k) by rw [SE.out, H7.out, u.co_k]; rfl)
      go_wp2_with fail
      refine KA.out.mono ?_
      rintro e w2 ⟨rfl, g2⟩
      have GS := Lib.hid (G1.out.trans g2)
      clear g2 KA
      go_wp2_with fail
      go_loopw [7] (fun i wr => ∃ j : Nat, j ≤ u.ks.length ∧ i = .int .i64 j ∧ Gw w wr ∧ ∀ x (hx : x < u.ks.length), x < j → u.ks[x].co.str (lv + bxK u.k) = true) (fun i _ => u.ks.length - (intOf i).toNat)
      case atStart => exact ⟨0, by omega, rfl, GS.out, fun x _ h => absurd h (by omega)⟩
      case round =>
        obtain ⟨j, hj, rfl, hg, hall⟩ := hrel
        have HALL := Lib.hid hall
        have HG := Lib.hid hg
        have A4 := Lib.hid (A.out.grow hg)
        clear hall hg
        obtain ⟨p0, p1, p2, p3⟩ := A4.out.c
        by_cases hlt : j < u.ks.length
        · obtain ⟨bk, ok, ha, hkid⟩ := coAt.kid A4.out.2.kids j hlt
          rw [ha] at p3
          have r0 : (0 : Int) ≤ j := by omega
          have r1 : (j : Int) < u.ks.length := by omega
          have hdk := dp_kid j hlt
          have hnk : u.ks[j].co.nn ≤ u.co.nn := by
            have := cnns_mem (ks := u.co.ks) (t := u.ks[j].co) (by rw [LK.co_ks]; exact List.mem_map_of_mem (List.getElem_mem hlt))
            rw [Co.nn_eq u.co]; omega
          have KEY := Lib.hid (ih u.ks[j] (List.getElem_mem hlt) wr bk (ok + j * 4) (lv + bxK u.k) hkid (all_kid HOK.out j hlt) (by have := HN.out; omega) (by have := HDP.out; omega) (by have := bxK_le u.k; omega))
          have BADK := Lib.hid (fun hb : u.ks[j].co.str (lv + bxK u.k) = false => strs_bad (ks := u.co.ks) (lv := lv + bxK u.k) (j := j) (by rw [u.co_len]; exact hlt) (by rw [u.co_kid j hlt]; exact hb))
          obtain ⟨s, hs⟩ : ∃ s, s = u.ks[j].co.str (lv + bxK u.k) := ⟨_, rfl⟩
          rw [← hs] at KEY BADK
          have HS := Lib.hid hs
          obtain ⟨D, hD⟩ : ∃ D, D = lv + bxK u.k := ⟨_, rfl⟩
          rw [← hD] at KEY
          have cs : ((u.k == 6) = true ∧ ((lv : Int) + 1 = D)) ∨ ((u.k == 6) = false ∧ ((lv : Int) = D)) := by
            unfold bxK at hD
            by_cases h6 : u.k = 6
            · rw [if_pos h6] at hD; exact .inl ⟨by simpa using h6, by omega⟩
            · rw [if_neg h6] at hD; exact .inr ⟨by simpa using h6, by omega⟩
          clear ha hkid hs hD hnk hdk
          rcases cs with ⟨q6, e1⟩ | ⟨q6, e1⟩ <;> (
            have E1 := Lib.hid e1
            go_upto_region 18 with (fail)
            try rw [e1]
            go_wp2_with fail
            refine KEY.out.mono ?_
            rintro e w3 ⟨rfl, g3⟩
            have G3 := Lib.hid (HG.out.trans g3)
            clear g3 KEY p0 p1 p2 p3 q6 e1
            cases s with
            | false =>
              have FF := Lib.hid (BADK.out rfl)
              go_wp2_with fail
              go_ret
              exact ⟨ret_b (by rw [F.out, FF.out]), G3.out⟩
            | true =>
              go_wp2_with fail
              try rw [← E1.out]
              go_roundw
              case rel =>
                refine ⟨j + 1, by omega, by go_num, G3.out, fun x hx hi => ?_⟩
                by_cases e : x = j
                · subst e; exact HS.out.symm
                · exact HALL.out x hx (by omega)
              case measure => simp [intOf]; omega)
        · obtain rfl : j = u.ks.length := by omega
          have FF := Lib.hid (strs_yes (u := u) (lv := lv + bxK u.k) fun x hx => HALL.out x hx hx)
          go_wp2_with fail
          go_ret
          exact ⟨ret_b (by rw [F.out, FF.out]), HG.out⟩
    | false =>
      go_wp2_with fail
      refine KA.out.mono ?_
      rintro e w2 ⟨rfl, g2⟩
      have G2 := Lib.hid (G1.out.trans g2)
      have KC := spec_l06All L (lv + 1) w.heap.size w2 _ (HR1.out.grow g2)
      rw [← HE5.out] at KC
      replace KC := Lib.hid KC
      clear g2 KA
      go_wp2_with fail
      refine KC.out.mono ?_
      rintro e w3 ⟨rfl, g3⟩
      have GS := Lib.hid (G2.out.trans g3)
      clear g3 KC
      cases e5 with
      | false =>
        have F := Lib.hid (show u.co.str lv = false by rw [SE.out, H7.out]; rfl)
        go_wp2_with fail
        go_ret
        exact ⟨ret_b F.out.symm, GS.out⟩
      | true =>
        have F := Lib.hid (show u.co.str lv = Co.str.strs u.co.ks (lv + bxK u.k) by rw [SE.out, H7.out, u.co_k]; rfl)
        go_wp2_with fail
        go_loopw [7] (fun i wr => ∃ j : Nat, j ≤ u.ks.length ∧ i = .int .i64 j ∧ Gw w wr ∧ ∀ x (hx : x < u.ks.length), x < j → u.ks[x].co.str (lv + bxK u.k) = true) (fun i _ => u.ks.length - (intOf i).toNat)
        case atStart => exact ⟨0, by omega, rfl, GS.out, fun x _ h => absurd h (by omega)⟩
        case round =>
          obtain ⟨j, hj, rfl, hg, hall⟩ := hrel
          have HALL := Lib.hid hall
          have HG := Lib.hid hg
          have A4 := Lib.hid (A.out.grow hg)
          clear hall hg
          obtain ⟨p0, p1, p2, p3⟩ := A4.out.c
          by_cases hlt : j < u.ks.length
          · obtain ⟨bk, ok, ha, hkid⟩ := coAt.kid A4.out.2.kids j hlt
            rw [ha] at p3
            have r0 : (0 : Int) ≤ j := by omega
            have r1 : (j : Int) < u.ks.length := by omega
            have hdk := dp_kid j hlt
            have hnk : u.ks[j].co.nn ≤ u.co.nn := by
              have := cnns_mem (ks := u.co.ks) (t := u.ks[j].co) (by rw [LK.co_ks]; exact List.mem_map_of_mem (List.getElem_mem hlt))
              rw [Co.nn_eq u.co]; omega
            have KEY := Lib.hid (ih u.ks[j] (List.getElem_mem hlt) wr bk (ok + j * 4) (lv + bxK u.k) hkid (all_kid HOK.out j hlt) (by have := HN.out; omega) (by have := HDP.out; omega) (by have := bxK_le u.k; omega))
            have BADK := Lib.hid (fun hb : u.ks[j].co.str (lv + bxK u.k) = false => strs_bad (ks := u.co.ks) (lv := lv + bxK u.k) (j := j) (by rw [u.co_len]; exact hlt) (by rw [u.co_kid j hlt]; exact hb))
            obtain ⟨s, hs⟩ : ∃ s, s = u.ks[j].co.str (lv + bxK u.k) := ⟨_, rfl⟩
            rw [← hs] at KEY BADK
            have HS := Lib.hid hs
            obtain ⟨D, hD⟩ : ∃ D, D = lv + bxK u.k := ⟨_, rfl⟩
            rw [← hD] at KEY
            have cs : ((u.k == 6) = true ∧ ((lv : Int) + 1 = D)) ∨ ((u.k == 6) = false ∧ ((lv : Int) = D)) := by
              unfold bxK at hD
              by_cases h6 : u.k = 6
              · rw [if_pos h6] at hD; exact .inl ⟨by simpa using h6, by omega⟩
              · rw [if_neg h6] at hD; exact .inr ⟨by simpa using h6, by omega⟩
            clear ha hkid hs hD hnk hdk
            rcases cs with ⟨q6, e1⟩ | ⟨q6, e1⟩ <;> (
              have E1 := Lib.hid e1
              go_upto_region 18 with (fail)
              try rw [e1]
              go_wp2_with fail
              refine KEY.out.mono ?_
              rintro e w3 ⟨rfl, g3⟩
              have G3 := Lib.hid (HG.out.trans g3)
              clear g3 KEY p0 p1 p2 p3 q6 e1
              cases s with
              | false =>
                have FF := Lib.hid (BADK.out rfl)
                go_wp2_with fail
                go_ret
                exact ⟨ret_b (by rw [F.out, FF.out]), G3.out⟩
              | true =>
                go_wp2_with fail
                try rw [← E1.out]
                go_roundw
                case rel =>
                  refine ⟨j + 1, by omega, by go_num, G3.out, fun x hx hi => ?_⟩
                  by_cases e : x = j
                  · subst e; exact HS.out.symm
                  · exact HALL.out x hx (by omega)
                case measure => simp [intOf]; omega)
          · obtain rfl : j = u.ks.length := by omega
            have FF := Lib.hid (strs_yes (u := u) (lv := lv + bxK u.k) fun x hx => HALL.out x hx hx)
            go_wp2_with fail
            go_ret
            exact ⟨ret_b (by rw [F.out, FF.out]), HG.out⟩
  · have q7 : (u.k == 7) = false := by simpa using h7
    have F := Lib.hid (show u.co.str lv = Co.str.strs u.co.ks (lv + bxK u.k) by
      have hs : stH u.co lv = true := by unfold stH; rw [D8.out, u.co_k, if_neg H4N.out, if_neg h7]; rfl
      rw [SE.out, hs, u.co_k]; rfl)
    clear h7
    have GS := Lib.hid (Gw.refl w)
    go_enter Tryd.func68, Tryd.ntmps68
    go_wp2_with fail
    clear p0 p1 p2 p3 q4 q7
    go_loopw [7] (fun i wr => ∃ j : Nat, j ≤ u.ks.length ∧ i = .int .i64 j ∧ Gw w wr ∧ ∀ x (hx : x < u.ks.length), x < j → u.ks[x].co.str (lv + bxK u.k) = true) (fun i _ => u.ks.length - (intOf i).toNat)
    case atStart => exact ⟨0, by omega, rfl, GS.out, fun x _ h => absurd h (by omega)⟩
    case round =>
      obtain ⟨j, hj, rfl, hg, hall⟩ := hrel
      have HALL := Lib.hid hall
      have HG := Lib.hid hg
      have A4 := Lib.hid (A.out.grow hg)
      clear hall hg
      obtain ⟨p0, p1, p2, p3⟩ := A4.out.c
      by_cases hlt : j < u.ks.length
      · obtain ⟨bk, ok, ha, hkid⟩ := coAt.kid A4.out.2.kids j hlt
        rw [ha] at p3
        have r0 : (0 : Int) ≤ j := by omega
        have r1 : (j : Int) < u.ks.length := by omega
        have hdk := dp_kid j hlt
        have hnk : u.ks[j].co.nn ≤ u.co.nn := by
          have := cnns_mem (ks := u.co.ks) (t := u.ks[j].co) (by rw [LK.co_ks]; exact List.mem_map_of_mem (List.getElem_mem hlt))
          rw [Co.nn_eq u.co]; omega
        have KEY := Lib.hid (ih u.ks[j] (List.getElem_mem hlt) wr bk (ok + j * 4) (lv + bxK u.k) hkid (all_kid HOK.out j hlt) (by have := HN.out; omega) (by have := HDP.out; omega) (by have := bxK_le u.k; omega))
        have BADK := Lib.hid (fun hb : u.ks[j].co.str (lv + bxK u.k) = false => strs_bad (ks := u.co.ks) (lv := lv + bxK u.k) (j := j) (by rw [u.co_len]; exact hlt) (by rw [u.co_kid j hlt]; exact hb))
        obtain ⟨s, hs⟩ : ∃ s, s = u.ks[j].co.str (lv + bxK u.k) := ⟨_, rfl⟩
        rw [← hs] at KEY BADK
        have HS := Lib.hid hs
        obtain ⟨D, hD⟩ : ∃ D, D = lv + bxK u.k := ⟨_, rfl⟩
        rw [← hD] at KEY
        have cs : ((u.k == 6) = true ∧ ((lv : Int) + 1 = D)) ∨ ((u.k == 6) = false ∧ ((lv : Int) = D)) := by
          unfold bxK at hD
          by_cases h6 : u.k = 6
          · rw [if_pos h6] at hD; exact .inl ⟨by simpa using h6, by omega⟩
          · rw [if_neg h6] at hD; exact .inr ⟨by simpa using h6, by omega⟩
        clear ha hkid hs hD hnk hdk
        rcases cs with ⟨q6, e1⟩ | ⟨q6, e1⟩ <;> (
          have E1 := Lib.hid e1
          go_upto_region 18 with (fail)
          try rw [e1]
          go_wp2_with fail
          refine KEY.out.mono ?_
          rintro e w3 ⟨rfl, g3⟩
          have G3 := Lib.hid (HG.out.trans g3)
          clear g3 KEY p0 p1 p2 p3 q6 e1
          cases s with
          | false =>
            have FF := Lib.hid (BADK.out rfl)
            go_wp2_with fail
            go_ret
            exact ⟨ret_b (by rw [F.out, FF.out]), G3.out⟩
          | true =>
            go_wp2_with fail
            try rw [← E1.out]
            go_roundw
            case rel =>
              refine ⟨j + 1, by omega, by go_num, G3.out, fun x hx hi => ?_⟩
              by_cases e : x = j
              · subst e; exact HS.out.symm
              · exact HALL.out x hx (by omega)
            case measure => simp [intOf]; omega)
      · obtain rfl : j = u.ks.length := by omega
        have FF := Lib.hid (strs_yes (u := u) (lv := lv + bxK u.k) fun x hx => HALL.out x hx hx)
        go_wp2_with fail
        go_ret
        exact ⟨ret_b (by rw [F.out, FF.out]), HG.out⟩

theorem kst_all (u : LK) : KSt u := by
  refine LK.ind (P := KSt) (fun k v da dc ds a cap ks ih => ?_) u
  exact kst_of (.mk k v da dc ds a cap ks) ih

def strC (t : Co) : Bool := closC t && t.str 0
theorem spec_stratified (u : LK) (w : World) (h : u.Ok w) : Calls Tryd.prog 33 #[u.val] w (BoolGw (strC u.co) w) := by
  have hA := coAt.new (e := 30) h
  have key := spec_l06Closed u _ _ _ hA
  have HA := Lib.hid hA
  have G := Lib.hid ((Gw.refl w).alloc (u.obj 30))
  cases hok : closC u.co with
  | false =>
    rw [hok] at key
    have KEY := Lib.hid key
    have F := Lib.hid (show strC u.co = false by unfold strC; rw [hok]; rfl)
    clear key h hA hok
    go_enter Tryd.func33, Tryd.ntmps33
    go_wp2_with fail
    refine KEY.out.mono ?_
    rintro e w1 ⟨rfl, g1⟩
    go_wp2_with fail
    go_ret
    exact ⟨ret_b F.out.symm, G.out.trans g1⟩
  | true =>
    rw [hok] at key
    have KEY := Lib.hid key
    have F := Lib.hid (show strC u.co = u.co.str 0 by unfold strC; rw [hok]; rfl)
    have GD := Lib.hid (show goodC headC u.co 80 400 by unfold closC at hok; rw [Bool.and_eq_true] at hok; exact okC_good hok.1)
    clear key h hA hok
    go_enter Tryd.func33, Tryd.ntmps33
    go_wp2_with fail
    refine KEY.out.mono ?_
    rintro e w1 ⟨rfl, g1⟩
    have K2 := Lib.hid (kst_all u w1 _ _ 0 (HA.out.grow g1) GD.out.1 (by have := GD.out.2.2; omega) (by have := GD.out.2.1; omega) (by omega))
    have G1 := Lib.hid (G.out.trans g1)
    clear g1
    go_wp2_with fail
    refine K2.out.mono ?_
    rintro e w2 ⟨rfl, g2⟩
    go_wp2_with fail
    go_ret
    exact ⟨ret_b F.out.symm, G1.out.trans g2⟩

end Go.Proofs.YtfbgkbgoooepmaaDoor.Con
