/-
  When the variable of a node occurs at the right levels, told from the node alone; contract of the program's bindsStratified. Condition: the core term lies in memory.
-/
import Derived.Test.YtfbgkbgoooepmaaDoorCoCm
namespace Go.Proofs.YtfbgkbgoooepmaaDoor.Con
open Go.RowKit
set_option linter.unusedVariables false

def upP (n : Nat) (p : PK) : PK := { p with lv := p.lv + n }
mutual
theorem pl_up : ∀ (t : Co) (bd lv n : Nat), t.pl bd (lv + n) = (t.pl bd lv).map (upP n)
  | .mk k v ds ks, bd, lv, n => by
    rw [Co.pl, Co.pl, List.map_cons, show lv + n + bxK k = lv + bxK k + n by omega, pls_up k bd (lv + bxK k) n 0 ks]; rfl
theorem pls_up (k : Int) (bd lv n : Nat) : ∀ (i : Nat) (ts : List Co), Co.pl.pls k bd (lv + n) i ts = (Co.pl.pls k bd lv i ts).map (upP n)
  | _, [] => rfl
  | i, t :: ts => by rw [Co.pl.pls, Co.pl.pls, List.map_append, pl_up t _ lv n, pls_up k bd lv n (i + 1) ts]
end
theorem lvsP_up (i : Int) (n : Nat) : ∀ l : List PK, lvsP i (l.map (upP n)) = (lvsP i l).map (· + (n : Int))
  | [] => rfl
  | p :: l => by
    have ih := lvsP_up i n l
    unfold lvsP at ih ⊢
    rw [List.map_cons, List.filter_cons, List.filter_cons, show isP i (upP n p) = isP i p from rfl]
    cases isP i p
    · exact ih
    · simp only [if_true, List.map_cons]
      rw [ih]
      rfl
theorem lvC_up (t : Co) (lv : Nat) : lvC t 0 0 lv = (lvC t 0 0 0).map (· + (lv : Int)) := by
  unfold lvC
  have := pl_up t 0 0 lv
  rw [Nat.zero_add] at this
  rw [this, lvsP_up]
theorem lvC_nonneg (t : Co) (i : Int) (d lv : Nat) : ∀ x ∈ lvC t i d lv, 0 ≤ x := fun x hx => by
  unfold lvC lvsP at hx
  obtain ⟨p, _, rfl⟩ := List.mem_map.1 hx
  omega

theorem eqsB_up (L : List Int) (n m : Int) : eqsB (L.map (· + n)) (n + m) = eqsB L m := by
  unfold eqsB
  rw [List.all_map]
  refine congrArg (fun f => L.all f) (funext fun x => ?_)
  show (x + n == n + m) = (x == m)
  rw [Bool.eq_iff_iff]
  simp
  omega
/-- At most one occurrence, and that at level 0. -/
theorem one_zero (L : List Int) (h : ∀ x ∈ L, 0 ≤ x) : (decide (L.length ≤ 1) && eqsB L 0) = oneB L.length (L.getD 0 0) 0 := by
  match L, h with
  | [], _ => rfl
  | [x], h =>
    have := h x (by simp)
    show (true && (x == 0 && true)) = (false || (true && decide (x ≤ 0)))
    rw [Bool.eq_iff_iff]
    simp
    omega
  | x :: y :: l, _ =>
    show (decide (l.length + 1 + 1 ≤ 1) && _) = ((l.length + 1 + 1 == 0) || ((l.length + 1 + 1 == 1) && _))
    rw [decide_eq_false (by omega), show (l.length + 1 + 1 == 0) = false by simp, show (l.length + 1 + 1 == 1) = false by simp]
    rfl
theorem eqN_iff {L : List Int} : eqN L L.length ↔ ∀ x ∈ L, x = L.getD 0 0 := by
  constructor
  · intro h x hx
    obtain ⟨i, hi, rfl⟩ := List.mem_iff_getElem.1 hx
    have := h i hi
    rwa [List.getD, List.getElem?_eq_getElem hi, Option.getD_some] at this
  · intro h j hj
    rw [List.getD, List.getElem?_eq_getElem hj, Option.getD_some]
    exact h _ (List.getElem_mem hj)
/-- All occurrences at level 0, or all at level 1. -/
theorem two_one {L : List Int} {n : Nat} (h : ∀ x ∈ L, 0 ≤ x) (h0 : n = 0 ↔ L = []) (h1 : n = 1 ↔ L ≠ [] ∧ eqN L L.length) : oneB n (L.getD 0 0) 1 = (eqsB L 0 || eqsB L 1) := by
  rw [Bool.eq_iff_iff]
  unfold oneB eqsB
  simp only [Bool.or_eq_true, Bool.and_eq_true, beq_iff_eq, decide_eq_true_eq, List.all_eq_true]
  rw [eqN_iff] at h1
  constructor
  · rintro (e | ⟨e, hx⟩)
    · rw [h0.1 e]; left; intro x hx; cases hx
    · obtain ⟨hne, he⟩ := h1.1 e
      have hm : L.getD 0 0 ∈ L := by
        cases L with
        | nil => exact absurd rfl hne
        | cons a l => simp
      have := h _ hm
      rcases (show L.getD 0 0 = 0 ∨ L.getD 0 0 = 1 by omega) with e0 | e0
      · left; intro x hx; rw [he x hx, e0]
      · right; intro x hx; rw [he x hx, e0]
  · intro hh
    by_cases hne : L = []
    · left; exact h0.2 hne
    · right
      have hm : L.getD 0 0 ∈ L := by
        cases L with
        | nil => exact absurd rfl hne
        | cons a l => simp
      rcases hh with ha | ha
      · exact ⟨h1.2 ⟨hne, fun x hx => (ha x hx).trans (ha _ hm).symm⟩, by rw [ha _ hm]; decide⟩
      · exact ⟨h1.2 ⟨hne, fun x hx => (ha x hx).trans (ha _ hm).symm⟩, by rw [ha _ hm]; decide⟩

/-- The variable that a node binds, if any, occurs at the right levels. -/
def bnS (t : Co) : Bool := if t.k = 4 then oneB (lvB t 0 0).length ((lvB t 0 0).getD 0 0) 0 else if t.k = 7 then eqsB (lvB t 1 0) 0 || eqsB (lvB t 1 0) 1 else true
theorem stH_eq (t : Co) (lv : Nat) : stH t lv = (decide (lv ≤ 8) && bnS t) := by
  unfold stH bnS
  congr 1
  split
  · rw [show lvB t 0 lv = (lvB t 0 0).map (· + (lv : Int)) from lvC_up _ lv, List.length_map]
    have := eqsB_up (lvB t 0 0) lv 0
    rw [Int.add_zero] at this
    rw [this]
    exact one_zero _ (lvC_nonneg _ _ _ _)
  · split
    · rw [show lvB t 1 lv = (lvB t 1 0).map (· + (lv : Int)) from lvC_up _ lv, eqsB_up (lvB t 1 0) lv 1]
      have := eqsB_up (lvB t 1 0) lv 0
      rw [Int.add_zero] at this
      rw [this]
    · rfl

/-- A node lies at its level as its subterm asks. -/
def StN (x : NodeK) : Prop := stH x.u.co x.lv = true
theorem nodesK_str_of (u : LK) (ih : ∀ t ∈ u.ks, ∀ b o bd lv, (∀ x ∈ nodesK t b o bd lv, StN x) ↔ t.co.str lv = true) (b o bd lv : Nat) : (∀ x ∈ nodesK u b o bd lv, StN x) ↔ u.co.str lv = true := by
  rw [nodesK_eq, str_eq, Bool.and_eq_true, strs_iff, LK.co_k, LK.co_ks]
  constructor
  · intro h
    refine ⟨h _ List.mem_cons_self, fun t ht => ?_⟩
    obtain ⟨s, hs, rfl⟩ := List.mem_map.1 ht
    obtain ⟨i, hi, rfl⟩ := List.mem_iff_getElem.1 hs
    refine (ih _ (List.getElem_mem hi) (blkOf u.a) (offOf u.a + i * 4) (bd + bndK u.k i) (lv + bxK u.k)).1 fun x hx => h x (List.mem_cons_of_mem _ (mem_kidsK.2 ⟨i, hi, ?_⟩))
    rw [List.getD, List.getElem?_eq_getElem hi]; exact hx
  · rintro ⟨h1, h2⟩ x hx
    rcases List.mem_cons.1 hx with rfl | hx
    · exact h1
    · obtain ⟨i, hi, hx⟩ := mem_kidsK.1 hx
      rw [List.getD, List.getElem?_eq_getElem hi] at hx
      exact (ih _ (List.getElem_mem hi) (blkOf u.a) (offOf u.a + i * 4) (bd + bndK u.k i) (lv + bxK u.k)).2 (h2 _ (List.mem_map_of_mem (List.getElem_mem hi))) x hx
theorem nodesK_str (u : LK) : ∀ b o bd lv, (∀ x ∈ nodesK u b o bd lv, StN x) ↔ u.co.str lv = true := by
  refine LK.ind (P := fun u => ∀ b o bd lv, (∀ x ∈ nodesK u b o bd lv, StN x) ↔ u.co.str lv = true) (fun k v da dc ds a cap ks ih => ?_) u
  exact nodesK_str_of (.mk k v da dc ds a cap ks) ih

theorem nn_kidC {u : LK} (j : Nat) (hj : j < u.ks.length) : u.ks[j].co.nn ≤ u.co.nn := by
  have := cnns_mem (ks := u.co.ks) (t := u.ks[j].co) (by rw [LK.co_ks]; exact List.mem_map_of_mem (List.getElem_mem hj))
  have h2 := Co.nn_eq u.co
  omega

set_option maxRecDepth 100000 in
set_option maxHeartbeats 1000000 in
theorem impl_bindsStr (u : LK) (w : World) (b o : Nat) (h : coAt w b o u) (hok : headC u.k u.v u.ds u.ks.length = true) (hdp : u.co.dp ≤ 1000) (hnn : u.co.nn ≤ 1000) : Calls Tryd.prog 69 #[.pointer (some ⟨b, o, none⟩)] w (BoolGw (bnS u.co) w) := by
  have hll := h.2.kl
  obtain ⟨p0, p1, p2, p3⟩ := h.c
  have A := Lib.hid h
  have HNN := Lib.hid hnn
  by_cases h4 : u.k = 4
  · have hlen : u.ks.length = 1 := by
      have this := hok
      unfold headC at this
      rw [Bool.and_eq_true, h4] at this
      have := this.1
      simp [coLo, coHi, inV] at this
      omega
    have h0 : 0 < u.ks.length := by omega
    obtain ⟨bk, ok, ha, hkid⟩ := coAt.kid A.out.2.kids 0 h0
    have HK := Lib.hid (impl_varLevels u.ks[0] w _ _ hkid (by have := dp_kid (u := u) 0 h0; omega) (by have := nn_kidC (u := u) 0 h0; omega))
    have F := Lib.hid (show bnS u.co = oneB (lvC u.ks[0].co 0 0 0).length ((lvC u.ks[0].co 0 0 0).getD 0 0) 0 by
      unfold bnS
      rw [u.co_k, if_pos h4, lvB_kid u 0 0 h0])
    have LL := Lib.hid (Nat.le_trans (lvC_len u.ks[0].co 0 0 0) (nn_kidC (u := u) 0 h0))
    rw [ha] at p3
    rw [h4] at p0
    clear h hok hdp hnn hkid h4
    go_enter Tryd.func69, Tryd.ntmps69
    go_wp2_with fail
    refine HK.out.mono ?_
    rintro e w1 ⟨v, rfl, hr, g1⟩
    obtain ⟨a, c, rfl⟩ := hr.form
    have K2 := Lib.hid (impl_oneLevel a (lvC u.ks[0].co 0 0 0).length c ((lvC u.ks[0].co 0 0 0).getD 0 0) 0 w1 (by have := LL.out; have := HNN.out; omega) (by
      by_cases e0 : (lvC u.ks[0].co 0 0 0).length = 0
      · exact .inl e0
      · obtain ⟨g, rfl, hc, _⟩ := hr.cell 0 (by omega)
        exact .inr ⟨g, rfl, by rw [hc, List.getD, List.getElem?_eq_getElem (by omega)]; rfl⟩))
    have G1 := Lib.hid g1
    clear hr g1 p0 p1 p2 p3
    go_wp2_with fail
    refine K2.out.mono ?_
    rintro e w2 ⟨rfl, g2⟩
    go_wp2_with fail
    go_ret
    exact ⟨ret_b F.out.symm, G1.out.trans g2⟩
  by_cases h7 : u.k = 7
  · have hlen : u.ks.length = 2 := by
      have this := hok
      unfold headC at this
      rw [Bool.and_eq_true, h7] at this
      have := this.1
      simp [coLo, coHi, inV] at this
      omega
    have h0 : 1 < u.ks.length := by omega
    obtain ⟨bk, ok, ha, hkid⟩ := coAt.kid A.out.2.kids 1 h0
    have HK := Lib.hid (impl_varLevels u.ks[1] w _ _ hkid (by have := dp_kid (u := u) 1 h0; omega) (by have := nn_kidC (u := u) 1 h0; omega))
    have F := Lib.hid (show bnS u.co = (eqsB (lvC u.ks[1].co 0 0 0) 0 || eqsB (lvC u.ks[1].co 0 0 0) 1) by
      unfold bnS
      rw [u.co_k, if_neg h4, if_pos h7, lvB_kid u 1 0 h0])
    have NG := Lib.hid (lvC_nonneg u.ks[1].co 0 0 0)
    have LL := Lib.hid (Nat.le_trans (lvC_len u.ks[1].co 0 0 0) (nn_kidC (u := u) 1 h0))
    generalize lvC u.ks[1].co 0 0 0 = L at HK F NG LL
    rw [ha] at p3
    rw [h7] at p0
    clear h hok hdp hnn hkid h4 h7
    go_enter Tryd.func69, Tryd.ntmps69
    go_wp2_with fail
    refine HK.out.mono ?_
    rintro e w1 ⟨v, rfl, hr, g1⟩
    have K2 := Lib.hid (impl_compact L w1 v w.heap.size hr g1.size (by have := LL.out; have := HNN.out; omega))
    have G1 := Lib.hid g1
    clear hr g1 p0 p1 p2 p3
    go_wp2_with fail
    refine K2.out.mono ?_
    rintro e w2 ⟨a, n, c, rfl, hn, e0, e1, hc, g2⟩
    have G2 := Lib.hid (show Gw w w2 from Below.trans G1.out g2)
    have K3 := Lib.hid (impl_oneLevel a n c (L.getD 0 0) 1 w2 (by have := LL.out; have := HNN.out; omega) (by
      by_cases e : n = 0
      · exact .inl e
      · exact .inr (hc (fun e' => e (e0.2 e')))))
    have E := Lib.hid (two_one NG.out e0 e1)
    clear hn e0 e1 hc g2
    go_wp2_with fail
    refine K3.out.mono ?_
    rintro e w3 ⟨rfl, g3⟩
    go_wp2_with fail
    go_ret
    exact ⟨ret_b (E.out.trans F.out.symm), G2.out.trans g3⟩
  have q4 : (u.k == 4) = false := by simpa using h4
  have q7 : (u.k == 7) = false := by simpa using h7
  have F := Lib.hid (show bnS u.co = true by
    unfold bnS
    rw [u.co_k, if_neg h4, if_neg h7])
  clear h hok hdp hnn h4 h7
  go_enter Tryd.func69, Tryd.ntmps69
  go_wp2_with fail
  go_ret
  exact ⟨ret_b F.out.symm, Gw.refl _⟩

end Go.Proofs.YtfbgkbgoooepmaaDoor.Con
