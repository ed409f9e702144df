/-
  What marking makes of a type that lies in blocks of its own, and that it touches no other block. No program in it, no condition.
-/
import Derived.Test.YtbbldkhlclfmkaaTyStk
import Derived.Test.YtbbldkhlclfmkaaMark
namespace Go.Proofs.Ytbbldkhlclfmkaa.Con
open Go.RowKit
set_option linter.unusedVariables false

/-- A type with its marks from number k on, and the number behind them. -/
def LT.mkd : LT → Nat → LT × Nat
  | .mk _ _ a c ks, k => (.mk k (str (mtx (k + 1))) a c (mkl ks (k + 2)).1, (mkl ks (k + 2)).2)
where mkl : List LT → Nat → List LT × Nat
  | [], k => ([], k)
  | t :: ts, k => ((t.mkd k).1 :: (mkl ts (t.mkd k).2).1, (mkl ts (t.mkd k).2).2)

abbrev mkl (ks : List LT) (k : Nat) : List LT × Nat := LT.mkd.mkl ks k

theorem mkd_eq (t : LT) (k : Nat) : t.mkd k = (.mk k (str (mtx (k + 1))) t.a t.cap (mkl t.ks (k + 2)).1, (mkl t.ks (k + 2)).2) := by
  obtain ⟨k', n, a, c, ks⟩ := t
  rw [LT.mkd]; rfl
theorem mkl_nil (k : Nat) : mkl [] k = ([], k) := by simp [mkl, LT.mkd.mkl]
theorem mkl_cons (t : LT) (ts : List LT) (k : Nat) : mkl (t :: ts) k = ((t.mkd k).1 :: (mkl ts (t.mkd k).2).1, (mkl ts (t.mkd k).2).2) := by simp only [mkl, LT.mkd.mkl]

theorem mkl_append (xs ys : List LT) (k : Nat) : mkl (xs ++ ys) k = ((mkl xs k).1 ++ (mkl ys (mkl xs k).2).1, (mkl ys (mkl xs k).2).2) := by
  induction xs generalizing k with
  | nil => simp [mkl_nil]
  | cons t ts ih => rw [List.cons_append, mkl_cons, mkl_cons, ih]; simp

/-- How many nodes there are below. -/
def LT.cnt : LT → Nat
  | .mk _ _ _ _ ks => 1 + cntl ks
where cntl : List LT → Nat
  | [] => 0
  | t :: ts => t.cnt + cntl ts
abbrev cntl (ks : List LT) : Nat := LT.cnt.cntl ks
theorem cnt_eq (t : LT) : t.cnt = 1 + cntl t.ks := by
  obtain ⟨k', n, a, c, ks⟩ := t
  rw [LT.cnt]; rfl
theorem cntl_cons (t : LT) (ts : List LT) : cntl (t :: ts) = t.cnt + cntl ts := by simp only [cntl, LT.cnt.cntl]
theorem cntl_nil : cntl [] = 0 := by simp [cntl, LT.cnt.cntl]
theorem cntl_append (xs ys : List LT) : cntl (xs ++ ys) = cntl xs + cntl ys := by
  induction xs with
  | nil => simp [cntl_nil]
  | cons t ts ih => rw [List.cons_append, cntl_cons, cntl_cons, ih]; omega

mutual
theorem mkd_len : ∀ (t : LT) (k : Nat), (t.mkd k).2 = k + 2 * t.cnt
  | .mk k' n a c ks, k => by
    rw [mkd_eq, cnt_eq]
    have := mkl_len ks (k + 2)
    simp only [LT.ks] at this ⊢
    omega
theorem mkl_len : ∀ (ks : List LT) (k : Nat), (mkl ks k).2 = k + 2 * cntl ks ∧ (mkl ks k).1.length = ks.length
  | [], k => by rw [mkl_nil, cntl_nil]; simp
  | t :: ts, k => by
    rw [mkl_cons, cntl_cons]
    have h1 := mkd_len t k
    have h2 := mkl_len ts (t.mkd k).2
    simp only [List.length_cons]
    omega
end

mutual
theorem mkd_bl : ∀ (t : LT) (k : Nat), (t.mkd k).1.bl = t.bl
  | .mk k' n a c ks, k => by
    rw [mkd_eq, LT.bl_eq, LT.bl_eq]
    have h1 := mkl_bl ks (k + 2)
    have h2 := (mkl_len ks (k + 2)).2
    simp only [LT.ks, LT.a] at h1 h2 ⊢
    rw [h1]
    congr 2
    cases ks with
    | nil => rw [mkl_nil]
    | cons t ts => rw [mkl_cons]; rfl
theorem mkl_bl : ∀ (ks : List LT) (k : Nat), bls (mkl ks k).1 = bls ks
  | [], k => by rw [mkl_nil]
  | t :: ts, k => by
    rw [mkl_cons]
    have h1 := mkd_bl t k
    have h2 := mkl_bl ts (t.mkd k).2
    simp only [bls, LT.bl.bls] at h1 h2 ⊢
    rw [h1, h2]
end

theorem cnt_sz : ∀ (ks : List LT), cntl ks ≤ LT.sz.szl ks := by
  have key : ∀ t : LT, t.cnt ≤ 1 + t.sz := fun t => by
    refine LT.ind (P := fun t => t.cnt ≤ 1 + t.sz) (fun k n a c ks ih => ?_) t
    rw [cnt_eq, LT.sz_eq]
    have : cntl ks ≤ LT.sz.szl ks := by
      induction ks with
      | nil => rw [cntl_nil]; omega
      | cons t ts ih2 =>
        rw [cntl_cons]
        simp only [LT.sz.szl]
        have h1 := ih t (by simp)
        have h2 := ih2 (fun u hu => ih u (by simp [hu]))
        omega
    simp only [LT.ks]
    omega
  intro ks
  induction ks with
  | nil => rw [cntl_nil]; omega
  | cons t ts ih =>
    rw [cntl_cons]
    simp only [LT.sz.szl]
    have := key t
    omega

/-- The blocks of a slice. -/
def sbl (a : Option Addr) (ks : List LT) : List Nat := (LT.mk 0 ⟨#[]⟩ a 0 ks).bl
theorem sbl_cap (a : Option Addr) (c : Nat) (ks : List LT) : (LT.mk 0 ⟨#[]⟩ a c ks).bl = sbl a ks := by unfold sbl; rw [LT.bl_eq, LT.bl_eq]; rfl
theorem LT.bl_s (t : LT) : t.bl = sbl t.a t.ks := by unfold sbl; rw [LT.bl_eq, LT.bl_eq]; rfl
theorem sbl_some {b o : Nat} {sp : Option Nat} {ks : List LT} (h : ks ≠ []) : sbl (some ⟨b, o, sp⟩) ks = b :: bls ks := by
  unfold sbl; rw [LT.bl_eq]; cases ks with | nil => exact absurd rfl h | cons t ts => rfl

/-- One node of a row has been marked, and what lies below it. -/
theorem mark_next {B b o cap k n : Nat} {s : ByteArray} {wr w2 w4 : World} {xs ys ks' : List LT} {t : LT} (hxn : xs.length = n) (hs : s.size ≤ maxLen) (hk : k ≤ 9000000) (h : slNew B wr (some ⟨b, o, none⟩) cap (xs ++ t :: ys))
    (hg : Gw (wr.setCell ⟨b, o + n * 3, none⟩ (.int .i64 k)) w2)
    (hc : Chg (w2.setCell ⟨b, o + n * 3 + 1, none⟩ (.string s)) w4 (fun x => x ∈ sbl t.a t.ks)) (hn : slNew B w4 t.a t.cap ks') (hbl : sbl t.a ks' = sbl t.a t.ks) (hkl : ks'.length = t.ks.length) :
    slNew B w4 (some ⟨b, o, none⟩) cap (xs ++ LT.mk k s t.a t.cap ks' :: ys) ∧ Chg wr w4 (fun x => x ∈ sbl (some ⟨b, o, none⟩) (xs ++ t :: ys)) := by
  subst hxn
  have hne : xs ++ t :: ys ≠ [] := by simp
  have hbb : sbl (some ⟨b, o, none⟩) (xs ++ t :: ys) = b :: (bls xs ++ (t.bl ++ bls ys)) := by rw [sbl_some hne, bls_append]; rfl
  have hnd := h.2.1
  rw [sbl_cap, hbb] at hnd
  rw [List.nodup_cons, List.nodup_append, List.nodup_append] at hnd
  obtain ⟨hb0, hx1, ⟨ht1, hy1, hty⟩, hxy⟩ := hnd
  have hfree : ∀ x ∈ b :: (bls xs ++ (t.bl ++ bls ys)), B ≤ x ∧ Free wr x := fun x hx => h.2.2 x (by rw [sbl_cap, hbb]; exact hx)
  have hbt : b ∉ t.bl := fun hm => hb0 (by simp [hm])
  obtain ⟨cs, e, hcs⟩ := (hfree b (by simp)).2
  have hblt : b < wr.heap.size := (Array.getElem?_eq_some_iff.1 hcs).1
  have h1b : (wr.setCell ⟨b, o + xs.length * 3, none⟩ (.int .i64 k)).heap[b]? = some (.cells (cs.setIfInBounds (o + xs.length * 3) (.int .i64 k)) e (0, 0)) := by simp [World.setCell, Array.getElem?_modify, hcs]
  have hsz1 : (wr.setCell ⟨b, o + xs.length * 3, none⟩ (.int .i64 k)).heap.size = wr.heap.size := by simp [World.setCell]
  have h2b : w2.heap[b]? = some (.cells (cs.setIfInBounds (o + xs.length * 3) (.int .i64 k)) e (0, 0)) := (hg.block b (by omega)).trans h1b
  have h3b : (w2.setCell ⟨b, o + xs.length * 3 + 1, none⟩ (.string s)).heap[b]? = some (.cells ((cs.setIfInBounds (o + xs.length * 3) (.int .i64 k)).setIfInBounds (o + xs.length * 3 + 1) (.string s)) e (0, 0)) := by simp [World.setCell, Array.getElem?_modify, h2b]
  have hsz2 : wr.heap.size ≤ w2.heap.size := by have := hg.size; omega
  have hsz3 : (w2.setCell ⟨b, o + xs.length * 3 + 1, none⟩ (.string s)).heap.size = w2.heap.size := by simp [World.setCell]
  rw [← LT.bl_s] at hc hbl
  have h4b : w4.heap[b]? = some (.cells ((cs.setIfInBounds (o + xs.length * 3) (.int .i64 k)).setIfInBounds (o + xs.length * 3 + 1) (.string s)) e (0, 0)) := (hc.2.2.2.2 b (by omega) hbt).trans h3b
  have hfar : ∀ x, x < wr.heap.size → x ≠ b → x ∉ t.bl → w4.heap[x]? = wr.heap[x]? := fun x hx hxb hxt => by
    rw [hc.2.2.2.2 x (by omega) hxt, Below.heap_setCell _ _ _ _ hxb, hg.block x (by omega), Below.heap_setCell _ _ _ _ hxb]
  have hchg : Chg wr w4 (fun x => x ∈ sbl (some ⟨b, o, none⟩) (xs ++ t :: ys)) := by
    refine ⟨hc.1.trans hg.os, hc.2.1.trans hg.tape, hc.2.2.1.trans hg.output, by have := hc.2.2.2.1; omega, fun x hx hm => hfar x hx (fun e => hm (by rw [hbb, e]; simp)) (fun hm' => hm (by rw [hbb]; simp [hm']))⟩
  have hrow := h.ok.2.2.resolve_left hne
  obtain ⟨b', o', hbo, hrow⟩ := hrow
  injection hbo with hbo
  injection hbo with e1 e2
  subst e1 e2
  have hbl' : bls (xs ++ LT.mk k s t.a t.cap ks' :: ys) = bls (xs ++ t :: ys) := by
    rw [bls_append, bls_append]
    have : (LT.mk k s t.a t.cap ks').bl = t.bl := by rw [LT.bl_s]; exact hbl
    simp only [bls, LT.bl.bls, this]
  have hne' : xs ++ LT.mk k s t.a t.cap ks' :: ys ≠ [] := by simp
  have hsame : sbl (some ⟨b, o, none⟩) (xs ++ LT.mk k s t.a t.cap ks' :: ys) = sbl (some ⟨b, o, none⟩) (xs ++ t :: ys) := by rw [sbl_some hne', sbl_some hne, hbl']
  have hcell : ∀ p, w4.cell? ⟨b, p, none⟩ = ((cs.setIfInBounds (o + xs.length * 3) (.int .i64 k)).setIfInBounds (o + xs.length * 3 + 1) (.string s))[p]? := fun p => cell_of_row _ _ _ _ _ _ h4b
  have hold : ∀ p, wr.cell? ⟨b, p, none⟩ = cs[p]? := fun p => cell_of_row _ _ _ _ _ _ hcs
  have okfar : ∀ u, (u ∈ xs ∨ u ∈ ys) → u.Ok wr → u.Ok w4 := fun u hu ho => ho.frame fun x hx => by
    have hxm : x ∈ bls xs ∨ x ∈ bls ys := hu.imp (fun h => bl_sub h x hx) (fun h => bl_sub h x hx)
    refine hfar x ((hfree x (by simp; rcases hxm with h | h <;> simp [h])).2.lt) (fun e => hb0 (by rw [← e]; rcases hxm with h | h <;> simp [h])) (fun hm => ?_)
    rcases hxm with h | h
    · exact hxy x h x (by simp [hm]) rfl
    · exact hty x hm x h rfl
  refine ⟨⟨LT.ok_mk (Nat.zero_le _) (by simp [LT.k]) (by simp [LT.k]) ⟨?_, h.ok.2.1, .inr ⟨b, o, rfl, rowOk_mk fun i hi => ?_⟩⟩, ?_, ?_⟩, hchg⟩
  · have := h.ok.1
    simpa [LT.ks, LT.cap] using this
  · have hi' : i < (xs ++ t :: ys).length := by simpa [LT.ks] using hi
    obtain ⟨c0, c1, c2, ho⟩ := rowOk_get hrow i hi'
    rw [hold] at c0 c1 c2
    simp only [LT.ks]
    rw [show 3 * i = i * 3 from Nat.mul_comm _ _, hcell, hcell, hcell]
    have hin0 : o + i * 3 < cs.size := by
      rcases Nat.lt_or_ge (o + i * 3) cs.size with h | h
      · exact h
      · rw [Array.getElem?_eq_none h] at c0; cases c0
    have hin1 : o + i * 3 + 1 < cs.size := by
      rcases Nat.lt_or_ge (o + i * 3 + 1) cs.size with h | h
      · exact h
      · rw [Array.getElem?_eq_none h] at c1; cases c1
    by_cases hx : i < xs.length
    · have e1 : (xs ++ t :: ys)[i] = xs[i] := List.getElem_append_left hx
      have e2 : (xs ++ LT.mk k s t.a t.cap ks' :: ys)[i]'(by simp; omega) = xs[i] := List.getElem_append_left hx
      rw [e1] at c0 c1 c2 ho
      rw [e2]
      refine ⟨?_, ?_, ?_, okfar _ (.inl (List.getElem_mem hx)) ho⟩
      · rw [Array.getElem?_setIfInBounds_ne (by omega), Array.getElem?_setIfInBounds_ne (by omega)]; exact c0
      · rw [Array.getElem?_setIfInBounds_ne (by omega), Array.getElem?_setIfInBounds_ne (by omega)]; exact c1
      · rw [Array.getElem?_setIfInBounds_ne (by omega), Array.getElem?_setIfInBounds_ne (by omega)]; exact c2
    · by_cases hy : i = xs.length
      · subst hy
        have e1 : (xs ++ t :: ys)[xs.length] = t := by simp
        have e2 : (xs ++ LT.mk k s t.a t.cap ks' :: ys)[xs.length]'(by simp) = LT.mk k s t.a t.cap ks' := by simp
        rw [e1] at c2
        rw [e2]
        refine ⟨?_, ?_, ?_, LT.ok_mk hs (by show (-9223372036854775808 : Int) ≤ (k : Int); omega) (by show (k : Int) ≤ 9223372036854775807; omega) hn.ok⟩
        · rw [Array.getElem?_setIfInBounds_ne (by omega), Array.getElem?_setIfInBounds_self_of_lt (by omega)]; rfl
        · rw [Array.getElem?_setIfInBounds_self_of_lt (by simp; omega)]; rfl
        · rw [Array.getElem?_setIfInBounds_ne (by omega), Array.getElem?_setIfInBounds_ne (by omega), c2]; simp [LT.a, LT.ks, LT.cap, hkl]
      · have hylen : i - xs.length - 1 < ys.length := by simp at hi'; omega
        have e1 : (xs ++ t :: ys)[i] = ys[i - xs.length - 1] := by rw [List.getElem_append_right (by omega), List.getElem_cons, dif_neg (by omega)]
        have e2 : (xs ++ LT.mk k s t.a t.cap ks' :: ys)[i]'(by simp; simp at hi'; omega) = ys[i - xs.length - 1] := by rw [List.getElem_append_right (by omega), List.getElem_cons, dif_neg (by omega)]
        rw [e1] at c0 c1 c2 ho
        rw [e2]
        refine ⟨?_, ?_, ?_, okfar _ (.inr (List.getElem_mem hylen)) ho⟩
        · rw [Array.getElem?_setIfInBounds_ne (by omega), Array.getElem?_setIfInBounds_ne (by omega)]; exact c0
        · rw [Array.getElem?_setIfInBounds_ne (by omega), Array.getElem?_setIfInBounds_ne (by omega)]; exact c1
        · rw [Array.getElem?_setIfInBounds_ne (by omega), Array.getElem?_setIfInBounds_ne (by omega)]; exact c2
  · rw [sbl_cap, hsame, hbb, List.nodup_cons, List.nodup_append, List.nodup_append]
    exact ⟨hb0, hx1, ⟨ht1, hy1, hty⟩, hxy⟩
  · intro x hx
    rw [sbl_cap, hsame, hbb] at hx
    refine ⟨(hfree x hx).1, ?_⟩
    by_cases hxb : x = b
    · subst hxb; exact ⟨_, _, h4b⟩
    by_cases hxt : x ∈ t.bl
    · exact (hn.2.2 x (by rw [sbl_cap, hbl]; exact hxt)).2
    · exact (hfree x hx).2.same (hfar x (hfree x hx).2.lt hxb hxt)

/-- Ahead of the call that marks what lies below. -/
theorem mark_pre {B b o cap : Nat} {wr w2 : World} {xs ys : List LT} {t : LT} {v1 v2 : Value} {i j : Nat} (h : slNew B wr (some ⟨b, o, none⟩) cap (xs ++ t :: ys)) (hg : Gw (wr.setCell ⟨b, i, none⟩ v1) w2) : slNew B (w2.setCell ⟨b, j, none⟩ v2) t.a t.cap t.ks := by
  have hne : xs ++ t :: ys ≠ [] := by simp
  have hbb : sbl (some ⟨b, o, none⟩) (xs ++ t :: ys) = b :: (bls xs ++ (t.bl ++ bls ys)) := by rw [sbl_some hne, bls_append]; rfl
  have hnd := h.2.1
  rw [sbl_cap, hbb] at hnd
  rw [List.nodup_cons, List.nodup_append, List.nodup_append] at hnd
  obtain ⟨hb0, hx1, ⟨ht1, hy1, hty⟩, hxy⟩ := hnd
  have hbt : b ∉ t.bl := fun hm => hb0 (by simp [hm])
  obtain ⟨b', o', hbo, hrow⟩ := h.ok.2.2.resolve_left hne
  have hok : t.Ok wr := by
    have := (rowOk_get hrow xs.length (by simp)).2.2.2
    simpa using this
  have hnew : t.New B wr := ⟨hok, ht1, fun x hx => h.2.2 x (by rw [sbl_cap, hbb]; simp [hx])⟩
  exact (((hnew.far ⟨b, i, none⟩ hbt v1).grow hg).far ⟨b, j, none⟩ hbt v2).kids

end Go.Proofs.Ytbbldkhlclfmkaa.Con
