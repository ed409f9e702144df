/-
  A row of core terms that grows by append of a zero element that is then written: what holds behind both stores, in either order; rows of terms of their own ('gApp') and rows of terms that share memory ('AppS'). No program in it.
-/
import Derived.Test.YtfbgkbgoooepmaaDoorCoRp
import Derived.Test.YtfbgkbgoooepmaaDoorGrA
import Derived.Test.YtfbgkbgoooepmaaDoorAnyL
namespace Go.Proofs.YtfbgkbgoooepmaaDoor.Con
open Go.RowKit
set_option linter.unusedVariables false

theorem setRow_env (g : Nat) : ∀ (vs : List Value) (w : World) (o : Nat), (setRow w g o vs).os = w.os ∧ (setRow w g o vs).tape = w.tape ∧ (setRow w g o vs).output = w.output
  | [], _, _ => ⟨rfl, rfl, rfl⟩
  | v :: vs, w, o => by
    obtain ⟨h1, h2, h3⟩ := setRow_env g vs (w.setCell ⟨g, o, none⟩ v) (o + 1)
    rw [setRow]
    exact ⟨h1, h2, h3⟩
def zeE : List Value := [.int .i64 0, .int .i64 0, .slice none 0 0, .slice none 0 0]
theorem own_put {w F : World} {B n g cap : Nat} {e : TypeId} {xs zs ys : List Value} (h : w.ownsRow B e 4 (.slice (some ⟨g, 0, none⟩) (n + 1) cap) (n + 1) (xs ++ zs)) (hx : xs.length = n * 4) (hy : ys.length = 4) (hF : F.heap[g]? = (setRow w g (n * 4) ys).heap[g]?) :
    F.ownsRow B e 4 (.slice (some ⟨g, 0, none⟩) (n + 1) cap) (n + 1) (xs ++ ys) := by
  obtain ⟨hl, hc⟩ := h
  rcases hc with ⟨hc, _⟩ | ⟨g', cap', cur, hv, hB, hg, hn, hcm, hs, ht⟩
  · cases hc
  · injection hv with hv1 _ hv2
    injection hv1 with hv1
    injection hv1 with hv1
    subst hv1 hv2
    obtain ⟨cs', e1, e2, e3, e4⟩ := setRow_at g e ys w (n * 4) cur hg (by omega)
    refine ⟨by rw [List.length_append, hx, hy]; omega, .inr ⟨g, cap, cs', rfl, hB, hF.trans e1, hn, hcm, by rw [e2, hs], ?_⟩⟩
    refine List.ext_getElem? fun i => ?_
    rw [List.getElem?_take]
    by_cases hi : i < (n + 1) * 4
    · rw [if_pos hi, Array.getElem?_toList]
      by_cases hj : i < n * 4
      · rw [e3 i (.inl hj), List.getElem?_append_left (by omega)]
        have := congrArg (fun l => l[i]?) ht
        simp only [List.getElem?_take, if_pos hi, Array.getElem?_toList] at this
        rw [this, List.getElem?_append_left (by omega)]
      · rw [List.getElem?_append_right (by omega), hx]
        obtain ⟨j, rfl⟩ : ∃ j, i = n * 4 + j := ⟨i - n * 4, by omega⟩
        rw [show n * 4 + j - n * 4 = j by omega]
        have hjl : j < ys.length := by omega
        rw [List.getElem?_eq_getElem hjl]
        exact e4 j _ (List.getElem?_eq_getElem hjl)
    · rw [if_neg hi, List.getElem?_eq_none (by rw [List.length_append]; omega)]

/-- Behind both stores. -/
def AppF (w2 F : World) (g T n : Nat) (x : LK) (v : Value) : Prop := (F.os = w2.os ∧ F.tape = w2.tape ∧ F.output = w2.output ∧ F.heap.size = w2.heap.size) ∧ F.heap[g]? = (setRow w2 g (n * 4) (coE x)).heap[g]? ∧ F.heap[T]? = (w2.setCell ⟨T, 3, none⟩ v).heap[T]? ∧ ∀ b, b ≠ g → b ≠ T → F.heap[b]? = w2.heap[b]?
theorem setRow_four (w : World) (g o : Nat) (x : LK) : setRow w g o (coE x) = (((w.setCell ⟨g, o, none⟩ (.int .i64 x.k)).setCell ⟨g, o + 1, none⟩ (.int .i64 x.v)).setCell ⟨g, o + 2, none⟩ (.slice x.da x.ds.length x.dc)).setCell ⟨g, o + 3, none⟩ (.slice x.a x.ks.length x.cap) := rfl
theorem appF1 (w2 : World) (g T n : Nat) (x : LK) (v : Value) (h : g ≠ T) : AppF w2 ((setRow w2 g (n * 4) (coE x)).setCell ⟨T, 3, none⟩ v) g T n x v := by
  obtain ⟨h1, h2, h3⟩ := setRow_env g (coE x) w2 (n * 4)
  have hs := setRow_size g (coE x) w2 (n * 4)
  refine ⟨⟨h1, h2, h3, by simp only [World.setCell, Array.size_modify]; exact hs⟩, Below.heap_setCell _ _ _ _ h, ?_, fun b hb hbT => ?_⟩
  · have := setRow_far g T (fun e => h e.symm) (coE x) w2 (n * 4)
    simp only [World.setCell, Array.getElem?_modify, if_true]
    rw [this]
  · rw [Below.heap_setCell _ _ _ _ hbT, setRow_far g b hb]
theorem appF2 (w2 : World) (g T n : Nat) (x : LK) (v : Value) (h : g ≠ T) : AppF w2 (setRow (w2.setCell ⟨T, 3, none⟩ v) g (n * 4) (coE x)) g T n x v := by
  obtain ⟨h1, h2, h3⟩ := setRow_env g (coE x) (w2.setCell ⟨T, 3, none⟩ v) (n * 4)
  have hs := setRow_size g (coE x) (w2.setCell ⟨T, 3, none⟩ v) (n * 4)
  have key : ∀ (vs : List Value) (A B : World) (o : Nat), A.heap[g]? = B.heap[g]? → (setRow A g o vs).heap[g]? = (setRow B g o vs).heap[g]? := by
    intro vs
    induction vs with
    | nil => intro A B o e; exact e
    | cons u us ih =>
      intro A B o e
      rw [setRow, setRow]
      refine ih _ _ _ ?_
      simp only [World.setCell, Array.getElem?_modify, if_true]
      rw [e]
  refine ⟨⟨h1, h2, h3, by rw [hs]; simp [World.setCell]⟩, key _ _ _ _ (Below.heap_setCell _ _ _ _ h), setRow_far g T (fun e => h e.symm) _ _ _, fun b hb hbT => ?_⟩
  rw [setRow_far g b hb, Below.heap_setCell _ _ _ _ hbT]
theorem coFlat (us : List LK) : (us.flatMap coE).length = us.length * 4 := flat_len coLen us

/-- One element more, in terms of their own. -/
theorem gApp.put1 {w w1 w2 F : World} {v : Value} {us : List LK} {x : LK} {e : TypeId} {B Bu g cap T : Nat} (h : gApp e 4 coE LK.Ok LK.bl B w v us) (hg : Gw w w1) (hu : x.New Bu w1) (hB : w.heap.size ≤ Bu) (hBB : B ≤ w.heap.size)
    (hown : w2.ownsRow B e 4 (.slice (some ⟨g, 0, none⟩) (us.length + 1) cap) (us.length + 1) (us.flatMap coE ++ zeE)) (hgr : w1.grownBy w2 v.ownBlock) (hat : v.ownBlock = some g ∨ w1.heap.size ≤ g) (hT : T < B) (hF : AppF w2 F g T us.length x (.slice (some ⟨g, 0, none⟩) (us.length + 1) cap)) :
    gApp e 4 coE LK.Ok LK.bl B F (.slice (some ⟨g, 0, none⟩) (us.length + 1) cap) (us ++ [x]) := by
  obtain ⟨hf0, hf1, hf2, hf3⟩ := hF
  have o1 := own_put (F := setRow w2 g (us.length * 4) (coE x)) hown (coFlat us) (coLen x) rfl
  have hgr' : w1.grownBy (setRow w2 g (us.length * 4) (coE x)) v.ownBlock := by
    obtain ⟨h1, h2, h3⟩ := setRow_env g (coE x) w2 (us.length * 4)
    refine ⟨h1.trans hgr.os, h2.trans hgr.tape, h3.trans hgr.output, by rw [setRow_size]; exact hgr.size, fun b hb hne => ?_⟩
    rw [setRow_far g b (fun e => by
      subst e
      rcases hat with hat | hat
      · exact hne hat.symm
      · omega)]
    exact hgr.block b hb hne
  have P := gApp.push (g := g) coGr coFr h hg hu hB hBB o1 rfl hgr' hat
  obtain ⟨p1, p2, p3, p4⟩ := P
  have gB : B ≤ g := by
    rcases hat with hat | hat
    · exact (h.1.lt g hat).1
    · have := hg.size; omega
  have same : ∀ b, b ≠ g → b ≠ T → F.heap[b]? = (setRow w2 g (us.length * 4) (coE x)).heap[b]? := fun b hb hbT => by rw [hf3 b hb hbT, setRow_far g b hb]
  have hbl : ∀ b ∈ (us ++ [x]).flatMap LK.bl, F.heap[b]? = (setRow w2 g (us.length * 4) (coE x)).heap[b]? := fun b hb => by
    have h4 := p4 b hb
    exact same b (fun e => h4.2.2 (by rw [e]; rfl)) (by omega)
  refine ⟨?_, fun u hu' => coFr _ _ _ (p2 u hu') fun b hb => hbl b (List.mem_flatMap.2 ⟨u, hu', hb⟩), p3, fun b hb => ⟨(p4 b hb).1, (p4 b hb).2.1.same (hbl b hb), (p4 b hb).2.2⟩⟩
  have o2 := own_put (F := F) hown (coFlat us) (coLen x) hf1
  rw [List.length_append, List.length_singleton, List.flatMap_append]
  simpa using o2

/-- A row of the call's own whose elements may share memory with each other, but not with the row. -/
def AppS (e : TypeId) (B : Nat) (w : World) (v : Value) (us : List LK) : Prop := w.ownsRow B e 4 v us.length (us.flatMap coE) ∧ (∀ u ∈ us, u.Ok w) ∧ ∀ u ∈ us, ∀ b ∈ u.bl, v.ownBlock ≠ some b
theorem AppS.nil (e : TypeId) (B : Nat) (w : World) : AppS e B w (.slice none 0 0) [] := ⟨⟨by simp, .inl ⟨rfl, rfl⟩⟩, (fun _ h => by cases h), fun _ h => by cases h⟩
theorem AppS.form {e : TypeId} {B : Nat} {w : World} {v : Value} {us : List LK} (h : AppS e B w v us) : ∃ a cap, v = .slice a us.length cap := by
  rcases h.1.2 with ⟨rfl, h0⟩ | ⟨g, cap, _, rfl, _⟩
  · exact ⟨none, 0, by rw [h0]⟩
  · exact ⟨_, cap, rfl⟩
theorem AppS.grow {e : TypeId} {B : Nat} {w w' : World} {v : Value} {us : List LK} (h : AppS e B w v us) (g : Gw w w') : AppS e B w' v us :=
  ⟨own_chgI h.1 (Chg.of_gw g (fun _ => False)) (fun _ _ h => h), fun u hu => (h.2.1 u hu).grow g, h.2.2⟩
theorem AppS.put1 {w w2 F : World} {v : Value} {us : List LK} {x : LK} {e : TypeId} {B g cap T : Nat} (h : AppS e B w v us) (hx : x.Ok w) (hxv : ∀ b ∈ x.bl, v.ownBlock ≠ some b)
    (hown : w2.ownsRow B e 4 (.slice (some ⟨g, 0, none⟩) (us.length + 1) cap) (us.length + 1) (us.flatMap coE ++ zeE)) (hgr : w.grownBy w2 v.ownBlock) (hat : v.ownBlock = some g ∨ w.heap.size ≤ g) (hT : (∀ u ∈ us, T ∉ u.bl) ∧ T ∉ x.bl) (hF : AppF w2 F g T us.length x (.slice (some ⟨g, 0, none⟩) (us.length + 1) cap)) :
    AppS e B F (.slice (some ⟨g, 0, none⟩) (us.length + 1) cap) (us ++ [x]) := by
  obtain ⟨hf0, hf1, hf2, hf3⟩ := hF
  have all : ∀ u ∈ us ++ [x], u.Ok w ∧ (∀ b ∈ u.bl, v.ownBlock ≠ some b) ∧ T ∉ u.bl := fun u hu => by
    rcases List.mem_append.1 hu with hu | hu
    · exact ⟨h.2.1 u hu, h.2.2 u hu, hT.1 u hu⟩
    · obtain rfl : u = x := by simpa using hu
      exact ⟨hx, hxv, hT.2⟩
  have ng : ∀ u ∈ us ++ [x], g ∉ u.bl := fun u hu hm => by
    obtain ⟨h1, h2, _⟩ := all u hu
    rcases hat with hat | hat
    · exact h2 g hm hat
    · have := ok_bl_lt u w h1 g hm; omega
  refine ⟨?_, fun u hu => ?_, fun u hu b hb e => ?_⟩
  · have o2 := own_put (F := F) hown (coFlat us) (coLen x) hf1
    rw [List.length_append, List.length_singleton, List.flatMap_append]
    simpa using o2
  · obtain ⟨h1, h2, h3⟩ := all u hu
    refine coFr _ _ _ h1 fun b hb => ?_
    rw [hf3 b (fun e => ng u hu (e ▸ hb)) (fun e => h3 (e ▸ hb))]
    exact hgr.block b (ok_bl_lt u w h1 b hb) (fun e => h2 b hb e.symm)
  · have e' : g = b := Option.some.inj e
    exact ng u hu (e' ▸ hb)
theorem AppS.done {e : TypeId} {B : Nat} {w : World} {a : Option Addr} {cap : Nat} {us : List LK} (h : AppS e B w (.slice a us.length cap) us) : coSl w a cap us := by
  obtain ⟨h1, h2, h3⟩ := h
  rcases h1.2 with ⟨hv, h0⟩ | ⟨g, cap', cur, hv, hB, hg, hn, hc, hs, ht⟩
  · have : us = [] := List.eq_nil_of_length_eq_zero h0
    subst this
    injection hv with ha _ hcap
    subst ha hcap
    exact ⟨Nat.le_refl _, Nat.zero_le _, .inl rfl⟩
  · injection hv with ha _ hcap
    subst ha hcap
    refine ⟨hn, hc, .inr ⟨g, 0, rfl, fun i hi => ⟨fun j v hv => ?_, h2 _ (List.getElem_mem hi)⟩⟩⟩
    have hj : j < 4 := by
      have := (List.getElem?_eq_some_iff.1 hv).1
      rwa [coLen] at this
    rw [cell_of_row _ _ _ _ _ _ hg, Nat.zero_add]
    have h5 := flat_get coLen us i hi j hj
    rw [hv] at h5
    have := congrArg (fun l => l[i * 4 + j]?) ht
    simp only [List.getElem?_take, if_pos (show i * 4 + j < us.length * 4 by omega), Array.getElem?_toList] at this
    rw [this, h5]
theorem AppS.mem {e : TypeId} {B : Nat} {w : World} {a : Option Addr} {n cap : Nat} {us : List LK} (h : AppS e B w (.slice a n cap) us) {g o : Nat} (ha : a = some ⟨g, o, none⟩) : B ≤ g := by
  subst ha
  rcases h.1.2 with ⟨hv, _⟩ | ⟨g', cap', cur, hv, hB, _⟩
  · cases hv
  · injection hv with ha
    injection ha with ha
    injection ha with ha
    omega
theorem kbl_sub : ∀ (us : List LK) (u : LK), u ∈ us → List.Sublist u.bl (us.flatMap LK.bl)
  | t :: ts, u, h => by
    rw [List.flatMap_cons]
    rcases List.mem_cons.1 h with rfl | h
    · exact List.sublist_append_left _ _
    · exact (kbl_sub ts u h).trans (List.sublist_append_right _ _)
/-- An element of a row of terms of their own is new. -/
theorem coNew.elem {B : Nat} {w : World} {a : Option Addr} {cap : Nat} {us : List LK} (h : coNew B w a cap us) (i : Nat) (hi : i < us.length) : us[i].New B w := by
  obtain ⟨h1, h2, h3⟩ := h
  have hne : us ≠ [] := fun e => by subst e; simp at hi
  obtain ⟨b, o, rfl, hr⟩ := h1.2.2.resolve_left hne
  rw [nb_ne hne] at h2 h3
  refine ⟨(hr i hi).2, ?_, fun y hy => h3 y (List.mem_cons_of_mem _ (List.mem_flatMap.2 ⟨_, List.getElem_mem hi, hy⟩))⟩
  have h4 := (List.nodup_cons.1 h2).2
  have h5 : List.Sublist us[i].bl (us.flatMap LK.bl) := kbl_sub us _ (List.getElem_mem hi)
  exact h4.sublist h5

section
variable {P : Program} {md : Region.Mode} {ops : Array Oper} {Q : Exit → Act → World → Prop} {S : Array Bool → World → Prop}
/-- Two operations may come. -/
theorem anyL_two {i j : Nat} {oi oj : Oper} {fuel : Nat} {L : Array Bool} {a : Act} {w : World} (hoi : ops[i]? = some oi) (hoj : ops[j]? = some oj) (hr : Region.ready md ops L = [i, j]) (hwi : Region.wanted oi (yielded ops a.tmps) = true) (hwj : Region.wanted oj (yielded ops a.tmps) = true)
    (hi : ∀ K : Act → World → Prop, Shut (∀ a w, S (L.setIfInBounds i true) w → anyL P md ops Q S fuel (L.setIfInBounds i true) a w → K a w) → oi.wp P a w K Q)
    (hj : ∀ K : Act → World → Prop, Shut (∀ a w, S (L.setIfInBounds j true) w → anyL P md ops Q S fuel (L.setIfInBounds j true) a w → K a w) → oj.wp P a w K Q) : anyL P md ops Q S (fuel + 1) L a w := by
  refine ⟨fun e => absurd (hr.symm.trans e) (by simp), fun k hk => ?_⟩
  rw [hr] at hk
  have hk' : k = i ∨ k = j := by simpa using hk
  rcases hk' with rfl | rfl
  · unfold wpOp
    simp only [hoi, hwi, if_true]
    exact .inl (hi _ (fun _ _ h1 h2 => ⟨h1, h2⟩))
  · unfold wpOp
    simp only [hoj, hwj, if_true]
    exact .inl (hj _ (fun _ _ h1 h2 => ⟨h1, h2⟩))
end

end Go.Proofs.YtfbgkbgoooepmaaDoor.Con
