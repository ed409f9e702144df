/-
  Marking of a term that lies in blocks of its own: no other block is touched. Condition: it is not too large.
-/
import Derived.Test.YtkfplnnncfkjfaaDoorTm
import Derived.Test.YtkfplnnncfkjfaaDoorTmVal
import Derived.Test.YtkfplnnncfkjfaaDoorTyMk
import Derived.Test.YtkfplnnncfkjfaaDoorStrS
import Derived.Deep.Cut
namespace Go.Proofs.YtkfplnnncfkjfaaDoor.Con
open Go.RowKit
set_option linter.unusedVariables false

/-- From A to B: but for the blocks S and for block b below cell q nothing that lay has turned. -/
structure Stp (b q : Nat) (S : Nat → Prop) (A B : World) : Prop where
  os : B.os = A.os
  tape : B.tape = A.tape
  output : B.output = A.output
  size : A.heap.size ≤ B.heap.size
  far : ∀ y, y < A.heap.size → y ≠ b → ¬ S y → B.heap[y]? = A.heap[y]?
  cell : ∀ p, q ≤ p → B.cell? ⟨b, p, none⟩ = A.cell? ⟨b, p, none⟩
  free : Free A b → Free B b
  keep : ∀ p, (∃ v, A.cell? ⟨b, p, none⟩ = some v) → ∃ v, B.cell? ⟨b, p, none⟩ = some v
theorem Stp.refl (b q : Nat) (S : Nat → Prop) (A : World) : Stp b q S A A := ⟨rfl, rfl, rfl, Nat.le_refl _, fun _ _ _ _ => rfl, fun _ _ => rfl, id, fun _ h => h⟩
theorem Stp.trans {b q : Nat} {S : Nat → Prop} {A B C : World} (h : Stp b q S A B) (k : Stp b q S B C) : Stp b q S A C :=
  ⟨k.os.trans h.os, k.tape.trans h.tape, k.output.trans h.output, Nat.le_trans h.size k.size, fun y hy hb hs => (k.far y (Nat.lt_of_lt_of_le hy h.size) hb hs).trans (h.far y hy hb hs), fun p hp => (k.cell p hp).trans (h.cell p hp), fun f => k.free (h.free f), fun p e => k.keep p (h.keep p e)⟩
theorem Stp.set {b q p : Nat} {S : Nat → Prop} {A B : World} (h : Stp b q S A B) (hp : p < q) (v : Value) : Stp b q S A (B.setCell ⟨b, p, none⟩ v) := by
  refine h.trans ⟨rfl, rfl, rfl, by simp [World.setCell], fun y hy hb _ => Below.heap_setCell _ _ _ _ (by simpa using hb), fun x hx => ?_, fun f => f.set _ _, fun x hx => ?_⟩
  · exact World.cell?_setCell_other _ _ _ _ (by intro e; cases e; omega)
  · by_cases e : x = p
    · subst e
      obtain ⟨u, hu⟩ := hx
      exact ⟨v, World.cell?_setCell_same' _ _ _ (by rw [hu]; rfl)⟩
    · obtain ⟨u, hu⟩ := hx
      exact ⟨u, (World.cell?_setCell_other _ _ _ _ (by intro e'; cases e'; exact e rfl)).trans hu⟩
theorem Stp.gw {b q : Nat} {S : Nat → Prop} {A B C : World} (h : Stp b q S A B) (hb : b < A.heap.size) (g : Gw B C) : Stp b q S A C := by
  have hb' : b < B.heap.size := Nat.lt_of_lt_of_le hb h.size
  exact h.trans ⟨g.os, g.tape, g.output, g.size, fun y hy _ _ => g.block y hy, fun p _ => World.cell?_of_block (a := ⟨b, p, none⟩) (g.block b hb'), fun f => f.same (g.block b hb'), fun p ⟨v, hv⟩ => ⟨v, (World.cell?_of_block (a := ⟨b, p, none⟩) (g.block b hb')).trans hv⟩⟩
theorem Stp.chg {b q : Nat} {S : Nat → Prop} {A B C : World} (h : Stp b q S A B) (hb : b < A.heap.size) (g : Chg B C S) (hS : ¬ S b) : Stp b q S A C := by
  have hb' : b < B.heap.size := Nat.lt_of_lt_of_le hb h.size
  have e := g.2.2.2.2 b hb' hS
  exact h.trans ⟨g.1, g.2.1, g.2.2.1, g.2.2.2.1, fun y hy _ hs => g.2.2.2.2 y hy hs, fun p _ => World.cell?_of_block (a := ⟨b, p, none⟩) e, fun f => f.same e, fun p ⟨v, hv⟩ => ⟨v, (World.cell?_of_block (a := ⟨b, p, none⟩) e).trans hv⟩⟩
theorem Stp.mono {b q q' : Nat} {S T : Nat → Prop} {A B : World} (h : Stp b q S A B) (hq : q ≤ q') (hS : ∀ y, S y → T y) : Stp b q' T A B :=
  ⟨h.os, h.tape, h.output, h.size, fun y hy hb ht => h.far y hy hb (fun hs => ht (hS y hs)), fun p hp => h.cell p (Nat.le_trans hq hp), h.free, h.keep⟩
theorem Stp.toChg {b q : Nat} {S : Nat → Prop} {A B : World} (h : Stp b q S A B) : Chg A B (fun y => y = b ∨ S y) :=
  ⟨h.os, h.tape, h.output, h.size, fun y hy hn => h.far y hy (fun e => hn (.inl e)) (fun hs => hn (.inr hs))⟩

section
variable {α : Type} {k : Nat} {cE : α → List Value} {ok : World → α → Prop} {cb : α → List Nat}

/-- The row has been marked up to element j: what follows lies as it lay. -/
def Tail (k : Nat) (cb : α → List Nat) (w wr : World) (b o : Nat) (xs : List α) (j : Nat) : Prop :=
  Stp b (o + j * k) (fun y => ∃ x, ∃ h : x < xs.length, x < j ∧ y ∈ cb xs[x]) w wr
theorem Tail.start (w : World) (b o : Nat) (xs : List α) : Tail k cb w w b o xs 0 := Stp.refl _ _ _ _
theorem Tail.next {w wr w2 : World} {b o j : Nat} {xs : List α} (hj : j < xs.length) (h : Tail k cb w wr b o xs j) (s : Stp b (o + j * k + k) (fun y => y ∈ cb xs[j]) wr w2) : Tail k cb w w2 b o xs (j + 1) := by
  refine Stp.trans (h.mono (by rw [Nat.add_mul]; omega) fun y ⟨x, hx, hl, hm⟩ => ⟨x, hx, by omega, hm⟩) (s.mono (by rw [Nat.add_mul]; omega) fun y hm => ⟨j, hj, by omega, hm⟩)
theorem nb_some {b o : Nat} {us : List α} (h : us ≠ []) : nbl cb (some ⟨b, o, none⟩) us = b :: us.flatMap cb := by
  unfold nbl
  cases us with
  | nil => exact absurd rfl h
  | cons => rfl
theorem nb_apart {us : List α} {j x : Nat} (hj : j < us.length) (hx : x < us.length) (hjx : x < j) (h : (us.flatMap cb).Nodup) : ∀ y ∈ cb us[j], y ∉ cb us[x] := by
  induction us generalizing j x with
  | nil => simp at hj
  | cons u us ih =>
    rw [List.flatMap_cons, List.nodup_append] at h
    cases j with
    | zero => omega
    | succ j =>
      cases x with
      | zero =>
        intro y hy hm
        exact h.2.2 y hm y (List.mem_flatMap.2 ⟨_, List.getElem_mem (by simpa using hj), hy⟩) rfl
      | succ x => exact ih (by simpa using hj) (by simpa using hx) (by omega) h.2.1
/-- An element that has not been marked yet is new still. -/
theorem Tail.at {w wr : World} {b o j B : Nat} {xs : List α} (hf : gFr ok cb) {cap : Nat} (H : gNewSl k cE ok cb B w (some ⟨b, o, none⟩) cap xs) (hj : j < xs.length) (h : Tail k cb w wr b o xs j) :
    (∀ i v, (cE xs[j])[i]? = some v → wr.cell? ⟨b, o + j * k + i, none⟩ = some v) ∧ gNew ok cb B wr xs[j] ∧ Free wr b ∧ b ∉ cb xs[j] := by
  have hne : xs ≠ [] := fun e => by rw [e] at hj; simp at hj
  obtain ⟨h1, h2, h3⟩ := H
  rw [nb_some hne] at h2 h3
  obtain ⟨b', o', e, hr⟩ := h1.2.2.resolve_left hne
  injection e with e
  injection e with e1 e2
  subst e1 e2
  rw [List.nodup_cons] at h2
  have hm : ∀ y ∈ cb xs[j], y ∈ xs.flatMap cb := fun y hy => List.mem_flatMap.2 ⟨_, List.getElem_mem hj, hy⟩
  have hnd : (cb xs[j]).Nodup := by
    have := h2.2
    clear h hr hm h1 h2 h3
    induction xs generalizing j with
    | nil => simp at hj
    | cons u us ih =>
      rw [List.flatMap_cons, List.nodup_append] at this
      cases j with
      | zero => exact this.1
      | succ j => exact ih (by simpa using hj) (fun e => by subst e; simp at hj) this.2.1
  have hnew : gNew ok cb B w xs[j] := ⟨(hr j hj).2, hnd, fun y hy => h3 y (List.mem_cons_of_mem _ (hm y hy))⟩
  refine ⟨fun i v hv => (h.cell _ (by omega)).trans ((hr j hj).1 i v hv), hnew.same hf fun y hy => h.far y (h3 y (List.mem_cons_of_mem _ (hm y hy))).2.lt (fun e => h2.1 (e ▸ hm y hy)) (fun ⟨x, hx, hl, hxm⟩ => nb_apart hj hx hl h2.2 y hy hxm), h.free (h3 b (by simp)).2, fun hb => h2.1 (hm b hb)⟩
theorem Tail.done {w wr : World} {b o : Nat} {xs : List α} (hne : xs ≠ []) (h : Tail k cb w wr b o xs xs.length) : Chg w wr (fun y => y ∈ nbl cb (some ⟨b, o, none⟩) xs) := by
  refine h.toChg.mono fun y hy => ?_
  rw [nb_some hne]
  rcases hy with rfl | ⟨x, hx, _, hm⟩
  · simp
  · exact List.mem_cons_of_mem _ (List.mem_flatMap.2 ⟨_, List.getElem_mem hx, hm⟩)
end

set_option maxHeartbeats 1000000 in
set_option maxRecDepth 100000 in
theorem laws_markStr (xs : List ByteArray) (B : Nat) (w : World) (a : Option Addr) (cap k : Nat) (h : strNew B w a cap xs) (h1 : 1 ≤ k) (h2 : k + xs.length ≤ 8000000) :
    Calls Tryd.prog 51 #[.slice a xs.length cap, .int .i64 k] w fun e w' => e = .returned (.int .i64 ((k + xs.length : Nat) : Int)) ∧ Chg w w' (fun x => x ∈ nbl sB a xs) := by
  have hl : xs.length ≤ 9223372036854775807 := Nat.le_trans h.1.1 h.1.2.1
  have H := Lib.hid h
  clear h
  go_enter Tryd.func51, Tryd.ntmps51
  go_wp2_with fail
  go_loopw [1, 5] (fun kv i wr => ∃ j : Nat, j ≤ xs.length ∧ i = .int .i64 j ∧ kv = .int .i64 ((k + j : Nat) : Int) ∧ (∀ b o, a = some ⟨b, o, none⟩ → xs ≠ [] → Tail 1 sB w wr b o xs j) ∧ (xs = [] → wr = w)) (fun _ i _ => xs.length - (intOf i).toNat)
  case atStart => exact ⟨0, by omega, rfl, by simp, fun b o e hne => Tail.start _ _ _ _, fun _ => rfl⟩
  case round =>
    obtain ⟨j, hj, rfl, rfl, hrest, hnil⟩ := hrel
    by_cases hlt : j < xs.length
    · have hne : xs ≠ [] := fun e => by rw [e] at hlt; simp at hlt
      obtain ⟨b, o, rfl, _⟩ := H.out.1.2.2.resolve_left hne
      have HT := Lib.hid (hrest b o rfl hne)
      obtain ⟨c0, hn, hfr, hnb⟩ := HT.out.at sFr H.out hlt
      have c0 := c0 0 _ rfl
      have f0 := hfr.frozen (o + j)
      have hbb := hfr.lt
      rw [Nat.mul_one, Nat.add_zero] at c0
      have q0 : (0 : Int) ≤ j := by omega
      have q1 : (j : Int) < xs.length := by omega
      obtain ⟨kk, hkk⟩ : ∃ kk, kk = k + j := ⟨_, rfl⟩
      rw [← hkk]
      have hk1 : 1 ≤ kk := by omega
      have hk2 : kk ≤ 8000000 := by omega
      have KK := Lib.hid hkk
      have HNE := Lib.hid hne
      clear hrest hne hkk hn hfr hnb hnil
      go_wp2_with fail
      refine (markText kk hk1 (by omega) _).mono ?_
      rintro e w1 ⟨rfl, hg1⟩
      have d0 := (World.cell?_of_block (a := ⟨b, o + j, none⟩) (hg1.block b hbb)).trans c0
      have e0 : w1.frozen? ⟨b, o + j, none⟩ = false := by
        have := (HT.out.at sFr H.out hlt).2.2.1
        exact (this.same (hg1.block b hbb)).frozen _
      have T2 := Lib.hid (HT.out.next hlt (((Stp.refl b (o + j * 1 + 1) (fun y => y ∈ sB xs[j]) wr).gw hbb hg1).set (p := o + j) (by omega) (.string (str (mtx kk)))))
      clear c0 f0 hg1
      go_wp2_with fail
      go_roundw
      case rel => exact ⟨j + 1, by omega, by go_num, by congr 1; have := KK.out; omega, fun b' o' e _ => by injection e with e; injection e with e1 e2; subst e1 e2; exact T2.out, fun e => absurd e HNE.out⟩
      case measure => simp [intOf]; omega
    · obtain rfl : j = xs.length := by omega
      go_wp2_with fail
      go_ret
      refine ⟨rfl, ?_⟩
      by_cases hne : xs = []
      · rw [hnil hne]; exact Chg.of_gw (Gw.refl w) _
      · obtain ⟨b, o, rfl, _⟩ := H.out.1.2.2.resolve_left hne
        exact (hrest b o rfl hne).done hne

/-- How many marks a term takes, but for its own node. -/
def LM.mkn : LM → Nat
  | .mk _ _ _ t _ _ ns _ _ ks => 2 * cntl t.ks + ns.length + mks ks
where mks : List LM → Nat
  | [] => 0
  | t :: ts => 5 + t.mkn + mks ts
abbrev mks (ks : List LM) : Nat := LM.mkn.mks ks
theorem mkn_eq (u : LM) : u.mkn = 2 * cntl u.t.ks + u.ns.length + mks u.ks := by
  obtain ⟨k, m, n, t, na, nc, ns, a, c, ks⟩ := u
  rw [LM.mkn]; rfl
theorem mks_take (ks : List LM) (j : Nat) (hj : j < ks.length) : mks (ks.take (j + 1)) = mks (ks.take j) + (5 + ks[j].mkn) := by
  induction ks generalizing j with
  | nil => simp at hj
  | cons t ts ih =>
    cases j with
    | zero => simp [mks, LM.mkn.mks]
    | succ j => simp only [List.take_succ_cons, mks, LM.mkn.mks, List.getElem_cons_succ]; have := ih j (by simpa using hj); simp only [mks] at this; omega
theorem mks_take_le (ks : List LM) (j : Nat) : mks (ks.take j) ≤ mks ks := by
  induction ks generalizing j with
  | nil => simp
  | cons t ts ih =>
    cases j with
    | zero => simp [mks, LM.mkn.mks]
    | succ j => simp only [List.take_succ_cons, mks, LM.mkn.mks]; have := ih j; simp only [mks] at this; omega

theorem LM.new_ty {B : Nat} {w : World} {u : LM} (h : u.New B w) : u.t.New B w := by
  obtain ⟨h1, h2, h3⟩ := h
  rw [LM.bl_eq] at h2 h3
  rw [List.nodup_append] at h2
  exact ⟨h1.ty, h2.1, fun b hb => h3 b (by simp [hb])⟩
theorem LM.new_parts {B : Nat} {w : World} {u : LM} (h : u.New B w) : slNew B w u.t.a u.t.cap u.t.ks ∧ strNew B w u.na u.nc u.ns ∧ tmNew B w u.a u.cap u.ks ∧
    (∀ y, y ∈ sbl u.t.a u.t.ks → y ∈ u.bl) ∧ (∀ y, y ∈ nbl sB u.na u.ns → y ∈ u.bl ∧ y ∉ sbl u.t.a u.t.ks) ∧ (∀ y, y ∈ nbl LM.bl u.a u.ks → y ∈ u.bl ∧ y ∉ sbl u.t.a u.t.ks ∧ y ∉ nbl sB u.na u.ns) := by
  obtain ⟨h1, h2, h3⟩ := h
  rw [LM.bl_eq] at h2 h3
  rw [List.nodup_append, List.nodup_append] at h2
  obtain ⟨a1, ⟨a2, a3, a4⟩, a5⟩ := h2
  have ht : u.t.New B w := ⟨h1.ty, a1, fun b hb => h3 b (by simp [hb])⟩
  refine ⟨ht.kids, ⟨h1.nms, a2, fun b hb => h3 b (by simp [hb])⟩, ⟨h1.kids, a3, fun b hb => h3 b (by simp [hb])⟩, fun y hy => by rw [LM.bl_eq, LT.bl_s]; simp [hy], fun y hy => ⟨by rw [LM.bl_eq]; simp [hy], fun hm => a5 y (by rw [LT.bl_s]; exact hm) y (by simp [hy]) rfl⟩, fun y hy => ⟨by rw [LM.bl_eq]; simp [hy], fun hm => a5 y (by rw [LT.bl_s]; exact hm) y (by simp [hy]) rfl, fun hm => a4 y hm y hy rfl⟩⟩

def MkC (ks : List LM) : Prop := ∀ (B : Nat) (w : World) (a : Option Addr) (cap k : Nat), tmNew B w a cap ks → 1 ≤ k → k + mks ks ≤ 8000000 →
    Calls Tryd.prog 52 #[.slice a ks.length cap, .int .i64 k] w fun e w' => e = .returned (.int .i64 ((k + mks ks : Nat) : Int)) ∧ Chg w w' (fun x => x ∈ nbl LM.bl a ks)

set_option maxHeartbeats 2000000 in
set_option maxRecDepth 100000 in
theorem markT_of (ks : List LM) (ih : ∀ t ∈ ks, MkC t.ks) : MkC ks := by
  intro B w a cap k h h1 h2
  have hl : ks.length ≤ 9223372036854775807 := Nat.le_trans h.1.1 h.1.2.1
  have H := Lib.hid h
  clear h
  go_enter Tryd.func52, Tryd.ntmps52
  go_wp2_with fail
  go_loopw [1, 5] (fun kv i wr => ∃ j : Nat, j ≤ ks.length ∧ i = .int .i64 j ∧ kv = .int .i64 ((k + mks (ks.take j) : Nat) : Int) ∧ (∀ b o, a = some ⟨b, o, none⟩ → ks ≠ [] → Tail 8 LM.bl w wr b o ks j) ∧ (ks = [] → wr = w)) (fun _ i _ => ks.length - (intOf i).toNat)
  case atStart => exact ⟨0, by omega, rfl, by simp [mks, LM.mkn.mks], fun b o e hne => Tail.start _ _ _ _, fun _ => rfl⟩
  case round =>
    obtain ⟨j, hj, rfl, rfl, hrest, hnil⟩ := hrel
    by_cases hlt : j < ks.length
    · have hne : ks ≠ [] := fun e => by rw [e] at hlt; simp at hlt
      obtain ⟨b, o, rfl, _⟩ := H.out.1.2.2.resolve_left hne
      have HT := Lib.hid (hrest b o rfl hne)
      obtain ⟨c, hn, hfr, hnb⟩ := HT.out.at tmFr H.out hlt
      have hbb := hfr.lt
      have q0 : (0 : Int) ≤ j := by omega
      have q1 : (j : Int) < ks.length := by omega
      obtain ⟨kk, hkk⟩ : ∃ kk, kk = k + mks (ks.take j) := ⟨_, rfl⟩
      rw [← hkk]
      have hst := mks_take ks j hlt
      have hsl := mks_take_le ks (j + 1)
      have hmk := mkn_eq ks[j]
      have hk1 : 1 ≤ kk := by omega
      have hk2 : kk + 5 + ks[j].mkn ≤ 8000000 := by omega
      have KK := Lib.hid (show kk + (5 + ks[j].mkn) = k + mks (ks.take (j + 1)) by rw [hst, hkk]; omega)
      have HNE := Lib.hid hne
      have HN := Lib.hid hn
      have HNB := Lib.hid hnb
      have HFR := Lib.hid hfr
      have CC := Lib.hid c
      have KM := Lib.hid hmk
      have hkb : kk ≤ 8000000 := by omega
      have SX := Lib.hid (show ∀ (S : Nat → Prop) X i, Stp b (o + j * 8 + 5) S wr X → i < 8 → (∃ v, X.cell? ⟨b, o + j * 8 + i, none⟩ = some v) ∧ X.frozen? ⟨b, o + j * 8 + i, none⟩ = false from fun S X i s hi =>
        ⟨s.keep _ (by
          match i, hi with
          | 0, _ => exact ⟨_, c 0 _ rfl⟩
          | 1, _ => exact ⟨_, c 1 _ rfl⟩
          | 2, _ => exact ⟨_, c 2 _ rfl⟩
          | 3, _ => exact ⟨_, c 3 _ rfl⟩
          | 4, _ => exact ⟨_, c 4 _ rfl⟩
          | 5, _ => exact ⟨_, c 5 _ rfl⟩
          | 6, _ => exact ⟨_, c 6 _ rfl⟩
          | 7, _ => exact ⟨_, c 7 _ rfl⟩), (s.free hfr).frozen _⟩)
      obtain ⟨n1, n2, n3, n4, n5, n6⟩ := LM.new_parts hn
      have N1 := Lib.hid n1
      have N2 := Lib.hid n2
      have N3 := Lib.hid n3
      have N4 := Lib.hid n4
      have N5 := Lib.hid n5
      have N6 := Lib.hid n6
      have NB4 := Lib.hid (show b ∉ sbl ks[j].t.a ks[j].t.ks from fun h => hnb (n4 b h))
      have NB5 := Lib.hid (show b ∉ nbl sB ks[j].na ks[j].ns from fun h => hnb (n5 b h).1)
      have NB6 := Lib.hid (show b ∉ nbl LM.bl ks[j].a ks[j].ks from fun h => hnb (n6 b h).1)
      clear hrest hne hn hfr hnb hnil hst hsl hmk hkk c n1 n2 n3 n4 n5 n6
      obtain ⟨⟨v0, d0⟩, e0⟩ := SX.out (fun _ => False) wr 0 (Stp.refl _ _ _ _) (by omega)
      obtain ⟨⟨v1, d1⟩, e1⟩ := SX.out (fun _ => False) wr 1 (Stp.refl _ _ _ _) (by omega)
      rw [Nat.add_zero] at d0 e0
      have S1 := Lib.hid (((Stp.refl b (o + j * 8 + 5) (fun _ => False) wr).set (p := o + j * 8) (by omega) (.int .i64 kk)).set (p := o + j * 8 + 1) (by omega) (.int .i64 ((kk : Int) + 1)))
      have HBB := Lib.hid hbb
      clear hbb
      go_upto_region 8 with (fail)
      clear d0 e0 d1 e1
      generalize (wr.setCell ⟨b, o + j * 8, none⟩ (.int .i64 kk)).setCell ⟨b, o + j * 8 + 1, none⟩ (.int .i64 ((kk : Int) + 1)) = w1 at *
      have MT1 := Lib.hid (show Calls Tryd.prog 84 #[.int .i64 ((kk : Int) + 1 + 1)] w1 (StrGw (mtx (kk + 2)) w1) by
        rw [show (kk : Int) + 1 + 1 = ((kk + 2 : Nat) : Int) by omega]
        exact markText (kk + 2) (by omega) (by omega) w1)
      go_wp2_with fail
      refine MT1.out.mono ?_
      rintro e w2 ⟨rfl, g2⟩
      have S2 := Lib.hid (S1.out.gw HBB.out g2)
      clear g2 MT1
      obtain ⟨⟨v2, d2⟩, e2⟩ := SX.out _ w2 2 S2.out (by omega)
      obtain ⟨⟨v3, d3⟩, e3⟩ := SX.out _ w2 3 S2.out (by omega)
      obtain ⟨T2, hT2⟩ : ∃ T, T = str (mtx (kk + 2)) := ⟨_, rfl⟩
      rw [← hT2]
      clear hT2
      have S3 := Lib.hid ((S2.out.set (p := o + j * 8 + 2) (by omega) (.string T2)).set (p := o + j * 8 + 3) (by omega) (.int .i64 ((kk : Int) + 1 + 1 + 1)))
      go_upto_region 12 with (fail)
      clear d2 e2 d3 e3
      generalize (w2.setCell ⟨b, o + j * 8 + 2, none⟩ (.string T2)).setCell ⟨b, o + j * 8 + 3, none⟩ (.int .i64 ((kk : Int) + 1 + 1 + 1)) = w3 at *
      have MT2 := Lib.hid (show Calls Tryd.prog 84 #[.int .i64 ((kk : Int) + 1 + 1 + 1 + 1)] w3 (StrGw (mtx (kk + 4)) w3) by
        rw [show (kk : Int) + 1 + 1 + 1 + 1 = ((kk + 4 : Nat) : Int) by omega]
        exact markText (kk + 4) (by omega) (by omega) w3)
      go_wp2_with fail
      refine MT2.out.mono ?_
      rintro e w4 ⟨rfl, g4⟩
      have S4 := Lib.hid (S3.out.gw HBB.out g4)
      clear g4 MT2
      obtain ⟨⟨v4, d4⟩, e4⟩ := SX.out _ w4 4 S4.out (by omega)
      obtain ⟨T4, hT4⟩ : ∃ T, T = str (mtx (kk + 4)) := ⟨_, rfl⟩
      rw [← hT4]
      clear hT4
      have S5 := Lib.hid (S4.out.set (p := o + j * 8 + 4) (by omega) (.string T4))
      go_upto_region 14 with (fail)
      clear d4 e4
      generalize w4.setCell ⟨b, o + j * 8 + 4, none⟩ (.string T4) = w5 at *
      have p5 := (S5.out.cell _ (by omega)).trans (CC.out 5 _ rfl)
      have F5 := Lib.hid (show ∀ y ∈ ks[j].bl, w5.heap[y]? = wr.heap[y]? from fun y hy => S5.out.far y (HN.out.2.2 y hy).2.lt (fun e => HNB.out (e ▸ hy)) (fun h => h))
      have KT := Lib.hid (show Calls Tryd.prog 83 #[.slice ks[j].t.a ks[j].t.ks.length ks[j].t.cap, .int .i64 ((kk : Int) + 1 + 1 + 1 + 1 + 1)] w5 (MkPost B w5 ks[j].t.a ks[j].t.cap ks[j].t.ks (kk + 5)) by
        rw [show (kk : Int) + 1 + 1 + 1 + 1 + 1 = ((kk + 5 : Nat) : Int) by omega]
        exact laws_markS ks[j].t.ks B w5 _ _ (kk + 5) (LT.New.same N1.out fun y hy => F5.out y (N4.out y (by rw [sbl_cap] at hy; exact hy))) (by omega) (by have := KM.out; omega))
      go_wp2_with fail
      refine KT.out.mono ?_
      rintro e w6 ⟨rfl, _, hc6⟩
      have E6 := Lib.hid ((mkl_len ks[j].t.ks (kk + 5)).1)
      rw [E6.out]
      have S6 := Lib.hid ((S5.out.mono (T := fun y => y ∈ sbl ks[j].t.a ks[j].t.ks) (Nat.le_refl _) (fun _ h => h.elim)).chg HBB.out (hc6.mono fun y hy => by first | exact hy | (rw [sbl_cap] at hy; exact hy)) NB4.out)
      clear hc6 KT p5
      have p6 := (S6.out.cell _ (by omega)).trans (CC.out 6 _ rfl)
      have KN := Lib.hid (laws_markStr ks[j].ns B w6 ks[j].na ks[j].nc (kk + 5 + 2 * cntl ks[j].t.ks) (gNewSl.same (by decide) sLen sFr N2.out fun y hy => S6.out.far y (N2.out.2.2 y hy).2.lt (fun e => NB5.out (e ▸ hy)) (N5.out y hy).2) (by omega) (by have := KM.out; omega))
      obtain ⟨k6, hk6⟩ : ∃ k6, k6 = kk + 5 + 2 * cntl ks[j].t.ks := ⟨_, rfl⟩
      rw [← hk6] at KN ⊢
      have K6 := Lib.hid hk6
      clear hk6 E6
      go_wp2_with fail
      refine KN.out.mono ?_
      rintro e w7 ⟨rfl, hc7⟩
      have S7 := Lib.hid ((S6.out.mono (T := fun y => y ∈ sbl ks[j].t.a ks[j].t.ks ∨ y ∈ nbl sB ks[j].na ks[j].ns) (Nat.le_refl _) (fun _ h => .inl h)).chg HBB.out (hc7.mono fun y hy => .inr hy) (fun h => h.elim NB4.out NB5.out))
      clear hc7 KN p6
      have p7 := (S7.out.cell _ (by omega)).trans (CC.out 7 _ rfl)
      have KC := Lib.hid (ih ks[j] (List.getElem_mem hlt) B w7 ks[j].a ks[j].cap (k6 + ks[j].ns.length) (gNewSl.same (by decide) tmLen tmFr N3.out fun y hy => S7.out.far y (N3.out.2.2 y hy).2.lt (fun e => NB6.out (e ▸ hy)) (fun h => h.elim (N6.out y hy).2.1 (N6.out y hy).2.2)) (by have := K6.out; omega) (by have := K6.out; have := KM.out; omega))
      obtain ⟨k7, hk7⟩ : ∃ k7, k7 = k6 + ks[j].ns.length := ⟨_, rfl⟩
      rw [← hk7] at KC ⊢
      have K7 := Lib.hid hk7
      clear hk7
      go_wp2_with fail
      refine KC.out.mono ?_
      rintro e w8 ⟨rfl, hc8⟩
      have S8 := Lib.hid ((S7.out.mono (T := fun y => y ∈ LM.bl ks[j]) (Nat.le_refl _) (fun y h => h.elim (N4.out y) (fun h => (N5.out y h).1))).chg HBB.out (hc8.mono fun y hy => (N6.out y hy).1) HNB.out)
      clear hc8 KC p7
      go_wp2_with fail
      go_roundw
      case rel => exact ⟨j + 1, by omega, by go_num, by congr 1; have := KK.out; have := K6.out; have := K7.out; have := KM.out; omega, fun b' o' e _ => by injection e with e; injection e with e1 e2; subst e1 e2; exact HT.out.next hlt (S8.out.mono (by omega) (fun _ h => h)), fun e => absurd e HNE.out⟩
      case measure => simp [intOf]; omega
    · obtain rfl : j = ks.length := by omega
      rw [List.take_length]
      go_wp2_with fail
      go_ret
      refine ⟨rfl, ?_⟩
      by_cases hne : ks = []
      · rw [hnil hne]; exact Chg.of_gw (Gw.refl w) _
      · obtain ⟨b, o, rfl, _⟩ := H.out.1.2.2.resolve_left hne
        exact (hrest b o rfl hne).done hne

theorem laws_markTS (ks : List LM) : MkC ks := markT_of ks fun t _ => by
  refine LM.ind (P := fun t => MkC t.ks) (fun k m n t na nc ns a c ks ih => ?_) t
  exact markT_of ks ih

theorem laws_markTm (u : LM) (B : Nat) (w : World) (k : Nat) (h : u.New B w) (h1 : 1 ≤ k) (h2 : k + u.mkn ≤ 8000000) :
    Calls Tryd.prog 20 #[u.val, .int .i64 k] w fun e w' => e = .returned (.int .i64 ((k + u.mkn : Nat) : Int)) ∧ Chg w w' (fun x => x ∈ u.bl) := by
  have g0 := (Gw.refl w).alloc (.cells #[.int .i64 u.k, .int .i64 u.m, .string u.n, .int .i64 u.t.k, .string u.t.n, .slice u.t.a u.t.ks.length u.t.cap, .slice u.na u.ns.length u.nc, .slice u.a u.ks.length u.cap] 50)
  have BX := Lib.hid (BoxM.new w u 50)
  have G0 := Lib.hid (Chg.of_gw g0 (fun x => x ∈ u.bl))
  have KM := Lib.hid (mkn_eq u)
  have HB := Lib.hid (show w.heap.size ∉ u.bl from fun hm => by have := (h.2.2 _ hm).2.lt; omega)
  have NT := Lib.hid (LM.new_ty (gNew.grow tmGr h g0))
  obtain ⟨n1, n2, n3, n4, n5, n6⟩ := LM.new_parts (gNew.grow tmGr h g0)
  have N2 := Lib.hid n2
  have N3 := Lib.hid n3
  have N4 := Lib.hid n4
  have N5 := Lib.hid n5
  have N6 := Lib.hid n6
  clear h n1 n2 n3 n4 n5 n6
  go_enter Tryd.func20, Tryd.ntmps20
  go_upto_region 1 with (fail)
  generalize w.alloc (.cells #[.int .i64 u.k, .int .i64 u.m, .string u.n, .int .i64 u.t.k, .string u.t.n, .slice u.t.a u.t.ks.length u.t.cap, .slice u.na u.ns.length u.nc, .slice u.a u.ks.length u.cap] 50) = w1 at *
  have KT := Lib.hid (show Calls Tryd.prog 50 #[u.t.val, .int .i64 k] w1 fun e w' => e = .returned (.int .i64 ((k + 2 * cntl u.t.ks : Nat) : Int)) ∧ Chg w1 w' (fun x => x ∈ sbl u.t.a u.t.ks) from by
    refine (laws_mark u.t B w1 k NT.out h1 (by have := KM.out; omega)).mono ?_
    rintro e w' ⟨rfl, _, hc⟩
    exact ⟨by rw [(mkl_len u.t.ks k).1], hc.mono fun x hx => by rw [← LT.bl_s]; exact hx⟩)
  obtain ⟨p0, p1, p2, p3, p4, p5, p6, p7⟩ := BX.out.c
  go_wp2_with fail
  refine KT.out.mono ?_
  rintro e w2 ⟨rfl, hc2⟩
  have hlt1 := BX.out.lt
  have BX2 := Lib.hid (BX.out.same (hc2.2.2.2.2 _ hlt1 (fun hm => HB.out (N4.out _ hm))))
  have M2 := Lib.hid (gNewSl.same (by decide) sLen sFr N2.out fun y hy => hc2.2.2.2.2 y (N2.out.2.2 y hy).2.lt (N5.out y hy).2)
  have M3 := Lib.hid (gNewSl.same (by decide) tmLen tmFr N3.out fun y hy => hc2.2.2.2.2 y (N3.out.2.2 y hy).2.lt (N6.out y hy).2.1)
  have C2 := Lib.hid (G0.out.trans (hc2.mono fun y hy => N4.out y hy) (fun _ _ h => h))
  clear p0 p1 p2 p3 p4 p5 p6 p7 KT hc2 hlt1
  obtain ⟨p0, p1, p2, p3, p4, p5, p6, p7⟩ := BX2.out.c
  obtain ⟨k6, hk6⟩ : ∃ k6, k6 = k + 2 * cntl u.t.ks := ⟨_, rfl⟩
  rw [← hk6]
  have K6 := Lib.hid hk6
  clear hk6
  go_wp2_with fail
  refine (laws_markStr u.ns B w2 u.na u.nc k6 M2.out (by have := K6.out; omega) (by have := K6.out; have := KM.out; omega)).mono ?_
  rintro e w3 ⟨rfl, hc3⟩
  have hlt1 := BX2.out.lt
  have BX3 := Lib.hid (BX2.out.same (hc3.2.2.2.2 _ hlt1 (fun hm => HB.out (N5.out _ hm).1)))
  have M4 := Lib.hid (gNewSl.same (by decide) tmLen tmFr M3.out fun y hy => hc3.2.2.2.2 y (M3.out.2.2 y hy).2.lt (N6.out y hy).2.2)
  have C3 := Lib.hid (C2.out.trans (hc3.mono fun y hy => (N5.out y hy).1) (fun _ _ h => h))
  clear p0 p1 p2 p3 p4 p5 p6 p7 hc3 hlt1
  obtain ⟨p0, p1, p2, p3, p4, p5, p6, p7⟩ := BX3.out.c
  obtain ⟨k7, hk7⟩ : ∃ k7, k7 = k6 + u.ns.length := ⟨_, rfl⟩
  rw [← hk7]
  have K7 := Lib.hid hk7
  clear hk7
  go_wp2_with fail
  refine (laws_markTS u.ks B w3 u.a u.cap k7 M4.out (by have := K6.out; have := K7.out; omega) (by have := K6.out; have := K7.out; have := KM.out; omega)).mono ?_
  rintro e w4 ⟨rfl, hc4⟩
  go_wp2_with fail
  go_ret
  exact ⟨ret_int (by have := K6.out; have := K7.out; have := KM.out; omega), C3.out.trans (hc4.mono fun y hy => (N6.out y hy).1) (fun _ _ h => h)⟩

def Ty.cz : Ty → Nat
  | .mk _ _ ks => 1 + czs ks
where czs : List Ty → Nat
  | [] => 0
  | t :: ts => t.cz + czs ts
theorem czs_map : ∀ (ks : List LT), (∀ t ∈ ks, t.ty.cz = t.cnt) → Ty.cz.czs (ks.map LT.ty) = cntl ks
  | [], _ => by simp [Ty.cz.czs, cntl_nil]
  | t :: ts, h => by rw [List.map_cons, Ty.cz.czs, cntl_cons, h t (by simp), czs_map ts fun u hu => h u (by simp [hu])]
theorem cz_ty (t : LT) : t.ty.cz = t.cnt := by
  refine LT.ind (P := fun t => t.ty.cz = t.cnt) (fun k n a c ks ih => ?_) t
  rw [LT.ty_eq, Ty.cz, cnt_eq]
  show 1 + Ty.cz.czs (ks.map LT.ty) = 1 + cntl ks
  rw [czs_map ks ih]
/-- How many marks a term without addresses takes. -/
def Tm.mz : Tm → Nat
  | .mk _ _ _ t ns ks => 2 * (t.cz - 1) + ns.length + mzs ks
where mzs : List Tm → Nat
  | [] => 0
  | t :: ts => 5 + t.mz + mzs ts
theorem mzs_map : ∀ (ks : List LM), (∀ u ∈ ks, u.mkn = u.tm.mz) → mks ks = Tm.mz.mzs (ks.map LM.tm)
  | [], _ => by simp [mks, LM.mkn.mks, Tm.mz.mzs]
  | t :: ts, h => by
    simp only [mks, LM.mkn.mks, List.map_cons, Tm.mz.mzs]
    rw [h t (by simp)]
    have := mzs_map ts fun u hu => h u (by simp [hu])
    simp only [mks] at this
    rw [this]
theorem mkn_mz (u : LM) : u.mkn = u.tm.mz := by
  refine LM.ind (P := fun u => u.mkn = u.tm.mz) (fun k m n t na nc ns a c ks ih => ?_) u
  rw [mkn_eq, LM.tm_eq, Tm.mz]
  have h1 := mzs_map ks ih
  simp only [LM.t, LM.ns, LM.ks]
  rw [h1, cz_ty, cnt_eq]
  omega
theorem ssz_len (ns : List ByteArray) : ns.length ≤ ssz ns := by
  induction ns with
  | nil => simp
  | cons x xs ih => simp only [ssz, List.map_cons, List.sum_cons, List.length_cons]; simp only [ssz] at ih; omega
theorem mkn_sz (u : LM) : u.mkn ≤ 5 * u.sz := by
  refine LM.ind (P := fun u => u.mkn ≤ 5 * u.sz) (fun k m n t na nc ns a c ks ih => ?_) u
  rw [mkn_eq, LM.sz_eq]
  have h1 := cnt_sz t.ks
  have h2 := LT.sz_eq t
  have h3 := ssz_len ns
  have h4 : mks ks ≤ 5 * sm LM.sz ks := by
    induction ks with
    | nil => simp [mks, LM.mkn.mks]
    | cons x xs ih2 =>
      rw [sm_cons]
      simp only [mks, LM.mkn.mks]
      have i1 := ih x (by simp)
      have i2 := ih2 fun y hy => ih y (by simp [hy])
      simp only [mks] at i2
      omega
  simp only [LM.t, LM.ns, LM.ks, LM.n]
  omega
/-- A copy of a term that the laws take is small enough to be marked. -/
theorem mkn_small {y a : LM} (h : y.tm = a.tm) (hs : a.sz ≤ 1048576) : 1 + y.mkn ≤ 8000000 := by
  have h1 := mkn_sz a
  have h2 : y.mkn = a.mkn := by rw [mkn_mz, mkn_mz, h]
  omega

end Go.Proofs.YtkfplnnncfkjfaaDoor.Con
