/-
  A range over a function whose iterator itself ranges over a function: what holds between its rounds abides any turn of a block of its own that holds no cells. At the wide fence, outside of other rounds. No program in it, no condition.
  A great region that draws its order, in a round of a range over a function (at the wide fence): the first n operations only read, the others follow in the order of the text and may call a yield. No program in it, no condition.
-/
import Derived.RangeFuncNested
import Derived.RangeFuncBound
import Derived.RangeFuncCalls
import Derived.RangeFuncLeaves
import Derived.Shelf.Abstract
import Derived.Test.YtkpbiifikkbaeaaDoorBase
import Derived.Test.YtkpbiifikkbaeaaDoorReg
import Derived.OrdersIn
import Derived.TacticsIn
namespace Go.Proofs.YtkpbiifikkbaeaaDoor.Con
open Go.RowKit
set_option linter.unusedVariables false

/-- An iterator's contract. -/
def SeqO {α : Type} (n : Nat) (P : Program) (g : Nat) (lb : Array Value) (encs : α → Array Value) (Kp : World → World → Prop) (S : List α → Prop) (N : Nat) (w : World) : Prop :=
  ∀ (l : Nat) (J Jx : List α → World → Prop) (W : World), Below w.heap.size w W → OwnFrom W.heap.size J → OwnFrom W.heap.size Jx →
    (∀ pre x X, J pre X → pre.length < N → YieldAt Fence.wide (n - 1) P l (encs x) X fun e Y => ((e = .returned (.bool true) ∧ J (pre ++ [x]) Y ∧ Kp X Y) ∨ (e = .returned (.bool false) ∧ Jx (pre ++ [x]) Y)) ∧ KeepsFrom W.heap.size X Y) →
    J [] W → CallsIn Fence.wide n P g (#[.func (.yield l) #[] #[]] ++ lb) W fun e Y => (∃ v, e = .returned v) ∧ ((∃ xs, S xs ∧ J xs Y) ∨ ∃ pre, Jx pre Y)

theorem own_mono {β : Type} {B B' : Nat} {I : β → World → Prop} (h : OwnFrom B I) (hB : B ≤ B') : OwnFrom B' I := fun s X Y row hs hg hr => h s X Y row hs hg fun r e => ⟨Nat.le_trans hB (hr r e).1, (hr r e).2⟩
theorem own_gw {β : Type} {B : Nat} {I : β → World → Prop} (h : OwnFrom B I) {s : β} {X Y : World} (hs : I s X) (g : Gw X Y) : I s Y := h s X Y none hs ⟨g.os, g.tape, g.output, g.size, fun x hx _ => g.block x hx⟩ (fun r e => by cases e)

theorem keepsFrom_mono {B B' : Nat} {W W' : World} (h : KeepsFrom B W W') (hB : B ≤ B') : KeepsFrom B' W W' := ⟨h.size, fun k o hk h0 h1 => h.same k o (Nat.le_trans hB hk) h0 h1⟩
theorem keepsFrom_put {B l : Nat} {W : World} (hl : l < B) (o' : Obj) : KeepsFrom B W (W.putObj l o') := ⟨(grownBy_putObj' W l o').size, fun k o hk h0 _ => (World.putObj_heap_other (by omega)).trans h0⟩
theorem keepsFrom_gw {B : Nat} {W W' : World} (h : Gw W W') : KeepsFrom B W W' := ⟨h.size, fun k o _ hk _ => (h.block k (Array.getElem?_eq_some_iff.1 hk).1).trans hk⟩

theorem range_O {α : Type} {n : Nat} {P : Program} {g : Operand} {ps : Array Tmp} {assign body : Code} {Q : Exit → Act → World → Prop} {a : Act} {w : World} (h1 : 1 ≤ n) {gf : Nat} {lb : Array Value} (hg : a.eval g = .func (.func gf) #[] lb) (eg : ∀ args w, (callFunc gf args).run P w = .ok (.enter gf args) w)
    {encs : α → Array Value} {Kp : World → World → Prop} {S : List α → Prop} {N : Nat} (hseq : SeqO (n - 1) P gf lb encs Kp S N w) (hps : ∀ x, (encs x).size = ps.size)
    (hKt : ∀ {A B C : World}, Kp A B → Kp B C → Kp A C) (hKg : ∀ {A B : World}, w.heap.size ≤ A.heap.size → Gw A B → Kp A B) (hKb : ∀ (W : World) (l : Nat) (o o' : Obj), w.heap.size ≤ l → W.heap[l]? = some o → o.isCells = false → o.isWalk = false → Kp W (W.putObj l o'))
    (I : List α → World → Prop) (Ix : Code → List α → World → Prop) (Ax : List α → α → Act → World → Prop)
    (hI : OwnFrom w.heap.size I) (hIx : ∀ c, OwnFrom w.heap.size (Ix c)) (hA : ∀ s x a, OwnFrom w.heap.size (fun (_ : Unit) W => Ax s x a W)) (h0 : I [] w)
    (hassign : ∀ (l : Nat) (pre : List α) (x : α) (W : World) (K : Act → World → Prop), I pre W → (∀ a' W', Gw W W' → Ax pre x a' W' → K a' W') →
      assign.wpIn (Fence.wide.inRound l) (n - 1 - 1) P (Exit.then K (fun _ _ _ => False)) { tmps := (ps.zip (encs x)).foldl (fun t (p, v) => t.setIfInBounds p v) a.tmps, defers := [] } W)
    (hbody : ∀ (l : Nat) (pre : List α) (x : α) (a' : Act) (W : World), w.heap.size ≤ l → l < W.heap.size → I pre W → Ax pre x a' W → pre.length < N → body.wpIn (Fence.wide.inRound l) (n - 1 - 1) P (ownPostG w.heap.size Kp I Ix (pre ++ [x]) W) a' W)
    (hdone : ∀ (D : Nat) (xs : List α) (W : World), w.heap.size ≤ D → S xs → I xs W → W.heap[D]? = some (.deferred (some [])) → Q .normal { a with defers := { target := .collected D, args := #[] } :: a.defers } W)
    (hstop : ∀ (D : Nat) (c : Code) (pre : List α) (W : World), w.heap.size ≤ D → Ix c pre W → W.heap[D]? = some (.deferred (some [])) → c.wpIn Fence.wide n P Q { a with defers := { target := .collected D, args := #[] } :: a.defers } W) :
    (Code.rangeFunc g ps assign body).wpIn Fence.wide n P Q a w := by
  refine wpIn_rangeFunc ?_
  intro fn hfn
  rw [show Fence.wide.round = none from rfl]
  let rec_ : LoopState → Option Code → Loop := fun st pe => { state := st, pending := pe, fn, tmps := a.tmps, params := ps, assign, body, defers := w.heap.size }
  let W1 := (w.alloc (.deferred (some []))).alloc (.loop (rec_ .ready none))
  have gw1 : Gw w W1 := ((Gw.refl w).alloc _).alloc _
  have hL1 : W1.heap[w.heap.size + 1]? = some (.loop (rec_ .ready none)) := by
    have := World.alloc_heap_new (w.alloc (.deferred (some []))) (.loop (rec_ .ready none))
    rwa [World.size_alloc] at this
  have hK1 : W1.heap[w.heap.size]? = some (.deferred (some [])) := (Below.heap_alloc _ _ _ (by simp)).trans (World.alloc_heap_new w _)
  have hsz1 : W1.heap.size = w.heap.size + 2 := by simp [W1]
  refine ⟨w.heap.size + 1, [{ target := .collected w.heap.size, args := #[] }], W1, { target := .fn (.func gf) lb, args := #[.func (.yield (w.heap.size + 1)) #[] #[]] }, W1, gf, #[.func (.yield (w.heap.size + 1)) #[] #[]] ++ lb, W1, run_enterLoop_outer _ _ _ _ _, ?_, ?_, ?_, fun _ => h1, ?_⟩
  · simp only [resolve, hg]
    simp [go_sem]
  · intro f' hf'
    simp [Target.leads] at hf'
    exact trivial
  · simp [invoke, go_sem, eg]
  have keepL : ∀ {X Y : World}, Gw X Y → X.heap[w.heap.size + 1]? = some (.loop (rec_ .ready none)) → Y.heap[w.heap.size + 1]? = some (.loop (rec_ .ready none)) := fun g h => (g.block _ (Array.getElem?_eq_some_iff.1 h).1).trans h
  have keepD : ∀ {X Y : World}, Gw X Y → X.heap[w.heap.size]? = some (.deferred (some [])) → Y.heap[w.heap.size]? = some (.deferred (some [])) := fun g h => (g.block _ (Array.getElem?_eq_some_iff.1 h).1).trans h
  have far : ∀ {X Y : World} {row : Option Nat} {b : Nat} {o : Obj}, X.grownBy Y row → (∀ r, row = some r → W1.heap.size ≤ r ∧ ∃ o : Obj, X.heap[r]? = some o ∧ o.isCells = false) → b < W1.heap.size → X.heap[b]? = some o → Y.heap[b]? = some o := fun hg hr hb h =>
    (hg.block _ (Array.getElem?_eq_some_iff.1 h).1 (fun e => by have := (hr _ e.symm).1; omega)).trans h
  refine (hseq (w.heap.size + 1) (fun pre W => I pre W ∧ W.heap[w.heap.size + 1]? = some (.loop (rec_ .ready none)) ∧ W.heap[w.heap.size]? = some (.deferred (some [])))
    (fun pre W => ∃ c, Ix c pre W ∧ W.heap[w.heap.size + 1]? = some (.loop (rec_ .done (some c))) ∧ W.heap[w.heap.size]? = some (.deferred (some []))) W1 gw1
    (fun s X Y row ⟨h, hl, hk⟩ hg hr => ⟨own_mono hI gw1.size s X Y row h hg hr, far hg hr (by omega) hl, far hg hr (by omega) hk⟩)
    (fun s X Y row ⟨c, h, hl, hk⟩ hg hr => ⟨c, own_mono (hIx c) gw1.size s X Y row h hg hr, far hg hr (by omega) hl, far hg hr (by omega) hk⟩)
    ?_ ⟨own_gw hI h0 gw1, hL1, hK1⟩).mono ?_
  · rintro pre x W ⟨hi, hl, hk⟩ hlen
    have hWs : w.heap.size + 1 < W.heap.size := (Array.getElem?_eq_some_iff.1 hl).1
    refine ⟨fn, _, assign, body, run_yield (P := P) (args := encs x) hl (hps x), roundIn_of_wpIn hfn (hassign _ pre x W _ hi ?_)⟩
    intro a' V gV hax
    have hl := keepL gV hl
    have hk := keepD gV hk
    have hlt : w.heap.size + 1 < V.heap.size := (Array.getElem?_eq_some_iff.1 hl).1
    refine ⟨_, run_beginRound hl rfl, ?_⟩
    have hp1 : V.grownBy (V.putObj (w.heap.size + 1) (.loop { rec_ .ready none with state := .busy })) (some (w.heap.size + 1)) := grownBy_putObj' _ _ _
    have hr1 : ∀ r, some (w.heap.size + 1) = some r → w.heap.size ≤ r ∧ ∃ o : Obj, V.heap[r]? = some o ∧ o.isCells = false := fun r e => by cases e; exact ⟨by omega, _, hl, rfl⟩
    have hl2 : (V.putObj (w.heap.size + 1) (.loop { rec_ .ready none with state := .busy })).heap[w.heap.size + 1]? = some (.loop { rec_ .ready none with state := .busy }) := World.putObj_heap_same hlt
    have hk2 : (V.putObj (w.heap.size + 1) (.loop { rec_ .ready none with state := .busy })).heap[w.heap.size]? = some (.deferred (some [])) := (World.putObj_heap_other (by omega)).trans hk
    have hKl1 : Kp V (V.putObj (w.heap.size + 1) (.loop { rec_ .ready none with state := .busy })) := hKb V _ _ _ (by omega) hl rfl rfl
    refine wpIn_mono (hbody _ pre x a' _ (by omega) (Array.getElem?_eq_some_iff.1 hl2).1 (hI _ _ _ _ (own_gw hI hi gV) hp1 hr1) (hA pre x a' () _ _ _ hax hp1 hr1) hlen) ?_
    have kf : ∀ (jump : Option Code) (Y : World), KeepsFrom w.heap.size (V.putObj (w.heap.size + 1) (.loop { rec_ .ready none with state := .busy })) Y → KeepsFrom W1.heap.size W (Y.putObj (w.heap.size + 1) (.loop (rec_ (if jump.isNone then .ready else .done) jump))) := fun jump Y hY =>
      (((keepsFrom_gw gV).trans (keepsFrom_put (by omega) _)).trans (keepsFrom_mono hY gw1.size)).trans (keepsFrom_put (by omega) _)
    have fin : ∀ (jump : Option Code) (Y : World), KeepsFrom w.heap.size (V.putObj (w.heap.size + 1) (.loop { rec_ .ready none with state := .busy })) Y →
        (Instr.endRound (w.heap.size + 1) jump).run P Y = .ok (.bool jump.isNone) (Y.putObj (w.heap.size + 1) (.loop (rec_ (if jump.isNone then .ready else .done) jump))) ∧
        (Y.grownBy (Y.putObj (w.heap.size + 1) (.loop (rec_ (if jump.isNone then .ready else .done) jump))) (some (w.heap.size + 1)) ∧ (∀ r, some (w.heap.size + 1) = some r → w.heap.size ≤ r ∧ ∃ o : Obj, Y.heap[r]? = some o ∧ o.isCells = false) ∧ Kp Y (Y.putObj (w.heap.size + 1) (.loop (rec_ (if jump.isNone then .ready else .done) jump)))) ∧
        (Y.putObj (w.heap.size + 1) (.loop (rec_ (if jump.isNone then .ready else .done) jump))).heap[w.heap.size + 1]? = some (.loop (rec_ (if jump.isNone then .ready else .done) jump)) ∧
        (Y.putObj (w.heap.size + 1) (.loop (rec_ (if jump.isNone then .ready else .done) jump))).heap[w.heap.size]? = some (.deferred (some [])) := fun jump Y hY => by
      have hl3 := hY.same _ _ (by omega) hl2 rfl
      exact ⟨run_endRound (P := P) jump hl3, ⟨grownBy_putObj' _ _ _, fun r e => by cases e; exact ⟨by omega, _, hl3, rfl⟩, hKb Y _ _ _ (by omega) hl3 rfl rfl⟩, World.putObj_heap_same (Array.getElem?_eq_some_iff.1 hl3).1, (World.putObj_heap_other (by omega)).trans (hY.same _ _ (Nat.le_refl _) hk2 rfl)⟩
    rintro e a3 Y hp
    cases e with
    | normal =>
      obtain ⟨hY, hkp, hi3⟩ := hp
      obtain ⟨hr, ⟨hp2, hr2, hkl⟩, hl4, hk4⟩ := fin none Y hY
      exact ⟨_, _, hr, .inl ⟨rfl, ⟨hI _ _ _ _ hi3 hp2 hr2, hl4, hk4⟩, hKt (hKg (by omega) gV) (hKt hKl1 (hKt hkp hkl))⟩, kf none Y hY⟩
    | ret =>
      obtain ⟨hY, hi3⟩ := hp
      obtain ⟨hr, ⟨hp2, hr2, hkl⟩, hl4, hk4⟩ := fin (some .ret) Y hY
      exact ⟨_, _, hr, .inr ⟨rfl, .ret, hIx _ _ _ _ _ hi3 hp2 hr2, hl4, hk4⟩, kf (some .ret) Y hY⟩
    | exit id =>
      obtain ⟨hY, hi3⟩ := hp
      obtain ⟨hr, ⟨hp2, hr2, hkl⟩, hl4, hk4⟩ := fin (some (.exit id)) Y hY
      exact ⟨_, _, hr, .inr ⟨rfl, .exit id, hIx _ _ _ _ _ hi3 hp2 hr2, hl4, hk4⟩, kf (some (.exit id)) Y hY⟩
    | goto t =>
      obtain ⟨hY, hi3⟩ := hp
      obtain ⟨hr, ⟨hp2, hr2, hkl⟩, hl4, hk4⟩ := fin (some (.goto t)) Y hY
      exact ⟨_, _, hr, .inr ⟨rfl, .goto t, hIx _ _ _ _ _ hi3 hp2 hr2, hl4, hk4⟩, kf (some (.goto t)) Y hY⟩
    | panic ch => exact hp.elim
    | outgrown => exact hp.elim
  · rintro e Y ⟨⟨v, rfl⟩, (⟨xs, hS, hi, hl, hk⟩ | ⟨pre, c, hi, hl, hk⟩)⟩
    · exact ⟨none, _, run_endLoop (P := P) hl (by simp [rec_]), hdone _ xs _ (Nat.le_refl _) hS (hI _ _ _ _ hi (grownBy_putObj' _ _ _) (fun r e => by cases e; exact ⟨by omega, _, hl, rfl⟩)) ((World.putObj_heap_other (by omega)).trans hk)⟩
    · exact ⟨some c, _, run_endLoop (P := P) hl (by simp [rec_]), hstop _ c pre _ (Nat.le_refl _) (hIx _ _ _ _ _ hi (grownBy_putObj' _ _ _) (fun r e => by cases e; exact ⟨by omega, _, hl, rfl⟩)) ((World.putObj_heap_other (by omega)).trans hk)⟩

end Go.Proofs.YtkpbiifikkbaeaaDoor.Con

namespace Go.Proofs.YtkpbiifikkbaeaaDoor.Con
open Go.RowKit
set_option linter.unusedVariables false

theorem oper_in {P : Program} {o : Oper} {a : Act} {w : World} {K : Act → World → Prop} {Q : Exit → Act → World → Prop} {l n : Nat} (hd : ∀ c, o.op ≠ .defer c) (h : o.wp P a w K Q) : o.wpIn (Fence.wide.inRound l) n P a w K Q := by
  unfold Oper.wp at h
  unfold Oper.wpIn
  refine ⟨fun f _ => trivial, ?_⟩
  rw [Oper.semAt_eq _ _ _ hd]
  generalize (execOp a.eval o).run P w = r at h ⊢
  cases r with
  | ok x w' =>
    cases x <;> simp only [Oper.upon, Oper.uponIn] at h ⊢
    case value v => exact h
    case skip => exact h
    case defer d => exact h
    case enter f args => exact ⟨fun e => by simp [Fence.wide] at e, callsIn_wide.2 h⟩
    case row row args => exact ⟨fun e => by simp [Fence.wide] at e, fun c cs _ => let ⟨v, w'', r, s⟩ := h c cs; ⟨v, w'', r, stepsIn_wide.2 s⟩⟩
  | halt x w' => cases x <;> simp only [Oper.upon, Oper.uponIn] at h ⊢ <;> exact h

def noDefer (ops : Array Oper) : Bool := ops.toList.all fun o => match o.op with | .defer _ => false | _ => true
theorem noDefer_spec {ops : Array Oper} (h : noDefer ops = true) (i : Nat) (o : Oper) (hi : ops[i]? = some o) (c : _) : o.op ≠ .defer c := fun e => by
  have := List.all_eq_true.1 h o (List.mem_of_getElem? (by rw [Array.getElem?_toList]; exact hi))
  rw [e] at this
  cases this

theorem opIn_of {P : Program} {ops : Array Oper} {Q : Exit → Act → World → Prop} {l n i : Nat} {K : Act → World → Prop} {a : Act} {w : World} (hd : noDefer ops = true) (hQ : ¬ LetsOut Q) (h : wpOp P ops Q i K a w) : wpOpIn (Fence.wide.inRound l) n P ops Q i K a w := by
  unfold wpOp at h
  unfold wpOpIn
  cases ho : ops[i]? with
  | none => simpa only [ho] using h
  | some o =>
    simp only [ho] at h ⊢
    split
    · next hw =>
      rw [if_pos hw] at h
      rcases h with h | ⟨_, h⟩
      · exact oper_in (noDefer_spec hd i o ho) h
      · exact absurd h hQ
    · next hw =>
      rw [if_neg hw] at h
      exact ⟨fun f _ => trivial, h⟩

section
variable {P : Program} {md : Region.Mode} {ops : Array Oper} {w : World}
theorem anyIn_of_head {l m n g : Nat} {L : Array Bool → Act → Prop} {Q' : Exit → Act → World → Prop} (hd : noDefer ops = true) (hQ : ¬ LetsOut Q') (hL : ∀ listed a, L listed a → wpAnyIn (Fence.wide.inRound l) m P md ops Q' g listed a w) :
    ∀ (f : Nat) (listed : Array Bool) (a : Act), wpAnyL P md ops w n L f listed a → wpAnyIn (Fence.wide.inRound l) m P md ops Q' (f + g) listed a w
  | 0, listed, a, h => by rw [Nat.zero_add]; exact hL _ _ h
  | f + 1, listed, a, h => by
    rw [show f + 1 + g = (f + g) + 1 by omega]
    exact ⟨fun h0 => absurd h0 h.1, fun i hi => opIn_of hd hQ (wpOp_of_stOp (fun a' h' => anyIn_of_head hd hQ hL f _ a' h') (h.2 i hi).2)⟩
theorem anyIn_of_seq {l m : Nat} {Q' : Exit → Act → World → Prop} : ∀ (ls : List Oper) (k : Nat) (listed : Array Bool) (a : Act) (w : World), (∀ j, ls[j]? = ops[k + j]?) →
    Region.seqB md ops ls.length k listed = true → wpListIn (Fence.wide.inRound l) m P ops Q' ls a w → wpAnyIn (Fence.wide.inRound l) m P md ops Q' ls.length listed a w
  | [], _, _, _, _, _, hB, h => ⟨by simpa [Region.seqB] using hB, h⟩
  | o :: ls, k, listed, a, w, hl, hB, h => by
    have h0 : ops[k]? = some o := by simpa using (hl 0).symm
    simp only [List.length_cons, Region.seqB, Bool.and_eq_true, decide_eq_true_eq] at hB
    refine ⟨fun h1 => (by rw [hB.1] at h1; cases h1), fun i hi => ?_⟩
    rw [hB.1] at hi
    have hik : i = k := by simpa using hi
    subst hik
    have hw : wpOpIn (Fence.wide.inRound l) m P ops Q' i (wpListIn (Fence.wide.inRound l) m P ops Q' ls) a w := by unfold wpOpIn; simp only [h0]; exact h
    exact wpOpIn_mono (fun a' w' h' => anyIn_of_seq ls (i + 1) _ a' w' (fun j => by have := hl (j + 1); simpa [Nat.add_assoc, Nat.add_comm 1 j] using this) hB.2 h') hw
end

theorem regIn_start {P : Program} {id l m : Nat} {Q : Exit → Act → World → Prop} {a : Act} {w : World} {L : List Oper} (n : Nat) (hm : P.follows .mixedOrders = true) (hd : noDefer L.toArray = true) (hQ : ¬ LetsOut Q) (hB : Region.lexTailB .any L.toArray n = true)
    (h : wpStill P L.toArray w.drew (fun a' => wpListIn (Fence.wide.inRound l) m P L.toArray Q (L.drop n) a' w.drew) ((L.take n).drop 0) a) : (Code.region id L.toArray true).wpIn (Fence.wide.inRound l) m P Q a w := by
  rw [List.drop_zero] at h
  simp only [Region.lexTailB, Bool.and_eq_true, decide_eq_true_eq] at hB
  obtain ⟨⟨⟨⟨hsel, hn⟩, hs⟩, hc⟩, hlex⟩ := hB
  have hn' : n < L.length := by simpa using hn
  have htl : (L.take n).length = n := by simp; omega
  have hdl : (L.drop n).length = L.toArray.size - n := by simp
  have inv0 : HeadInv .any L.toArray n (Array.replicate L.toArray.size false) :=
    ⟨by simp, fun j oj _ hl => (by rw [getD_replicate_false] at hl; cases hl), fun t _ ht => getD_in (by simpa using ht) (getD_replicate_false _ _)⟩
  have H := wpAnyL_lex (md := .any) (g := L.toArray.size - n) hsel hs hc hn (L.take n) 0 _ a (fun j hj => by
    have hj' : j < n := by rw [htl] at hj; exact hj
    simp [hj']) (by simpa using htl) inv0 (by rw [htl]; exact hlex) h
  refine wpIn_region_any hm ?_
  have := anyIn_of_head (Q' := Q) (g := L.toArray.size - n) (l := l) (m := m) hd hQ (fun listed a' hL => by
    have := anyIn_of_seq (md := .any) (Q' := Q) (L.drop n) n listed a' w.drew (fun j => by simp [List.getElem?_drop]) (by rw [hdl]; exact hL.1) hL.2
    rwa [hdl] at this) _ _ _ H
  rw [htl, show n + (L.toArray.size - n) = L.toArray.size by omega] at this
  exact this
theorem regIn_hid {P : Program} {F : Fence} {id n : Nat} {Q : Exit → Act → World → Prop} {a : Act} {w : World} {l : List Oper} (h : ∀ L : List Oper, L = l → (Code.region id L.toArray true).wpIn F n P Q a w) : (Code.region id l.toArray true).wpIn F n P Q a w := h l rfl
section
variable {P : Program} {F : Fence} {m : Nat} {L : List Oper} {w : World} {Q : Exit → Act → World → Prop} {a : Act} {o : Oper}
theorem tailIn_no (k : Nat) (ho : L[k]? = some o) (hF : ∀ f, F.fn f) (hg : Region.wanted o (yielded L.toArray a.tmps) = false) (h : wpListIn F m P L.toArray Q (L.drop (k + 1)) (a.put o.dst undef) w) : wpListIn F m P L.toArray Q (L.drop k) a w := by
  rw [reg_drop k ho]
  exact wpListIn_step fun K hK => by rw [if_neg (by rw [hg]; decide)]; exact ⟨fun f _ => hF f, hK _ _ h⟩
theorem tailIn_do (k : Nat) (ho : L[k]? = some o) (hg : Region.wanted o (yielded L.toArray a.tmps) = true) (h : ∀ K : Act → World → Prop, (∀ a w, wpListIn F m P L.toArray Q (L.drop (k + 1)) a w → K a w) → o.wpIn F m P a w K Q) : wpListIn F m P L.toArray Q (L.drop k) a w := by
  rw [reg_drop k ho]
  exact wpListIn_step fun K hK => by rw [if_pos hg]; exact h K hK
theorem tailIn_end (k : Nat) (hl : L.length ≤ k) (h : wpListIn F m P L.toArray Q [] a w) : wpListIn F m P L.toArray Q (L.drop k) a w := by
  rw [List.drop_eq_nil_of_le hl]; exact h
end

end Go.Proofs.YtkpbiifikkbaeaaDoor.Con
