/-
  A core term with its free variables raised, as a function on terms without addresses; contract of the model's l06Shift. Condition: the core term lies in memory and its nodes fit their kinds.
-/
import Derived.Test.YtkpbiifikkbaeaaDoorAnyL
import Derived.Test.YtkpbiifikkbaeaaDoorCoCp
import Derived.Test.YtkpbiifikkbaeaaDoorCoPl
import Derived.Test.YtkpbiifikkbaeaaDoorStep
import Derived.Deep.RegionHeld3
import Derived.Deep.DrawnRows
import Derived.Deep.Cut
import Derived.Deep.CutRange
namespace Go.Proofs.YtkpbiifikkbaeaaDoor.Con
open Go.RowKit
set_option linter.unusedVariables false
attribute [local go_sem ↓] Go.wp_at_zero Go.wp_at_succ

theorem coHi_le (k : Int) : coHi k ≤ 3 := by unfold coHi; repeat' split <;> omega
theorem cdHi_le (k : Int) : cdHi k ≤ 4 := by unfold cdHi; repeat' split <;> omega
theorem headC_sm {k v : Int} {ds : List Int} {l : Nat} (h : headC k v ds l = true) : l ≤ 3 ∧ ds.length ≤ 4 ∧ -2147483648 ≤ v ∧ v ≤ 2147483647 := by
  unfold headC at h
  simp only [Bool.and_eq_true] at h
  obtain ⟨h1, h2, h3, _⟩ := h
  have e1 := coHi_le k
  have e2 := cdHi_le k
  unfold inV at h1 h2
  simp only [decide_eq_true_eq] at h1 h2
  refine ⟨by omega, by omega, ?_⟩
  unfold coV inV at h3
  repeat' split at h3
  all_goals simp only [decide_eq_true_eq, beq_iff_eq] at h3
  all_goals omega
theorem headC_var {v : Int} {ds : List Int} {l : Nat} (h : headC 1 v ds l = true) : l = 0 ∧ ds = [] ∧ 0 ≤ v ∧ v ≤ 255 := by
  unfold headC at h
  simp only [Bool.and_eq_true] at h
  obtain ⟨h1, h2, h3, _⟩ := h
  unfold inV at h1 h2
  unfold coV inV at h3
  simp only [decide_eq_true_eq] at h1 h2
  have e1 : coHi 1 = 0 := rfl
  have e2 : cdHi 1 = 0 := rfl
  simp only [if_true, decide_eq_true_eq] at h3
  exact ⟨by omega, List.eq_nil_of_length_eq_zero (by omega), by omega, by omega⟩
theorem head_of {u : LK} (h : u.co.all headC = true) : headC u.k u.v u.ds u.ks.length = true := by
  rw [Co.all_eq, Bool.and_eq_true] at h
  have := h.1
  rwa [LK.co_k, LK.co_v, LK.co_ds, LK.co_len] at this

/-- The free variables from f on raised by n. -/
def shV (k v n f : Int) : Int := if k = 1 ∧ f ≤ v then v + n else v
def Co.sh : Co → Int → Int → Co
  | .mk k v ds ks, n, f => .mk k (shV k v n f) ds (shs k 0 ks n f)
where shs (k : Int) : Nat → List Co → Int → Int → List Co
  | _, [], _, _ => []
  | i, t :: ts, n, f => t.sh n (f + bndK k i) :: shs k (i + 1) ts n f
abbrev coshs (k : Int) (i : Nat) (ts : List Co) (n f : Int) : List Co := Co.sh.shs k i ts n f
theorem sh_eq (t : Co) (n f : Int) : t.sh n f = .mk t.k (shV t.k t.v n f) t.ds (coshs t.k 0 t.ks n f) := by
  obtain ⟨k, v, ds, ks⟩ := t
  rw [Co.sh]; rfl
theorem shs_len (k : Int) (n f : Int) : ∀ (ts : List Co) (i : Nat), (coshs k i ts n f).length = ts.length
  | [], _ => by simp [coshs, Co.sh.shs]
  | t :: ts, i => by simp only [coshs, Co.sh.shs, List.length_cons]; rw [shs_len k n f ts (i + 1)]
theorem shs_get (k : Int) (n f : Int) : ∀ (ts : List Co) (i j : Nat) (hj : j < ts.length), (coshs k i ts n f)[j]? = some (ts[j].sh n (f + bndK k (i + j)))
  | t :: ts, i, 0, _ => by simp [coshs, Co.sh.shs]
  | t :: ts, i, j + 1, hj => by
    simp only [coshs, Co.sh.shs, List.getElem?_cons_succ, List.getElem_cons_succ]
    have := shs_get k n f ts (i + 1) j (by simpa using hj)
    rw [this, show i + 1 + j = i + (j + 1) by omega]

/-- What a copy in new memory gives. -/
def NwP (w : World) (t : Co) (e : Ending) (w' : World) : Prop := ∃ u : LK, e = .returned u.val ∧ u.co = t ∧ u.New w.heap.size w' ∧ Gw w w'
def KSh (u : LK) : Prop := ∀ (w : World) (b o : Nat) (n f : Int), coAt w b o u → u.co.all headC = true → -1000 ≤ n → n ≤ 1000 → -1000000 ≤ f → f + u.co.dp ≤ 1000000 → Calls Tryd.prog 92 #[.pointer (some ⟨b, o, none⟩), .int .i64 n, .int .i64 f] w (NwP w (u.co.sh n f))

theorem call_shift (v x y : Value) (W : World) : (callFunc 92 #[v, x, y]).run Tryd.prog W = .ok (.enter 92 #[v, x, y]) W := by kernel_rfl
theorem call_cbinds (v x : Value) (W : World) : (callFunc 113 #[v, x]).run Tryd.prog W = .ok (.enter 113 #[v, x]) W := by kernel_rfl
theorem one4 (k v : Int) (a : Option Addr) (l c : Nat) (a2 : Option Addr) (l2 c2 : Nat) : ∀ u ∈ [Value.int .i64 k, .int .i64 v, .slice a l c, .slice a2 l2 c2], u.oneCell' = true := by
  intro u hu
  simp at hu
  rcases hu with rfl | rfl | rfl | rfl <;> rfl

/-- The state of l06Shift's loop: R the result's block, T the one of the node that is built. -/
def ShRel (w : World) (u : LK) (V n f : Int) (da : Option Addr) (dc R T Bk : Nat) (i : Value) (wr : World) : Prop := ∃ (us : List LK) (v : Value), i = .int .i64 us.length ∧ us.length ≤ u.ks.length ∧ us.map LK.co = (coshs u.k 0 u.co.ks n f).take us.length ∧ gApp 42 4 coE LK.Ok LK.bl Bk wr v us ∧
  wr.heap[R]? = some (.cells #[.int .i64 0, .int .i64 0, .slice none 0 0, .slice none 0 0] 42 (0, 0)) ∧ wr.heap[T]? = some (.cells #[.int .i64 u.k, .int .i64 V, .slice da u.ds.length dc, v] 42 (0, 0)) ∧ numNew (R + 1) wr da dc u.ds ∧ Gw w wr ∧ Bk ≤ wr.heap.size

theorem sh_next {w wr w1 w2 : World} {u x : LK} {V n f : Int} {da : Option Addr} {dc R T Bk : Nat} {us : List LK} {va : Option Addr} {vc g cap : Nat} {O : Obj} (HT : us.map LK.co = (coshs u.k 0 u.co.ks n f).take us.length) (HA : gApp 42 4 coE LK.Ok LK.bl Bk wr (.slice va us.length vc) us)
    (hR : wr.heap[R]? = some (.cells #[.int .i64 0, .int .i64 0, .slice none 0 0, .slice none 0 0] 42 (0, 0))) (hT : wr.heap[T]? = some (.cells #[.int .i64 u.k, .int .i64 V, .slice da u.ds.length dc, .slice va us.length vc] 42 (0, 0)))
    (hD : numNew (R + 1) wr da dc u.ds) (hDT : ∀ y ∈ nbl nB da u.ds, y < Bk ∧ y ≠ T) (hRT : R < Bk ∧ R ≠ T) (hTB : w.heap.size ≤ T ∧ T < Bk) (hBw : w.heap.size ≤ Bk ∧ Bk ≤ wr.heap.size) (hg : Gw w wr) (hlt : us.length < u.ks.length) (hg1 : Gw wr w1) (HU : x.co = u.ks[us.length].co.sh n (f + bndK u.k us.length)) (HN : x.New wr.heap.size w1)
    (HO : w2.ownsRow Bk 42 4 (.slice (some ⟨g, 0, none⟩) (us.length + 1) cap) (us.length + 1) (us.flatMap coE ++ [.int .i64 x.k, .int .i64 x.v, .slice x.da x.ds.length x.dc, .slice x.a x.ks.length x.cap])) (HG : (w1.alloc O).grownBy w2 (Value.slice va us.length vc).ownBlock)
    (HAT : (Value.slice va us.length vc).ownBlock = some g ∨ g = (w1.alloc O).heap.size) : ShRel w u V n f da dc R T Bk (.int .i64 (us.length + 1)) (w2.setCell ⟨T, 3, none⟩ (.slice (some ⟨g, 0, none⟩) (us.length + 1) cap)) := by
  have hs := hg1.size
  have hgA : Gw wr (w1.alloc O) := hg1.alloc O
  have hv : ∀ y, (Value.slice va us.length vc).ownBlock = some y → Bk ≤ y := fun y hy => (HA.1.lt y hy).1
  have key : ∀ b, b < Bk → w2.heap[b]? = wr.heap[b]? := fun b h => (HG.block b (by simp; omega) (fun e => by have := hv b e.symm; omega)).trans (hgA.block b (by omega))
  have hnx : x.New wr.heap.size (w1.alloc O) := HN.grow coGr ((Below.refl _ _).alloc (Nat.le_refl _) _)
  have hA2 := gApp.push (g := g) coGr coFr HA hgA hnx (Nat.le_refl _) (by omega) (show w2.ownsRow Bk 42 4 (.slice (some ⟨g, 0, none⟩) (us.length + 1) cap) (us.length + 1) (us.flatMap coE ++ coE x) from HO) rfl HG (HAT.imp id (fun e => by omega))
  have hfar : ∀ b, b ≠ T → (w2.setCell ⟨T, 3, none⟩ (.slice (some ⟨g, 0, none⟩) (us.length + 1) cap)).heap[b]? = w2.heap[b]? := fun b hb => Below.heap_setCell _ _ _ _ hb
  have hgB : Below w.heap.size w w2 := Below.trans hg ⟨HG.os.trans hgA.os, HG.tape.trans hgA.tape, HG.output.trans hgA.output, Nat.le_trans hgA.size HG.size, fun b hb => key b (by omega)⟩
  refine ⟨us ++ [x], .slice (some ⟨g, 0, none⟩) (us.length + 1) cap, by rw [List.length_append]; rfl, by rw [List.length_append, List.length_singleton]; omega, ?_, ?_, ?_, ?_, ?_, ?_⟩
  · have h1 := shs_get u.k n f u.co.ks 0 us.length (by rw [u.co_len]; exact hlt)
    have h2 := (List.getElem?_eq_some_iff.1 h1).1
    have h3 := (List.getElem?_eq_some_iff.1 h1).2
    rw [List.length_append, List.length_singleton, List.take_succ_eq_append_getElem h2, List.map_append, HT, h3, u.co_kid _ hlt, Nat.zero_add]; simp [HU]
  · refine hA2.far coFr _ (fun hm => ?_) (fun e => ?_) _
    · have := (hA2.2.2.2 _ hm).1; simp at this; omega
    · have := (hA2.1.lt _ e).1; simp at this; omega
  · rw [hfar _ hRT.2, key _ hRT.1]; exact hR
  · have := (key T hTB.2).trans hT
    simp [World.setCell, Array.getElem?_modify, this]
  · exact gNewSl.same (by decide) nLen nFr hD fun y hy => by have := hDT y hy; rw [hfar _ this.2, key _ this.1]
  · exact ⟨Below.setCell hgB hTB.1 _, by have h1 := HG.size; have h2 := hgA.size; simp only [World.setCell, Array.size_modify]; omega⟩

theorem step_call2 {P : Program} {ops : Array Oper} {o : Oper} {a : Act} {w : World} {K : Act → World → Prop} {Q : Exit → Act → World → Prop} {E : Prop} (R : Ending → World → Prop) (hgd : o.guard = none) (f : FuncId) (x y : Operand) (ts : Array TypeId)
    (ho : o.op = .call { callee := .value (.func f), args := #[x, y], argTypes := ts }) (v u : Value) (hx : a.eval x = v) (hy : a.eval y = u) (he : ∀ W : World, (callFunc f #[v, u]).run P W = .ok (.enter f #[v, u]) W)
    (hc : Calls P f #[v, u] w R) (h : ∀ e w', R e w' → ∃ v, e = .returned v ∧ K (a.put o.dst v) w') : if Region.wanted o (yielded ops a.tmps) = true then Oper.wp P o a w K Q else E :=
  step_call hgd f #[x, y] ts ho #[v, u] (by simp [hx, hy]) he hc h
theorem step_call3 {P : Program} {ops : Array Oper} {o : Oper} {a : Act} {w : World} {K : Act → World → Prop} {Q : Exit → Act → World → Prop} {E : Prop} (R : Ending → World → Prop) (hgd : o.guard = none) (f : FuncId) (x y z : Operand) (ts : Array TypeId)
    (ho : o.op = .call { callee := .value (.func f), args := #[x, y, z], argTypes := ts }) (v u t : Value) (hx : a.eval x = v) (hy : a.eval y = u) (hz : a.eval z = t) (he : ∀ W : World, (callFunc f #[v, u, t]).run P W = .ok (.enter f #[v, u, t]) W)
    (hc : Calls P f #[v, u, t] w R) (h : ∀ e w', R e w' → ∃ v, e = .returned v ∧ K (a.put o.dst v) w') : if Region.wanted o (yielded ops a.tmps) = true then Oper.wp P o a w K Q else E :=
  step_call hgd f #[x, y, z] ts ho #[v, u, t] (by simp [hx, hy, hz]) he hc h

theorem sh_app {wr w1 w2 : World} {v : Value} {o : Obj} {Bk : Nat} (hgr : (w1.alloc o).grownBy w2 v.ownBlock) (hg : Gw wr w1) (hB : Bk ≤ wr.heap.size) (hv : ∀ x, v.ownBlock = some x → Bk ≤ x) : ∀ y, y < Bk → w2.heap[y]? = wr.heap[y]? := fun y hy => by
  have hs := hg.size
  exact (hgr.block y (by simp; omega) (fun e => by have := hv y e.symm; omega)).trans ((Below.heap_alloc _ _ _ (by omega)).trans (hg.block y (by omega)))
theorem gw_drewL {wr w1 : World} (h : Gw wr.drew w1) : Gw wr w1 := ⟨h.os, h.tape, h.output, h.size, h.block⟩
theorem coNew_nil (B : Nat) (w : World) : coNew B w none 0 [] := ⟨⟨Nat.le_refl _, Nat.zero_le _, .inl rfl⟩, by simp [nbl], fun b hb => by simp [nbl] at hb⟩
/-- The node that was built, when the result has been written. -/
theorem sh_fin {wr : World} {u : LK} {V : Int} {da va : Option Addr} {dc vc R Bk : Nat} {us : List LK} (hk : cin64 u.k) (hv : cin64 V) (hD : numNew (R + 1) wr da dc u.ds) (hDT : ∀ y ∈ nbl nB da u.ds, y < Bk) (hK : coNew Bk wr va vc us) (hR : R + 1 ≤ Bk) : ∀ x0 x1 x2 x3 : Value,
    LK.New (R + 1) ((((wr.setCell ⟨R, 0, none⟩ x0).setCell ⟨R, 1, none⟩ x1).setCell ⟨R, 2, none⟩ x2).setCell ⟨R, 3, none⟩ x3) (.mk u.k V da dc u.ds va vc us) := by
  intro x0 x1 x2 x3
  have h := LK.new_mk (B := R + 1) hk hv hD hK hDT hR (Nat.le_refl _)
  exact h.same coFr fun y hy => by
    have := (h.2.2 y hy).1
    rw [Below.heap_setCell _ _ _ _ (by simp; omega), Below.heap_setCell _ _ _ _ (by simp; omega), Below.heap_setCell _ _ _ _ (by simp; omega), Below.heap_setCell _ _ _ _ (by simp; omega)]
theorem far4 {w : World} {a b : Nat} (h : a ≠ b) {o i j k l : Nat} {x y z t : Value} : ((((w.setCell ⟨b, i, none⟩ x).setCell ⟨b, j, none⟩ y).setCell ⟨b, k, none⟩ z).setCell ⟨b, l, none⟩ t).cell? ⟨a, o, none⟩ = w.cell? ⟨a, o, none⟩ := by
  rw [World.cell?_setCell_other _ _ _ _ (fun e => h (by injection e with e; exact e.symm)), World.cell?_setCell_other _ _ _ _ (fun e => h (by injection e with e; exact e.symm)), World.cell?_setCell_other _ _ _ _ (fun e => h (by injection e with e; exact e.symm)), World.cell?_setCell_other _ _ _ _ (fun e => h (by injection e with e; exact e.symm))]
theorem zero_after {w1 w2 : World} (g : Gw (w1.alloc (.cells #[.int .i64 0, .int .i64 0, .slice none 0 0, .slice none 0 0] 42)).drew w2) :
    w2.cell? ⟨w1.heap.size, 0, none⟩ = some (.int .i64 0) ∧ w2.cell? ⟨w1.heap.size, 1, none⟩ = some (.int .i64 0) ∧ w2.cell? ⟨w1.heap.size, 2, none⟩ = some (.slice none 0 0) ∧ w2.cell? ⟨w1.heap.size, 3, none⟩ = some (.slice none 0 0) ∧
    w2.frozen? ⟨w1.heap.size, 0, none⟩ = false ∧ w2.frozen? ⟨w1.heap.size, 1, none⟩ = false ∧ w2.frozen? ⟨w1.heap.size, 2, none⟩ = false ∧ w2.frozen? ⟨w1.heap.size, 3, none⟩ = false := by
  have h : w2.heap[w1.heap.size]? = some (.cells #[.int .i64 0, .int .i64 0, .slice none 0 0, .slice none 0 0] 42 (0, 0)) := (g.block _ (by simp [World.drew])).trans (heap_alloc_new w1 _)
  exact ⟨cell_of_row _ _ 0 _ _ _ h, cell_of_row _ _ 1 _ _ _ h, cell_of_row _ _ 2 _ _ _ h, cell_of_row _ _ 3 _ _ _ h, by simp [World.frozen?, h], by simp [World.frozen?, h], by simp [World.frozen?, h], by simp [World.frozen?, h]⟩

set_option maxRecDepth 100000 in
set_option maxHeartbeats 4000000 in
theorem sh_of (u : LK) (ih : ∀ t ∈ u.ks, KSh t) : KSh u := by
  intro w b o n f h hok hn0 hn1 hf0 hf1
  obtain ⟨i0, hi, hz0, hz1, hz2⟩ := info_parts infoK
  have HI := Lib.hid hi
  have HZ0 := Lib.hid hz0
  have HZ1 := Lib.hid hz1
  have HZ2 := Lib.hid hz2
  clear hi hz0 hz1 hz2
  have hH := head_of hok
  obtain ⟨s1, s2, s3, s4⟩ := headC_sm hH
  have HOK := Lib.hid hok
  have A := Lib.hid h
  have hll := h.2.kl
  have gR := (Gw.refl w).alloc (.cells #[.int .i64 0, .int .i64 0, .slice none 0 0, .slice none 0 0] 42)
  have hR := heap_alloc_new w (.cells #[.int .i64 0, .int .i64 0, .slice none 0 0, .slice none 0 0] 42)
  have A1 := Lib.hid (h.grow gR)
  have GR := Lib.hid gR
  have HR := Lib.hid hR
  have LD := Lib.hid (show u.ds.length ≤ 1000000 by omega)
  have DB := Lib.hid (numSl.bd h.2.dat)
  clear h hok hH gR hR
  go_enter Tryd.func92, Tryd.ntmps92
  go_upto_region 1 with (fail)
  generalize w.alloc (.cells #[.int .i64 0, .int .i64 0, .slice none 0 0, .slice none 0 0] 42) = w1 at *
  obtain ⟨p0, p1, p2, p3⟩ := A1.out.c
  have lA := A1.out.lt
  have HR1 := Lib.hid (Array.getElem?_eq_some_iff.1 HR.out).1
  go_cut [7] from 7 to 22 (fun t7 wx => ∃ (T : Nat) (da : Option Addr) (dc : Nat), t7 = .pointer (some ⟨T, 0, none⟩) ∧ w1.heap.size ≤ T ∧ wx.heap[T]? = some (.cells #[.int .i64 u.k, .int .i64 u.v, .slice da u.ds.length dc, .slice none 0 0] 42 (0, 0)) ∧ numNew w1.heap.size wx da dc u.ds ∧ (∀ y ∈ nbl nB da u.ds, y ≠ T) ∧ Gw w1 wx)
  case first =>
    refine wp_region_held_drew (S := fun W => W.cell? ⟨b, o, none⟩ = some (.int .i64 u.k) ∧ W.cell? ⟨b, o + 1, none⟩ = some (.int .i64 u.v) ∧ W.cell? ⟨b, o + 2, none⟩ = some (.slice u.da u.ds.length u.dc)) (by kernel_rfl) ?_ (fun hHeld => ?_)
    · exact ⟨p0, p1, p2⟩
    refine wpAnyH_take (i := 0) (oi := { dst := some 9, op := _, type := _, pos := _, after := _, guard := _ }) (v := .pointer (some ⟨b, o, none⟩)) rfl (by kernel_rfl) (by kernel_rfl) (by kernel_rfl) (fun _ _ _ h => h) (Or.inl ⟨by rfl, ?_⟩) (by assumption) ?_
    · intro w hSw; obtain ⟨p0, p1, p2⟩ := hSw; go_simp
    try simp only [Act.put, List.setIfInBounds_toArray, List.set_cons_zero, List.set_cons_succ]
    refine wpAnyH_take (i := 1) (oi := { dst := some 10, op := _, type := _, pos := _, after := _, guard := _ }) (v := .pointer (some ⟨b, o, none⟩)) rfl (by kernel_rfl) (by kernel_rfl) (by kernel_rfl) (fun _ _ _ h => h) (Or.inl ⟨by rfl, ?_⟩) (by assumption) ?_
    · intro w hSw; obtain ⟨p0, p1, p2⟩ := hSw; go_simp
    try simp only [Act.put, List.setIfInBounds_toArray, List.set_cons_zero, List.set_cons_succ]
    refine wpAnyH_take (i := 2) (oi := { dst := some 11, op := _, type := _, pos := _, after := _, guard := _ }) (v := .pointer (some ⟨b, o, none⟩)) rfl (by kernel_rfl) (by kernel_rfl) (by kernel_rfl) (fun _ _ _ h => h) (Or.inl ⟨by rfl, ?_⟩) (by assumption) ?_
    · intro w hSw; obtain ⟨p0, p1, p2⟩ := hSw; go_simp
    try simp only [Act.put, List.setIfInBounds_toArray, List.set_cons_zero, List.set_cons_succ]
    refine wpAnyH_take (i := 3) (oi := { dst := some 12, op := _, type := _, pos := _, after := _, guard := _ }) (v := .int .i64 u.k) rfl (by kernel_rfl) (by kernel_rfl) (by kernel_rfl) (fun _ _ _ h => h) (Or.inl ⟨by rfl, ?_⟩) (by assumption) ?_
    · intro w hSw; obtain ⟨p0, p1, p2⟩ := hSw; go_simp
    try simp only [Act.put, List.setIfInBounds_toArray, List.set_cons_zero, List.set_cons_succ]
    refine wpAnyH_take (i := 4) (oi := { dst := some 13, op := _, type := _, pos := _, after := _, guard := _ }) (v := .pointer (some ⟨b, o, none⟩)) rfl (by kernel_rfl) (by kernel_rfl) (by kernel_rfl) (fun _ _ _ h => h) (Or.inl ⟨by rfl, ?_⟩) (by assumption) ?_
    · intro w hSw; obtain ⟨p0, p1, p2⟩ := hSw; go_simp
    try simp only [Act.put, List.setIfInBounds_toArray, List.set_cons_zero, List.set_cons_succ]
    refine wpAnyH_take (i := 5) (oi := { dst := some 14, op := _, type := _, pos := _, after := _, guard := _ }) (v := .pointer (some ⟨b, o, none⟩)) rfl (by kernel_rfl) (by kernel_rfl) (by kernel_rfl) (fun _ _ _ h => h) (Or.inl ⟨by rfl, ?_⟩) (by assumption) ?_
    · intro w hSw; obtain ⟨p0, p1, p2⟩ := hSw; go_simp
    try simp only [Act.put, List.setIfInBounds_toArray, List.set_cons_zero, List.set_cons_succ]
    refine wpAnyH_take (i := 6) (oi := { dst := some 15, op := _, type := _, pos := _, after := _, guard := _ }) (v := .pointer (some ⟨b, o + 1, none⟩)) rfl (by kernel_rfl) (by kernel_rfl) (by kernel_rfl) (fun _ _ _ h => h) (Or.inl ⟨by rfl, ?_⟩) (by assumption) ?_
    · intro w hSw; obtain ⟨p0, p1, p2⟩ := hSw; go_simp
    try simp only [Act.put, List.setIfInBounds_toArray, List.set_cons_zero, List.set_cons_succ]
    refine wpAnyH_take (i := 7) (oi := { dst := some 16, op := _, type := _, pos := _, after := _, guard := _ }) (v := .int .i64 u.v) rfl (by kernel_rfl) (by kernel_rfl) (by kernel_rfl) (fun _ _ _ h => h) (Or.inl ⟨by rfl, ?_⟩) (by assumption) ?_
    · intro w hSw; obtain ⟨p0, p1, p2⟩ := hSw; go_simp
    try simp only [Act.put, List.setIfInBounds_toArray, List.set_cons_zero, List.set_cons_succ]
    refine wpAnyH_take (i := 8) (oi := { dst := some 17, op := _, type := _, pos := _, after := _, guard := _ }) (v := .pointer (some ⟨b, o, none⟩)) rfl (by kernel_rfl) (by kernel_rfl) (by kernel_rfl) (fun _ _ _ h => h) (Or.inl ⟨by rfl, ?_⟩) (by assumption) ?_
    · intro w hSw; obtain ⟨p0, p1, p2⟩ := hSw; go_simp
    try simp only [Act.put, List.setIfInBounds_toArray, List.set_cons_zero, List.set_cons_succ]
    refine wpAnyH_take (i := 9) (oi := { dst := some 18, op := _, type := _, pos := _, after := _, guard := _ }) (v := .pointer (some ⟨b, o, none⟩)) rfl (by kernel_rfl) (by kernel_rfl) (by kernel_rfl) (fun _ _ _ h => h) (Or.inl ⟨by rfl, ?_⟩) (by assumption) ?_
    · intro w hSw; obtain ⟨p0, p1, p2⟩ := hSw; go_simp
    try simp only [Act.put, List.setIfInBounds_toArray, List.set_cons_zero, List.set_cons_succ]
    refine wpAnyH_take (i := 10) (oi := { dst := some 19, op := _, type := _, pos := _, after := _, guard := _ }) (v := .pointer (some ⟨b, o + 2, none⟩)) rfl (by kernel_rfl) (by kernel_rfl) (by kernel_rfl) (fun _ _ _ h => h) (Or.inl ⟨by rfl, ?_⟩) (by assumption) ?_
    · intro w hSw; obtain ⟨p0, p1, p2⟩ := hSw; go_simp
    try simp only [Act.put, List.setIfInBounds_toArray, List.set_cons_zero, List.set_cons_succ]
    refine wpAnyH_take (i := 11) (oi := { dst := some 20, op := _, type := _, pos := _, after := _, guard := _ }) (v := .slice u.da u.ds.length u.dc) rfl (by kernel_rfl) (by kernel_rfl) (by kernel_rfl) (fun _ _ _ h => h) (Or.inl ⟨by rfl, ?_⟩) (by assumption) ?_
    · intro w hSw; obtain ⟨p0, p1, p2⟩ := hSw; go_simp
    try simp only [Act.put, List.setIfInBounds_toArray, List.set_cons_zero, List.set_cons_succ]
    refine wpAnyH_ready (rs := [12, 14]) (by kernel_rfl) (by simp) ?_
    refine AllReadyH.cons (o := { dst := some 21, op := _, type := _, pos := _, after := _, guard := _ }) rfl (fun K hK => ?_) (AllReadyH.cons (o := { dst := some 7, op := _, type := _, pos := _, after := _, guard := _ }) rfl (fun K hK => ?_) AllReadyH.nil)
    · go_simp
      go_at_call 112
      refine (spec_ownN u.ds _ u.da u.dc (coAt.grow A1.out (Gw.refl w1).drew).2.dat LD.out).mono ?_
      rintro e w2 ⟨vd, rfl, hvd, g2⟩
      obtain ⟨da, dc, rfl⟩ := IRow.form (L := u.ds) hvd
      have k2 : ∀ b o, b < w1.heap.size → w2.cell? ⟨b, o, none⟩ = w1.cell? ⟨b, o, none⟩ := fun b o h => (bcell g2).1 b o h
      have l2 : b < w2.heap.size := Nat.lt_of_lt_of_le lA g2.size
      go_wp2_with fail
      refine hK.out _ _ ⟨(k2 _ _ lA).trans p0, (k2 _ _ lA).trans p1, (k2 _ _ lA).trans p2⟩ (fun hHeld => ?_)
      clear hK K
      try simp only [Act.put, List.setIfInBounds_toArray, List.set_cons_zero, List.set_cons_succ]
      refine wpAnyH_take (i := 13) (oi := { dst := some 22, op := _, type := _, pos := _, after := _, guard := _ }) (v := .agg #[.int .i64 u.k, .int .i64 u.v, .slice da u.ds.length dc, .slice none 0 0]) rfl (by kernel_rfl) (by kernel_rfl) (by kernel_rfl) (fun _ _ _ h => h) (Or.inl ⟨by rfl, ?_⟩) (by assumption) ?_
      · intro w hSw; obtain ⟨p0, p1, p2⟩ := hSw; go_simp
      try simp only [Act.put, List.setIfInBounds_toArray, List.set_cons_zero, List.set_cons_succ]
      refine wpAnyH_ready (rs := [14]) (by kernel_rfl) (by simp) ?_
      refine AllReadyH.cons (o := { dst := some 7, op := _, type := _, pos := _, after := _, guard := _ }) rfl (fun K hK => ?_) AllReadyH.nil
      go_simp
      refine hK _ _ ⟨(World.cell?_alloc_lt _ _ _ l2).trans ((k2 _ _ lA).trans p0), (World.cell?_alloc_lt _ _ _ l2).trans ((k2 _ _ lA).trans p1), (World.cell?_alloc_lt _ _ _ l2).trans ((k2 _ _ lA).trans p2)⟩ (fun hHeld => ?_)
      clear hK K
      try simp only [Act.put, List.setIfInBounds_toArray, List.set_cons_zero, List.set_cons_succ]
      refine wpAnyH_ready (rs := [15]) (by kernel_rfl) (by simp) ?_
      refine AllReadyH.cons (o := { dst := none, op := _, type := _, pos := _, after := _, guard := _ }) rfl (fun K hK => ?_) AllReadyH.nil
      go_simp
      refine hK _ _ ⟨(World.cell?_alloc_lt _ _ _ l2).trans ((k2 _ _ lA).trans p0), (World.cell?_alloc_lt _ _ _ l2).trans ((k2 _ _ lA).trans p1), (World.cell?_alloc_lt _ _ _ l2).trans ((k2 _ _ lA).trans p2)⟩ (fun hHeld => ?_)
      clear hK K
      try simp only [Act.put, List.setIfInBounds_toArray, List.set_cons_zero, List.set_cons_succ]
      refine wpAnyH_done (by kernel_rfl) ?_ _
      go_wp2_with fail
      go_meet
      case rel =>
        have hn := (IRow.num hvd DB.out).1
        exact ⟨w2.heap.size, da, dc, rfl, g2.size, heap_alloc_new w2 _, gNewSl.grow nLen nGr hn ((Gw.refl w2).alloc _), fun y hy => by have := (hn.2.2 y hy).2.lt; omega, ((Gw.refl w1).drew.trans g2).alloc _⟩
    · go_simp
      refine hK _ _ ⟨(World.cell?_alloc_lt _ _ _ lA).trans p0, (World.cell?_alloc_lt _ _ _ lA).trans p1, (World.cell?_alloc_lt _ _ _ lA).trans p2⟩ (fun hHeld => ?_)
      clear hK K
      try simp only [Act.put, List.setIfInBounds_toArray, List.set_cons_zero, List.set_cons_succ]
      refine wpAnyH_ready (rs := [12]) (by kernel_rfl) (by simp) ?_
      refine AllReadyH.cons (o := { dst := some 21, op := _, type := _, pos := _, after := _, guard := _ }) rfl (fun K hK => ?_) AllReadyH.nil
      go_simp
      go_at_call 112
      refine (spec_ownN u.ds _ u.da u.dc (coAt.grow A1.out ((Gw.refl w1).alloc (.cells #[.int .i64 0, .int .i64 0, .slice none 0 0, .slice none 0 0] 42)).drew).2.dat LD.out).mono ?_
      rintro e w2 ⟨vd, rfl, hvd, g2⟩
      obtain ⟨da, dc, rfl⟩ := IRow.form (L := u.ds) hvd
      obtain ⟨z0, z1, z2, z3, y0, y1, y2, y3⟩ := zero_after g2
      have k2 : ∀ b o, b < w1.heap.size → w2.cell? ⟨b, o, none⟩ = w1.cell? ⟨b, o, none⟩ := fun b o h => ((bcell g2).1 b o (Nat.lt_of_lt_of_le h (by simp [World.drew]))).trans (World.cell?_alloc_lt _ _ _ h)
      have l2 : w1.heap.size < w2.heap.size := Nat.lt_of_lt_of_le (by simp [World.drew]) g2.size
      have hneb : b ≠ w1.heap.size := Nat.ne_of_lt lA
      go_wp2_with fail
      refine hK.out _ _ ⟨(k2 _ _ lA).trans p0, (k2 _ _ lA).trans p1, (k2 _ _ lA).trans p2⟩ (fun hHeld => ?_)
      clear hK K
      try simp only [Act.put, List.setIfInBounds_toArray, List.set_cons_zero, List.set_cons_succ]
      refine wpAnyH_take (i := 13) (oi := { dst := some 22, op := _, type := _, pos := _, after := _, guard := _ }) (v := .agg #[.int .i64 u.k, .int .i64 u.v, .slice da u.ds.length dc, .slice none 0 0]) rfl (by kernel_rfl) (by kernel_rfl) (by kernel_rfl) (fun _ _ _ h => h) (Or.inl ⟨by rfl, ?_⟩) (by assumption) ?_
      · intro w hSw; obtain ⟨p0, p1, p2⟩ := hSw; go_simp
      try simp only [Act.put, List.setIfInBounds_toArray, List.set_cons_zero, List.set_cons_succ]
      refine wpAnyH_ready (rs := [15]) (by kernel_rfl) (by simp) ?_
      refine AllReadyH.cons (o := { dst := none, op := _, type := _, pos := _, after := _, guard := _ }) rfl (fun K hK => ?_) AllReadyH.nil
      go_simp
      refine hK _ _ ⟨(far4 hneb).trans ((k2 _ _ lA).trans p0), (far4 hneb).trans ((k2 _ _ lA).trans p1), (far4 hneb).trans ((k2 _ _ lA).trans p2)⟩ (fun hHeld => ?_)
      clear hK K
      try simp only [Act.put, List.setIfInBounds_toArray, List.set_cons_zero, List.set_cons_succ]
      refine wpAnyH_done (by kernel_rfl) ?_ _
      go_wp2_with fail
      go_meet
      case rel =>
        have hn := (IRow.num hvd DB.out).1
        have hzs : ((w1.alloc (.cells #[.int .i64 0, .int .i64 0, .slice none 0 0, .slice none 0 0] 42)).drew).heap.size = w1.heap.size + 1 := by simp [World.drew]
        have hge : ∀ y ∈ nbl nB da u.ds, w1.heap.size + 1 ≤ y := fun y hy => by have := (hn.2.2 y hy).1; omega
        have hz : w2.heap[w1.heap.size]? = some (.cells #[.int .i64 0, .int .i64 0, .slice none 0 0, .slice none 0 0] 42 (0, 0)) := (g2.block _ (by simp [World.drew])).trans (heap_alloc_new w1 _)
        exact ⟨w1.heap.size, da, dc, rfl, Nat.le_refl _, by simp [World.setCell, Array.getElem?_modify, hz], gNewSl.same (by decide) nLen nFr (hn.mono (by omega)) fun y hy => by have := hge y hy; rw [Below.heap_setCell _ _ _ _ (by simp; omega), Below.heap_setCell _ _ _ _ (by simp; omega), Below.heap_setCell _ _ _ _ (by simp; omega), Below.heap_setCell _ _ _ _ (by simp; omega)], fun y hy => by have := hge y hy; omega, (((Below.setCell (Below.trans ((Gw.refl w1).alloc _).drew (Below.mono g2 (by omega))) (Nat.le_refl _) _).setCell (Nat.le_refl _) _).setCell (Nat.le_refl _) _).setCell (Nat.le_refl _) _⟩
  case rest =>
    obtain ⟨T, da, dc, rfl, hT0, hT, hD, hDT, g3⟩ := hcut
    have A3 := Lib.hid (A1.out.grow g3)
    have HT0 := Lib.hid hT0
    have HT := Lib.hid hT
    have HD := Lib.hid hD
    have HDT := Lib.hid hDT
    have G3 := Lib.hid g3
    have R3 := Lib.hid ((g3.block _ HR1.out).trans HR.out)
    have HKV := Lib.hid (show cin64 u.k ∧ cin64 (shV u.k u.v n f) from ⟨A.out.2.kin, by unfold cin64 shV; split <;> omega⟩)
    have HRT := Lib.hid (show w.heap.size < T from Nat.lt_of_lt_of_le HR1.out hT0)
    have t1 : wc.cell? ⟨T, 1, none⟩ = some (.int .i64 u.v) := cell_of_row _ _ 1 _ _ _ hT
    have u1 : wc.frozen? ⟨T, 1, none⟩ = false := by simp [World.frozen?, hT]
    clear hT0 hT hD hDT g3 p0 p1 p2 p3
    obtain ⟨p0, p1, p2, p3⟩ := A3.out.c
    by_cases h1 : u.k = 1
    · have hv := headC_var (by have := head_of HOK.out; rwa [h1] at this)
      have q1 : (u.k == 1) = true := by simpa using h1
      have HL0 := Lib.hid hv.1
      by_cases h2 : f ≤ u.v
      · have F := Lib.hid (show u.v + n = shV u.k u.v n f from (if_pos ⟨h1, h2⟩).symm)
        have hb0 : -9223372036854775808 ≤ u.v + n := by omega
        have hb1 : u.v + n ≤ 9223372036854775807 := by omega
        clear h1 hv
        go_wp2_with fail
        rw [F.out]
        have HTX := Lib.hid (show (wc.setCell ⟨T, 1, none⟩ (.int .i64 (shV u.k u.v n f))).heap[T]? = some (.cells #[.int .i64 u.k, .int .i64 (shV u.k u.v n f), .slice da u.ds.length dc, .slice none 0 0] 42 (0, 0)) from by simp [World.setCell, Array.getElem?_modify, HT.out])
        have FAR := Lib.hid (show ∀ y, y ≠ T → (wc.setCell ⟨T, 1, none⟩ (.int .i64 (shV u.k u.v n f))).heap[y]? = wc.heap[y]? from fun y hy => Below.heap_setCell _ _ _ _ hy)
        have HRX := Lib.hid ((FAR.out _ (Nat.ne_of_lt HRT.out)).trans R3.out)
        have HDX := Lib.hid (show numNew (w.heap.size + 1) (wc.setCell ⟨T, 1, none⟩ (.int .i64 (shV u.k u.v n f))) da dc u.ds from gNewSl.same (by decide) nLen nFr (HD.out.mono HR1.out) fun y hy => FAR.out y (HDT.out y hy))
        have GX := Lib.hid (show Gw w (wc.setCell ⟨T, 1, none⟩ (.int .i64 (shV u.k u.v n f))) from Below.trans GR.out (Below.mono (show Gw w1 (wc.setCell ⟨T, 1, none⟩ (.int .i64 (shV u.k u.v n f))) from Below.setCell G3.out HT0.out _) (Nat.le_of_lt HR1.out)))
        have SX := Lib.hid (show (wc.setCell ⟨T, 1, none⟩ (.int .i64 (shV u.k u.v n f))).heap.size = wc.heap.size by simp [World.setCell])
        generalize (wc.setCell ⟨T, 1, none⟩ (.int .i64 (shV u.k u.v n f))) = wx at *
        have hp3 : wx.cell? ⟨b, o + 3, none⟩ = some (.slice u.a 0 u.cap) := by
          have := (coAt.grow A.out GX.out).c.2.2.2
          rwa [HL0.out] at this
        have t0 : wx.cell? ⟨T, 0, none⟩ = some (.int .i64 u.k) := cell_of_row _ _ 0 _ _ _ HTX.out
        have t1 : wx.cell? ⟨T, 1, none⟩ = some (.int .i64 (shV u.k u.v n f)) := cell_of_row _ _ 1 _ _ _ HTX.out
        have t2 : wx.cell? ⟨T, 2, none⟩ = some (.slice da u.ds.length dc) := cell_of_row _ _ 2 _ _ _ HTX.out
        have t3 : wx.cell? ⟨T, 3, none⟩ = some (.slice none 0 0) := cell_of_row _ _ 3 _ _ _ HTX.out
        have r0 : wx.cell? ⟨w.heap.size, 0, none⟩ = some (.int .i64 0) := cell_of_row _ _ 0 _ _ _ HRX.out
        have r1 : wx.cell? ⟨w.heap.size, 1, none⟩ = some (.int .i64 0) := cell_of_row _ _ 1 _ _ _ HRX.out
        have r2 : wx.cell? ⟨w.heap.size, 2, none⟩ = some (.slice none 0 0) := cell_of_row _ _ 2 _ _ _ HRX.out
        have r3 : wx.cell? ⟨w.heap.size, 3, none⟩ = some (.slice none 0 0) := cell_of_row _ _ 3 _ _ _ HRX.out
        have rf : ∀ j, wx.frozen? ⟨w.heap.size, j, none⟩ = false := fun j => by simp [World.frozen?, HRX.out]
        have rf0 := rf 0
        have rf1 := rf 1
        have rf2 := rf 2
        have rf3 := rf 3
        clear rf
        clear p0 p1 p2 p3
        go_loopw [8] (fun i wr => i = .int .i64 0 ∧ wr = wx) (fun i _ => 0)
        case atStart => exact ⟨rfl, rfl⟩
        case round =>
          obtain ⟨rfl, rfl⟩ := hrel
          have ncore := sh_fin (wr := wr) (u := u) (V := shV u.k u.v n f) (da := da) (va := none) (dc := dc) (vc := 0) (R := w.heap.size) (Bk := wr.heap.size) (us := []) HKV.out.1 HKV.out.2 HDX.out (fun y hy => (HDX.out.2.2 y hy).2.lt) (coNew_nil _ _) (by have := SX.out; have := G3.out.size; have := HR1.out; omega)
          go_wp2_with fail
          refine bodyPost_ret (v := (LK.mk u.k (shV u.k u.v n f) da dc u.ds none 0 []).val) (by simp [results, Tryd.results92, go_sem, r0, r1, r2, r3]; first | exact ⟨rfl, rfl, ⟨rfl, rfl, rfl⟩, rfl, rfl, rfl⟩ | exact ⟨rfl, F.out, ⟨rfl, rfl, rfl⟩, rfl, rfl, rfl⟩) rfl ⟨_, rfl, ?_, (ncore _ _ _ _).mono (Nat.le_succ _), ?_⟩
          · rw [LK.co_eq, sh_eq]; show Co.mk u.k (shV u.k u.v n f) u.ds [] = _; rw [u.co_k, u.co_v, u.co_ds, List.eq_nil_of_length_eq_zero (show u.co.ks.length = 0 by rw [u.co_len]; exact HL0.out)]; rfl
          · exact (((Below.setCell GX.out (Nat.le_refl _) _).setCell (Nat.le_refl _) _).setCell (Nat.le_refl _) _).setCell (Nat.le_refl _) _
      · have F := Lib.hid (show u.v = shV u.k u.v n f from (if_neg (fun e => h2 e.2)).symm)
        clear h1 hv
        go_wp2_with fail
        have HTX := Lib.hid (show (wc).heap[T]? = some (.cells #[.int .i64 u.k, .int .i64 (shV u.k u.v n f), .slice da u.ds.length dc, .slice none 0 0] 42 (0, 0)) from by have := HT.out; rwa [← F.out])
        have FAR := Lib.hid (show ∀ y, y ≠ T → (wc).heap[y]? = wc.heap[y]? from fun y hy => rfl)
        have HRX := Lib.hid ((FAR.out _ (Nat.ne_of_lt HRT.out)).trans R3.out)
        have HDX := Lib.hid (show numNew (w.heap.size + 1) (wc) da dc u.ds from gNewSl.same (by decide) nLen nFr (HD.out.mono HR1.out) fun y hy => FAR.out y (HDT.out y hy))
        have GX := Lib.hid (show Gw w (wc) from Below.trans GR.out (Below.mono (show Gw w1 (wc) from G3.out) (Nat.le_of_lt HR1.out)))
        have SX := Lib.hid (show (wc).heap.size = wc.heap.size by rfl)
        generalize (wc) = wx at *
        have hp3 : wx.cell? ⟨b, o + 3, none⟩ = some (.slice u.a 0 u.cap) := by
          have := (coAt.grow A.out GX.out).c.2.2.2
          rwa [HL0.out] at this
        have t0 : wx.cell? ⟨T, 0, none⟩ = some (.int .i64 u.k) := cell_of_row _ _ 0 _ _ _ HTX.out
        have t1 : wx.cell? ⟨T, 1, none⟩ = some (.int .i64 (shV u.k u.v n f)) := cell_of_row _ _ 1 _ _ _ HTX.out
        have t2 : wx.cell? ⟨T, 2, none⟩ = some (.slice da u.ds.length dc) := cell_of_row _ _ 2 _ _ _ HTX.out
        have t3 : wx.cell? ⟨T, 3, none⟩ = some (.slice none 0 0) := cell_of_row _ _ 3 _ _ _ HTX.out
        have r0 : wx.cell? ⟨w.heap.size, 0, none⟩ = some (.int .i64 0) := cell_of_row _ _ 0 _ _ _ HRX.out
        have r1 : wx.cell? ⟨w.heap.size, 1, none⟩ = some (.int .i64 0) := cell_of_row _ _ 1 _ _ _ HRX.out
        have r2 : wx.cell? ⟨w.heap.size, 2, none⟩ = some (.slice none 0 0) := cell_of_row _ _ 2 _ _ _ HRX.out
        have r3 : wx.cell? ⟨w.heap.size, 3, none⟩ = some (.slice none 0 0) := cell_of_row _ _ 3 _ _ _ HRX.out
        have rf : ∀ j, wx.frozen? ⟨w.heap.size, j, none⟩ = false := fun j => by simp [World.frozen?, HRX.out]
        have rf0 := rf 0
        have rf1 := rf 1
        have rf2 := rf 2
        have rf3 := rf 3
        clear rf
        clear p0 p1 p2 p3
        go_loopw [8] (fun i wr => i = .int .i64 0 ∧ wr = wx) (fun i _ => 0)
        case atStart => exact ⟨rfl, rfl⟩
        case round =>
          obtain ⟨rfl, rfl⟩ := hrel
          have ncore := sh_fin (wr := wr) (u := u) (V := shV u.k u.v n f) (da := da) (va := none) (dc := dc) (vc := 0) (R := w.heap.size) (Bk := wr.heap.size) (us := []) HKV.out.1 HKV.out.2 HDX.out (fun y hy => (HDX.out.2.2 y hy).2.lt) (coNew_nil _ _) (by have := SX.out; have := G3.out.size; have := HR1.out; omega)
          go_wp2_with fail
          refine bodyPost_ret (v := (LK.mk u.k (shV u.k u.v n f) da dc u.ds none 0 []).val) (by simp [results, Tryd.results92, go_sem, r0, r1, r2, r3]; first | exact ⟨rfl, rfl, ⟨rfl, rfl, rfl⟩, rfl, rfl, rfl⟩ | exact ⟨rfl, F.out, ⟨rfl, rfl, rfl⟩, rfl, rfl, rfl⟩) rfl ⟨_, rfl, ?_, (ncore _ _ _ _).mono (Nat.le_succ _), ?_⟩
          · rw [LK.co_eq, sh_eq]; show Co.mk u.k (shV u.k u.v n f) u.ds [] = _; rw [u.co_k, u.co_v, u.co_ds, List.eq_nil_of_length_eq_zero (show u.co.ks.length = 0 by rw [u.co_len]; exact HL0.out)]; rfl
          · exact (((Below.setCell GX.out (Nat.le_refl _) _).setCell (Nat.le_refl _) _).setCell (Nat.le_refl _) _).setCell (Nat.le_refl _) _
    · have F := Lib.hid (show u.v = shV u.k u.v n f from (if_neg (fun e => h1 e.1)).symm)
      have q1 : (u.k == 1) = false := by simpa using h1
      clear h1
      go_wp2_with fail
      have HTX := Lib.hid (show (wc).heap[T]? = some (.cells #[.int .i64 u.k, .int .i64 (shV u.k u.v n f), .slice da u.ds.length dc, .slice none 0 0] 42 (0, 0)) from by have := HT.out; rwa [← F.out])
      have FAR := Lib.hid (show ∀ y, y ≠ T → (wc).heap[y]? = wc.heap[y]? from fun y hy => rfl)
      have HRX := Lib.hid ((FAR.out _ (Nat.ne_of_lt HRT.out)).trans R3.out)
      have HDX := Lib.hid (show numNew (w.heap.size + 1) (wc) da dc u.ds from gNewSl.same (by decide) nLen nFr (HD.out.mono HR1.out) fun y hy => FAR.out y (HDT.out y hy))
      have GX := Lib.hid (show Gw w (wc) from Below.trans GR.out (Below.mono (show Gw w1 (wc) from G3.out) (Nat.le_of_lt HR1.out)))
      have SX := Lib.hid (show (wc).heap.size = wc.heap.size by rfl)
      generalize (wc) = wx at *
      clear p0 p1 p2 p3 t1 u1
      go_loopw [8] (fun i wr => ShRel w u (shV u.k u.v n f) n f da dc w.heap.size T wx.heap.size i wr) (fun i _ => u.ks.length - (intOf i).toNat)
      case atStart => exact ⟨[], .slice none 0 0, rfl, Nat.zero_le _, rfl, gApp.nil _ _, HRX.out, HTX.out, HDX.out, GX.out, Nat.le_refl _⟩
      case round =>
        obtain ⟨us, v, rfl, hle, hty, happ, hb0, hb2, hd, hg, hBk⟩ := hrel
        have HTY := Lib.hid hty
        have HA := Lib.hid happ
        have HB0 := Lib.hid hb0
        have HB2 := Lib.hid hb2
        have HD5 := Lib.hid hd
        have HG5 := Lib.hid hg
        have HBK := Lib.hid hBk
        obtain ⟨va, vc, rfl⟩ := happ.form
        have A5 := Lib.hid (coAt.grow A.out hg)
        have HTW := Lib.hid (show T < wx.heap.size from (Array.getElem?_eq_some_iff.1 HTX.out).1)
        clear hty happ hb0 hd hg hBk
        obtain ⟨p0, p1, p2, p3⟩ := A5.out.c
        by_cases hlt : us.length < u.ks.length
        · obtain ⟨bk, ok, ha, hkid⟩ := coAt.kid A5.out.2.kids us.length hlt
          rw [ha] at p3
          have y3 : wr.cell? ⟨T, 3, none⟩ = some (.slice va us.length vc) := cell_of_row _ _ 3 _ _ _ hb2
          have f3 : wr.frozen? ⟨T, 3, none⟩ = false := by simp [World.frozen?, hb2]
          have q0 : (0 : Int) ≤ us.length := by omega
          have q1' : (us.length : Int) < u.ks.length := by omega
          have hdk := dp_kid (u := u) us.length hlt
          have hb1 := bndK_le u.k us.length
          obtain ⟨p, hp⟩ : ∃ p, p = bndK u.k us.length := ⟨_, rfl⟩
          rw [← hp] at hb1
          have HP := Lib.hid hp
          have KB := Lib.hid (show Calls Tryd.prog 113 #[.pointer (some ⟨b, o, none⟩), .int .i64 us.length] wr.drew fun e w' => e = .returned (.int .i64 ((p : Nat) : Int)) ∧ w' = wr.drew by
            rw [hp]; exact spec_cbinds u wr.drew b o us.length (by omega) (A5.out.grow (Gw.refl wr).drew))
          have IH := Lib.hid (ih u.ks[us.length] (List.getElem_mem hlt) wr.drew bk (ok + us.length * 4) n (f + p) (hkid.grow (Gw.refl wr).drew) (all_kid HOK.out us.length hlt) hn0 hn1 (by omega) (by omega))
          have hz0 : -9223372036854775808 ≤ f + (p : Int) := by omega
          have hz1 : f + (p : Int) ≤ 9223372036854775807 := by omega
          have wr1 : IntKind.i64.wrap (f + (p : Int)) = f + p := by unfold IntKind.wrap; simp [IntKind.signed, IntKind.bits]; omega
          have hownlt : ∀ x, (Value.slice va us.length vc).ownBlock = some x → wx.heap.size ≤ x := fun x hx => (HA.out.1.lt x hx).1
          have hlb := cell_lt p3
          have hlT := cell_lt y3
          have LEN := Lib.hid (show us.length + 1 ≤ 4 by omega)
          clear ha hkid hp hdk hb2 hle p0 p1 p2
          go_wp2_with fail
          have HBX := Lib.hid (show b < wx.heap.size from Nat.lt_of_lt_of_le A.out.lt (by have := HRT.out; have := HTW.out; omega))
          have HTB := Lib.hid (show T ≠ b from fun e => by have := HRT.out; have := A.out.lt; omega)
          obtain ⟨S, hS⟩ : ∃ S : Array Bool → World → Prop, S = fun L X => (L.getD 18 true = false → X.cell? ⟨T, 3, none⟩ = some (.slice va us.length vc)) ∧ X.cell? ⟨b, o + 3, none⟩ = some (.slice (some ⟨bk, ok, none⟩) u.ks.length u.cap) := ⟨_, rfl⟩
          have HS := Lib.hid hS
          have HIND := Lib.hid (show ∀ i, i ≠ 18 → ∀ L X, S (L.setIfInBounds i true) X ↔ S L X from fun i hi L X => by rw [hS]; simp only; rw [getD_set_ne true hi])
          have SK := Lib.hid (show ∀ L X X', S L X → X'.cell? ⟨T, 3, none⟩ = X.cell? ⟨T, 3, none⟩ → X'.cell? ⟨b, o + 3, none⟩ = X.cell? ⟨b, o + 3, none⟩ → S L X' from fun L X X' h e1 e2 => by
            rw [hS] at h ⊢
            exact ⟨fun e => e1.trans (h.1 e), e2.trans h.2⟩)
          have s0 : S (Array.replicate 19 false) wr.drew := by rw [hS]; exact ⟨fun _ => y3, p3⟩
          have hmx : Tryd.prog.follows .mixedOrders = true := by kernel_rfl
          clear hS
          refine any_plain (S := S) hmx ?_
          refine anyL_take (i := 0) (oi := { dst := some 50, op := _, type := _, pos := _, after := _, guard := _ }) (v := .pointer (some ⟨T, 3, none⟩)) rfl (by kernel_rfl) (by kernel_rfl) (by kernel_rfl) (fun _ _ _ h => h) (HIND.out 0 (by decide)) (fun _ => True) (fun _ _ _ _ _ _ => trivial) trivial (Or.inl ⟨by rfl, ?hy0⟩) s0 ?rest0
          case hy0 =>
            rintro X _
            go_simp
          have s1 := (HIND.out 0 (by decide) _ _).2 s0
          clear s0
          try simp only [Act.put, List.setIfInBounds_toArray, List.set_cons_zero, List.set_cons_succ]
          refine anyL_take (i := 1) (oi := { dst := some 51, op := _, type := _, pos := _, after := _, guard := _ }) (v := .slice va us.length vc) rfl (by kernel_rfl) (by kernel_rfl) (by kernel_rfl) (fun _ _ _ h => h) (HIND.out 1 (by decide)) (fun L => L.getD 16 true = false ∧ L.getD 18 true = false) ?hG1 ⟨rfl, rfl⟩ (Or.inl ⟨by rfl, ?hy1⟩) s1 ?rest1
          case hG1 =>
            rintro L j ⟨h16, h18⟩ hi hj hne
            obtain ⟨g1, _⟩ := mem_ready.1 hi
            obtain ⟨g2, oj, hoj, hall⟩ := mem_ready.1 hj
            have n16 : j ≠ 16 := fun e => by
              subst e
              cases hoj
              exact getD_clash g1 (hall { on := 1, ground := .data } (by simp) (by rfl))
            have n18 : j ≠ 18 := fun e => by
              subst e
              cases hoj
              exact getD_clash h16 (hall { on := 16, ground := .data } (by simp) (by rfl))
            exact ⟨(getD_set_ne true n16).trans h16, (getD_set_ne true n18).trans h18⟩
          case hy1 =>
            rintro X ⟨L, ⟨_, h18⟩, h⟩
            rw [HS.out] at h
            have c3 := h.1 h18
            clear h
            go_simp
          have s2 := (HIND.out 1 (by decide) _ _).2 s1
          clear s1
          try simp only [Act.put, List.setIfInBounds_toArray, List.set_cons_zero, List.set_cons_succ]
          refine anyL_take (i := 2) (oi := { dst := some 52, op := _, type := _, pos := _, after := _, guard := _ }) (v := .pointer (some ⟨b, o, none⟩)) rfl (by kernel_rfl) (by kernel_rfl) (by kernel_rfl) (fun _ _ _ h => h) (HIND.out 2 (by decide)) (fun _ => True) (fun _ _ _ _ _ _ => trivial) trivial (Or.inl ⟨by rfl, ?hy2⟩) s2 ?rest2
          case hy2 =>
            rintro X _
            go_simp
          have s3 := (HIND.out 2 (by decide) _ _).2 s2
          clear s2
          try simp only [Act.put, List.setIfInBounds_toArray, List.set_cons_zero, List.set_cons_succ]
          refine anyL_take (i := 3) (oi := { dst := some 53, op := _, type := _, pos := _, after := _, guard := _ }) (v := .pointer (some ⟨b, o, none⟩)) rfl (by kernel_rfl) (by kernel_rfl) (by kernel_rfl) (fun _ _ _ h => h) (HIND.out 3 (by decide)) (fun _ => True) (fun _ _ _ _ _ _ => trivial) trivial (Or.inl ⟨by rfl, ?hy3⟩) s3 ?rest3
          case hy3 =>
            rintro X _
            go_simp
          have s4 := (HIND.out 3 (by decide) _ _).2 s3
          clear s3
          try simp only [Act.put, List.setIfInBounds_toArray, List.set_cons_zero, List.set_cons_succ]
          refine anyL_take (i := 4) (oi := { dst := some 54, op := _, type := _, pos := _, after := _, guard := _ }) (v := .pointer (some ⟨b, o + 3, none⟩)) rfl (by kernel_rfl) (by kernel_rfl) (by kernel_rfl) (fun _ _ _ h => h) (HIND.out 4 (by decide)) (fun _ => True) (fun _ _ _ _ _ _ => trivial) trivial (Or.inl ⟨by rfl, ?hy4⟩) s4 ?rest4
          case hy4 =>
            rintro X _
            go_simp
          have s5 := (HIND.out 4 (by decide) _ _).2 s4
          clear s4
          try simp only [Act.put, List.setIfInBounds_toArray, List.set_cons_zero, List.set_cons_succ]
          refine anyL_take (i := 5) (oi := { dst := some 55, op := _, type := _, pos := _, after := _, guard := _ }) (v := .slice (some ⟨bk, ok, none⟩) u.ks.length u.cap) rfl (by kernel_rfl) (by kernel_rfl) (by kernel_rfl) (fun _ _ _ h => h) (HIND.out 5 (by decide)) (fun _ => True) (fun _ _ _ _ _ _ => trivial) trivial (Or.inl ⟨by rfl, ?hy5⟩) s5 ?rest5
          case hy5 =>
            rintro X ⟨L, _, h⟩
            rw [HS.out] at h
            have c5 := h.2
            clear h
            go_simp
          have s6 := (HIND.out 5 (by decide) _ _).2 s5
          clear s5
          try simp only [Act.put, List.setIfInBounds_toArray, List.set_cons_zero, List.set_cons_succ]
          refine anyL_take (i := 6) (oi := { dst := some 56, op := _, type := _, pos := _, after := _, guard := _ }) (v := .int .i64 us.length) rfl (by kernel_rfl) (by kernel_rfl) (by kernel_rfl) (fun _ _ _ h => h) (HIND.out 6 (by decide)) (fun _ => True) (fun _ _ _ _ _ _ => trivial) trivial (Or.inl ⟨by rfl, ?hy6⟩) s6 ?rest6
          case hy6 =>
            rintro X _
            go_simp
          have s7 := (HIND.out 6 (by decide) _ _).2 s6
          clear s6
          try simp only [Act.put, List.setIfInBounds_toArray, List.set_cons_zero, List.set_cons_succ]
          refine anyL_take (i := 7) (oi := { dst := some 57, op := _, type := _, pos := _, after := _, guard := _ }) (v := .pointer (some ⟨bk, ok + us.length * 4, none⟩)) rfl (by kernel_rfl) (by kernel_rfl) (by kernel_rfl) (fun _ _ _ h => h) (HIND.out 7 (by decide)) (fun _ => True) (fun _ _ _ _ _ _ => trivial) trivial (Or.inl ⟨by rfl, ?hy7⟩) s7 ?rest7
          case hy7 =>
            rintro X _
            go_simp
          have s8 := (HIND.out 7 (by decide) _ _).2 s7
          clear s7
          try simp only [Act.put, List.setIfInBounds_toArray, List.set_cons_zero, List.set_cons_succ]
          refine anyL_take (i := 8) (oi := { dst := some 58, op := _, type := _, pos := _, after := _, guard := _ }) (v := .int .i64 n) rfl (by kernel_rfl) (by kernel_rfl) (by kernel_rfl) (fun _ _ _ h => h) (HIND.out 8 (by decide)) (fun _ => True) (fun _ _ _ _ _ _ => trivial) trivial (Or.inl ⟨by rfl, ?hy8⟩) s8 ?rest8
          case hy8 =>
            rintro X _
            go_simp
          have s9 := (HIND.out 8 (by decide) _ _).2 s8
          clear s8
          try simp only [Act.put, List.setIfInBounds_toArray, List.set_cons_zero, List.set_cons_succ]
          refine anyL_take (i := 9) (oi := { dst := some 59, op := _, type := _, pos := _, after := _, guard := _ }) (v := .int .i64 f) rfl (by kernel_rfl) (by kernel_rfl) (by kernel_rfl) (fun _ _ _ h => h) (HIND.out 9 (by decide)) (fun _ => True) (fun _ _ _ _ _ _ => trivial) trivial (Or.inl ⟨by rfl, ?hy9⟩) s9 ?rest9
          case hy9 =>
            rintro X _
            go_simp
          have s10 := (HIND.out 9 (by decide) _ _).2 s9
          clear s9
          try simp only [Act.put, List.setIfInBounds_toArray, List.set_cons_zero, List.set_cons_succ]
          refine anyL_take (i := 10) (oi := { dst := some 60, op := _, type := _, pos := _, after := _, guard := _ }) (v := .pointer (some ⟨b, o, none⟩)) rfl (by kernel_rfl) (by kernel_rfl) (by kernel_rfl) (fun _ _ _ h => h) (HIND.out 10 (by decide)) (fun _ => True) (fun _ _ _ _ _ _ => trivial) trivial (Or.inl ⟨by rfl, ?hy10⟩) s10 ?rest10
          case hy10 =>
            rintro X _
            go_simp
          have s11 := (HIND.out 10 (by decide) _ _).2 s10
          clear s10
          try simp only [Act.put, List.setIfInBounds_toArray, List.set_cons_zero, List.set_cons_succ]
          refine anyL_take (i := 11) (oi := { dst := some 61, op := _, type := _, pos := _, after := _, guard := _ }) (v := .int .i64 us.length) rfl (by kernel_rfl) (by kernel_rfl) (by kernel_rfl) (fun _ _ _ h => h) (HIND.out 11 (by decide)) (fun _ => True) (fun _ _ _ _ _ _ => trivial) trivial (Or.inl ⟨by rfl, ?hy11⟩) s11 ?rest11
          case hy11 =>
            rintro X _
            go_simp
          have s12 := (HIND.out 11 (by decide) _ _).2 s11
          clear s11
          try simp only [Act.put, List.setIfInBounds_toArray, List.set_cons_zero, List.set_cons_succ]
          refine anyL_step (i := 12) (o := { dst := some 62, op := _, type := _, pos := _, after := _, guard := _ }) rfl (by kernel_rfl) (by rfl) (fun K hK => ?_)
          go_simp
          refine KB.out.mono ?_
          rintro e w0 ⟨rfl, rfl⟩
          have s13 := (HIND.out 12 (by decide) _ _).2 s12
          refine hK.out _ _ s13 ?_
          clear s12 hK K
          try simp only [Act.put, List.setIfInBounds_toArray, List.set_cons_zero, List.set_cons_succ]
          refine anyL_take (i := 13) (oi := { dst := some 63, op := _, type := _, pos := _, after := _, guard := _ }) (v := .int .i64 (f + p)) rfl (by kernel_rfl) (by kernel_rfl) (by kernel_rfl) (fun _ _ _ h => h) (HIND.out 13 (by decide)) (fun _ => True) (fun _ _ _ _ _ _ => trivial) trivial (Or.inl ⟨by rfl, ?hy13⟩) s13 ?rest13
          case hy13 =>
            rintro X _
            go_simp
          have s14 := (HIND.out 13 (by decide) _ _).2 s13
          clear s13
          try simp only [Act.put, List.setIfInBounds_toArray, List.set_cons_zero, List.set_cons_succ]
          refine anyL_step (i := 14) (o := { dst := some 64, op := _, type := _, pos := _, after := _, guard := _ }) rfl (by kernel_rfl) (by rfl) (fun K hK => ?_)
          go_simp
          refine IH.out.mono ?_
          rintro e w1 ⟨x, rfl, hu, hnew, hg1⟩
          have HU := Lib.hid hu
          have HN := Lib.hid hnew
          have hg1' := gw_drewL hg1
          have y3' := (World.cell?_of_block (a := ⟨T, 3, none⟩) (hg1'.block _ hlT)).trans y3
          have hlT1 : T < w1.heap.size := Nat.lt_of_lt_of_le hlT hg1'.size
          have s15 := (HIND.out 14 (by decide) _ _).2 (SK.out _ _ w1 s14 (World.cell?_of_block (a := ⟨T, 3, none⟩) (hg1'.block _ hlT)) (World.cell?_of_block (a := ⟨b, o + 3, none⟩) (hg1'.block _ hlb)))
          refine hK.out _ _ s15 ?_
          clear s14 hK K hu hnew
          try simp only [Act.put, List.setIfInBounds_toArray, List.set_cons_zero, List.set_cons_succ]
          refine anyL_step (i := 15) (o := { dst := some 65, op := _, type := _, pos := _, after := _, guard := _ }) rfl (by kernel_rfl) (by rfl) (fun K hK => ?_)
          go_simp
          have s16 := (HIND.out 15 (by decide) _ _).2 (SK.out _ _ (w1.alloc (.cells #[.int .i64 x.k, .int .i64 x.v, .slice x.da x.ds.length x.dc, .slice x.a x.ks.length x.cap] 42)) s15 (World.cell?_of_block (a := ⟨T, 3, none⟩) (Below.heap_alloc _ _ _ hlT1)) (World.cell?_of_block (a := ⟨b, o + 3, none⟩) (Below.heap_alloc _ _ _ (Nat.lt_of_lt_of_le hlb hg1'.size))))
          refine hK.out _ _ s16 ?_
          clear s15 hK K
          try simp only [Act.put, List.setIfInBounds_toArray, List.set_cons_zero, List.set_cons_succ]
          refine anyL_step (i := 16) (o := { dst := some 66, op := _, type := _, pos := _, after := _, guard := _ }) rfl (by kernel_rfl) (by rfl) (fun K hK => ?_)
          refine wp_append_lies _ _ _ 37 (by rfl) wx.heap.size 42 i0 _ 4 64 Tryd.underlying37 HI.out HZ0.out HZ1.out HZ2.out (by rfl) (by decide) (.slice va us.length vc) us.length (us.flatMap coE) (by rfl) ((HA.out.grow coGr hg1').1.alloc _) ⟨w1.heap.size, 0, none⟩ 1 1 [.int .i64 x.k, .int .i64 x.v, .slice x.da x.ds.length x.dc, .slice x.a x.ks.length x.cap] (by rfl) (by rfl) (World.news_of_block (heap_alloc_new w1 _)) (one4 _ _ _ _ _ _ _ _) (by decide) (by unfold maxLen; have := LEN.out; omega) (by have := LEN.out; omega) (Nat.le_trans HBK.out (Nat.le_trans hg1'.size (by simp))) _ rfl ?_
          intro g cap w2 hown2 hgr2 hat2 hlt2
          have HO2 := Lib.hid hown2
          have HG2 := Lib.hid hgr2
          have HA2 := Lib.hid hat2
          have kk := sh_app hgr2 hg1' HBK.out hownlt
          have y4 := (World.cell?_of_block (a := ⟨T, 3, none⟩) (kk T HTW.out)).trans y3
          have f4 : w2.frozen? ⟨T, 3, none⟩ = false := (by simp [World.frozen?, kk T HTW.out, HB2.out])
          have c4 : w2.cell? ⟨b, o + 3, none⟩ = wr.cell? ⟨b, o + 3, none⟩ := World.cell?_of_block (a := ⟨b, o + 3, none⟩) (kk b HBX.out)
          have eT : (w1.alloc (.cells #[.int .i64 x.k, .int .i64 x.v, .slice x.da x.ds.length x.dc, .slice x.a x.ks.length x.cap] 42)).cell? ⟨T, 3, none⟩ = some (.slice va us.length vc) := (World.cell?_of_block (a := ⟨T, 3, none⟩) (Below.heap_alloc _ _ _ hlT1)).trans y3'
          have eb : (w1.alloc (.cells #[.int .i64 x.k, .int .i64 x.v, .slice x.da x.ds.length x.dc, .slice x.a x.ks.length x.cap] 42)).cell? ⟨b, o + 3, none⟩ = wr.cell? ⟨b, o + 3, none⟩ := (World.cell?_of_block (a := ⟨b, o + 3, none⟩) (Below.heap_alloc _ _ _ (Nat.lt_of_lt_of_le hlb hg1'.size))).trans (World.cell?_of_block (a := ⟨b, o + 3, none⟩) (hg1'.block _ hlb))
          have s17 := (HIND.out 16 (by decide) _ _).2 (SK.out _ _ w2 s16 (y4.trans eT.symm) (c4.trans eb.symm))
          refine hK.out _ _ s17 ?_
          clear s16 hK K hown2 hgr2 hat2 kk
          try simp only [Act.put, List.setIfInBounds_toArray, List.set_cons_zero, List.set_cons_succ]
          refine anyL_take (i := 17) (oi := { dst := some 67, op := _, type := _, pos := _, after := _, guard := _ }) (v := .pointer (some ⟨T, 3, none⟩)) rfl (by kernel_rfl) (by kernel_rfl) (by kernel_rfl) (fun _ _ _ h => h) (HIND.out 17 (by decide)) (fun _ => True) (fun _ _ _ _ _ _ => trivial) trivial (Or.inl ⟨by rfl, ?hy17⟩) s17 ?rest17
          case hy17 =>
            rintro X _
            go_simp
          have s18 := (HIND.out 17 (by decide) _ _).2 s17
          clear s17
          try simp only [Act.put, List.setIfInBounds_toArray, List.set_cons_zero, List.set_cons_succ]
          refine anyL_step (i := 18) (o := { dst := none, op := _, type := _, pos := _, after := _, guard := _ }) rfl (by kernel_rfl) (by rfl) (fun K hK => ?_)
          go_simp
          refine hK.out _ _ (by rw [HS.out]; exact ⟨fun e => (by cases e), (World.cell?_setCell_other _ _ _ _ (fun e => HTB.out (by injection e))).trans (c4.trans p3)⟩) ?_
          clear hK K
          refine anyL_done (by kernel_rfl) ?_ _
          go_wp2_with fail
          go_roundw
          case rel => exact sh_next HTY.out HA.out HB0.out HB2.out HD5.out (fun y hy => ⟨by have := (HDX.out.2.2 y hy).2.lt; exact this, HDT.out y hy⟩) ⟨by have := HRT.out; have := HTW.out; omega, Nat.ne_of_lt HRT.out⟩ ⟨by have := HRT.out; omega, HTW.out⟩ ⟨by have := HRT.out; have := HTW.out; omega, HBK.out⟩ HG5.out hlt hg1' (by rw [HU.out, HP.out]) HN.out HO2.out HG2.out HA2.out
          case measure => simp [intOf]; omega
        · have hall : us.length = u.ks.length := by omega
          have t0 : wr.cell? ⟨T, 0, none⟩ = some (.int .i64 u.k) := cell_of_row _ _ 0 _ _ _ hb2
          have t1 : wr.cell? ⟨T, 1, none⟩ = some (.int .i64 (shV u.k u.v n f)) := cell_of_row _ _ 1 _ _ _ hb2
          have t2 : wr.cell? ⟨T, 2, none⟩ = some (.slice da u.ds.length dc) := cell_of_row _ _ 2 _ _ _ hb2
          have t3 : wr.cell? ⟨T, 3, none⟩ = some (.slice va us.length vc) := cell_of_row _ _ 3 _ _ _ hb2
          have r0 : wr.cell? ⟨w.heap.size, 0, none⟩ = some (.int .i64 0) := cell_of_row _ _ 0 _ _ _ HB0.out
          have r1 : wr.cell? ⟨w.heap.size, 1, none⟩ = some (.int .i64 0) := cell_of_row _ _ 1 _ _ _ HB0.out
          have r2 : wr.cell? ⟨w.heap.size, 2, none⟩ = some (.slice none 0 0) := cell_of_row _ _ 2 _ _ _ HB0.out
          have r3 : wr.cell? ⟨w.heap.size, 3, none⟩ = some (.slice none 0 0) := cell_of_row _ _ 3 _ _ _ HB0.out
          have rf : ∀ j, wr.frozen? ⟨w.heap.size, j, none⟩ = false := fun j => by simp [World.frozen?, HB0.out]
          have rf0 := rf 0
          have rf1 := rf 1
          have rf2 := rf 2
          have rf3 := rf 3
          have HALL := Lib.hid hall
          have q0 : (0 : Int) ≤ us.length := by omega
          have q1' : ¬ ((us.length : Int) < u.ks.length) := by omega
          have ncore := sh_fin (wr := wr) (u := u) (V := shV u.k u.v n f) (da := da) (va := va) (dc := dc) (vc := vc) (R := w.heap.size) (Bk := wx.heap.size) (us := us) HKV.out.1 HKV.out.2 HD5.out (fun y hy => (HDX.out.2.2 y hy).2.lt) (HA.out.done coLen) (by have := HRT.out; have := HTW.out; omega)
          clear rf hall hb2 hle p0 p1 p2
          go_wp2_with fail
          refine bodyPost_ret (v := (LK.mk u.k (shV u.k u.v n f) da dc u.ds va vc us).val) (by simp [results, Tryd.results92, go_sem, r0, r1, r2, r3]; first | exact ⟨rfl, rfl, ⟨rfl, rfl, rfl⟩, rfl, rfl, rfl⟩ | exact ⟨rfl, F.out, ⟨rfl, rfl, rfl⟩, rfl, rfl, rfl⟩) rfl ⟨_, rfl, ?_, (ncore _ _ _ _).mono (Nat.le_succ _), ?_⟩
          · rw [LK.co_eq, sh_eq]; show Co.mk u.k (shV u.k u.v n f) u.ds (us.map LK.co) = _; rw [HTY.out, u.co_k, u.co_v, u.co_ds, HALL.out, List.take_of_length_le (by rw [shs_len, u.co_len]; exact Nat.le_refl _)]
          · exact (((Below.setCell HG5.out (Nat.le_refl _) _).setCell (Nat.le_refl _) _).setCell (Nat.le_refl _) _).setCell (Nat.le_refl _) _

theorem sh_all (u : LK) : KSh u := by
  refine LK.ind (P := KSh) (fun k v da dc ds a c ks ih => ?_) u
  exact sh_of (.mk k v da dc ds a c ks) ih

end Go.Proofs.YtkpbiifikkbaeaaDoor.Con
