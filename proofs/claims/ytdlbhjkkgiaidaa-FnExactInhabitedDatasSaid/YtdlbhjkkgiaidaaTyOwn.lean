/-
  Contract of the model's l02Own: a type is copied into new memory. No condition but that the type lies in memory.
-/
import Derived.Test.YtdlbhjkkgiaidaaTyApp
import Derived.Deep.RegionHeld3
import Derived.Deep.DrawnRows
import Derived.Test.YtdlbhjkkgiaidaaStep
namespace Go.Proofs.Ytdlbhjkkgiaidaa.Con
open Go.RowKit
set_option linter.unusedVariables false
attribute [local go_sem ↓] Go.wp_at_zero Go.wp_at_succ

theorem call_own (v : Value) (W : World) : (callFunc 66 #[v]).run Try.prog W = .ok (.enter 66 #[v]) W := by kernel_rfl

theorem after_call {wr w1 : World} {x y z : Nat} (hg1 : Gw wr.drew w1) (hx : x < wr.heap.size) (hy : y < wr.heap.size) (hz : z < wr.heap.size) :
    Gw wr w1 ∧ (∀ b o, b < wr.heap.size → w1.cell? ⟨b, o, none⟩ = wr.cell? ⟨b, o, none⟩) ∧ x < w1.heap.size ∧ y < w1.heap.size ∧ z < w1.heap.size :=
  ⟨⟨hg1.os, hg1.tape, hg1.output, hg1.size, hg1.block⟩, fun b o h => (bcell hg1).1 b o h, Nat.lt_of_lt_of_le hx hg1.size, Nat.lt_of_lt_of_le hy hg1.size, Nat.lt_of_lt_of_le hz hg1.size⟩

theorem one3 (k : Int) (n : ByteArray) (a : Option Addr) (l c : Nat) : ∀ u ∈ [Value.int .i64 k, .string n, .slice a l c], u.oneCell' = true := by
  intro u hu
  simp at hu
  rcases hu with rfl | rfl | rfl <;> rfl

theorem le_max3 {n m : Nat} (h : n < m) (hm : m ≤ 1048576) : n + 1 ≤ maxLen := by unfold maxLen; omega
theorem le_base {w wr w1 : World} {o : Obj} (h : Gw wr w1) (hl : w.heap.size + 1 + 1 < wr.heap.size) : w.heap.size + 3 ≤ (w1.alloc o).heap.size := by have := h.size; simp; omega

theorem after_append {w wr w1 w2 : World} {v : Value} {o : Obj} {cs : Array Value} (hgr : (w1.alloc o).grownBy w2 v.ownBlock) (hg : Gw wr w1) (hl : w.heap.size + 1 + 1 < wr.heap.size) (hv : ∀ x, v.ownBlock = some x → w.heap.size + 3 ≤ x) (hb : wr.heap[w.heap.size + 1 + 1]? = some (.cells cs 29 (0, 0))) :
    (∀ b o, b < w.heap.size + 3 → w2.cell? ⟨b, o, none⟩ = wr.cell? ⟨b, o, none⟩) ∧ w2.frozen? ⟨w.heap.size + 1 + 1, 2, none⟩ = false := by
  have hs := hg.size
  have key : ∀ b, b < w.heap.size + 3 → w2.heap[b]? = wr.heap[b]? := fun b h => (hgr.block b (by simp; omega) (fun e => by have := hv b e.symm; omega)).trans ((Below.heap_alloc _ _ _ (by omega)).trans (hg.block b (by omega)))
  refine ⟨fun b o h => World.cell?_of_block (a := ⟨b, o, none⟩) (key b h), ?_⟩
  simp [World.frozen?, key (w.heap.size + 1 + 1) (by omega), hb]

def OwnRel (w : World) (t : LT) (i : Value) (wr : World) : Prop := ∃ (us : List LT) (v : Value), i = .int .i64 us.length ∧ us.map LT.ty = (t.ks.take us.length).map LT.ty ∧ App (w.heap.size + 3) wr v us ∧
  wr.heap[w.heap.size]? = some (.cells #[.int .i64 t.k, .string t.n, .slice t.a t.ks.length t.cap] 29 (0, 0)) ∧ wr.heap[w.heap.size + 1]? = some (.cells #[.int .i64 0, .string ⟨#[]⟩, .slice none 0 0] 29 (0, 0)) ∧
  wr.heap[w.heap.size + 1 + 1]? = some (.cells #[.int .i64 t.k, .string t.n, v] 29 (0, 0)) ∧ Gw w wr

theorem own_next {w wr w1 w2 : World} {t u : LT} {us : List LT} {va : Option Addr} {vc g cap : Nat} {O : Obj} (HT : us.map LT.ty = (t.ks.take us.length).map LT.ty) (HA : App (w.heap.size + 3) wr (.slice va us.length vc) us)
    (hb0 : wr.heap[w.heap.size]? = some (.cells #[.int .i64 t.k, .string t.n, .slice t.a t.ks.length t.cap] 29 (0, 0))) (hb1 : wr.heap[w.heap.size + 1]? = some (.cells #[.int .i64 0, .string ⟨#[]⟩, .slice none 0 0] 29 (0, 0)))
    (hb2 : wr.heap[w.heap.size + 1 + 1]? = some (.cells #[.int .i64 t.k, .string t.n, .slice va us.length vc] 29 (0, 0))) (hg : Gw w wr) (hlt : us.length < t.ks.length) (hg1 : Gw wr w1) (HU : u.ty = t.ks[us.length].ty) (HN : u.New wr.heap.size w1)
    (HO : w2.ownsRow (w.heap.size + 3) 29 3 (.slice (some ⟨g, 0, none⟩) (us.length + 1) cap) (us.length + 1) (cellsL us ++ [.int .i64 u.k, .string u.n, .slice u.a u.ks.length u.cap])) (HG : (w1.alloc O).grownBy w2 (Value.slice va us.length vc).ownBlock)
    (HAT : (Value.slice va us.length vc).ownBlock = some g ∨ g = (w1.alloc O).heap.size) : OwnRel w t (.int .i64 (us.length + 1)) (w2.setCell ⟨w.heap.size + 1 + 1, 2, none⟩ (.slice (some ⟨g, 0, none⟩) (us.length + 1) cap)) := by
  have hlx : w.heap.size + 1 + 1 < wr.heap.size := (Array.getElem?_eq_some_iff.1 hb2).1
  have hs := hg1.size
  have hgA : Gw wr (w1.alloc O) := hg1.alloc O
  have hv : ∀ x, (Value.slice va us.length vc).ownBlock = some x → w.heap.size + 3 ≤ x := fun x hx => (HA.1.lt x hx).1
  have key : ∀ b, b < w.heap.size + 3 → w2.heap[b]? = wr.heap[b]? := fun b h => (HG.block b (by simp; omega) (fun e => by have := hv b e.symm; omega)).trans (hgA.block b (by omega))
  have hnx : u.New wr.heap.size (w1.alloc O) := HN.grow ((Below.refl _ _).alloc (Nat.le_refl _) _)
  have hA2 := App.push HA hgA hnx (Nat.le_refl _) (by omega) HO HG (HAT.imp id (fun e => by omega))
  have hfar : ∀ b, b ≠ w.heap.size + 1 + 1 → (w2.setCell ⟨w.heap.size + 1 + 1, 2, none⟩ (.slice (some ⟨g, 0, none⟩) (us.length + 1) cap)).heap[b]? = w2.heap[b]? := fun b hb => Below.heap_setCell _ _ _ _ hb
  have hgB : Below w.heap.size w w2 := Below.trans hg ⟨HG.os.trans hgA.os, HG.tape.trans hgA.tape, HG.output.trans hgA.output, Nat.le_trans hgA.size HG.size, fun b hb => key b (by omega)⟩
  refine ⟨us ++ [u], .slice (some ⟨g, 0, none⟩) (us.length + 1) cap, by rw [List.length_append]; rfl, ?_, ?_, ?_, ?_, ?_, ?_⟩
  · rw [List.length_append, List.length_singleton, List.take_succ_eq_append_getElem hlt, List.map_append, List.map_append, HT]; simp [HU]
  · refine hA2.far _ (fun hm => ?_) (fun e => ?_) _
    · have := (hA2.2.2.2 _ hm).1; simp at this; omega
    · have := (hA2.1.lt _ e).1; simp at this; omega
  · rw [hfar _ (by omega), key _ (by omega)]; exact hb0
  · rw [hfar _ (by omega), key _ (by omega)]; exact hb1
  · have := (key (w.heap.size + 1 + 1) (by omega)).trans hb2
    simp [World.setCell, Array.getElem?_modify, this]
  · exact Below.setCell hgB (by show w.heap.size ≤ w.heap.size + 1 + 1; omega) _

theorem heap_alloc_new' (w : World) (o : Obj) {i : Nat} (h : w.heap.size = i) : (w.alloc o).heap[i]? = some o := by subst h; exact heap_alloc_new w o

set_option maxRecDepth 100000 in
theorem own_of (t : LT) (ih : ∀ u ∈ t.ks, ∀ (w : World), u.Ok w → Calls Try.prog 66 #[u.val] w (ToPost w u)) (w : World) (h : t.Ok w) (hl : t.ks.length ≤ 1048576) : Calls Try.prog 66 #[t.val] w (ToPost w t) := by
  obtain ⟨i0, hi, hz0, hz1, hz2⟩ := info_parts (P := Try.prog) (e := 29) (z := .agg #[.int .i64 0, .string ⟨#[]⟩, .slice none 0 0]) (size := 3) (bytes := 48) (by kernel_rfl)
  have HI := Lib.hid hi
  have HZ0 := Lib.hid hz0
  have HZ1 := Lib.hid hz1
  have HZ2 := Lib.hid hz2
  clear hi hz0 hz1 hz2
  go_enter Try.func66, Try.ntmps66
  go_wp2_with fail
  have hrow := h.kids.2.2
  have hl9 : t.ks.length ≤ 9223372036854775807 := by omega
  go_loopw [4] (fun i wr => OwnRel w t i wr) (fun i _ => t.ks.length - (intOf i).toNat)
  case atStart =>
    refine ⟨[], .slice none 0 0, rfl, rfl, App.nil _ _, ?_, ?_, ?_, (((Gw.refl w).alloc _).alloc _).alloc _⟩
    · rw [Below.heap_alloc _ _ _ (by simp; omega), Below.heap_alloc _ _ _ (by simp)]
      exact heap_alloc_new w _
    · rw [Below.heap_alloc _ _ _ (by simp)]
      exact heap_alloc2_new w _ _
    · exact heap_alloc_new' _ _ (by simp)
  case round =>
    obtain ⟨us, v, rfl, hty, happ, hb0, hb1, hb2, hg⟩ := hrel
    have HT := Lib.hid hty
    have HA := Lib.hid happ
    have HB0 := Lib.hid hb0
    have HB1 := Lib.hid hb1
    have HB2 := Lib.hid hb2
    have x2 : wr.cell? ⟨w.heap.size, 2, none⟩ = some (.slice t.a t.ks.length t.cap) := cell_of_row _ _ 2 _ _ _ hb0
    have hlx : w.heap.size + 1 + 1 < wr.heap.size := (Array.getElem?_eq_some_iff.1 hb2).1
    have hle : us.length ≤ t.ks.length := by have := congrArg List.length hty; simp at this; omega
    clear hty hb0 hb1
    by_cases hlt : us.length < t.ks.length
    · obtain ⟨va, vc, rfl⟩ := happ.form
      have y2 : wr.cell? ⟨w.heap.size + 1 + 1, 2, none⟩ = some (.slice va us.length vc) := cell_of_row _ _ 2 _ _ _ hb2
      clear happ hb2
      obtain ⟨b, o, ha, hr⟩ := hrow.resolve_left (fun e => by rw [e] at hlt; simp at hlt)
      obtain ⟨c0, c1, c2, hk⟩ := rowOk_get (hr.grow hg) us.length hlt
      have hbb := cell_lt c0
      rw [ha] at x2
      have hk' := hk.drew
      have HKO := Lib.hid hk'
      have hf2 : wr.frozen? ⟨w.heap.size + 1 + 1, 2, none⟩ = false := by simp [World.frozen?, HB2.out]
      have hsz : w.heap.size < wr.heap.size := by omega
      have q0 : (0 : Int) ≤ us.length := by omega
      have q1 : (us.length : Int) < t.ks.length := by omega
      have hbw : b < w.heap.size := by
        obtain ⟨e0, _⟩ := rowOk_get hr us.length hlt
        exact cell_lt e0
      have hownlt : ∀ x, (Value.slice va us.length vc).ownBlock = some x → w.heap.size + 3 ≤ x := fun x hx => (HA.out.1.lt x hx).1
      clear hrow hr ha hk'
      go_wp2_with fail
      have hcall : ∀ W : World, (callFunc 66 #[t.ks[us.length].val]).run Try.prog W = .ok (.enter 66 #[t.ks[us.length].val]) W := fun W => call_own _ W
      have HC := Lib.hid hcall
      clear hcall
      go_region_law
        (first
          | (refine step_call1 (ToPost wr.drew t.ks[us.length]) ?_ 66 (.tmp 23) #[29] ?_ t.ks[us.length].val ?_ HC.out (ih t.ks[us.length] (List.getElem_mem hlt) _ HKO.out) ?_; rfl; rfl; rfl; rintro e w1 ⟨u, rfl, hu, hnew, hg1⟩; refine ⟨_, rfl, ?_⟩; have HU := Lib.hid hu; have HN := Lib.hid hnew; clear hu hnew; obtain ⟨hg1', k1, l1, l2, l3⟩ := after_call hg1 hsz hlx hbb)
          | (refine step_append_lies _ (by rfl) _ _ 27 (by rfl) (w.heap.size + 3) 29 i0 _ 3 48 Try.underlying27 HI.out HZ0.out HZ1.out HZ2.out (by rfl) (by decide) (.slice va us.length vc) us.length (cellsL us) (by rfl) ((HA.out.grow hg1').1.alloc _) ⟨w1.heap.size, 0, none⟩ 1 1 [.int .i64 u.k, .string u.n, .slice u.a u.ks.length u.cap] (by rfl) (by rfl) (World.news_of_block (heap_alloc_new w1 _)) (one3 _ _ _ _ _) (by decide) (le_max3 hlt hl) (by omega) (le_base hg1' hlx) _ rfl ?_; intro g cap w2 hown2 hgr2 hat2 hlt2; have HO2 := Lib.hid hown2; have HG2 := Lib.hid hgr2; have HA2 := Lib.hid hat2; obtain ⟨k2, f2⟩ := after_append hgr2 hg1' hlx hownlt HB2.out; clear hown2 hgr2 hat2; have y2' := (k2 (w.heap.size + 1 + 1) 2 (by omega)).trans y2))
      all_goals
        go_wp2_with fail
        go_roundw
        case rel => exact own_next HT.out HA.out HB0.out HB1.out HB2.out hg hlt hg1' HU.out HN.out HO2.out HG2.out HA2.out
        case measure => simp [intOf]; omega
    · have hall : us.length = t.ks.length := by omega
      obtain ⟨va, vc, rfl⟩ := happ.form
      have hdone := (HA.out.done).mono (B' := w.heap.size) (by omega)
      have HALL := Lib.hid hall
      have y0 : wr.cell? ⟨w.heap.size + 1 + 1, 0, none⟩ = some (.int .i64 t.k) := cell_of_row _ _ 0 _ _ _ hb2
      have y1 : wr.cell? ⟨w.heap.size + 1 + 1, 1, none⟩ = some (.string t.n) := cell_of_row _ _ 1 _ _ _ hb2
      have y2 : wr.cell? ⟨w.heap.size + 1 + 1, 2, none⟩ = some (.slice va us.length vc) := cell_of_row _ _ 2 _ _ _ hb2
      have z0 : wr.cell? ⟨w.heap.size + 1, 0, none⟩ = some (.int .i64 0) := cell_of_row _ _ 0 _ _ _ HB1.out
      have z1 : wr.cell? ⟨w.heap.size + 1, 1, none⟩ = some (.string ⟨#[]⟩) := cell_of_row _ _ 1 _ _ _ HB1.out
      have z2 : wr.cell? ⟨w.heap.size + 1, 2, none⟩ = some (.slice none 0 0) := cell_of_row _ _ 2 _ _ _ HB1.out
      have f0 : ∀ j, wr.frozen? ⟨w.heap.size + 1, j, none⟩ = false := fun j => by simp [World.frozen?, HB1.out]
      clear hall happ hb2 hrow
      have q0 : (0 : Int) ≤ us.length := by omega
      have q1 : ¬ ((us.length : Int) < t.ks.length) := by have := HALL.out; omega
      go_wp2_with fail
      have hB : ∀ b, b < w.heap.size + 3 → b ∉ (LT.mk 0 ⟨#[]⟩ va vc us).bl := fun b hb hm => by have := (HA.out.done.2.2 b hm).1; omega
      refine bodyPost_ret (v := (LT.mk t.k t.n va vc us).val) (by simp [results, Try.results66, go_sem, z0, z1, z2]; exact ⟨rfl, rfl, rfl, rfl, rfl⟩) rfl ⟨_, rfl, ?_, ?_, ?_⟩
      · rw [LT.ty_eq, LT.ty_eq t]; show Ty.mk t.k t.n (us.map LT.ty) = _; rw [HT.out, HALL.out, List.take_length]
      · exact ((((HA.out.done.mk h.nm h.num.1 h.num.2).far _ (hB _ (by simp)) _).far _ (hB _ (by simp)) _).far _ (hB _ (by simp)) _).mono (by omega)
      · exact ((Below.setCell hg (by simp) _).setCell (by simp) _).setCell (by simp) _

theorem spec_own (t : LT) : ∀ (w : World), t.Ok w → t.sz ≤ 1048576 → Calls Try.prog 66 #[t.val] w (ToPost w t) := by
  refine LT.ind (P := fun t => ∀ (w : World), t.Ok w → t.sz ≤ 1048576 → Calls Try.prog 66 #[t.val] w (ToPost w t)) (fun k n a c ks ih w h hs => ?_) t
  rw [LT.sz_eq] at hs
  have h1 := szl_ge ks
  have hs' : n.size + LT.sz.szl ks ≤ 1048576 := hs
  exact own_of (.mk k n a c ks) (fun u hu w2 h2 => ih u hu w2 h2 (by have := sz_mem hu; omega)) w h (by show ks.length ≤ _; omega)

end Go.Proofs.Ytdlbhjkkgiaidaa.Con
