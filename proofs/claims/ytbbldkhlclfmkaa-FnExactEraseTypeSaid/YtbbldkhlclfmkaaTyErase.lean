/-
  Erasing: the type without its bangs, and the contract of the model's l02Erase. Condition: the type is valid.
-/
import Derived.Test.YtbbldkhlclfmkaaTyOwn
import Derived.Test.YtbbldkhlclfmkaaTyTxt
namespace Go.Proofs.Ytbbldkhlclfmkaa.Con
open Go.RowKit
set_option linter.unusedVariables false
attribute [local go_sem ↓] Go.wp_at_zero Go.wp_at_succ

def erF (k : Int) (n : ByteArray) (es : List Ty) : Ty := if k = 4 then es.getD 0 (.mk k n es) else .mk k n es
/-- A type without its bangs. -/
def Ty.er : Ty → Ty
  | .mk k n ks => erF k n (ers ks)
where ers : List Ty → List Ty
  | [] => []
  | t :: ts => t.er :: ers ts
theorem ers_eq (ks : List Ty) : Ty.er.ers ks = ks.map Ty.er := by
  induction ks with
  | nil => rfl
  | cons t ts ih => simp only [Ty.er.ers, List.map_cons, ih]
theorem er_eq (k : Int) (n : ByteArray) (ks : List Ty) : (Ty.mk k n ks).er = erF k n (ks.map Ty.er) := by rw [Ty.er, ers_eq]
theorem LT.er_other (t : LT) (h : ¬ t.k = 4) : t.ty.er = .mk t.k t.n (t.ks.map fun u => u.ty.er) := by
  rw [LT.ty_eq, er_eq, List.map_map]; unfold erF; rw [if_neg h]; rfl
theorem LT.er_bang (t u : LT) (h : t.k = 4) (hk : t.ks = [u]) : t.ty.er = u.ty.er := by
  rw [LT.ty_eq, er_eq, hk]; unfold erF; rw [if_pos h]; rfl

def ErPost (w : World) (t : LT) (e : Ending) (w' : World) : Prop := ∃ u : LT, e = .returned u.val ∧ u.ty = t.ty.er ∧ u.New w.heap.size w' ∧ Gw w w'
theorem call_er (v : Value) (W : World) : (callFunc 43 #[v]).run Try.prog W = .ok (.enter 43 #[v]) W := by kernel_rfl

def ErRel (w : World) (t : LT) (i : Value) (wr : World) : Prop := ∃ (us : List LT) (v : Value), i = .int .i64 us.length ∧ us.map LT.ty = (t.ks.take us.length).map (fun u => u.ty.er) ∧ App (w.heap.size + 3) wr v us ∧
  wr.heap[w.heap.size]? = some (.cells #[.int .i64 t.k, .string t.n, .slice t.a t.ks.length t.cap] 29 (0, 0)) ∧ wr.heap[w.heap.size + 1]? = some (.cells #[.int .i64 0, .string ⟨#[]⟩, .slice none 0 0] 29 (0, 0)) ∧
  wr.heap[w.heap.size + 1 + 1]? = some (.cells #[.int .i64 t.k, .string t.n, v] 29 (0, 0)) ∧ Gw w wr

theorem er_next {w wr w1 w2 : World} {t u : LT} {us : List LT} {va : Option Addr} {vc g cap : Nat} {O : Obj} (HT : us.map LT.ty = (t.ks.take us.length).map (fun u => u.ty.er)) (HA : App (w.heap.size + 3) wr (.slice va us.length vc) us)
    (hb0 : wr.heap[w.heap.size]? = some (.cells #[.int .i64 t.k, .string t.n, .slice t.a t.ks.length t.cap] 29 (0, 0))) (hb1 : wr.heap[w.heap.size + 1]? = some (.cells #[.int .i64 0, .string ⟨#[]⟩, .slice none 0 0] 29 (0, 0)))
    (hb2 : wr.heap[w.heap.size + 1 + 1]? = some (.cells #[.int .i64 t.k, .string t.n, .slice va us.length vc] 29 (0, 0))) (hg : Gw w wr) (hlt : us.length < t.ks.length) (hg1 : Gw wr w1) (HU : u.ty = t.ks[us.length].ty.er) (HN : u.New wr.heap.size w1)
    (HO : w2.ownsRow (w.heap.size + 3) 29 3 (.slice (some ⟨g, 0, none⟩) (us.length + 1) cap) (us.length + 1) (cellsL us ++ [.int .i64 u.k, .string u.n, .slice u.a u.ks.length u.cap])) (HG : (w1.alloc O).grownBy w2 (Value.slice va us.length vc).ownBlock)
    (HAT : (Value.slice va us.length vc).ownBlock = some g ∨ g = (w1.alloc O).heap.size) : ErRel w t (.int .i64 (us.length + 1)) (w2.setCell ⟨w.heap.size + 1 + 1, 2, none⟩ (.slice (some ⟨g, 0, none⟩) (us.length + 1) cap)) := by
  have hlx : w.heap.size + 1 + 1 < wr.heap.size := (Array.getElem?_eq_some_iff.1 hb2).1
  have hs := hg1.size
  have hgA : Gw wr (w1.alloc O) := hg1.alloc O
  have hv : ∀ x, (Value.slice va us.length vc).ownBlock = some x → w.heap.size + 3 ≤ x := fun x hx => (HA.1.lt x hx).1
  have key : ∀ b, b < w.heap.size + 3 → w2.heap[b]? = wr.heap[b]? := fun b h => (HG.block b (by simp; omega) (fun e => by have := hv b e.symm; omega)).trans (hgA.block b (by omega))
  have hnx : u.New wr.heap.size (w1.alloc O) := HN.grow ((Below.refl _ _).alloc (Nat.le_refl _) _)
  have hA2 := App.push HA hgA hnx (Nat.le_refl _) (by omega) HO HG (HAT.imp id (fun e => by omega))
  have hfar : ∀ b, b ≠ w.heap.size + 1 + 1 → (w2.setCell ⟨w.heap.size + 1 + 1, 2, none⟩ (.slice (some ⟨g, 0, none⟩) (us.length + 1) cap)).heap[b]? = w2.heap[b]? := fun b hb => Below.heap_setCell _ _ _ _ hb
  have hgB : Below w.heap.size w w2 := Below.trans hg ⟨HG.os.trans hgA.os, HG.tape.trans hgA.tape, HG.output.trans hgA.output, Nat.le_trans hgA.size HG.size, fun b hb => key b (by omega)⟩
  refine ⟨us ++ [u], .slice (some ⟨g, 0, none⟩) (us.length + 1) cap, by rw [List.length_append]; rfl, ?_, ?_, ?_, ?_, ?_, ?_⟩
  · rw [List.length_append, List.length_singleton, List.take_succ_eq_append_getElem hlt, List.map_append, List.map_append, HT]; simp [HU]
  · refine hA2.far _ (fun hm => ?_) (fun e => ?_) _
    · have := (hA2.2.2.2 _ hm).1; simp at this; omega
    · have := (hA2.1.lt _ e).1; simp at this; omega
  · rw [hfar _ (by omega), key _ (by omega)]; exact hb0
  · rw [hfar _ (by omega), key _ (by omega)]; exact hb1
  · have := (key (w.heap.size + 1 + 1) (by omega)).trans hb2
    simp [World.setCell, Array.getElem?_modify, this]
  · exact Below.setCell hgB (by show w.heap.size ≤ w.heap.size + 1 + 1; omega) _

set_option maxRecDepth 100000 in
theorem er_of (t : LT) (ih : ∀ u ∈ t.ks, ∀ (w : World), u.Ok w → Calls Try.prog 43 #[u.val] w (ErPost w u)) (w : World) (h : t.Ok w) (hl : t.ks.length ≤ 1048576) (hk4 : ¬ t.k = 4) : Calls Try.prog 43 #[t.val] w (ErPost w t) := by
  obtain ⟨i0, hi, hz0, hz1, hz2⟩ := info_parts (P := Try.prog) (e := 29) (z := .agg #[.int .i64 0, .string ⟨#[]⟩, .slice none 0 0]) (size := 3) (bytes := 48) (by kernel_rfl)
  have HI := Lib.hid hi
  have HZ0 := Lib.hid hz0
  have HZ1 := Lib.hid hz1
  have HZ2 := Lib.hid hz2
  clear hi hz0 hz1 hz2
  have hkb : (t.k == 4) = false := by simpa using hk4
  have HER := Lib.hid (t.er_other hk4)
  clear hk4
  go_enter Try.func43, Try.ntmps43
  go_wp2_with fail
  have hrow := h.kids.2.2
  have hl9 : t.ks.length ≤ 9223372036854775807 := by omega
  go_loopw [4] (fun i wr => ErRel w t i wr) (fun i _ => t.ks.length - (intOf i).toNat)
  case atStart =>
    refine ⟨[], .slice none 0 0, rfl, rfl, App.nil _ _, ?_, ?_, ?_, (((Gw.refl w).alloc _).alloc _).alloc _⟩
    · rw [Below.heap_alloc _ _ _ (by simp; omega), Below.heap_alloc _ _ _ (by simp)]
      exact heap_alloc_new w _
    · rw [Below.heap_alloc _ _ _ (by simp)]
      exact heap_alloc2_new w _ _
    · exact heap_alloc_new' _ _ (by simp)
  case round =>
    obtain ⟨us, v, rfl, hty, happ, hb0, hb1, hb2, hg⟩ := hrel
    have HT := Lib.hid hty
    have HA := Lib.hid happ
    have HB0 := Lib.hid hb0
    have HB1 := Lib.hid hb1
    have HB2 := Lib.hid hb2
    have x2 : wr.cell? ⟨w.heap.size, 2, none⟩ = some (.slice t.a t.ks.length t.cap) := cell_of_row _ _ 2 _ _ _ hb0
    have hlx : w.heap.size + 1 + 1 < wr.heap.size := (Array.getElem?_eq_some_iff.1 hb2).1
    have hle : us.length ≤ t.ks.length := by have := congrArg List.length hty; simp at this; omega
    clear hty hb0 hb1
    by_cases hlt : us.length < t.ks.length
    · obtain ⟨va, vc, rfl⟩ := happ.form
      have y2 : wr.cell? ⟨w.heap.size + 1 + 1, 2, none⟩ = some (.slice va us.length vc) := cell_of_row _ _ 2 _ _ _ hb2
      clear happ hb2
      obtain ⟨b, o, ha, hr⟩ := hrow.resolve_left (fun e => by rw [e] at hlt; simp at hlt)
      obtain ⟨c0, c1, c2, hk⟩ := rowOk_get (hr.grow hg) us.length hlt
      have hbb := cell_lt c0
      rw [ha] at x2
      have hk' := hk.drew
      have HKO := Lib.hid hk'
      have hf2 : wr.frozen? ⟨w.heap.size + 1 + 1, 2, none⟩ = false := by simp [World.frozen?, HB2.out]
      have hsz : w.heap.size < wr.heap.size := by omega
      have q0 : (0 : Int) ≤ us.length := by omega
      have q1 : (us.length : Int) < t.ks.length := by omega
      have hbw : b < w.heap.size := by
        obtain ⟨e0, _⟩ := rowOk_get hr us.length hlt
        exact cell_lt e0
      have hownlt : ∀ x, (Value.slice va us.length vc).ownBlock = some x → w.heap.size + 3 ≤ x := fun x hx => (HA.out.1.lt x hx).1
      clear hrow hr ha hk'
      go_wp2_with fail
      have hcall : ∀ W : World, (callFunc 43 #[t.ks[us.length].val]).run Try.prog W = .ok (.enter 43 #[t.ks[us.length].val]) W := fun W => call_er _ W
      have HC := Lib.hid hcall
      clear hcall
      go_region_law
        (first
          | (refine step_call1 (ErPost wr.drew t.ks[us.length]) ?_ 43 (.tmp 31) #[29] ?_ t.ks[us.length].val ?_ HC.out (ih t.ks[us.length] (List.getElem_mem hlt) _ HKO.out) ?_; rfl; rfl; rfl; rintro e w1 ⟨u, rfl, hu, hnew, hg1⟩; refine ⟨_, rfl, ?_⟩; have HU := Lib.hid hu; have HN := Lib.hid hnew; clear hu hnew; obtain ⟨hg1', k1, l1, l2, l3⟩ := after_call hg1 hsz hlx hbb)
          | (refine step_append_lies _ (by rfl) _ _ 27 (by rfl) (w.heap.size + 3) 29 i0 _ 3 48 Try.underlying27 HI.out HZ0.out HZ1.out HZ2.out (by rfl) (by decide) (.slice va us.length vc) us.length (cellsL us) (by rfl) ((HA.out.grow hg1').1.alloc _) ⟨w1.heap.size, 0, none⟩ 1 1 [.int .i64 u.k, .string u.n, .slice u.a u.ks.length u.cap] (by rfl) (by rfl) (World.news_of_block (heap_alloc_new w1 _)) (one3 _ _ _ _ _) (by decide) (le_max3 hlt hl) (by omega) (le_base hg1' hlx) _ rfl ?_; intro g cap w2 hown2 hgr2 hat2 hlt2; have HO2 := Lib.hid hown2; have HG2 := Lib.hid hgr2; have HA2 := Lib.hid hat2; obtain ⟨k2, f2⟩ := after_append hgr2 hg1' hlx hownlt HB2.out; clear hown2 hgr2 hat2; have y2' := (k2 (w.heap.size + 1 + 1) 2 (by omega)).trans y2))
      all_goals
        go_wp2_with fail
        go_roundw
        case rel => exact er_next HT.out HA.out HB0.out HB1.out HB2.out hg hlt hg1' HU.out HN.out HO2.out HG2.out HA2.out
        case measure => simp [intOf]; omega
    · have hall : us.length = t.ks.length := by omega
      obtain ⟨va, vc, rfl⟩ := happ.form
      have hdone := (HA.out.done).mono (B' := w.heap.size) (by omega)
      have HALL := Lib.hid hall
      have y0 : wr.cell? ⟨w.heap.size + 1 + 1, 0, none⟩ = some (.int .i64 t.k) := cell_of_row _ _ 0 _ _ _ hb2
      have y1 : wr.cell? ⟨w.heap.size + 1 + 1, 1, none⟩ = some (.string t.n) := cell_of_row _ _ 1 _ _ _ hb2
      have y2 : wr.cell? ⟨w.heap.size + 1 + 1, 2, none⟩ = some (.slice va us.length vc) := cell_of_row _ _ 2 _ _ _ hb2
      have z0 : wr.cell? ⟨w.heap.size + 1, 0, none⟩ = some (.int .i64 0) := cell_of_row _ _ 0 _ _ _ HB1.out
      have z1 : wr.cell? ⟨w.heap.size + 1, 1, none⟩ = some (.string ⟨#[]⟩) := cell_of_row _ _ 1 _ _ _ HB1.out
      have z2 : wr.cell? ⟨w.heap.size + 1, 2, none⟩ = some (.slice none 0 0) := cell_of_row _ _ 2 _ _ _ HB1.out
      have f0 : ∀ j, wr.frozen? ⟨w.heap.size + 1, j, none⟩ = false := fun j => by simp [World.frozen?, HB1.out]
      clear hall happ hb2 hrow
      have q0 : (0 : Int) ≤ us.length := by omega
      have q1 : ¬ ((us.length : Int) < t.ks.length) := by have := HALL.out; omega
      go_wp2_with fail
      have hB : ∀ b, b < w.heap.size + 3 → b ∉ (LT.mk 0 ⟨#[]⟩ va vc us).bl := fun b hb hm => by have := (HA.out.done.2.2 b hm).1; omega
      refine bodyPost_ret (v := (LT.mk t.k t.n va vc us).val) (by simp [results, Try.results43, go_sem, z0, z1, z2]; exact ⟨rfl, rfl, rfl, rfl, rfl⟩) rfl ⟨_, rfl, ?_, ?_, ?_⟩
      · rw [LT.ty_eq, HER.out]; show Ty.mk t.k t.n (us.map LT.ty) = _; rw [HT.out, HALL.out, List.take_length]
      · exact ((((HA.out.done.mk h.nm h.num.1 h.num.2).far _ (hB _ (by simp)) _).far _ (hB _ (by simp)) _).far _ (hB _ (by simp)) _).mono (by omega)
      · exact ((Below.setCell hg (by simp) _).setCell (by simp) _).setCell (by simp) _

theorem er_bang (n : ByteArray) (b o c : Nat) (x : LT) (w : World) (hok : x.Ok w) (c0 : w.cell? ⟨b, o, none⟩ = some (.int .i64 x.k)) (c1 : w.cell? ⟨b, o + 1, none⟩ = some (.string x.n)) (c2 : w.cell? ⟨b, o + 2, none⟩ = some (.slice x.a x.ks.length x.cap))
    (key : ∀ (w : World), x.Ok w → Calls Try.prog 43 #[x.val] w (ErPost w x)) : Calls Try.prog 43 #[.agg #[.int .i64 4, .string n, .slice (some ⟨b, o, none⟩) 1 c]] w (ErPost w x) := by
  have hb0 : b < w.heap.size := cell_lt c0
  have g1 : Gw w ((w.alloc (.cells #[.int .i64 4, .string n, .slice (some ⟨b, o, none⟩) 1 c] 29)).alloc (.cells #[.int .i64 0, .string ⟨#[]⟩, .slice none 0 0] 29)) := ((Gw.refl w).alloc _).alloc _
  have hok1 := hok.grow g1
  go_enter Try.func43, Try.ntmps43
  go_wp2_with fail
  refine (key _ hok1).mono ?_
  rintro e w1 ⟨u, rfl, hu, hnew, hg⟩
  have hnew' : u.New (w.heap.size + 2) w1 := by simpa using hnew
  have HU := Lib.hid hu
  have HN := Lib.hid hnew'
  obtain ⟨hc, hf⟩ := bcell hg
  have hz : w.heap.size + 2 ≤ w1.heap.size := by have := hg.size; simp at this; omega
  have g2 := g1.trans hg
  clear hu hnew hnew' c0 c1 c2
  go_wp2_with fail
  have hB : ∀ b, b < w.heap.size + 2 → b ∉ u.bl := fun b hb hm => by have := (HN.out.2.2 b hm).1; omega
  refine bodyPost_ret (v := u.val) (by simp [results, Try.results43, go_sem, hc]) rfl ⟨u, rfl, HU.out, ?_, ?_⟩
  · exact (((HN.out.far _ (hB _ (by simp)) _).far _ (hB _ (by simp)) _).far _ (hB _ (by simp)) _).mono (by omega)
  · exact ((Below.setCell g2 (by simp) _).setCell (by simp) _).setCell (by simp) _

theorem spec_erase (t : LT) : ∀ (m : Nat) (w : World), Wf t.ty m → t.Ok w → Calls Try.prog 43 #[t.val] w (ErPost w t) := by
  refine LT.ind (P := fun t => ∀ (m : Nat) (w : World), Wf t.ty m → t.Ok w → Calls Try.prog 43 #[t.val] w (ErPost w t)) (fun k n a c ks ih m w hw h => ?_) t
  have ety : (LT.mk k n a c ks).ty = .mk k n (ks.map LT.ty) := LT.ty_eq _
  have hw' := hw
  rw [ety] at hw
  have hall : ∀ u ∈ ks, ∃ p, Wf u.ty p := fun u hu => by
    obtain ⟨_, d, s, hd, hs, _⟩ := hw.head
    obtain ⟨p, hp, _⟩ := wf_all (by omega) hs u.ty (List.mem_map.2 ⟨u, hu, rfl⟩)
    exact ⟨p, hp⟩
  have hlen : ks.length ≤ 2 := by have := headB_len hw.head.1; simpa using this
  have hsl : slOk w a c ks := h.kids
  by_cases hk4 : k = 4
  · subst hk4
    rcases hw.cases with ⟨h1, _⟩ | ⟨h1, _⟩ | ⟨h1, _⟩ | ⟨_, he, x, p, hk, h1, rfl⟩
    · omega
    · omega
    · omega
    · match ks, hk with
      | [x'], hk =>
        simp at hk
        subst hk
        obtain ⟨b, o, rfl, hr⟩ := hsl.2.2.resolve_left (by simp)
        obtain ⟨c0, c1, c2, hx⟩ := rowOk_get hr 0 (by simp)
        have := er_bang n b o c x' w hx (by simpa using c0) (by simpa using c1) (by simpa using c2) (fun w1 hw1 => ih x' (by simp) p w1 h1 hw1)
        exact this.mono fun e w' ⟨u, h1, h2, h3⟩ => ⟨u, h1, h2.trans (LT.er_bang _ x' rfl rfl).symm, h3⟩
  · exact er_of (.mk k n a c ks) (fun u hu w1 hw1 => by
      obtain ⟨p, hp⟩ := hall u hu
      exact ih u hu p w1 hp hw1) w h (by show ks.length ≤ _; omega) hk4

end Go.Proofs.Ytbbldkhlclfmkaa.Con
