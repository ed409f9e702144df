/-
  Contract of the model's l08Contract, one for each kind of redex. Condition: the node lies in memory, with the kids that the kind asks for.
-/
import Derived.Test.YtfbgkbgoooepmaaDoorEx
import Derived.Test.YtfbgkbgoooepmaaDoorCh
import Derived.Test.YtfbgkbgoooepmaaDoorCoIm
import Derived.Test.YtfbgkbgoooepmaaDoorOperI
namespace Go.Proofs.YtfbgkbgoooepmaaDoor.Con
open Go.RowKit
set_option linter.unusedVariables false
attribute [local go_sem ↓] Go.wp_at_zero Go.wp_at_succ

def CtP (w : World) (A : Nat → Prop) (c : Int) (t : Co) (e : Ending) (w' : World) : Prop := ∃ x : LK, e = .returned (.tuple #[x.val, .int .i64 c]) ∧ x.Ok w' ∧ x.co = t ∧ (∀ y ∈ x.bl, w.heap.size ≤ y ∨ A y) ∧ Gw w w'
theorem opV_in (op a b : Int) : cin64 (opV op a b) := by
  have L := w32_lo
  have H := w32_hi
  have w : ∀ n, cin64 (wrap32 n) := fun n => by have := L n; have := H n; unfold cin64; omega
  have z : cin64 0 := by unfold cin64; omega
  have o : cin64 1 := by unfold cin64; omega
  unfold opV
  repeat' split
  all_goals first | exact w _ | exact z | exact o

set_option maxRecDepth 100000 in
set_option maxHeartbeats 2000000 in
theorem ct_one (u : LB) (c x0 x1 : LK) (w : World) (b bc oc bk ok bl ol : Nat) (h : coAt w bc oc c) (hl : 1 < c.ks.length) (ha : c.a = some ⟨bk, ok, none⟩) (hx0 : coAt w bk ok x0) (hx1 : coAt w bk (ok + 4) x1) (hl0 : 0 < x0.ks.length) (hb : x0.a = some ⟨bl, ol, none⟩) (y : LK) (hy : coAt w bl ol y) (ho0 : okC y.co = true) (ho1 : okC x1.co = true) : Calls Tryd.prog 116 #[.pointer (some ⟨b, 0, none⟩), .pointer (some ⟨bc, oc, none⟩), .int .i64 1] w (CtP w (fun _ => False) (vcCd (y.co.pu x1.co 0)) (if vcCd (y.co.pu x1.co 0) = 0 then y.co.pu x1.co 0 else zeC)) := by
  have HR := Lib.hid (heap_alloc_new w (.cells #[.int .i64 0, .int .i64 0, .slice none 0 0, .slice none 0 0] 30))
  have GR := Lib.hid ((Gw.refl w).alloc (.cells #[.int .i64 0, .int .i64 0, .slice none 0 0, .slice none 0 0] 30))
  have HLT := Lib.hid (show bc < w.heap.size ∧ bk < w.heap.size from ⟨cell_lt h.c.1, cell_lt hx0.c.1⟩)
  have s0 := h.grow GR.out
  have z0 := hx0.grow GR.out
  have KI0 := fun (w1 : World) (g : Gw w w1) => spec_instance y x1 w1.drew bl ol bk (ok + 4) ((hy.grow g).grow (Gw.refl w1).drew) ((hx1.grow g).grow (Gw.refl w1).drew) ho0 ho1
  have KIH := Lib.hid KI0
  have i0 : (0 : Int) < c.ks.length := by omega
  have n0 : ¬ c.ks = [] := fun e => by rw [e] at i0; simp at i0
  have i1 : (1 : Int) < c.ks.length := by omega
  have i2 : (0 : Int) < x0.ks.length := by omega
  have n2 : ¬ x0.ks = [] := fun e => by rw [e] at i2; simp at i2
  obtain ⟨cd, hcd⟩ : ∃ e, e = vcCd (y.co.pu x1.co 0) := ⟨_, rfl⟩
  rw [← hcd] at KIH ⊢
  obtain ⟨pu, hpu⟩ : ∃ e, e = y.co.pu x1.co 0 := ⟨_, rfl⟩
  rw [← hpu] at KIH ⊢
  obtain ⟨tt, htt⟩ : ∃ e, e = (if cd = 0 then pu else zeC) := ⟨_, rfl⟩
  rw [← htt]
  have HTT := Lib.hid htt
  clear htt
  have HNE := Lib.hid (show bc ≠ w.heap.size ∧ bk ≠ w.heap.size from ⟨by have := HLT.out; omega, by have := HLT.out; omega⟩)
  obtain ⟨_, _, _, s3⟩ := s0.c
  obtain ⟨_, _, _, t3⟩ := z0.c
  rw [ha] at s3
  rw [hb] at t3
  clear h hl ha hx0 hx1 hl0 hb hy ho0 ho1 KI0 hcd hpu s0 z0
  go_enter Tryd.func116, Tryd.ntmps116
  go_upto_region 1 with (fail)
  generalize w.alloc (.cells #[.int .i64 0, .int .i64 0, .slice none 0 0, .slice none 0 0] 30) = w1 at *
  have KI := Lib.hid (KIH.out w1 GR.out)
  go_wp2_with fail
  go_upto_region 3 with (fail)
  refine wp_region_held_drew (S := fun W => W.cell? ⟨bc, oc + 3, none⟩ = some (.slice (some ⟨bk, ok, none⟩) c.ks.length c.cap) ∧ W.cell? ⟨bk, ok + 3, none⟩ = some (.slice (some ⟨bl, ol, none⟩) x0.ks.length x0.cap)) (by kernel_rfl) ?_ (fun hHeld => ?_)
  · exact ⟨s3, t3⟩
  refine wpAnyH_take (i := 0) (oi := { dst := some 11, op := _, type := _, pos := _, after := _, guard := _ }) (v := .pointer (some ⟨bc, oc, none⟩)) rfl (by kernel_rfl) (by kernel_rfl) (by kernel_rfl) (fun _ _ _ h => h) (Or.inl ⟨by rfl, ?_⟩) (by assumption) ?_
  · intro w hSw; obtain ⟨c3, d3⟩ := hSw; go_simp
  try simp only [Act.put, List.setIfInBounds_toArray, List.set_cons_zero, List.set_cons_succ]
  refine wpAnyH_take (i := 1) (oi := { dst := some 12, op := _, type := _, pos := _, after := _, guard := _ }) (v := .pointer (some ⟨bc, oc, none⟩)) rfl (by kernel_rfl) (by kernel_rfl) (by kernel_rfl) (fun _ _ _ h => h) (Or.inl ⟨by rfl, ?_⟩) (by assumption) ?_
  · intro w hSw; obtain ⟨c3, d3⟩ := hSw; go_simp
  try simp only [Act.put, List.setIfInBounds_toArray, List.set_cons_zero, List.set_cons_succ]
  refine wpAnyH_take (i := 2) (oi := { dst := some 13, op := _, type := _, pos := _, after := _, guard := _ }) (v := .pointer (some ⟨bc, oc + 3, none⟩)) rfl (by kernel_rfl) (by kernel_rfl) (by kernel_rfl) (fun _ _ _ h => h) (Or.inl ⟨by rfl, ?_⟩) (by assumption) ?_
  · intro w hSw; obtain ⟨c3, d3⟩ := hSw; go_simp
  try simp only [Act.put, List.setIfInBounds_toArray, List.set_cons_zero, List.set_cons_succ]
  refine wpAnyH_take (i := 3) (oi := { dst := some 14, op := _, type := _, pos := _, after := _, guard := _ }) (v := .slice (some ⟨bk, ok, none⟩) c.ks.length c.cap) rfl (by kernel_rfl) (by kernel_rfl) (by kernel_rfl) (fun _ _ _ h => h) (Or.inl ⟨by rfl, ?_⟩) (by assumption) ?_
  · intro w hSw; obtain ⟨c3, d3⟩ := hSw; go_simp
  try simp only [Act.put, List.setIfInBounds_toArray, List.set_cons_zero, List.set_cons_succ]
  refine wpAnyH_take (i := 4) (oi := { dst := some 15, op := _, type := _, pos := _, after := _, guard := _ }) (v := .pointer (some ⟨bk, ok, none⟩)) rfl (by kernel_rfl) (by kernel_rfl) (by kernel_rfl) (fun _ _ _ h => h) (Or.inl ⟨by rfl, ?_⟩) (by assumption) ?_
  · intro w hSw; obtain ⟨c3, d3⟩ := hSw; go_simp
  try simp only [Act.put, List.setIfInBounds_toArray, List.set_cons_zero, List.set_cons_succ]
  refine wpAnyH_take (i := 5) (oi := { dst := some 16, op := _, type := _, pos := _, after := _, guard := _ }) (v := .pointer (some ⟨bk, ok + 3, none⟩)) rfl (by kernel_rfl) (by kernel_rfl) (by kernel_rfl) (fun _ _ _ h => h) (Or.inl ⟨by rfl, ?_⟩) (by assumption) ?_
  · intro w hSw; obtain ⟨c3, d3⟩ := hSw; go_simp
  try simp only [Act.put, List.setIfInBounds_toArray, List.set_cons_zero, List.set_cons_succ]
  refine wpAnyH_take (i := 6) (oi := { dst := some 17, op := _, type := _, pos := _, after := _, guard := _ }) (v := .slice (some ⟨bl, ol, none⟩) x0.ks.length x0.cap) rfl (by kernel_rfl) (by kernel_rfl) (by kernel_rfl) (fun _ _ _ h => h) (Or.inl ⟨by rfl, ?_⟩) (by assumption) ?_
  · intro w hSw; obtain ⟨c3, d3⟩ := hSw; go_simp
  try simp only [Act.put, List.setIfInBounds_toArray, List.set_cons_zero, List.set_cons_succ]
  refine wpAnyH_take (i := 7) (oi := { dst := some 18, op := _, type := _, pos := _, after := _, guard := _ }) (v := .pointer (some ⟨bl, ol, none⟩)) rfl (by kernel_rfl) (by kernel_rfl) (by kernel_rfl) (fun _ _ _ h => h) (Or.inl ⟨by rfl, ?_⟩) (by assumption) ?_
  · intro w hSw; obtain ⟨c3, d3⟩ := hSw; go_simp
  try simp only [Act.put, List.setIfInBounds_toArray, List.set_cons_zero, List.set_cons_succ]
  refine wpAnyH_take (i := 8) (oi := { dst := some 19, op := _, type := _, pos := _, after := _, guard := _ }) (v := .pointer (some ⟨bc, oc, none⟩)) rfl (by kernel_rfl) (by kernel_rfl) (by kernel_rfl) (fun _ _ _ h => h) (Or.inl ⟨by rfl, ?_⟩) (by assumption) ?_
  · intro w hSw; obtain ⟨c3, d3⟩ := hSw; go_simp
  try simp only [Act.put, List.setIfInBounds_toArray, List.set_cons_zero, List.set_cons_succ]
  refine wpAnyH_take (i := 9) (oi := { dst := some 20, op := _, type := _, pos := _, after := _, guard := _ }) (v := .pointer (some ⟨bc, oc, none⟩)) rfl (by kernel_rfl) (by kernel_rfl) (by kernel_rfl) (fun _ _ _ h => h) (Or.inl ⟨by rfl, ?_⟩) (by assumption) ?_
  · intro w hSw; obtain ⟨c3, d3⟩ := hSw; go_simp
  try simp only [Act.put, List.setIfInBounds_toArray, List.set_cons_zero, List.set_cons_succ]
  refine wpAnyH_take (i := 10) (oi := { dst := some 21, op := _, type := _, pos := _, after := _, guard := _ }) (v := .pointer (some ⟨bc, oc + 3, none⟩)) rfl (by kernel_rfl) (by kernel_rfl) (by kernel_rfl) (fun _ _ _ h => h) (Or.inl ⟨by rfl, ?_⟩) (by assumption) ?_
  · intro w hSw; obtain ⟨c3, d3⟩ := hSw; go_simp
  try simp only [Act.put, List.setIfInBounds_toArray, List.set_cons_zero, List.set_cons_succ]
  refine wpAnyH_take (i := 11) (oi := { dst := some 22, op := _, type := _, pos := _, after := _, guard := _ }) (v := .slice (some ⟨bk, ok, none⟩) c.ks.length c.cap) rfl (by kernel_rfl) (by kernel_rfl) (by kernel_rfl) (fun _ _ _ h => h) (Or.inl ⟨by rfl, ?_⟩) (by assumption) ?_
  · intro w hSw; obtain ⟨c3, d3⟩ := hSw; go_simp
  try simp only [Act.put, List.setIfInBounds_toArray, List.set_cons_zero, List.set_cons_succ]
  refine wpAnyH_take (i := 12) (oi := { dst := some 23, op := _, type := _, pos := _, after := _, guard := _ }) (v := .pointer (some ⟨bk, ok + 4, none⟩)) rfl (by kernel_rfl) (by kernel_rfl) (by kernel_rfl) (fun _ _ _ h => h) (Or.inl ⟨by rfl, ?_⟩) (by assumption) ?_
  · intro w hSw; obtain ⟨c3, d3⟩ := hSw; go_simp
  try simp only [Act.put, List.setIfInBounds_toArray, List.set_cons_zero, List.set_cons_succ]
  refine wpAnyH_ready (rs := [13]) (by kernel_rfl) (by simp) ?_
  refine AllReadyH.cons (o := { dst := some 24, op := _, type := _, pos := _, after := _, guard := _ }) rfl (fun K hK => ?_) AllReadyH.nil
  go_simp
  go_at_call 79
  refine KI.out.mono ?_
  rintro e w5 ⟨x, rfl, hx, hnew, g5⟩
  have g5' : Gw w1 w5 := gw_drewL g5
  have HX := Lib.hid hx
  have NX := Lib.hid (show x.New w1.heap.size w5 from hnew)
  have G5 := Lib.hid (GR.out.trans g5')
  have R5 := Lib.hid ((g5'.block _ (Array.getElem?_eq_some_iff.1 HR.out).1).trans HR.out)
  have kt := And.intro (g5'.cell s3 (cell_lt s3)) (g5'.cell t3 (cell_lt t3))
  clear hx hnew g5
  obtain ⟨r0, r1, r2, r3, rf0, rf1, rf2, rf3⟩ := zero_atP R5.out
  go_wp2_with fail
  refine hK.out _ _ kt (fun hHeld => ?_)
  clear hK K
  try simp only [Act.put, List.setIfInBounds_toArray, List.set_cons_zero, List.set_cons_succ]
  refine wpAnyH_take (i := 14) (oi := { dst := some 25, op := _, type := _, pos := _, after := _, guard := _ }) (v := x.val) rfl (by kernel_rfl) (by kernel_rfl) (by kernel_rfl) (fun _ _ _ h => h) (Or.inl ⟨by rfl, ?_⟩) (by assumption) ?_
  · intro w hSw; obtain ⟨c3, d3⟩ := hSw; go_simp
  try simp only [Act.put, List.setIfInBounds_toArray, List.set_cons_zero, List.set_cons_succ]
  refine wpAnyH_take (i := 15) (oi := { dst := some 26, op := _, type := _, pos := _, after := _, guard := _ }) (v := .int .i64 cd) rfl (by kernel_rfl) (by kernel_rfl) (by kernel_rfl) (fun _ _ _ h => h) (Or.inl ⟨by rfl, ?_⟩) (by assumption) ?_
  · intro w hSw; obtain ⟨c3, d3⟩ := hSw; go_simp
  try simp only [Act.put, List.setIfInBounds_toArray, List.set_cons_zero, List.set_cons_succ]
  refine wpAnyH_ready (rs := [16]) (by kernel_rfl) (by simp) ?_
  refine AllReadyH.cons (o := { dst := none, op := _, type := _, pos := _, after := _, guard := _ }) rfl (fun K hK => ?_) AllReadyH.nil
  go_simp
  refine hK _ _ ⟨(far4 (fun e => HNE.out.1 e)).trans kt.1, (far4 (fun e => HNE.out.2 e)).trans kt.2⟩ (fun hHeld => ?_)
  clear hK K
  try simp only [Act.put, List.setIfInBounds_toArray, List.set_cons_zero, List.set_cons_succ]
  refine wpAnyH_take (i := 17) (oi := { dst := some 7, op := _, type := _, pos := _, after := _, guard := _ }) (v := .int .i64 cd) rfl (by kernel_rfl) (by kernel_rfl) (by kernel_rfl) (fun _ _ _ h => h) (Or.inl ⟨by rfl, ?_⟩) (by assumption) ?_
  · intro w hSw; obtain ⟨c3, d3⟩ := hSw; go_simp
  try simp only [Act.put, List.setIfInBounds_toArray, List.set_cons_zero, List.set_cons_succ]
  refine wpAnyH_done (by kernel_rfl) ?_ _
  go_wp2_with fail
  refine bodyPost_ret (v := .tuple #[x.val, .int .i64 cd]) (by simp [results, Tryd.results116, go_sem, r0, r1, r2, r3]) rfl ⟨x, rfl, ok_far NX.out.1 fun y hy => ?_, HX.out.trans HTT.out.symm, fun y hy => .inl (by have := (NX.out.2.2 y hy).1; have := GR.out.size; omega), by_fourP G5.out⟩
  have hne : y ≠ w.heap.size := by have := (NX.out.2.2 y hy).1; have := (Array.getElem?_eq_some_iff.1 HR.out).1; omega
  rw [Below.heap_setCell _ _ _ _ hne, Below.heap_setCell _ _ _ _ hne, Below.heap_setCell _ _ _ _ hne, Below.heap_setCell _ _ _ _ hne]

set_option maxRecDepth 100000 in
set_option maxHeartbeats 2000000 in
theorem ct_two (u : LB) (c x0 x1 : LK) (w : World) (b bc oc bk ok : Nat) (h : coAt w bc oc c) (hl : 1 < c.ks.length) (ha : c.a = some ⟨bk, ok, none⟩) (hx0 : coAt w bk ok x0) (hx1 : coAt w bk (ok + 4) x1) : Calls Tryd.prog 116 #[.pointer (some ⟨b, 0, none⟩), .pointer (some ⟨bc, oc, none⟩), .int .i64 2] w (CtP w (fun _ => False) 0 (.mk 2 (opV c.v x0.v x1.v) [] [])) := by
  have HR := Lib.hid (heap_alloc_new w (.cells #[.int .i64 0, .int .i64 0, .slice none 0 0, .slice none 0 0] 30))
  have GR := Lib.hid ((Gw.refl w).alloc (.cells #[.int .i64 0, .int .i64 0, .slice none 0 0, .slice none 0 0] 30))
  have HLT := Lib.hid (show bc < w.heap.size ∧ bk < w.heap.size from ⟨cell_lt h.c.1, cell_lt hx0.c.1⟩)
  have s0 := h.grow GR.out
  have z0 := hx0.grow GR.out
  have y0 := hx1.grow GR.out
  have KNH := Lib.hid (fun (w1 : World) => spec_leafN (opV c.v x0.v x1.v) w1.drew (opV_in _ _ _))
  have i0 : (0 : Int) < c.ks.length := by omega
  have n0 : ¬ c.ks = [] := fun e => by rw [e] at i0; simp at i0
  have i1 : (1 : Int) < c.ks.length := by omega
  have HNE := Lib.hid (show bc ≠ w.heap.size ∧ bk ≠ w.heap.size from ⟨by have := HLT.out; omega, by have := HLT.out; omega⟩)
  obtain ⟨_, s1, _, s3⟩ := s0.c
  obtain ⟨_, t1, _, t3⟩ := z0.c
  obtain ⟨_, v1, _, _⟩ := y0.c
  rw [ha] at s3
  clear h hl ha hx0 hx1 s0 z0 y0
  go_enter Tryd.func116, Tryd.ntmps116
  go_upto_region 1 with (fail)
  generalize w.alloc (.cells #[.int .i64 0, .int .i64 0, .slice none 0 0, .slice none 0 0] 30) = w1 at *
  have KN := Lib.hid (KNH.out w1)
  go_wp2_with fail
  go_upto_region 5 with (fail)
  refine wp_region_held_drew (S := fun W => W.cell? ⟨bc, oc + 1, none⟩ = some (.int .i64 c.v) ∧ W.cell? ⟨bc, oc + 3, none⟩ = some (.slice (some ⟨bk, ok, none⟩) c.ks.length c.cap) ∧ W.cell? ⟨bk, ok + 1, none⟩ = some (.int .i64 x0.v) ∧ W.cell? ⟨bk, ok + 3, none⟩ = some (.slice x0.a x0.ks.length x0.cap) ∧ W.cell? ⟨bk, ok + 4 + 1, none⟩ = some (.int .i64 x1.v)) (by kernel_rfl) ?_ (fun hHeld => ?_)
  · exact ⟨s1, s3, t1, t3, v1⟩
  refine wpAnyH_take (i := 0) (oi := { dst := some 29, op := _, type := _, pos := _, after := _, guard := _ }) (v := .pointer (some ⟨bc, oc, none⟩)) rfl (by kernel_rfl) (by kernel_rfl) (by kernel_rfl) (fun _ _ _ h => h) (Or.inl ⟨by rfl, ?_⟩) (by assumption) ?_
  · intro w hSw; obtain ⟨c1, c3, d1, d3, f1⟩ := hSw; go_simp
  try simp only [Act.put, List.setIfInBounds_toArray, List.set_cons_zero, List.set_cons_succ]
  refine wpAnyH_take (i := 1) (oi := { dst := some 30, op := _, type := _, pos := _, after := _, guard := _ }) (v := .pointer (some ⟨bc, oc, none⟩)) rfl (by kernel_rfl) (by kernel_rfl) (by kernel_rfl) (fun _ _ _ h => h) (Or.inl ⟨by rfl, ?_⟩) (by assumption) ?_
  · intro w hSw; obtain ⟨c1, c3, d1, d3, f1⟩ := hSw; go_simp
  try simp only [Act.put, List.setIfInBounds_toArray, List.set_cons_zero, List.set_cons_succ]
  refine wpAnyH_take (i := 2) (oi := { dst := some 31, op := _, type := _, pos := _, after := _, guard := _ }) (v := .pointer (some ⟨bc, oc + 1, none⟩)) rfl (by kernel_rfl) (by kernel_rfl) (by kernel_rfl) (fun _ _ _ h => h) (Or.inl ⟨by rfl, ?_⟩) (by assumption) ?_
  · intro w hSw; obtain ⟨c1, c3, d1, d3, f1⟩ := hSw; go_simp
  try simp only [Act.put, List.setIfInBounds_toArray, List.set_cons_zero, List.set_cons_succ]
  refine wpAnyH_take (i := 3) (oi := { dst := some 32, op := _, type := _, pos := _, after := _, guard := _ }) (v := .int .i64 c.v) rfl (by kernel_rfl) (by kernel_rfl) (by kernel_rfl) (fun _ _ _ h => h) (Or.inl ⟨by rfl, ?_⟩) (by assumption) ?_
  · intro w hSw; obtain ⟨c1, c3, d1, d3, f1⟩ := hSw; go_simp
  try simp only [Act.put, List.setIfInBounds_toArray, List.set_cons_zero, List.set_cons_succ]
  refine wpAnyH_take (i := 4) (oi := { dst := some 33, op := _, type := _, pos := _, after := _, guard := _ }) (v := .pointer (some ⟨bc, oc, none⟩)) rfl (by kernel_rfl) (by kernel_rfl) (by kernel_rfl) (fun _ _ _ h => h) (Or.inl ⟨by rfl, ?_⟩) (by assumption) ?_
  · intro w hSw; obtain ⟨c1, c3, d1, d3, f1⟩ := hSw; go_simp
  try simp only [Act.put, List.setIfInBounds_toArray, List.set_cons_zero, List.set_cons_succ]
  refine wpAnyH_take (i := 5) (oi := { dst := some 34, op := _, type := _, pos := _, after := _, guard := _ }) (v := .pointer (some ⟨bc, oc, none⟩)) rfl (by kernel_rfl) (by kernel_rfl) (by kernel_rfl) (fun _ _ _ h => h) (Or.inl ⟨by rfl, ?_⟩) (by assumption) ?_
  · intro w hSw; obtain ⟨c1, c3, d1, d3, f1⟩ := hSw; go_simp
  try simp only [Act.put, List.setIfInBounds_toArray, List.set_cons_zero, List.set_cons_succ]
  refine wpAnyH_take (i := 6) (oi := { dst := some 35, op := _, type := _, pos := _, after := _, guard := _ }) (v := .pointer (some ⟨bc, oc + 3, none⟩)) rfl (by kernel_rfl) (by kernel_rfl) (by kernel_rfl) (fun _ _ _ h => h) (Or.inl ⟨by rfl, ?_⟩) (by assumption) ?_
  · intro w hSw; obtain ⟨c1, c3, d1, d3, f1⟩ := hSw; go_simp
  try simp only [Act.put, List.setIfInBounds_toArray, List.set_cons_zero, List.set_cons_succ]
  refine wpAnyH_take (i := 7) (oi := { dst := some 36, op := _, type := _, pos := _, after := _, guard := _ }) (v := .slice (some ⟨bk, ok, none⟩) c.ks.length c.cap) rfl (by kernel_rfl) (by kernel_rfl) (by kernel_rfl) (fun _ _ _ h => h) (Or.inl ⟨by rfl, ?_⟩) (by assumption) ?_
  · intro w hSw; obtain ⟨c1, c3, d1, d3, f1⟩ := hSw; go_simp
  try simp only [Act.put, List.setIfInBounds_toArray, List.set_cons_zero, List.set_cons_succ]
  refine wpAnyH_take (i := 8) (oi := { dst := some 37, op := _, type := _, pos := _, after := _, guard := _ }) (v := .pointer (some ⟨bk, ok, none⟩)) rfl (by kernel_rfl) (by kernel_rfl) (by kernel_rfl) (fun _ _ _ h => h) (Or.inl ⟨by rfl, ?_⟩) (by assumption) ?_
  · intro w hSw; obtain ⟨c1, c3, d1, d3, f1⟩ := hSw; go_simp
  try simp only [Act.put, List.setIfInBounds_toArray, List.set_cons_zero, List.set_cons_succ]
  refine wpAnyH_take (i := 9) (oi := { dst := some 38, op := _, type := _, pos := _, after := _, guard := _ }) (v := .pointer (some ⟨bk, ok + 1, none⟩)) rfl (by kernel_rfl) (by kernel_rfl) (by kernel_rfl) (fun _ _ _ h => h) (Or.inl ⟨by rfl, ?_⟩) (by assumption) ?_
  · intro w hSw; obtain ⟨c1, c3, d1, d3, f1⟩ := hSw; go_simp
  try simp only [Act.put, List.setIfInBounds_toArray, List.set_cons_zero, List.set_cons_succ]
  refine wpAnyH_take (i := 10) (oi := { dst := some 39, op := _, type := _, pos := _, after := _, guard := _ }) (v := .int .i64 x0.v) rfl (by kernel_rfl) (by kernel_rfl) (by kernel_rfl) (fun _ _ _ h => h) (Or.inl ⟨by rfl, ?_⟩) (by assumption) ?_
  · intro w hSw; obtain ⟨c1, c3, d1, d3, f1⟩ := hSw; go_simp
  try simp only [Act.put, List.setIfInBounds_toArray, List.set_cons_zero, List.set_cons_succ]
  refine wpAnyH_take (i := 11) (oi := { dst := some 40, op := _, type := _, pos := _, after := _, guard := _ }) (v := .pointer (some ⟨bc, oc, none⟩)) rfl (by kernel_rfl) (by kernel_rfl) (by kernel_rfl) (fun _ _ _ h => h) (Or.inl ⟨by rfl, ?_⟩) (by assumption) ?_
  · intro w hSw; obtain ⟨c1, c3, d1, d3, f1⟩ := hSw; go_simp
  try simp only [Act.put, List.setIfInBounds_toArray, List.set_cons_zero, List.set_cons_succ]
  refine wpAnyH_take (i := 12) (oi := { dst := some 41, op := _, type := _, pos := _, after := _, guard := _ }) (v := .pointer (some ⟨bc, oc, none⟩)) rfl (by kernel_rfl) (by kernel_rfl) (by kernel_rfl) (fun _ _ _ h => h) (Or.inl ⟨by rfl, ?_⟩) (by assumption) ?_
  · intro w hSw; obtain ⟨c1, c3, d1, d3, f1⟩ := hSw; go_simp
  try simp only [Act.put, List.setIfInBounds_toArray, List.set_cons_zero, List.set_cons_succ]
  refine wpAnyH_take (i := 13) (oi := { dst := some 42, op := _, type := _, pos := _, after := _, guard := _ }) (v := .pointer (some ⟨bc, oc + 3, none⟩)) rfl (by kernel_rfl) (by kernel_rfl) (by kernel_rfl) (fun _ _ _ h => h) (Or.inl ⟨by rfl, ?_⟩) (by assumption) ?_
  · intro w hSw; obtain ⟨c1, c3, d1, d3, f1⟩ := hSw; go_simp
  try simp only [Act.put, List.setIfInBounds_toArray, List.set_cons_zero, List.set_cons_succ]
  refine wpAnyH_take (i := 14) (oi := { dst := some 43, op := _, type := _, pos := _, after := _, guard := _ }) (v := .slice (some ⟨bk, ok, none⟩) c.ks.length c.cap) rfl (by kernel_rfl) (by kernel_rfl) (by kernel_rfl) (fun _ _ _ h => h) (Or.inl ⟨by rfl, ?_⟩) (by assumption) ?_
  · intro w hSw; obtain ⟨c1, c3, d1, d3, f1⟩ := hSw; go_simp
  try simp only [Act.put, List.setIfInBounds_toArray, List.set_cons_zero, List.set_cons_succ]
  refine wpAnyH_take (i := 15) (oi := { dst := some 44, op := _, type := _, pos := _, after := _, guard := _ }) (v := .pointer (some ⟨bk, ok + 4, none⟩)) rfl (by kernel_rfl) (by kernel_rfl) (by kernel_rfl) (fun _ _ _ h => h) (Or.inl ⟨by rfl, ?_⟩) (by assumption) ?_
  · intro w hSw; obtain ⟨c1, c3, d1, d3, f1⟩ := hSw; go_simp
  try simp only [Act.put, List.setIfInBounds_toArray, List.set_cons_zero, List.set_cons_succ]
  refine wpAnyH_take (i := 16) (oi := { dst := some 45, op := _, type := _, pos := _, after := _, guard := _ }) (v := .pointer (some ⟨bk, ok + 4 + 1, none⟩)) rfl (by kernel_rfl) (by kernel_rfl) (by kernel_rfl) (fun _ _ _ h => h) (Or.inl ⟨by rfl, ?_⟩) (by assumption) ?_
  · intro w hSw; obtain ⟨c1, c3, d1, d3, f1⟩ := hSw; go_simp
  try simp only [Act.put, List.setIfInBounds_toArray, List.set_cons_zero, List.set_cons_succ]
  refine wpAnyH_take (i := 17) (oi := { dst := some 46, op := _, type := _, pos := _, after := _, guard := _ }) (v := .int .i64 x1.v) rfl (by kernel_rfl) (by kernel_rfl) (by kernel_rfl) (fun _ _ _ h => h) (Or.inl ⟨by rfl, ?_⟩) (by assumption) ?_
  · intro w hSw; obtain ⟨c1, c3, d1, d3, f1⟩ := hSw; go_simp
  try simp only [Act.put, List.setIfInBounds_toArray, List.set_cons_zero, List.set_cons_succ]
  refine wpAnyH_ready (rs := [18]) (by kernel_rfl) (by simp) ?_
  refine AllReadyH.cons (o := { dst := some 47, op := _, type := _, pos := _, after := _, guard := _ }) rfl (fun K hK => ?_) AllReadyH.nil
  go_simp
  go_at_call 126
  refine (spec_operate _ _ _ _).mono ?_
  rintro e w5 ⟨rfl, rfl⟩
  go_wp2_with fail
  refine hK.out _ _ ⟨s1, s3, t1, t3, v1⟩ (fun hHeld => ?_)
  clear hK K
  try simp only [Act.put, List.setIfInBounds_toArray, List.set_cons_zero, List.set_cons_succ]
  refine wpAnyH_ready (rs := [19]) (by kernel_rfl) (by simp) ?_
  refine AllReadyH.cons (o := { dst := some 48, op := _, type := _, pos := _, after := _, guard := _ }) rfl (fun K hK => ?_) AllReadyH.nil
  go_simp
  go_at_call 125
  refine KN.out.mono ?_
  rintro e w5 ⟨x, rfl, hok, hx, hbl, g5⟩
  have g5' : Gw w1 w5 := gw_drewL g5
  have HX := Lib.hid hx
  have NX := Lib.hid (And.intro hok hbl)
  have G5 := Lib.hid (GR.out.trans g5')
  have R5 := Lib.hid ((g5'.block _ (Array.getElem?_eq_some_iff.1 HR.out).1).trans HR.out)
  have kt : (g5'.cell s1 (cell_lt s1)) = (g5'.cell s1 (cell_lt s1)) := rfl
  have k1 := g5'.cell s1 (cell_lt s1)
  have k2 := g5'.cell s3 (cell_lt s3)
  have k3 := g5'.cell t1 (cell_lt t1)
  have k4 := g5'.cell t3 (cell_lt t3)
  have k5 := g5'.cell v1 (cell_lt v1)
  clear hx hok hbl g5 kt
  obtain ⟨r0, r1, r2, r3, rf0, rf1, rf2, rf3⟩ := zero_atP R5.out
  go_wp2_with fail
  refine hK.out _ _ ⟨k1, k2, k3, k4, k5⟩ (fun hHeld => ?_)
  clear hK K
  try simp only [Act.put, List.setIfInBounds_toArray, List.set_cons_zero, List.set_cons_succ]
  refine wpAnyH_ready (rs := [20]) (by kernel_rfl) (by simp) ?_
  refine AllReadyH.cons (o := { dst := none, op := _, type := _, pos := _, after := _, guard := _ }) rfl (fun K hK => ?_) AllReadyH.nil
  go_simp
  refine hK _ _ ⟨(far4 HNE.out.1).trans k1, (far4 HNE.out.1).trans k2, (far4 HNE.out.2).trans k3, (far4 HNE.out.2).trans k4, (far4 HNE.out.2).trans k5⟩ (fun hHeld => ?_)
  clear hK K
  try simp only [Act.put, List.setIfInBounds_toArray, List.set_cons_zero, List.set_cons_succ]
  refine wpAnyH_take (i := 21) (oi := { dst := some 7, op := _, type := _, pos := _, after := _, guard := _ }) (v := .int .i64 0) rfl (by kernel_rfl) (by kernel_rfl) (by kernel_rfl) (fun _ _ _ h => h) (Or.inl ⟨by rfl, ?_⟩) (by assumption) ?_
  · intro w hSw; obtain ⟨c1, c3, d1, d3, f1⟩ := hSw; go_simp
  try simp only [Act.put, List.setIfInBounds_toArray, List.set_cons_zero, List.set_cons_succ]
  refine wpAnyH_done (by kernel_rfl) ?_ _
  go_wp2_with fail
  refine bodyPost_ret (v := .tuple #[x.val, .int .i64 0]) (by simp [results, Tryd.results116, go_sem, r0, r1, r2, r3]) rfl ⟨x, rfl, ok_far NX.out.1 fun y hy => ?_, HX.out, fun y hy => .inl (by have := (NX.out.2 y hy).resolve_right id; have := GR.out.size; have h1 : w1.drew.heap.size = w1.heap.size := rfl; omega), by_fourP G5.out⟩
  have hne : y ≠ w.heap.size := by have := (NX.out.2 y hy).resolve_right id; have := (Array.getElem?_eq_some_iff.1 HR.out).1; have h1 : w1.drew.heap.size = w1.heap.size := rfl; omega
  rw [Below.heap_setCell _ _ _ _ hne, Below.heap_setCell _ _ _ _ hne, Below.heap_setCell _ _ _ _ hne, Below.heap_setCell _ _ _ _ hne]

set_option maxRecDepth 100000 in
set_option maxHeartbeats 1000000 in
theorem ct_three (u : LB) (c x0 : LK) (w : World) (b bc oc bk ok : Nat) (h : coAt w bc oc c) (hl : 0 < c.ks.length) (ha : c.a = some ⟨bk, ok, none⟩) (hx0 : coAt w bk ok x0) (hh : headC c.k c.v c.ds c.ks.length = true) (hk : c.k = 10 ∨ (c.k = 9 ∧ 0 ≤ (c.co.ks.getD 0 default).v ∧ (c.co.ks.getD 0 default).v < c.ds.length)) (hfl : x0.ks.length ≤ 1000) : Calls Tryd.prog 116 #[.pointer (some ⟨b, 0, none⟩), .pointer (some ⟨bc, oc, none⟩), .int .i64 3] w (CtP w (fun y => y ∈ nbl LK.bl x0.a x0.ks) 0 (chC c.co (x0.ks.map LK.co))) := by
  have HR := Lib.hid (heap_alloc_new w (.cells #[.int .i64 0, .int .i64 0, .slice none 0 0, .slice none 0 0] 30))
  have GR := Lib.hid ((Gw.refl w).alloc (.cells #[.int .i64 0, .int .i64 0, .slice none 0 0, .slice none 0 0] 30))
  have s0 := h.grow GR.out
  have z0 := hx0.grow GR.out
  have KCH := Lib.hid (fun (w1 : World) (g : Gw w w1) => spec_chosen c w1 bc oc x0.a x0.cap x0.ks (h.grow g) hh (hx0.grow g).2.kids hk hfl)
  have HA := Lib.hid (show ∀ y, y ∈ nbl LK.bl x0.a x0.ks → y < w.heap.size from sl_bl_lt hx0.2.kids)
  have i0 : (0 : Int) < c.ks.length := by omega
  have n0 : ¬ c.ks = [] := fun e => by rw [e] at i0; simp at i0
  obtain ⟨_, _, _, s3⟩ := s0.c
  obtain ⟨_, _, _, t3⟩ := z0.c
  rw [ha] at s3
  clear h hl ha hx0 hh hk hfl s0 z0
  go_enter Tryd.func116, Tryd.ntmps116
  go_upto_region 1 with (fail)
  generalize w.alloc (.cells #[.int .i64 0, .int .i64 0, .slice none 0 0, .slice none 0 0] 30) = w1 at *
  have KC := Lib.hid (KCH.out w1 GR.out)
  go_wp2_with fail
  refine KC.out.mono ?_
  rintro e w5 ⟨x, rfl, hok, hx, hbl, g5⟩
  have HX := Lib.hid hx
  have NX := Lib.hid (And.intro hok hbl)
  have G5 := Lib.hid (GR.out.trans g5)
  have R5 := Lib.hid ((g5.block _ (Array.getElem?_eq_some_iff.1 HR.out).1).trans HR.out)
  clear hx hok hbl g5 KC
  obtain ⟨r0, r1, r2, r3, rf0, rf1, rf2, rf3⟩ := zero_atP R5.out
  go_wp2_with fail
  refine bodyPost_ret (v := .tuple #[x.val, .int .i64 0]) (by simp [results, Tryd.results116, go_sem, r0, r1, r2, r3]) rfl ⟨x, rfl, ok_far NX.out.1 fun y hy => ?_, HX.out, fun y hy => (NX.out.2 y hy).imp (fun h => by have := GR.out.size; omega) id, by_fourP G5.out⟩
  have hne : y ≠ w.heap.size := by have h1 := (Array.getElem?_eq_some_iff.1 HR.out).1; rcases NX.out.2 y hy with h | h; (omega); (have := HA.out y h; omega)
  rw [Below.heap_setCell _ _ _ _ hne, Below.heap_setCell _ _ _ _ hne, Below.heap_setCell _ _ _ _ hne, Below.heap_setCell _ _ _ _ hne]

set_option maxRecDepth 100000 in
set_option maxHeartbeats 1000000 in
theorem ct_four (u : LB) (c : LK) (w : World) (b bc oc bf of : Nat) (hu : bOk w u) (hB : BoxB w b u) (h : coAt w bc oc c) (ha : c.a = some ⟨bf, of, none⟩) (hfl : c.ks.length ≤ 1000) (hat : exAt c.co < c.ks.length) (hV0 : 0 ≤ (c.co.ks.getD (exAt c.co) default).v) (hV1 : (c.co.ks.getD (exAt c.co) default).v < u.ks.length) : Calls Tryd.prog 116 #[.pointer (some ⟨b, 0, none⟩), .pointer (some ⟨bc, oc, none⟩), .int .i64 4] w (CtP w (fun y => y ∈ c.bl ∨ y ∈ nbl LK.bl u.a u.ks ∨ y ∈ nbl LK.bl (some ⟨bf, of, none⟩) c.ks) 0 (exC u.cs c.co (c.ks.map LK.co))) := by
  have HR := Lib.hid (heap_alloc_new w (.cells #[.int .i64 0, .int .i64 0, .slice none 0 0, .slice none 0 0] 30))
  have GR := Lib.hid ((Gw.refl w).alloc (.cells #[.int .i64 0, .int .i64 0, .slice none 0 0, .slice none 0 0] 30))
  have s0 := h.grow GR.out
  have hsl : coSl w (some ⟨bf, of, none⟩) c.cap c.ks := by rw [← ha]; exact h.2.kids
  have KCH := Lib.hid (fun (w1 : World) (g : Gw w w1) => spec_expand u c w1 b bc oc bf of c.cap c.ks (hu.grow g) (hB.grow g) (h.grow g) (gSl.grow coLen coGr hsl g) hfl rfl hat hV0 hV1)
  have HA := Lib.hid (show ∀ y, (y ∈ c.bl ∨ y ∈ nbl LK.bl u.a u.ks ∨ y ∈ nbl LK.bl (some ⟨bf, of, none⟩) c.ks) → y < w.heap.size from fun y hy => hy.elim (ok_bl_lt c w h.2 y) (fun hy => hy.elim (sl_bl_lt hu y) (sl_bl_lt hsl y)))
  obtain ⟨_, _, _, s3⟩ := s0.c
  rw [ha] at s3
  clear h ha hu hB hfl hat hV0 hV1 hsl s0
  go_enter Tryd.func116, Tryd.ntmps116
  go_upto_region 1 with (fail)
  generalize w.alloc (.cells #[.int .i64 0, .int .i64 0, .slice none 0 0, .slice none 0 0] 30) = w1 at *
  have KC := Lib.hid (KCH.out w1 GR.out)
  go_wp2_with fail
  refine KC.out.mono ?_
  rintro e w5 ⟨x, rfl, hok, hx, hbl, g5⟩
  have HX := Lib.hid hx
  have NX := Lib.hid (And.intro hok hbl)
  have G5 := Lib.hid (GR.out.trans g5)
  have R5 := Lib.hid ((g5.block _ (Array.getElem?_eq_some_iff.1 HR.out).1).trans HR.out)
  clear hx hok hbl g5 KC
  obtain ⟨r0, r1, r2, r3, rf0, rf1, rf2, rf3⟩ := zero_atP R5.out
  go_wp2_with fail
  refine bodyPost_ret (v := .tuple #[x.val, .int .i64 0]) (by simp [results, Tryd.results116, go_sem, r0, r1, r2, r3]) rfl ⟨x, rfl, ok_far NX.out.1 fun y hy => ?_, HX.out, fun y hy => (NX.out.2 y hy).imp (fun h => by have := GR.out.size; omega) id, by_fourP G5.out⟩
  have hne : y ≠ w.heap.size := by have h1 := (Array.getElem?_eq_some_iff.1 HR.out).1; rcases NX.out.2 y hy with h | h; (omega); (have := HA.out y h; omega)
  rw [Below.heap_setCell _ _ _ _ hne, Below.heap_setCell _ _ _ _ hne, Below.heap_setCell _ _ _ _ hne, Below.heap_setCell _ _ _ _ hne]

end Go.Proofs.YtfbgkbgoooepmaaDoor.Con
