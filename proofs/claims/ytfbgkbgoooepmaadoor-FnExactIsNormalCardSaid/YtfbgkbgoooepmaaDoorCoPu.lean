/-
  Contract of the model's l06Put. Condition: the core terms lie in memory and their nodes fit their kinds.
-/
import Derived.Test.YtfbgkbgoooepmaaDoorCoPp
namespace Go.Proofs.YtfbgkbgoooepmaaDoor.Con
open Go.RowKit
set_option linter.unusedVariables false
attribute [local go_sem ↓] Go.wp_at_zero Go.wp_at_succ

theorem zero_atP {w2 : World} {R : Nat} (h : w2.heap[R]? = some (.cells #[.int .i64 0, .int .i64 0, .slice none 0 0, .slice none 0 0] 30 (0, 0))) :
    w2.cell? ⟨R, 0, none⟩ = some (.int .i64 0) ∧ w2.cell? ⟨R, 1, none⟩ = some (.int .i64 0) ∧ w2.cell? ⟨R, 2, none⟩ = some (.slice none 0 0) ∧ w2.cell? ⟨R, 3, none⟩ = some (.slice none 0 0) ∧
    w2.frozen? ⟨R, 0, none⟩ = false ∧ w2.frozen? ⟨R, 1, none⟩ = false ∧ w2.frozen? ⟨R, 2, none⟩ = false ∧ w2.frozen? ⟨R, 3, none⟩ = false :=
  ⟨cell_of_row _ _ 0 _ _ _ h, cell_of_row _ _ 1 _ _ _ h, cell_of_row _ _ 2 _ _ _ h, cell_of_row _ _ 3 _ _ _ h, by simp [World.frozen?, h], by simp [World.frozen?, h], by simp [World.frozen?, h], by simp [World.frozen?, h]⟩
theorem by_fourP {w w2 : World} (h : Gw w w2) {x0 x1 x2 x3 : Value} : Gw w ((((w2.setCell ⟨w.heap.size, 0, none⟩ x0).setCell ⟨w.heap.size, 1, none⟩ x1).setCell ⟨w.heap.size, 2, none⟩ x2).setCell ⟨w.heap.size, 3, none⟩ x3) :=
  (((Below.setCell h (Nat.le_refl _) _).setCell (Nat.le_refl _) _).setCell (Nat.le_refl _) _).setCell (Nat.le_refl _) _
theorem zeV_newP (B : Nat) (w : World) (Y : Int) (h : cin64 Y) : (LK.mk 1 Y none 0 [] none 0 []).New B w := LK.new_mk (B := B) (B1 := B) (B2 := B) (by unfold cin64; omega) h ⟨⟨Nat.le_refl _, Nat.zero_le _, .inl rfl⟩, by simp [nbl], fun b hb => by simp [nbl] at hb⟩ (coNew_nil B w) (fun b hb => by simp [nbl] at hb) (Nat.le_refl _) (Nat.le_refl _)

def KPu (u : LK) : Prop := ∀ (w : World) (b o ab ao : Nat) (a : LK) (d : Int), coAt w b o u → coAt w ab ao a → u.co.all headC = true → a.co.all headC = true ∧ a.co.dp ≤ 1000 → 0 ≤ d → d + u.co.dp ≤ 900 → Calls Tryd.prog 110 #[.pointer (some ⟨b, o, none⟩), .pointer (some ⟨ab, ao, none⟩), .int .i64 d] w (NwP w (u.co.pu a.co d))

/-- The state of l06Put's loop: R the result's block, T the one of the node that is built. -/
def PuRel (w : World) (u : LK) (V : Int) (L : List Co) (da : Option Addr) (dc R T Bk : Nat) (i : Value) (wr : World) : Prop := ∃ (us : List LK) (v : Value), i = .int .i64 us.length ∧ us.length ≤ u.ks.length ∧ us.map LK.co = L.take us.length ∧ gApp 30 4 coE LK.Ok LK.bl Bk wr v us ∧
  wr.heap[R]? = some (.cells #[.int .i64 0, .int .i64 0, .slice none 0 0, .slice none 0 0] 30 (0, 0)) ∧ wr.heap[T]? = some (.cells #[.int .i64 u.k, .int .i64 V, .slice da u.ds.length dc, v] 30 (0, 0)) ∧ numNew (R + 1) wr da dc u.ds ∧ Gw w wr ∧ Bk ≤ wr.heap.size

theorem pu_next {w wr w1 w2 : World} {u x : LK} {V : Int} {L : List Co} {da : Option Addr} {dc R T Bk : Nat} {us : List LK} {va : Option Addr} {vc g cap : Nat} {O : Obj} (HT : us.map LK.co = L.take us.length) (HA : gApp 30 4 coE LK.Ok LK.bl Bk wr (.slice va us.length vc) us)
    (hR : wr.heap[R]? = some (.cells #[.int .i64 0, .int .i64 0, .slice none 0 0, .slice none 0 0] 30 (0, 0))) (hT : wr.heap[T]? = some (.cells #[.int .i64 u.k, .int .i64 V, .slice da u.ds.length dc, .slice va us.length vc] 30 (0, 0)))
    (hD : numNew (R + 1) wr da dc u.ds) (hDT : ∀ y ∈ nbl nB da u.ds, y < Bk ∧ y ≠ T) (hRT : R < Bk ∧ R ≠ T) (hTB : w.heap.size ≤ T ∧ T < Bk) (hBw : w.heap.size ≤ Bk ∧ Bk ≤ wr.heap.size) (hg : Gw w wr) (hlt : us.length < u.ks.length) (hg1 : Gw wr w1) (HU : L[us.length]? = some x.co) (HN : x.New wr.heap.size w1)
    (HO : w2.ownsRow Bk 30 4 (.slice (some ⟨g, 0, none⟩) (us.length + 1) cap) (us.length + 1) (us.flatMap coE ++ [.int .i64 x.k, .int .i64 x.v, .slice x.da x.ds.length x.dc, .slice x.a x.ks.length x.cap])) (HG : (w1.alloc O).grownBy w2 (Value.slice va us.length vc).ownBlock)
    (HAT : (Value.slice va us.length vc).ownBlock = some g ∨ g = (w1.alloc O).heap.size) : PuRel w u V L da dc R T Bk (.int .i64 (us.length + 1)) (w2.setCell ⟨T, 3, none⟩ (.slice (some ⟨g, 0, none⟩) (us.length + 1) cap)) := by
  have hs := hg1.size
  have hgA : Gw wr (w1.alloc O) := hg1.alloc O
  have hv : ∀ y, (Value.slice va us.length vc).ownBlock = some y → Bk ≤ y := fun y hy => (HA.1.lt y hy).1
  have key : ∀ b, b < Bk → w2.heap[b]? = wr.heap[b]? := fun b h => (HG.block b (by simp; omega) (fun e => by have := hv b e.symm; omega)).trans (hgA.block b (by omega))
  have hnx : x.New wr.heap.size (w1.alloc O) := HN.grow coGr ((Below.refl _ _).alloc (Nat.le_refl _) _)
  have hA2 := gApp.push (g := g) coGr coFr HA hgA hnx (Nat.le_refl _) (by omega) (show w2.ownsRow Bk 30 4 (.slice (some ⟨g, 0, none⟩) (us.length + 1) cap) (us.length + 1) (us.flatMap coE ++ coE x) from HO) rfl HG (HAT.imp id (fun e => by omega))
  have hfar : ∀ b, b ≠ T → (w2.setCell ⟨T, 3, none⟩ (.slice (some ⟨g, 0, none⟩) (us.length + 1) cap)).heap[b]? = w2.heap[b]? := fun b hb => Below.heap_setCell _ _ _ _ hb
  have hgB : Below w.heap.size w w2 := Below.trans hg ⟨HG.os.trans hgA.os, HG.tape.trans hgA.tape, HG.output.trans hgA.output, Nat.le_trans hgA.size HG.size, fun b hb => key b (by omega)⟩
  refine ⟨us ++ [x], .slice (some ⟨g, 0, none⟩) (us.length + 1) cap, by rw [List.length_append]; rfl, by rw [List.length_append, List.length_singleton]; omega, ?_, ?_, ?_, ?_, ?_, ?_⟩
  · have h2 := (List.getElem?_eq_some_iff.1 HU).1
    have h3 := (List.getElem?_eq_some_iff.1 HU).2
    rw [List.length_append, List.length_singleton, List.take_succ_eq_append_getElem h2, List.map_append, HT, h3]; rfl
  · refine hA2.far coFr _ (fun hm => ?_) (fun e => ?_) _
    · have := (hA2.2.2.2 _ hm).1; simp at this; omega
    · have := (hA2.1.lt _ e).1; simp at this; omega
  · rw [hfar _ hRT.2, key _ hRT.1]; exact hR
  · have := (key T hTB.2).trans hT
    simp [World.setCell, Array.getElem?_modify, this]
  · exact gNewSl.same (by decide) nLen nFr hD fun y hy => by have := hDT y hy; rw [hfar _ this.2, key _ this.1]
  · exact ⟨Below.setCell hgB hTB.1 _, by have h1 := HG.size; have h2 := hgA.size; simp only [World.setCell, Array.size_modify]; omega⟩

set_option maxRecDepth 100000 in
set_option maxHeartbeats 4000000 in
theorem pu_of (u : LK) (ih : ∀ t ∈ u.ks, KPu t) : KPu u := by
  intro w b o ab ao a d h ha0 hok hak hd0 hd1
  obtain ⟨i0, hi, hz0, hz1, hz2⟩ := info_parts infoK
  have HI := Lib.hid hi
  have HZ0 := Lib.hid hz0
  have HZ1 := Lib.hid hz1
  have HZ2 := Lib.hid hz2
  clear hi hz0 hz1 hz2
  have hH := head_of hok
  obtain ⟨s1, s2, s3, s4⟩ := headC_sm hH
  have HOK := Lib.hid hok
  have HAK := Lib.hid hak
  have A := Lib.hid h
  have AA := Lib.hid ha0
  have hdpa := Co.dp_pos u.co
  have hll := h.2.kl
  have gR := (Gw.refl w).alloc (.cells #[.int .i64 0, .int .i64 0, .slice none 0 0, .slice none 0 0] 30)
  have hR := heap_alloc_new w (.cells #[.int .i64 0, .int .i64 0, .slice none 0 0, .slice none 0 0] 30)
  have A1 := Lib.hid (h.grow gR)
  have AA1 := Lib.hid (ha0.grow gR)
  have GR := Lib.hid gR
  have HR := Lib.hid hR
  have LD := Lib.hid (show u.ds.length ≤ 1000000 by omega)
  have DB := Lib.hid (numSl.bd h.2.dat)
  have PQ := Lib.hid (pu_eq u.co a.co d)
  clear h ha0 hok hak gR hR
  go_enter Tryd.func110, Tryd.ntmps110
  go_upto_region 1 with (fail)
  generalize w.alloc (.cells #[.int .i64 0, .int .i64 0, .slice none 0 0, .slice none 0 0] 30) = w1 at *
  obtain ⟨p0, p1, p2, p3⟩ := A1.out.c
  have lA := A1.out.lt
  have HR1 := Lib.hid (Array.getElem?_eq_some_iff.1 HR.out).1
  have HWS := Lib.hid (show w.heap.size ≤ w1.heap.size from GR.out.size)
  by_cases h1 : u.k = 1
  · have hv := headC_var (by have := hH; rwa [h1] at this)
    have q1 : (u.k == 1) = true := by simpa using h1
    by_cases h2 : u.v = d
    · have q2 : (u.v == d) = true := by simpa using h2
      have F := Lib.hid (show u.co.pu a.co d = a.co.sh d 0 by rw [PQ.out, u.co_k, u.co_v, if_pos h1, if_pos h2])
      have SH := Lib.hid (sh_all a w1 ab ao d 0 AA1.out HAK.out.1 (by omega) (by omega) (by omega) (by have := HAK.out.2; omega))
      clear h1 h2 hv hH
      go_wp2_with fail
      refine SH.out.mono ?_
      rintro e w2 ⟨x, rfl, hx, nx, g2⟩
      have HX := Lib.hid hx
      have NX := Lib.hid nx
      have G2 := Lib.hid (GR.out.trans g2)
      have R2 := Lib.hid ((g2.block _ HR1.out).trans HR.out)
      clear hx nx g2 p0 p1 p2 p3 SH
      obtain ⟨r0, r1, r2, r3, rf0, rf1, rf2, rf3⟩ := zero_atP R2.out
      go_wp2_with fail
      refine bodyPost_ret (v := x.val) (by simp [results, Tryd.results110, go_sem, r0, r1, r2, r3]) rfl ⟨x, rfl, by rw [F.out, HX.out], ?_, by_fourP G2.out⟩
      refine (gNew.same coFr NX.out fun y hy => ?_).mono (by have := HWS.out; omega)
      have := (NX.out.2.2 y hy).1
      have := HR1.out
      rw [Below.heap_setCell _ _ _ _ (by simp; omega), Below.heap_setCell _ _ _ _ (by simp; omega), Below.heap_setCell _ _ _ _ (by simp; omega), Below.heap_setCell _ _ _ _ (by simp; omega)]
    · have q2 : (u.v == d) = false := by simpa using h2
      have F := Lib.hid (show u.co.pu a.co d = .mk 1 (if d < u.v then u.v - 1 else u.v) [] [] by rw [PQ.out, u.co_k, u.co_v, if_pos h1, if_neg h2])
      have HVV := Lib.hid (show 0 ≤ u.v ∧ u.v ≤ 255 from hv.2.2)
      clear h1 h2 hv hH
      obtain ⟨r0, r1, r2, r3, rf0, rf1, rf2, rf3⟩ := zero_atP HR.out
      have lR := HR1.out
      by_cases h3 : d < u.v
      · have q3 := decide_eq_true h3
        have w4 : IntKind.i64.wrap (u.v - 1) = u.v - 1 := by have := HVV.out; unfold IntKind.wrap; simp [IntKind.signed, IntKind.bits]; omega
        have E3 := Lib.hid (show (if d < u.v then u.v - 1 else u.v) = u.v - 1 from if_pos h3)
        clear h3
        have GT := Lib.hid (GR.out.alloc (.cells #[.int .i64 1, .int .i64 (u.v - 1), .slice none 0 0, .slice none 0 0] 30))
        have HTT := Lib.hid (heap_alloc_new w1 (.cells #[.int .i64 1, .int .i64 (u.v - 1), .slice none 0 0, .slice none 0 0] 30))
        have HR2 := Lib.hid ((Below.heap_alloc w1 (.cells #[.int .i64 1, .int .i64 (u.v - 1), .slice none 0 0, .slice none 0 0] 30) _ lR).trans HR.out)
        clear r0 r1 r2 r3 rf0 rf1 rf2 rf3
        go_upto_region 7 with (fail)
        obtain ⟨T, hTe⟩ : ∃ T, T = w1.heap.size := ⟨_, rfl⟩
        have HTR := Lib.hid (show w.heap.size ≠ T by omega)
        rw [← hTe] at HTT
        rw [← hTe]
        clear p0 p1 p2 p3 lR hTe
        generalize w1.alloc (.cells #[.int .i64 1, .int .i64 (u.v - 1), .slice none 0 0, .slice none 0 0] 30) = w2 at *
        obtain ⟨r0, r1, r2, r3, rf0, rf1, rf2, rf3⟩ := zero_atP HR2.out
        have t0 : w2.cell? ⟨T, 0, none⟩ = some (.int .i64 1) := cell_of_row _ _ 0 _ _ _ HTT.out
        have t1 : w2.cell? ⟨T, 1, none⟩ = some (.int .i64 (u.v - 1)) := cell_of_row _ _ 1 _ _ _ HTT.out
        have t2 : w2.cell? ⟨T, 2, none⟩ = some (.slice none 0 0) := cell_of_row _ _ 2 _ _ _ HTT.out
        have t3 : w2.cell? ⟨T, 3, none⟩ = some (.slice none 0 0) := cell_of_row _ _ 3 _ _ _ HTT.out
        go_wp2_with fail
        refine bodyPost_ret (v := (LK.mk 1 (u.v - 1) none 0 [] none 0 []).val) (by simp [results, Tryd.results110, go_sem, r0, r1, r2, r3]; try exact ⟨rfl, rfl, ⟨rfl, rfl, rfl⟩, rfl, rfl, rfl⟩) rfl ⟨.mk 1 (u.v - 1) none 0 [] none 0 [], rfl, by rw [F.out, E3.out]; rfl, zeV_newP _ _ _ (by unfold cin64; have := HVV.out; omega), by_fourP GT.out⟩
      · have q3 := decide_eq_false h3
        have E3 := Lib.hid (show (if d < u.v then u.v - 1 else u.v) = u.v from if_neg h3)
        clear h3
        have GT := Lib.hid (GR.out.alloc (.cells #[.int .i64 1, .int .i64 (u.v), .slice none 0 0, .slice none 0 0] 30))
        have HTT := Lib.hid (heap_alloc_new w1 (.cells #[.int .i64 1, .int .i64 (u.v), .slice none 0 0, .slice none 0 0] 30))
        have HR2 := Lib.hid ((Below.heap_alloc w1 (.cells #[.int .i64 1, .int .i64 (u.v), .slice none 0 0, .slice none 0 0] 30) _ lR).trans HR.out)
        clear r0 r1 r2 r3 rf0 rf1 rf2 rf3
        go_upto_region 7 with (fail)
        obtain ⟨T, hTe⟩ : ∃ T, T = w1.heap.size := ⟨_, rfl⟩
        have HTR := Lib.hid (show w.heap.size ≠ T by omega)
        rw [← hTe] at HTT
        rw [← hTe]
        clear p0 p1 p2 p3 lR hTe
        generalize w1.alloc (.cells #[.int .i64 1, .int .i64 (u.v), .slice none 0 0, .slice none 0 0] 30) = w2 at *
        obtain ⟨r0, r1, r2, r3, rf0, rf1, rf2, rf3⟩ := zero_atP HR2.out
        have t0 : w2.cell? ⟨T, 0, none⟩ = some (.int .i64 1) := cell_of_row _ _ 0 _ _ _ HTT.out
        have t1 : w2.cell? ⟨T, 1, none⟩ = some (.int .i64 (u.v)) := cell_of_row _ _ 1 _ _ _ HTT.out
        have t2 : w2.cell? ⟨T, 2, none⟩ = some (.slice none 0 0) := cell_of_row _ _ 2 _ _ _ HTT.out
        have t3 : w2.cell? ⟨T, 3, none⟩ = some (.slice none 0 0) := cell_of_row _ _ 3 _ _ _ HTT.out
        go_wp2_with fail
        refine bodyPost_ret (v := (LK.mk 1 (u.v) none 0 [] none 0 []).val) (by simp [results, Tryd.results110, go_sem, r0, r1, r2, r3]; try exact ⟨rfl, rfl, ⟨rfl, rfl, rfl⟩, rfl, rfl, rfl⟩) rfl ⟨.mk 1 (u.v) none 0 [] none 0 [], rfl, by rw [F.out, E3.out]; rfl, zeV_newP _ _ _ (by unfold cin64; have := HVV.out; omega), by_fourP GT.out⟩
  have q1 : (u.k == 1) = false := by simpa using h1
  have PE := Lib.hid (show u.co.pu a.co d = .mk u.k u.v u.ds (copus u.k 0 u.co.ks a.co d) by rw [PQ.out, u.co_k, u.co_v, u.co_ds, if_neg h1])
  clear h1 hH
  go_upto_region 8 with (fail)
  go_cut [8] from 8 to 53 (fun t7 wx => ∃ (T : Nat) (da : Option Addr) (dc : Nat), t7 = .pointer (some ⟨T, 0, none⟩) ∧ w1.heap.size ≤ T ∧ wx.heap[T]? = some (.cells #[.int .i64 u.k, .int .i64 u.v, .slice da u.ds.length dc, .slice none 0 0] 30 (0, 0)) ∧ numNew w1.heap.size wx da dc u.ds ∧ (∀ y ∈ nbl nB da u.ds, y ≠ T) ∧ Gw w1 wx)
  case first =>
    refine wp_region_held_drew (S := fun W => W.cell? ⟨b, o, none⟩ = some (.int .i64 u.k) ∧ W.cell? ⟨b, o + 1, none⟩ = some (.int .i64 u.v) ∧ W.cell? ⟨b, o + 2, none⟩ = some (.slice u.da u.ds.length u.dc)) (by kernel_rfl) ?_ (fun hHeld => ?_)
    · exact ⟨p0, p1, p2⟩
    refine wpAnyH_take (i := 0) (oi := { dst := some 40, op := _, type := _, pos := _, after := _, guard := _ }) (v := .pointer (some ⟨b, o, none⟩)) rfl (by kernel_rfl) (by kernel_rfl) (by kernel_rfl) (fun _ _ _ h => h) (Or.inl ⟨by rfl, ?_⟩) (by assumption) ?_
    · intro w hSw; obtain ⟨p0, p1, p2⟩ := hSw; go_simp
    try simp only [Act.put, List.setIfInBounds_toArray, List.set_cons_zero, List.set_cons_succ]
    refine wpAnyH_take (i := 1) (oi := { dst := some 41, op := _, type := _, pos := _, after := _, guard := _ }) (v := .pointer (some ⟨b, o, none⟩)) rfl (by kernel_rfl) (by kernel_rfl) (by kernel_rfl) (fun _ _ _ h => h) (Or.inl ⟨by rfl, ?_⟩) (by assumption) ?_
    · intro w hSw; obtain ⟨p0, p1, p2⟩ := hSw; go_simp
    try simp only [Act.put, List.setIfInBounds_toArray, List.set_cons_zero, List.set_cons_succ]
    refine wpAnyH_take (i := 2) (oi := { dst := some 42, op := _, type := _, pos := _, after := _, guard := _ }) (v := .pointer (some ⟨b, o, none⟩)) rfl (by kernel_rfl) (by kernel_rfl) (by kernel_rfl) (fun _ _ _ h => h) (Or.inl ⟨by rfl, ?_⟩) (by assumption) ?_
    · intro w hSw; obtain ⟨p0, p1, p2⟩ := hSw; go_simp
    try simp only [Act.put, List.setIfInBounds_toArray, List.set_cons_zero, List.set_cons_succ]
    refine wpAnyH_take (i := 3) (oi := { dst := some 43, op := _, type := _, pos := _, after := _, guard := _ }) (v := .int .i64 u.k) rfl (by kernel_rfl) (by kernel_rfl) (by kernel_rfl) (fun _ _ _ h => h) (Or.inl ⟨by rfl, ?_⟩) (by assumption) ?_
    · intro w hSw; obtain ⟨p0, p1, p2⟩ := hSw; go_simp
    try simp only [Act.put, List.setIfInBounds_toArray, List.set_cons_zero, List.set_cons_succ]
    refine wpAnyH_take (i := 4) (oi := { dst := some 44, op := _, type := _, pos := _, after := _, guard := _ }) (v := .pointer (some ⟨b, o, none⟩)) rfl (by kernel_rfl) (by kernel_rfl) (by kernel_rfl) (fun _ _ _ h => h) (Or.inl ⟨by rfl, ?_⟩) (by assumption) ?_
    · intro w hSw; obtain ⟨p0, p1, p2⟩ := hSw; go_simp
    try simp only [Act.put, List.setIfInBounds_toArray, List.set_cons_zero, List.set_cons_succ]
    refine wpAnyH_take (i := 5) (oi := { dst := some 45, op := _, type := _, pos := _, after := _, guard := _ }) (v := .pointer (some ⟨b, o, none⟩)) rfl (by kernel_rfl) (by kernel_rfl) (by kernel_rfl) (fun _ _ _ h => h) (Or.inl ⟨by rfl, ?_⟩) (by assumption) ?_
    · intro w hSw; obtain ⟨p0, p1, p2⟩ := hSw; go_simp
    try simp only [Act.put, List.setIfInBounds_toArray, List.set_cons_zero, List.set_cons_succ]
    refine wpAnyH_take (i := 6) (oi := { dst := some 46, op := _, type := _, pos := _, after := _, guard := _ }) (v := .pointer (some ⟨b, o + 1, none⟩)) rfl (by kernel_rfl) (by kernel_rfl) (by kernel_rfl) (fun _ _ _ h => h) (Or.inl ⟨by rfl, ?_⟩) (by assumption) ?_
    · intro w hSw; obtain ⟨p0, p1, p2⟩ := hSw; go_simp
    try simp only [Act.put, List.setIfInBounds_toArray, List.set_cons_zero, List.set_cons_succ]
    refine wpAnyH_take (i := 7) (oi := { dst := some 47, op := _, type := _, pos := _, after := _, guard := _ }) (v := .int .i64 u.v) rfl (by kernel_rfl) (by kernel_rfl) (by kernel_rfl) (fun _ _ _ h => h) (Or.inl ⟨by rfl, ?_⟩) (by assumption) ?_
    · intro w hSw; obtain ⟨p0, p1, p2⟩ := hSw; go_simp
    try simp only [Act.put, List.setIfInBounds_toArray, List.set_cons_zero, List.set_cons_succ]
    refine wpAnyH_take (i := 8) (oi := { dst := some 48, op := _, type := _, pos := _, after := _, guard := _ }) (v := .pointer (some ⟨b, o, none⟩)) rfl (by kernel_rfl) (by kernel_rfl) (by kernel_rfl) (fun _ _ _ h => h) (Or.inl ⟨by rfl, ?_⟩) (by assumption) ?_
    · intro w hSw; obtain ⟨p0, p1, p2⟩ := hSw; go_simp
    try simp only [Act.put, List.setIfInBounds_toArray, List.set_cons_zero, List.set_cons_succ]
    refine wpAnyH_take (i := 9) (oi := { dst := some 49, op := _, type := _, pos := _, after := _, guard := _ }) (v := .pointer (some ⟨b, o, none⟩)) rfl (by kernel_rfl) (by kernel_rfl) (by kernel_rfl) (fun _ _ _ h => h) (Or.inl ⟨by rfl, ?_⟩) (by assumption) ?_
    · intro w hSw; obtain ⟨p0, p1, p2⟩ := hSw; go_simp
    try simp only [Act.put, List.setIfInBounds_toArray, List.set_cons_zero, List.set_cons_succ]
    refine wpAnyH_take (i := 10) (oi := { dst := some 50, op := _, type := _, pos := _, after := _, guard := _ }) (v := .pointer (some ⟨b, o + 2, none⟩)) rfl (by kernel_rfl) (by kernel_rfl) (by kernel_rfl) (fun _ _ _ h => h) (Or.inl ⟨by rfl, ?_⟩) (by assumption) ?_
    · intro w hSw; obtain ⟨p0, p1, p2⟩ := hSw; go_simp
    try simp only [Act.put, List.setIfInBounds_toArray, List.set_cons_zero, List.set_cons_succ]
    refine wpAnyH_take (i := 11) (oi := { dst := some 51, op := _, type := _, pos := _, after := _, guard := _ }) (v := .slice u.da u.ds.length u.dc) rfl (by kernel_rfl) (by kernel_rfl) (by kernel_rfl) (fun _ _ _ h => h) (Or.inl ⟨by rfl, ?_⟩) (by assumption) ?_
    · intro w hSw; obtain ⟨p0, p1, p2⟩ := hSw; go_simp
    try simp only [Act.put, List.setIfInBounds_toArray, List.set_cons_zero, List.set_cons_succ]
    refine wpAnyH_ready (rs := [12, 14]) (by kernel_rfl) (by simp) ?_
    refine AllReadyH.cons (o := { dst := some 52, op := _, type := _, pos := _, after := _, guard := _ }) rfl (fun K hK => ?_) (AllReadyH.cons (o := { dst := some 8, op := _, type := _, pos := _, after := _, guard := _ }) rfl (fun K hK => ?_) AllReadyH.nil)
    · go_simp
      go_at_call 104
      refine (spec_ownN u.ds _ u.da u.dc (coAt.grow A1.out (Gw.refl w1).drew).2.dat LD.out).mono ?_
      rintro e w2 ⟨vd, rfl, hvd, g2⟩
      obtain ⟨da, dc, rfl⟩ := IRow.form (L := u.ds) hvd
      have k2 : ∀ b o, b < w1.heap.size → w2.cell? ⟨b, o, none⟩ = w1.cell? ⟨b, o, none⟩ := fun b o h => (bcell g2).1 b o h
      have l2 : b < w2.heap.size := Nat.lt_of_lt_of_le lA g2.size
      go_wp2_with fail
      refine hK.out _ _ ⟨(k2 _ _ lA).trans p0, (k2 _ _ lA).trans p1, (k2 _ _ lA).trans p2⟩ (fun hHeld => ?_)
      clear hK K
      try simp only [Act.put, List.setIfInBounds_toArray, List.set_cons_zero, List.set_cons_succ]
      refine wpAnyH_take (i := 13) (oi := { dst := some 53, op := _, type := _, pos := _, after := _, guard := _ }) (v := .agg #[.int .i64 u.k, .int .i64 u.v, .slice da u.ds.length dc, .slice none 0 0]) rfl (by kernel_rfl) (by kernel_rfl) (by kernel_rfl) (fun _ _ _ h => h) (Or.inl ⟨by rfl, ?_⟩) (by assumption) ?_
      · intro w hSw; obtain ⟨p0, p1, p2⟩ := hSw; go_simp
      try simp only [Act.put, List.setIfInBounds_toArray, List.set_cons_zero, List.set_cons_succ]
      refine wpAnyH_ready (rs := [14]) (by kernel_rfl) (by simp) ?_
      refine AllReadyH.cons (o := { dst := some 8, op := _, type := _, pos := _, after := _, guard := _ }) rfl (fun K hK => ?_) AllReadyH.nil
      go_simp
      refine hK _ _ ⟨(World.cell?_alloc_lt _ _ _ l2).trans ((k2 _ _ lA).trans p0), (World.cell?_alloc_lt _ _ _ l2).trans ((k2 _ _ lA).trans p1), (World.cell?_alloc_lt _ _ _ l2).trans ((k2 _ _ lA).trans p2)⟩ (fun hHeld => ?_)
      clear hK K
      try simp only [Act.put, List.setIfInBounds_toArray, List.set_cons_zero, List.set_cons_succ]
      refine wpAnyH_ready (rs := [15]) (by kernel_rfl) (by simp) ?_
      refine AllReadyH.cons (o := { dst := none, op := _, type := _, pos := _, after := _, guard := _ }) rfl (fun K hK => ?_) AllReadyH.nil
      go_simp
      refine hK _ _ ⟨(World.cell?_alloc_lt _ _ _ l2).trans ((k2 _ _ lA).trans p0), (World.cell?_alloc_lt _ _ _ l2).trans ((k2 _ _ lA).trans p1), (World.cell?_alloc_lt _ _ _ l2).trans ((k2 _ _ lA).trans p2)⟩ (fun hHeld => ?_)
      clear hK K
      try simp only [Act.put, List.setIfInBounds_toArray, List.set_cons_zero, List.set_cons_succ]
      refine wpAnyH_done (by kernel_rfl) ?_ _
      go_wp2_with fail
      go_meet
      case rel =>
        have hn := (IRow.num hvd DB.out).1
        exact ⟨w2.heap.size, da, dc, rfl, g2.size, heap_alloc_new w2 _, gNewSl.grow nLen nGr hn ((Gw.refl w2).alloc _), fun y hy => by have := (hn.2.2 y hy).2.lt; omega, ((Gw.refl w1).drew.trans g2).alloc _⟩
    · go_simp
      refine hK _ _ ⟨(World.cell?_alloc_lt _ _ _ lA).trans p0, (World.cell?_alloc_lt _ _ _ lA).trans p1, (World.cell?_alloc_lt _ _ _ lA).trans p2⟩ (fun hHeld => ?_)
      clear hK K
      try simp only [Act.put, List.setIfInBounds_toArray, List.set_cons_zero, List.set_cons_succ]
      refine wpAnyH_ready (rs := [12]) (by kernel_rfl) (by simp) ?_
      refine AllReadyH.cons (o := { dst := some 52, op := _, type := _, pos := _, after := _, guard := _ }) rfl (fun K hK => ?_) AllReadyH.nil
      go_simp
      go_at_call 104
      refine (spec_ownN u.ds _ u.da u.dc (coAt.grow A1.out ((Gw.refl w1).alloc (.cells #[.int .i64 0, .int .i64 0, .slice none 0 0, .slice none 0 0] 30)).drew).2.dat LD.out).mono ?_
      rintro e w2 ⟨vd, rfl, hvd, g2⟩
      obtain ⟨da, dc, rfl⟩ := IRow.form (L := u.ds) hvd
      obtain ⟨z0, z1, z2, z3, y0, y1, y2, y3⟩ := zero_after g2
      have k2 : ∀ b o, b < w1.heap.size → w2.cell? ⟨b, o, none⟩ = w1.cell? ⟨b, o, none⟩ := fun b o h => ((bcell g2).1 b o (Nat.lt_of_lt_of_le h (by simp [World.drew]))).trans (World.cell?_alloc_lt _ _ _ h)
      have l2 : w1.heap.size < w2.heap.size := Nat.lt_of_lt_of_le (by simp [World.drew]) g2.size
      have hneb : b ≠ w1.heap.size := Nat.ne_of_lt lA
      go_wp2_with fail
      refine hK.out _ _ ⟨(k2 _ _ lA).trans p0, (k2 _ _ lA).trans p1, (k2 _ _ lA).trans p2⟩ (fun hHeld => ?_)
      clear hK K
      try simp only [Act.put, List.setIfInBounds_toArray, List.set_cons_zero, List.set_cons_succ]
      refine wpAnyH_take (i := 13) (oi := { dst := some 53, op := _, type := _, pos := _, after := _, guard := _ }) (v := .agg #[.int .i64 u.k, .int .i64 u.v, .slice da u.ds.length dc, .slice none 0 0]) rfl (by kernel_rfl) (by kernel_rfl) (by kernel_rfl) (fun _ _ _ h => h) (Or.inl ⟨by rfl, ?_⟩) (by assumption) ?_
      · intro w hSw; obtain ⟨p0, p1, p2⟩ := hSw; go_simp
      try simp only [Act.put, List.setIfInBounds_toArray, List.set_cons_zero, List.set_cons_succ]
      refine wpAnyH_ready (rs := [15]) (by kernel_rfl) (by simp) ?_
      refine AllReadyH.cons (o := { dst := none, op := _, type := _, pos := _, after := _, guard := _ }) rfl (fun K hK => ?_) AllReadyH.nil
      go_simp
      refine hK _ _ ⟨(far4 hneb).trans ((k2 _ _ lA).trans p0), (far4 hneb).trans ((k2 _ _ lA).trans p1), (far4 hneb).trans ((k2 _ _ lA).trans p2)⟩ (fun hHeld => ?_)
      clear hK K
      try simp only [Act.put, List.setIfInBounds_toArray, List.set_cons_zero, List.set_cons_succ]
      refine wpAnyH_done (by kernel_rfl) ?_ _
      go_wp2_with fail
      go_meet
      case rel =>
        have hn := (IRow.num hvd DB.out).1
        have hzs : ((w1.alloc (.cells #[.int .i64 0, .int .i64 0, .slice none 0 0, .slice none 0 0] 30)).drew).heap.size = w1.heap.size + 1 := by simp [World.drew]
        have hge : ∀ y ∈ nbl nB da u.ds, w1.heap.size + 1 ≤ y := fun y hy => by have := (hn.2.2 y hy).1; omega
        have hz : w2.heap[w1.heap.size]? = some (.cells #[.int .i64 0, .int .i64 0, .slice none 0 0, .slice none 0 0] 30 (0, 0)) := (g2.block _ (by simp [World.drew])).trans (heap_alloc_new w1 _)
        exact ⟨w1.heap.size, da, dc, rfl, Nat.le_refl _, by simp [World.setCell, Array.getElem?_modify, hz], gNewSl.same (by decide) nLen nFr (hn.mono (by omega)) fun y hy => by have := hge y hy; rw [Below.heap_setCell _ _ _ _ (by simp; omega), Below.heap_setCell _ _ _ _ (by simp; omega), Below.heap_setCell _ _ _ _ (by simp; omega), Below.heap_setCell _ _ _ _ (by simp; omega)], fun y hy => by have := hge y hy; omega, (((Below.setCell (Below.trans ((Gw.refl w1).alloc _).drew (Below.mono g2 (by omega))) (Nat.le_refl _) _).setCell (Nat.le_refl _) _).setCell (Nat.le_refl _) _).setCell (Nat.le_refl _) _⟩
  case rest =>
    obtain ⟨T, da, dc, rfl, hT0, hT, hD, hDT, g3⟩ := hcut
    have A3 := Lib.hid (A1.out.grow g3)
    have HT0 := Lib.hid hT0
    have HT := Lib.hid hT
    have HD := Lib.hid hD
    have HDT := Lib.hid hDT
    have G3 := Lib.hid g3
    have R3 := Lib.hid ((g3.block _ HR1.out).trans HR.out)
    have HKV := Lib.hid (show cin64 u.k ∧ cin64 u.v from ⟨A.out.2.kin, A.out.2.vin⟩)
    have HRT := Lib.hid (show w.heap.size < T from Nat.lt_of_lt_of_le HR1.out hT0)
    have t1 : wc.cell? ⟨T, 1, none⟩ = some (.int .i64 u.v) := cell_of_row _ _ 1 _ _ _ hT
    have u1 : wc.frozen? ⟨T, 1, none⟩ = false := by simp [World.frozen?, hT]
    clear hT0 hT hD hDT g3 p0 p1 p2 p3 q1
    obtain ⟨p0, p1, p2, p3⟩ := A3.out.c
    go_wp2_with fail
    (
      have HTX := Lib.hid (show (wc).heap[T]? = some (.cells #[.int .i64 u.k, .int .i64 (u.v), .slice da u.ds.length dc, .slice none 0 0] 30 (0, 0)) from HT.out)
      have FAR := Lib.hid (show ∀ y, y ≠ T → (wc).heap[y]? = wc.heap[y]? from fun y hy => rfl)
      have HRX := Lib.hid ((FAR.out _ (Nat.ne_of_lt HRT.out)).trans R3.out)
      have HDX := Lib.hid (show numNew (w.heap.size + 1) (wc) da dc u.ds from gNewSl.same (by decide) nLen nFr (HD.out.mono HR1.out) fun y hy => FAR.out y (HDT.out y hy))
      have GX := Lib.hid (show Gw w (wc) from Below.trans GR.out (Below.mono (show Gw w1 (wc) from G3.out) (Nat.le_of_lt HR1.out)))
      have SX := Lib.hid (show (wc).heap.size = wc.heap.size by rfl)
      generalize (wc) = wx at *
      clear p0 p1 p2 p3 t1 u1
      go_loopw [9] (fun i wr => PuRel w u u.v (copus u.k 0 u.co.ks a.co d) da dc w.heap.size T wx.heap.size i wr) (fun i _ => u.ks.length - (intOf i).toNat)
      case atStart => exact ⟨[], .slice none 0 0, rfl, Nat.zero_le _, rfl, gApp.nil _ _, HRX.out, HTX.out, HDX.out, GX.out, Nat.le_refl _⟩
      case round =>
        obtain ⟨us, v, rfl, hle, hty, happ, hb0, hb2, hd, hg, hBk⟩ := hrel
        have HTY := Lib.hid hty
        have HA := Lib.hid happ
        have HB0 := Lib.hid hb0
        have HB2 := Lib.hid hb2
        have HD5 := Lib.hid hd
        have HG5 := Lib.hid hg
        have HBK := Lib.hid hBk
        obtain ⟨va, vc, rfl⟩ := happ.form
        have A5 := Lib.hid (coAt.grow A.out hg)
        have HTW := Lib.hid (show T < wx.heap.size from (Array.getElem?_eq_some_iff.1 HTX.out).1)
        clear hty happ hb0 hd hg hBk
        obtain ⟨p0, p1, p2, p3⟩ := A5.out.c
        by_cases hlt : us.length < u.ks.length
        · obtain ⟨bk, ok, ha, hkid⟩ := coAt.kid A5.out.2.kids us.length hlt
          rw [ha] at p3
          have y3 : wr.cell? ⟨T, 3, none⟩ = some (.slice va us.length vc) := cell_of_row _ _ 3 _ _ _ hb2
          have f3 : wr.frozen? ⟨T, 3, none⟩ = false := by simp [World.frozen?, hb2]
          have q0 : (0 : Int) ≤ us.length := by omega
          have q1' : (us.length : Int) < u.ks.length := by omega
          have hdk := dp_kid (u := u) us.length hlt
          have hb1 := bndK_le u.k us.length
          obtain ⟨p, hp⟩ : ∃ p, p = bndK u.k us.length := ⟨_, rfl⟩
          rw [← hp] at hb1
          have HP := Lib.hid hp
          have KB := Lib.hid (show Calls Tryd.prog 97 #[.pointer (some ⟨b, o, none⟩), .int .i64 us.length] wr.drew fun e w' => e = .returned (.int .i64 ((p : Nat) : Int)) ∧ w' = wr.drew by
            rw [hp]; exact spec_cbinds u wr.drew b o us.length (by omega) (A5.out.grow (Gw.refl wr).drew))
          have IH := Lib.hid (ih u.ks[us.length] (List.getElem_mem hlt) wr.drew bk (ok + us.length * 4) ab ao a (d + p) (hkid.grow (Gw.refl wr).drew) (AA.out.grow (HG5.out.trans (Gw.refl wr).drew)) (all_kid HOK.out us.length hlt) HAK.out (by omega) (by omega))
          have hz0 : -9223372036854775808 ≤ d + (p : Int) := by omega
          have hz1 : d + (p : Int) ≤ 9223372036854775807 := by omega
          have wr1 : IntKind.i64.wrap (d + (p : Int)) = d + p := by unfold IntKind.wrap; simp [IntKind.signed, IntKind.bits]; omega
          have hownlt : ∀ x, (Value.slice va us.length vc).ownBlock = some x → wx.heap.size ≤ x := fun x hx => (HA.out.1.lt x hx).1
          have hlb := cell_lt p3
          have hlT := cell_lt y3
          have LEN := Lib.hid (show us.length + 1 ≤ 4 by omega)
          clear ha hkid hp hdk hb2 hle p0 p1 p2
          go_wp2_with fail
          have HBX := Lib.hid (show b < wx.heap.size from Nat.lt_of_lt_of_le A.out.lt (by have := HRT.out; have := HTW.out; omega))
          have HTB := Lib.hid (show T ≠ b from fun e => by have := HRT.out; have := A.out.lt; omega)
          obtain ⟨S, hS⟩ : ∃ S : Array Bool → World → Prop, S = fun L X => (L.getD 18 true = false → X.cell? ⟨T, 3, none⟩ = some (.slice va us.length vc)) ∧ X.cell? ⟨b, o + 3, none⟩ = some (.slice (some ⟨bk, ok, none⟩) u.ks.length u.cap) := ⟨_, rfl⟩
          have HS := Lib.hid hS
          have HIND := Lib.hid (show ∀ i, i ≠ 18 → ∀ L X, S (L.setIfInBounds i true) X ↔ S L X from fun i hi L X => by rw [hS]; simp only; rw [getD_set_ne true hi])
          have SK := Lib.hid (show ∀ L X X', S L X → X'.cell? ⟨T, 3, none⟩ = X.cell? ⟨T, 3, none⟩ → X'.cell? ⟨b, o + 3, none⟩ = X.cell? ⟨b, o + 3, none⟩ → S L X' from fun L X X' h e1 e2 => by
            rw [hS] at h ⊢
            exact ⟨fun e => e1.trans (h.1 e), e2.trans h.2⟩)
          have s0 : S (Array.replicate 19 false) wr.drew := by rw [hS]; exact ⟨fun _ => y3, p3⟩
          have hmx : Tryd.prog.follows .mixedOrders = true := by kernel_rfl
          clear hS
          refine any_plain (S := S) hmx ?_
          refine anyL_take (i := 0) (oi := { dst := some 63, op := _, type := _, pos := _, after := _, guard := _ }) (v := .pointer (some ⟨T, 3, none⟩)) rfl (by kernel_rfl) (by kernel_rfl) (by kernel_rfl) (fun _ _ _ h => h) (HIND.out 0 (by decide)) (fun _ => True) (fun _ _ _ _ _ _ => trivial) trivial (Or.inl ⟨by rfl, ?hy0⟩) s0 ?rest0
          case hy0 =>
            rintro X _
            go_simp
          have s1 := (HIND.out 0 (by decide) _ _).2 s0
          clear s0
          try simp only [Act.put, List.setIfInBounds_toArray, List.set_cons_zero, List.set_cons_succ]
          refine anyL_take (i := 1) (oi := { dst := some 64, op := _, type := _, pos := _, after := _, guard := _ }) (v := .slice va us.length vc) rfl (by kernel_rfl) (by kernel_rfl) (by kernel_rfl) (fun _ _ _ h => h) (HIND.out 1 (by decide)) (fun L => L.getD 16 true = false ∧ L.getD 18 true = false) ?hG1 ⟨rfl, rfl⟩ (Or.inl ⟨by rfl, ?hy1⟩) s1 ?rest1
          case hG1 =>
            rintro L j ⟨h16, h18⟩ hi hj hne
            obtain ⟨g1, _⟩ := mem_ready.1 hi
            obtain ⟨g2, oj, hoj, hall⟩ := mem_ready.1 hj
            have n16 : j ≠ 16 := fun e => by
              subst e
              cases hoj
              exact getD_clash g1 (hall { on := 1, ground := .data } (by simp) (by rfl))
            have n18 : j ≠ 18 := fun e => by
              subst e
              cases hoj
              exact getD_clash h16 (hall { on := 16, ground := .data } (by simp) (by rfl))
            exact ⟨(getD_set_ne true n16).trans h16, (getD_set_ne true n18).trans h18⟩
          case hy1 =>
            rintro X ⟨L, ⟨_, h18⟩, h⟩
            rw [HS.out] at h
            have c3 := h.1 h18
            clear h
            go_simp
          have s2 := (HIND.out 1 (by decide) _ _).2 s1
          clear s1
          try simp only [Act.put, List.setIfInBounds_toArray, List.set_cons_zero, List.set_cons_succ]
          refine anyL_take (i := 2) (oi := { dst := some 65, op := _, type := _, pos := _, after := _, guard := _ }) (v := .pointer (some ⟨b, o, none⟩)) rfl (by kernel_rfl) (by kernel_rfl) (by kernel_rfl) (fun _ _ _ h => h) (HIND.out 2 (by decide)) (fun _ => True) (fun _ _ _ _ _ _ => trivial) trivial (Or.inl ⟨by rfl, ?hy2⟩) s2 ?rest2
          case hy2 =>
            rintro X _
            go_simp
          have s3 := (HIND.out 2 (by decide) _ _).2 s2
          clear s2
          try simp only [Act.put, List.setIfInBounds_toArray, List.set_cons_zero, List.set_cons_succ]
          refine anyL_take (i := 3) (oi := { dst := some 66, op := _, type := _, pos := _, after := _, guard := _ }) (v := .pointer (some ⟨b, o, none⟩)) rfl (by kernel_rfl) (by kernel_rfl) (by kernel_rfl) (fun _ _ _ h => h) (HIND.out 3 (by decide)) (fun _ => True) (fun _ _ _ _ _ _ => trivial) trivial (Or.inl ⟨by rfl, ?hy3⟩) s3 ?rest3
          case hy3 =>
            rintro X _
            go_simp
          have s4 := (HIND.out 3 (by decide) _ _).2 s3
          clear s3
          try simp only [Act.put, List.setIfInBounds_toArray, List.set_cons_zero, List.set_cons_succ]
          refine anyL_take (i := 4) (oi := { dst := some 67, op := _, type := _, pos := _, after := _, guard := _ }) (v := .pointer (some ⟨b, o + 3, none⟩)) rfl (by kernel_rfl) (by kernel_rfl) (by kernel_rfl) (fun _ _ _ h => h) (HIND.out 4 (by decide)) (fun _ => True) (fun _ _ _ _ _ _ => trivial) trivial (Or.inl ⟨by rfl, ?hy4⟩) s4 ?rest4
          case hy4 =>
            rintro X _
            go_simp
          have s5 := (HIND.out 4 (by decide) _ _).2 s4
          clear s4
          try simp only [Act.put, List.setIfInBounds_toArray, List.set_cons_zero, List.set_cons_succ]
          refine anyL_take (i := 5) (oi := { dst := some 68, op := _, type := _, pos := _, after := _, guard := _ }) (v := .slice (some ⟨bk, ok, none⟩) u.ks.length u.cap) rfl (by kernel_rfl) (by kernel_rfl) (by kernel_rfl) (fun _ _ _ h => h) (HIND.out 5 (by decide)) (fun _ => True) (fun _ _ _ _ _ _ => trivial) trivial (Or.inl ⟨by rfl, ?hy5⟩) s5 ?rest5
          case hy5 =>
            rintro X ⟨L, _, h⟩
            rw [HS.out] at h
            have c5 := h.2
            clear h
            go_simp
          have s6 := (HIND.out 5 (by decide) _ _).2 s5
          clear s5
          try simp only [Act.put, List.setIfInBounds_toArray, List.set_cons_zero, List.set_cons_succ]
          refine anyL_take (i := 6) (oi := { dst := some 69, op := _, type := _, pos := _, after := _, guard := _ }) (v := .int .i64 us.length) rfl (by kernel_rfl) (by kernel_rfl) (by kernel_rfl) (fun _ _ _ h => h) (HIND.out 6 (by decide)) (fun _ => True) (fun _ _ _ _ _ _ => trivial) trivial (Or.inl ⟨by rfl, ?hy6⟩) s6 ?rest6
          case hy6 =>
            rintro X _
            go_simp
          have s7 := (HIND.out 6 (by decide) _ _).2 s6
          clear s6
          try simp only [Act.put, List.setIfInBounds_toArray, List.set_cons_zero, List.set_cons_succ]
          refine anyL_take (i := 7) (oi := { dst := some 70, op := _, type := _, pos := _, after := _, guard := _ }) (v := .pointer (some ⟨bk, ok + us.length * 4, none⟩)) rfl (by kernel_rfl) (by kernel_rfl) (by kernel_rfl) (fun _ _ _ h => h) (HIND.out 7 (by decide)) (fun _ => True) (fun _ _ _ _ _ _ => trivial) trivial (Or.inl ⟨by rfl, ?hy7⟩) s7 ?rest7
          case hy7 =>
            rintro X _
            go_simp
          have s8 := (HIND.out 7 (by decide) _ _).2 s7
          clear s7
          try simp only [Act.put, List.setIfInBounds_toArray, List.set_cons_zero, List.set_cons_succ]
          refine anyL_take (i := 8) (oi := { dst := some 71, op := _, type := _, pos := _, after := _, guard := _ }) (v := .pointer (some ⟨ab, ao, none⟩)) rfl (by kernel_rfl) (by kernel_rfl) (by kernel_rfl) (fun _ _ _ h => h) (HIND.out 8 (by decide)) (fun _ => True) (fun _ _ _ _ _ _ => trivial) trivial (Or.inl ⟨by rfl, ?hy8⟩) s8 ?rest8
          case hy8 =>
            rintro X _
            go_simp
          have s9 := (HIND.out 8 (by decide) _ _).2 s8
          clear s8
          try simp only [Act.put, List.setIfInBounds_toArray, List.set_cons_zero, List.set_cons_succ]
          refine anyL_take (i := 9) (oi := { dst := some 72, op := _, type := _, pos := _, after := _, guard := _ }) (v := .int .i64 d) rfl (by kernel_rfl) (by kernel_rfl) (by kernel_rfl) (fun _ _ _ h => h) (HIND.out 9 (by decide)) (fun _ => True) (fun _ _ _ _ _ _ => trivial) trivial (Or.inl ⟨by rfl, ?hy9⟩) s9 ?rest9
          case hy9 =>
            rintro X _
            go_simp
          have s10 := (HIND.out 9 (by decide) _ _).2 s9
          clear s9
          try simp only [Act.put, List.setIfInBounds_toArray, List.set_cons_zero, List.set_cons_succ]
          refine anyL_take (i := 10) (oi := { dst := some 73, op := _, type := _, pos := _, after := _, guard := _ }) (v := .pointer (some ⟨b, o, none⟩)) rfl (by kernel_rfl) (by kernel_rfl) (by kernel_rfl) (fun _ _ _ h => h) (HIND.out 10 (by decide)) (fun _ => True) (fun _ _ _ _ _ _ => trivial) trivial (Or.inl ⟨by rfl, ?hy10⟩) s10 ?rest10
          case hy10 =>
            rintro X _
            go_simp
          have s11 := (HIND.out 10 (by decide) _ _).2 s10
          clear s10
          try simp only [Act.put, List.setIfInBounds_toArray, List.set_cons_zero, List.set_cons_succ]
          refine anyL_take (i := 11) (oi := { dst := some 74, op := _, type := _, pos := _, after := _, guard := _ }) (v := .int .i64 us.length) rfl (by kernel_rfl) (by kernel_rfl) (by kernel_rfl) (fun _ _ _ h => h) (HIND.out 11 (by decide)) (fun _ => True) (fun _ _ _ _ _ _ => trivial) trivial (Or.inl ⟨by rfl, ?hy11⟩) s11 ?rest11
          case hy11 =>
            rintro X _
            go_simp
          have s12 := (HIND.out 11 (by decide) _ _).2 s11
          clear s11
          try simp only [Act.put, List.setIfInBounds_toArray, List.set_cons_zero, List.set_cons_succ]
          refine anyL_step (i := 12) (o := { dst := some 75, op := _, type := _, pos := _, after := _, guard := _ }) rfl (by kernel_rfl) (by rfl) (fun K hK => ?_)
          go_simp
          refine KB.out.mono ?_
          rintro e w0 ⟨rfl, rfl⟩
          have s13 := (HIND.out 12 (by decide) _ _).2 s12
          refine hK.out _ _ s13 ?_
          clear s12 hK K
          try simp only [Act.put, List.setIfInBounds_toArray, List.set_cons_zero, List.set_cons_succ]
          refine anyL_take (i := 13) (oi := { dst := some 76, op := _, type := _, pos := _, after := _, guard := _ }) (v := .int .i64 (d + p)) rfl (by kernel_rfl) (by kernel_rfl) (by kernel_rfl) (fun _ _ _ h => h) (HIND.out 13 (by decide)) (fun _ => True) (fun _ _ _ _ _ _ => trivial) trivial (Or.inl ⟨by rfl, ?hy13⟩) s13 ?rest13
          case hy13 =>
            rintro X _
            go_simp
          have s14 := (HIND.out 13 (by decide) _ _).2 s13
          clear s13
          try simp only [Act.put, List.setIfInBounds_toArray, List.set_cons_zero, List.set_cons_succ]
          refine anyL_step (i := 14) (o := { dst := some 77, op := _, type := _, pos := _, after := _, guard := _ }) rfl (by kernel_rfl) (by rfl) (fun K hK => ?_)
          go_simp
          refine IH.out.mono ?_
          rintro e w1 ⟨x, rfl, hu, hnew, hg1⟩
          have HU := Lib.hid hu
          have HN := Lib.hid hnew
          have hg1' := gw_drewL hg1
          have y3' := (World.cell?_of_block (a := ⟨T, 3, none⟩) (hg1'.block _ hlT)).trans y3
          have hlT1 : T < w1.heap.size := Nat.lt_of_lt_of_le hlT hg1'.size
          have s15 := (HIND.out 14 (by decide) _ _).2 (SK.out _ _ w1 s14 (World.cell?_of_block (a := ⟨T, 3, none⟩) (hg1'.block _ hlT)) (World.cell?_of_block (a := ⟨b, o + 3, none⟩) (hg1'.block _ hlb)))
          refine hK.out _ _ s15 ?_
          clear s14 hK K hu hnew
          try simp only [Act.put, List.setIfInBounds_toArray, List.set_cons_zero, List.set_cons_succ]
          refine anyL_step (i := 15) (o := { dst := some 78, op := _, type := _, pos := _, after := _, guard := _ }) rfl (by kernel_rfl) (by rfl) (fun K hK => ?_)
          go_simp
          have s16 := (HIND.out 15 (by decide) _ _).2 (SK.out _ _ (w1.alloc (.cells #[.int .i64 x.k, .int .i64 x.v, .slice x.da x.ds.length x.dc, .slice x.a x.ks.length x.cap] 30)) s15 (World.cell?_of_block (a := ⟨T, 3, none⟩) (Below.heap_alloc _ _ _ hlT1)) (World.cell?_of_block (a := ⟨b, o + 3, none⟩) (Below.heap_alloc _ _ _ (Nat.lt_of_lt_of_le hlb hg1'.size))))
          refine hK.out _ _ s16 ?_
          clear s15 hK K
          try simp only [Act.put, List.setIfInBounds_toArray, List.set_cons_zero, List.set_cons_succ]
          refine anyL_step (i := 16) (o := { dst := some 79, op := _, type := _, pos := _, after := _, guard := _ }) rfl (by kernel_rfl) (by rfl) (fun K hK => ?_)
          refine wp_append_lies _ _ _ 28 (by rfl) wx.heap.size 30 i0 _ 4 64 Tryd.underlying28 HI.out HZ0.out HZ1.out HZ2.out (by rfl) (by decide) (.slice va us.length vc) us.length (us.flatMap coE) (by rfl) ((HA.out.grow coGr hg1').1.alloc _) ⟨w1.heap.size, 0, none⟩ 1 1 [.int .i64 x.k, .int .i64 x.v, .slice x.da x.ds.length x.dc, .slice x.a x.ks.length x.cap] (by rfl) (by rfl) (World.news_of_block (heap_alloc_new w1 _)) (one4 _ _ _ _ _ _ _ _) (by decide) (by unfold maxLen; have := LEN.out; omega) (by have := LEN.out; omega) (Nat.le_trans HBK.out (Nat.le_trans hg1'.size (by simp))) _ rfl ?_
          intro g cap w2 hown2 hgr2 hat2 hlt2
          have HO2 := Lib.hid hown2
          have HG2 := Lib.hid hgr2
          have HA2 := Lib.hid hat2
          have kk := sh_app hgr2 hg1' HBK.out hownlt
          have y4 := (World.cell?_of_block (a := ⟨T, 3, none⟩) (kk T HTW.out)).trans y3
          have f4 : w2.frozen? ⟨T, 3, none⟩ = false := (by simp [World.frozen?, kk T HTW.out, HB2.out])
          have c4 : w2.cell? ⟨b, o + 3, none⟩ = wr.cell? ⟨b, o + 3, none⟩ := World.cell?_of_block (a := ⟨b, o + 3, none⟩) (kk b HBX.out)
          have eT : (w1.alloc (.cells #[.int .i64 x.k, .int .i64 x.v, .slice x.da x.ds.length x.dc, .slice x.a x.ks.length x.cap] 30)).cell? ⟨T, 3, none⟩ = some (.slice va us.length vc) := (World.cell?_of_block (a := ⟨T, 3, none⟩) (Below.heap_alloc _ _ _ hlT1)).trans y3'
          have eb : (w1.alloc (.cells #[.int .i64 x.k, .int .i64 x.v, .slice x.da x.ds.length x.dc, .slice x.a x.ks.length x.cap] 30)).cell? ⟨b, o + 3, none⟩ = wr.cell? ⟨b, o + 3, none⟩ := (World.cell?_of_block (a := ⟨b, o + 3, none⟩) (Below.heap_alloc _ _ _ (Nat.lt_of_lt_of_le hlb hg1'.size))).trans (World.cell?_of_block (a := ⟨b, o + 3, none⟩) (hg1'.block _ hlb))
          have s17 := (HIND.out 16 (by decide) _ _).2 (SK.out _ _ w2 s16 (y4.trans eT.symm) (c4.trans eb.symm))
          refine hK.out _ _ s17 ?_
          clear s16 hK K hown2 hgr2 hat2 kk
          try simp only [Act.put, List.setIfInBounds_toArray, List.set_cons_zero, List.set_cons_succ]
          refine anyL_take (i := 17) (oi := { dst := some 80, op := _, type := _, pos := _, after := _, guard := _ }) (v := .pointer (some ⟨T, 3, none⟩)) rfl (by kernel_rfl) (by kernel_rfl) (by kernel_rfl) (fun _ _ _ h => h) (HIND.out 17 (by decide)) (fun _ => True) (fun _ _ _ _ _ _ => trivial) trivial (Or.inl ⟨by rfl, ?hy17⟩) s17 ?rest17
          case hy17 =>
            rintro X _
            go_simp
          have s18 := (HIND.out 17 (by decide) _ _).2 s17
          clear s17
          try simp only [Act.put, List.setIfInBounds_toArray, List.set_cons_zero, List.set_cons_succ]
          refine anyL_step (i := 18) (o := { dst := none, op := _, type := _, pos := _, after := _, guard := _ }) rfl (by kernel_rfl) (by rfl) (fun K hK => ?_)
          go_simp
          refine hK.out _ _ (by rw [HS.out]; exact ⟨fun e => (by cases e), (World.cell?_setCell_other _ _ _ _ (fun e => HTB.out (by injection e))).trans (c4.trans p3)⟩) ?_
          clear hK K
          refine anyL_done (by kernel_rfl) ?_ _
          go_wp2_with fail
          go_roundw
          case rel => exact pu_next HTY.out HA.out HB0.out HB2.out HD5.out (fun y hy => ⟨by have := (HDX.out.2.2 y hy).2.lt; exact this, HDT.out y hy⟩) ⟨by have := HRT.out; have := HTW.out; omega, Nat.ne_of_lt HRT.out⟩ ⟨by have := HRT.out; omega, HTW.out⟩ ⟨by have := HRT.out; have := HTW.out; omega, HBK.out⟩ HG5.out hlt hg1' (by rw [HU.out, HP.out, pus_get u.k a.co d u.co.ks 0 us.length (by rw [u.co_len]; exact hlt), u.co_kid us.length hlt, Nat.zero_add]) HN.out HO2.out HG2.out HA2.out
          case measure => simp [intOf]; omega
        · have hall : us.length = u.ks.length := by omega
          have t0 : wr.cell? ⟨T, 0, none⟩ = some (.int .i64 u.k) := cell_of_row _ _ 0 _ _ _ hb2
          have t1 : wr.cell? ⟨T, 1, none⟩ = some (.int .i64 (u.v)) := cell_of_row _ _ 1 _ _ _ hb2
          have t2 : wr.cell? ⟨T, 2, none⟩ = some (.slice da u.ds.length dc) := cell_of_row _ _ 2 _ _ _ hb2
          have t3 : wr.cell? ⟨T, 3, none⟩ = some (.slice va us.length vc) := cell_of_row _ _ 3 _ _ _ hb2
          have r0 : wr.cell? ⟨w.heap.size, 0, none⟩ = some (.int .i64 0) := cell_of_row _ _ 0 _ _ _ HB0.out
          have r1 : wr.cell? ⟨w.heap.size, 1, none⟩ = some (.int .i64 0) := cell_of_row _ _ 1 _ _ _ HB0.out
          have r2 : wr.cell? ⟨w.heap.size, 2, none⟩ = some (.slice none 0 0) := cell_of_row _ _ 2 _ _ _ HB0.out
          have r3 : wr.cell? ⟨w.heap.size, 3, none⟩ = some (.slice none 0 0) := cell_of_row _ _ 3 _ _ _ HB0.out
          have rf : ∀ j, wr.frozen? ⟨w.heap.size, j, none⟩ = false := fun j => by simp [World.frozen?, HB0.out]
          have rf0 := rf 0
          have rf1 := rf 1
          have rf2 := rf 2
          have rf3 := rf 3
          have HALL := Lib.hid hall
          have q0 : (0 : Int) ≤ us.length := by omega
          have q1' : ¬ ((us.length : Int) < u.ks.length) := by omega
          have ncore := sh_fin (wr := wr) (u := u) (V := u.v) (da := da) (va := va) (dc := dc) (vc := vc) (R := w.heap.size) (Bk := wx.heap.size) (us := us) HKV.out.1 HKV.out.2 HD5.out (fun y hy => (HDX.out.2.2 y hy).2.lt) (HA.out.done coLen) (by have := HRT.out; have := HTW.out; omega)
          clear rf hall hb2 hle p0 p1 p2
          go_wp2_with fail
          refine bodyPost_ret (v := (LK.mk u.k (u.v) da dc u.ds va vc us).val) (by simp [results, Tryd.results110, go_sem, r0, r1, r2, r3]; exact ⟨rfl, rfl, ⟨rfl, rfl, rfl⟩, rfl, rfl, rfl⟩) rfl ⟨_, rfl, ?_, (ncore _ _ _ _).mono (Nat.le_succ _), ?_⟩
          · rw [LK.co_eq, PE.out]; show Co.mk u.k (u.v) u.ds (us.map LK.co) = _; rw [HTY.out, HALL.out, List.take_of_length_le (by rw [pus_len, u.co_len]; exact Nat.le_refl _)]
          · exact (((Below.setCell HG5.out (Nat.le_refl _) _).setCell (Nat.le_refl _) _).setCell (Nat.le_refl _) _).setCell (Nat.le_refl _) _)

theorem pu_all (u : LK) : KPu u := by
  refine LK.ind (P := KPu) (fun k v da dc ds a c ks ih => ?_) u
  exact pu_of (.mk k v da dc ds a c ks) ih

end Go.Proofs.YtfbgkbgoooepmaaDoor.Con
