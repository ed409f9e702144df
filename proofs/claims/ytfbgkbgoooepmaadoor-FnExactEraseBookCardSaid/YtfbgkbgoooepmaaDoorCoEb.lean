/-
  Contracts of EraseBook, the model's and the program's, and the laws' marks of books. Condition: the book lies in memory, and the table of forms reads as the program's text lays it.
-/
import Derived.Test.YtfbgkbgoooepmaaDoorCoEx
import Derived.Test.YtfbgkbgoooepmaaDoorBkI
namespace Go.Proofs.YtfbgkbgoooepmaaDoor.Con
open Go.RowKit
set_option linter.unusedVariables false
attribute [local go_sem ↓] Go.wp_at_zero Go.wp_at_succ

theorem BoxB.same {W W' : World} {b : Nat} {u : LB} (h : BoxB W b u) (hs : W'.heap[b]? = W.heap[b]?) : BoxB W' b u := by
  obtain ⟨e, h⟩ := h
  exact ⟨e, hs.trans h⟩
theorem BoxB.chg {W W' : World} {S : Nat → Prop} {b : Nat} {u : LB} (h : BoxB W b u) (g : Chg W W' S) (hb : ¬ S b) : BoxB W' b u := h.same (g.2.2.2.2 b h.lt hb)
theorem bkC_clos {ts : List Co} (h : bkC ts = true) : ts.length ≤ 24 ∧ ∀ t ∈ ts, closC t = true := by
  unfold bkC at h
  rw [Bool.and_eq_true, List.all_eq_true] at h
  obtain ⟨h1, h2⟩ := h
  unfold inV at h1
  simp only [decide_eq_true_eq] at h1
  exact ⟨by omega, fun t ht => by have := h2 t ht; rw [Bool.and_eq_true] at this; exact this.1⟩
/-- The code and the definitions that EraseBook gives back. -/
def ebCd (ts : List Co) : Int := if bkC ts = true then (if (Co.er.ers ts).isSome = true then 0 else 4) else 1
def ebRs (ts : List Co) : List Co := if bkC ts = true then (Co.er.ers ts).getD [] else []
theorem eb_no {ts : List Co} (h : bkC ts = false) : ebCd ts = 1 ∧ ebRs ts = [] := by unfold ebCd ebRs; rw [h]; exact ⟨rfl, rfl⟩
theorem eb_some {ts rs : List Co} (h : bkC ts = true) (hr : Co.er.ers ts = some rs) : ebCd ts = 0 ∧ ebRs ts = rs := by unfold ebCd ebRs; rw [if_pos h, if_pos h, hr]; exact ⟨rfl, rfl⟩
theorem eb_none {ts : List Co} (h : bkC ts = true) (hr : Co.er.ers ts = none) : ebCd ts = 4 ∧ ebRs ts = [] := by unfold ebCd ebRs; rw [if_pos h, if_pos h, hr]; exact ⟨rfl, rfl⟩
def EbP (w : World) (ts : List Co) (e : Ending) (w' : World) : Prop := ∃ x : LB, e = .returned (.tuple #[x.val, .int .i64 (ebCd ts)]) ∧ x.cs = ebRs ts ∧ coNew w.heap.size w' x.a x.cap x.ks ∧ Gw w w'
def zeB : LB := ⟨none, 0, []⟩

/-- The state of the loops: R the result's block, T the one of the book that is built. -/
def EbRel (w : World) (u : LB) (R T Bk : Nat) (i : Value) (wr : World) : Prop := ∃ (us : List LK) (v : Value), i = .int .i64 us.length ∧ us.length ≤ u.ks.length ∧ (∀ j (h : j < us.length) (h2 : j < u.ks.length), u.ks[j].co.er = some us[j].co) ∧ gApp 30 4 coE LK.Ok LK.bl Bk wr v us ∧
  wr.heap[R]? = some (.cells #[.slice none 0 0] 42 (0, 0)) ∧ wr.heap[T]? = some (.cells #[v] 42 (0, 0)) ∧ Gw w wr ∧ Bk ≤ wr.heap.size
theorem eb_next {w wr wq w2 : World} {u : LB} {x : LK} {R T Bk : Nat} {us : List LK} {va : Option Addr} {vc g cap : Nat} {O : Obj} (HR : wr.heap[R]? = some (.cells #[.slice none 0 0] 42 (0, 0))) (HA : gApp 30 4 coE LK.Ok LK.bl Bk wr (.slice va us.length vc) us) (HE : ∀ j (h : j < us.length) (h2 : j < u.ks.length), u.ks[j].co.er = some us[j].co) (hlt : us.length < u.ks.length) (HK : u.ks[us.length].co.er = some x.co)
    (HT : wr.heap[T]? = some (.cells #[.slice va us.length vc] 42 (0, 0))) (HRT : R < Bk ∧ R ≠ T) (HTB : w.heap.size ≤ T ∧ T < Bk) (HG : Gw w wr) (HQ : Gw wr wq) (HN : x.New wr.heap.size wq) (HBW : w.heap.size ≤ Bk ∧ Bk ≤ wr.heap.size)
    (HO2 : w2.ownsRow Bk 30 4 (.slice (some ⟨g, 0, none⟩) (us.length + 1) cap) (us.length + 1) (us.flatMap coE ++ [.int .i64 x.k, .int .i64 x.v, .slice x.da x.ds.length x.dc, .slice x.a x.ks.length x.cap])) (HG2 : (wq.alloc O).grownBy w2 (Value.slice va us.length vc).ownBlock) (HA2 : (Value.slice va us.length vc).ownBlock = some g ∨ g = (wq.alloc O).heap.size) :
    EbRel w u R T Bk (.int .i64 (us.length + 1)) (w2.setCell ⟨T, 0, none⟩ (.slice (some ⟨g, 0, none⟩) (us.length + 1) cap)) := by
  have gA : Gw wr (wq.alloc O) := HQ.alloc O
  have hs := gA.size
  have hv : ∀ y, (Value.slice va us.length vc).ownBlock = some y → Bk ≤ y := fun y hy => (HA.1.lt y hy).1
  have key : ∀ b, b < Bk → w2.heap[b]? = wr.heap[b]? := fun b h => (HG2.block b (by omega) (fun e => by have := hv b e.symm; omega)).trans (gA.block b (by omega))
  have hA2 := gApp.push (g := g) coGr coFr HA gA (HN.grow coGr ((Gw.refl wq).alloc O)) (Nat.le_refl _) HBW.2 (show w2.ownsRow Bk 30 4 (.slice (some ⟨g, 0, none⟩) (us.length + 1) cap) (us.length + 1) (us.flatMap coE ++ coE x) from HO2) rfl HG2 (HA2.imp id (fun e => by omega))
  have hfar : ∀ b, b ≠ T → (w2.setCell ⟨T, 0, none⟩ (.slice (some ⟨g, 0, none⟩) (us.length + 1) cap)).heap[b]? = w2.heap[b]? := fun b hb => Below.heap_setCell _ _ _ _ hb
  have hgB : Below w.heap.size w w2 := Below.trans HG ⟨HG2.os.trans gA.os, HG2.tape.trans gA.tape, HG2.output.trans gA.output, Nat.le_trans gA.size HG2.size, fun b hb => key b (by omega)⟩
  refine ⟨us ++ [x], .slice (some ⟨g, 0, none⟩) (us.length + 1) cap, by rw [List.length_append]; rfl, by rw [List.length_append, List.length_singleton]; omega, fun j h h2 => ?_, ?_, ?_, ?_, ?_, ?_⟩
  · by_cases hj : j < us.length
    · rw [List.getElem_append_left hj]; exact HE j hj h2
    · have : j = us.length := by simp at h; omega
      subst this
      simp only [List.getElem_append_right (Nat.le_refl _), Nat.sub_self, List.getElem_cons_zero]
      exact HK
  · refine hA2.far coFr _ (fun hm => ?_) (fun e => ?_) _
    · have := (hA2.2.2.2 _ hm).1; simp at this; omega
    · have := (hA2.1.lt _ e).1; simp at this; omega
  · rw [hfar _ HRT.2, key _ HRT.1]; exact HR
  · have := (key T HTB.2).trans HT
    simp [World.setCell, Array.getElem?_modify, this]
  · exact Below.setCell hgB HTB.1 _
  · have := HG2.size; simp [World.setCell]; omega
theorem kidB {w : World} {u : LB} (h : bOk w u) (j : Nat) (hj : j < u.ks.length) : ∃ b o, u.a = some ⟨b, o, none⟩ ∧ coAt w b (o + j * 4) u.ks[j] := coAt.kid h j hj

set_option maxRecDepth 100000 in
set_option maxHeartbeats 2000000 in
theorem spec_l08EraseBook (u : LB) (w : World) (b : Nat) (h : bOk w u) (hB : BoxB w b u) (hbk : bkC u.cs = true) : Calls Tryd.prog 84 #[.pointer (some ⟨b, 0, none⟩)] w (EbP w u.cs) := by
  obtain ⟨i0, hi, hz0, hz1, hz2⟩ := info_parts infoK
  have HI := Lib.hid hi
  have HZ0 := Lib.hid hz0
  have HZ1 := Lib.hid hz1
  have HZ2 := Lib.hid hz2
  clear hi hz0 hz1 hz2
  have hcl := bkC_clos hbk
  have HCL := Lib.hid (show u.ks.length ≤ 24 ∧ ∀ j (hj : j < u.ks.length), closC u.ks[j].co = true from ⟨by have := hcl.1; simpa [LB.cs] using this, fun j hj => hcl.2 _ (by rw [LB.cs]; exact List.mem_map_of_mem (List.getElem_mem hj))⟩)
  have HBK := Lib.hid hbk
  have gR : Gw w ((w.alloc (.cells #[.slice none 0 0] 42)).alloc (.cells #[.slice none 0 0] 42)) := ((Gw.refl w).alloc _).alloc _
  have HR0 := Lib.hid ((((Gw.refl (w.alloc (.cells #[.slice none 0 0] 42))).alloc (.cells #[.slice none 0 0] 42)).block w.heap.size (by simp)).trans (heap_alloc_new w (.cells #[.slice none 0 0] 42)))
  have hT0 := heap_alloc_new (w.alloc (.cells #[.slice none 0 0] 42)) (.cells #[.slice none 0 0] 42)
  rw [World.size_alloc] at hT0
  have HT0 := Lib.hid hT0
  have OB := Lib.hid (h.grow gR)
  have BB := Lib.hid (hB.grow gR)
  have GR := Lib.hid gR
  have SZ := Lib.hid (show ((w.alloc (.cells #[.slice none 0 0] 42)).alloc (.cells #[.slice none 0 0] 42)).heap.size = w.heap.size + 2 by simp)
  have H0 := Lib.hid h
  have B0 := Lib.hid hB
  clear h hB hbk hcl gR hT0
  go_enter Tryd.func84, Tryd.ntmps84
  go_upto_region 2 with (fail)
  generalize ((w.alloc (.cells #[.slice none 0 0] 42)).alloc (.cells #[.slice none 0 0] 42)) = w1 at *
  go_wp2_with fail
  obtain ⟨T, hTe⟩ : ∃ T, T = w.heap.size + 1 := ⟨_, rfl⟩
  rw [← hTe] at HT0
  rw [← hTe]
  have HTE := Lib.hid hTe
  obtain ⟨Bk, hBk0⟩ : ∃ Bk, Bk = w.heap.size + 2 := ⟨_, rfl⟩
  have HB0 := Lib.hid hBk0
  clear hBk0 hTe
  go_loopw [5] (fun i wr => EbRel w u w.heap.size T Bk i wr) (fun i _ => u.ks.length - (intOf i).toNat)
  case atStart => exact ⟨[], .slice none 0 0, rfl, Nat.zero_le _, (fun j h => by simp at h), gApp.nil _ _, HR0.out, HT0.out, GR.out, by rw [HB0.out, SZ.out]; exact Nat.le_refl _⟩
  case round =>
    obtain ⟨us, v, rfl, hle, hers, happ, hb0, hb2, hg, hBk⟩ := hrel
    have hl24 : u.ks.length ≤ 24 := HCL.out.1
    have HERS := Lib.hid hers
    have HA := Lib.hid happ
    have HRR := Lib.hid hb0
    have HTR := Lib.hid hb2
    have HG5 := Lib.hid hg
    obtain ⟨va, vc, rfl⟩ := happ.form
    have HRT9 := Lib.hid (show w.heap.size < Bk ∧ w.heap.size ≠ T from ⟨by have := HB0.out; omega, by have := HTE.out; omega⟩)
    have HTB9 := Lib.hid (show w.heap.size ≤ T ∧ T < Bk from ⟨by have := HTE.out; omega, by have := HTE.out; have := HB0.out; omega⟩)
    have HBW := Lib.hid (show w.heap.size ≤ Bk ∧ Bk ≤ wr.heap.size from ⟨by have := HRT9.out; omega, hBk⟩)
    have OB5 := Lib.hid (H0.out.grow HG5.out)
    have BB5 := Lib.hid (B0.out.grow HG5.out)
    have p0 := BB5.out.c
    clear hers happ hb0 hg hBk
    by_cases hlt : us.length < u.ks.length
    · obtain ⟨bk, ok, ha, hkid⟩ := kidB OB5.out us.length hlt
      rw [ha] at p0
      have q0 : (0 : Int) ≤ us.length := by omega
      have q1' : (us.length : Int) < u.ks.length := by omega
      have CC := closC_cl (HCL.out.2 us.length hlt)
      have GD := okC_good CC.1
      have IH := Lib.hid (erm_all u.ks[us.length] wr bk (ok + us.length * 4) 0 hkid GD.1 CC.2 (Int.le_refl _) (by have := GD.2.1; omega))
      clear ha hkid hb2 hle CC GD
      go_wp2_with fail
      refine IH.out.mono ?_
      rintro e w4 ⟨x, c, rfl, hc, hnew, hg1⟩
      have HQ := Lib.hid (show Gw wr (w4.alloc (x.obj 30)) from hg1.alloc _)
      have HN := Lib.hid (show x.New wr.heap.size (w4.alloc (x.obj 30)) from hnew.grow coGr ((Gw.refl w4).alloc _))
      have BX := Lib.hid (BoxK.new w4 x 30)
      rcases hc with ⟨hk, rfl⟩ | ⟨hk, rfl, _⟩
      · have HEK := Lib.hid hk
        clear hk hnew hg1 IH p0
        go_upto_region 6 with (fail)
        generalize w4.alloc (.cells #[.int .i64 x.k, .int .i64 x.v, .slice x.da x.ds.length x.dc, .slice x.a x.ks.length x.cap] 30) = wq at *
        have HOW := Lib.hid ((HA.out.grow coGr HQ.out).1.alloc (.cells #[.int .i64 x.k, .int .i64 x.v, .slice x.da x.ds.length x.dc, .slice x.a x.ks.length x.cap] 30))
        have HNEWS := Lib.hid (World.news_of_block (heap_alloc_new wq (.cells #[.int .i64 x.k, .int .i64 x.v, .slice x.da x.ds.length x.dc, .slice x.a x.ks.length x.cap] 30)))
        have HL1 := Lib.hid (show Bk ≤ (wq.alloc (.cells #[.int .i64 x.k, .int .i64 x.v, .slice x.da x.ds.length x.dc, .slice x.a x.ks.length x.cap] 30)).heap.size by have := HBW.out; have := HQ.out.size; simp; omega)
        have LEN := Lib.hid (show us.length + 1 ≤ 24 by have := HCL.out.1; omega)
        have HTQ := Lib.hid ((HQ.out.block T (by have := HTB9.out; have := HBW.out; omega)).trans HTR.out)
        have y0 : wq.cell? ⟨T, 0, none⟩ = some (.slice va us.length vc) := cell_of_row _ _ 0 _ _ _ HTQ.out
        obtain ⟨e0, e1, e2, e3⟩ := BX.out.c
        go_wp2_with (at_builtin; refine wpList_append_lies _ rfl _ _ 28 rfl Bk 30 i0 _ 4 64 Tryd.underlying28 HI.out HZ0.out HZ1.out HZ2.out rfl (by decide) _ us.length (us.flatMap coE) rfl HOW.out ⟨wq.heap.size, 0, none⟩ 1 1 [.int .i64 x.k, .int .i64 x.v, .slice x.da x.ds.length x.dc, .slice x.a x.ks.length x.cap] rfl rfl HNEWS.out (one4 _ _ _ _ _ _ _ _) (by decide) (by unfold maxLen; have := LEN.out; omega) (by have := LEN.out; omega) HL1.out _ rfl ?_)
        intro g cap w2 hown2 hgr2 hat2 hlt2
        have HO2 := Lib.hid hown2
        have HG2 := Lib.hid hgr2
        have HA2 := Lib.hid hat2
        have kT : w2.heap[T]? = wq.heap[T]? := (hgr2.block T (by have := HTB9.out; have := HL1.out; omega) (fun e => by have := (HA.out.1.lt T e.symm).1; have := HTB9.out; omega)).trans (Below.heap_alloc _ _ _ (by have := HTB9.out; have := HBW.out; have := HQ.out.size; omega))
        have y4 : w2.cell? ⟨T, 0, none⟩ = some (.slice va us.length vc) := (World.cell?_of_block (a := ⟨T, 0, none⟩) kT).trans y0
        have f4 : w2.frozen? ⟨T, 0, none⟩ = false := by simp [World.frozen?, kT, HTQ.out]
        clear hown2 hgr2 hat2 kT y0 e0 e1 e2 e3
        go_wp2_with fail
        go_roundw
        case rel => exact eb_next HRR.out HA.out HERS.out hlt HEK.out HTR.out HRT9.out HTB9.out HG5.out HQ.out HN.out HBW.out HO2.out HG2.out (HA2.out.imp id (fun e => by rw [e]; simp))
        case measure => simp [intOf]; omega
      · clear hnew hg1 IH p0 BX HN
        go_upto_region 6 with (fail)
        generalize w4.alloc (.cells #[.int .i64 x.k, .int .i64 x.v, .slice x.da x.ds.length x.dc, .slice x.a x.ks.length x.cap] 30) = wq at *
        have HEN := Lib.hid (show Co.er.ers u.cs = none from ers_none _ us.length (by rw [LB.cs]; simpa using hlt) (by simp only [LB.cs, List.getElem_map]; exact hk))
        have C := Lib.hid (eb_none HBK.out HEN.out)
        have RQ := Lib.hid ((HQ.out.block _ (Array.getElem?_eq_some_iff.1 HRR.out).1).trans HRR.out)
        have GQ := Lib.hid (HG5.out.trans HQ.out)
        have r0 : wq.cell? ⟨w.heap.size, 0, none⟩ = some (.slice none 0 0) := cell_of_row _ _ 0 _ _ _ RQ.out
        have rf0 : wq.frozen? ⟨w.heap.size, 0, none⟩ = false := by simp [World.frozen?, RQ.out]
        clear hk
        go_wp2_with fail
        refine bodyPost_ret (v := .tuple #[zeB.val, .int .i64 4]) (by simp [results, Tryd.results84, go_sem, r0]; exact ⟨rfl, rfl, rfl⟩) rfl ⟨zeB, by rw [C.out.1], by rw [C.out.2]; rfl, coNew_nil _ _, Below.setCell GQ.out (by simp) _⟩
    · have hall : us.length = u.ks.length := by omega
      have HERB := Lib.hid (show Co.er.ers u.cs = some (us.map LK.co) from ers_some _ _ (by rw [LB.cs]; simp [hall]) (fun i h1 h2 => by
        have h3 : i < us.length := by rw [LB.cs] at h1; simp at h1; omega
        have := HERS.out i h3 (by omega)
        simp only [LB.cs, List.getElem_map]
        exact this))
      have C := Lib.hid (eb_some HBK.out HERB.out)
      have CN := Lib.hid (HA.out.done coLen)
      have t0 : wr.cell? ⟨T, 0, none⟩ = some (.slice va us.length vc) := cell_of_row _ _ 0 _ _ _ hb2
      have r0 : wr.cell? ⟨w.heap.size, 0, none⟩ = some (.slice none 0 0) := cell_of_row _ _ 0 _ _ _ HRR.out
      have rf0 : wr.frozen? ⟨w.heap.size, 0, none⟩ = false := by simp [World.frozen?, HRR.out]
      have q0 : (0 : Int) ≤ us.length := by omega
      have q1' : ¬ ((us.length : Int) < u.ks.length) := by omega
      clear hall hle hlt
      go_wp2_with fail
      refine bodyPost_ret (v := .tuple #[(LB.mk va vc us).val, .int .i64 0]) (by simp [results, Tryd.results84, go_sem, r0]) rfl ⟨⟨va, vc, us⟩, by rw [C.out.1], by rw [C.out.2]; rfl, ?_, Below.setCell HG5.out (by simp) _⟩
      refine gNewSl.mono (gNewSl.same (by decide) coLen coFr CN.out fun y hy => ?_) (by have := HBW.out; omega)
      have := (CN.out.2.2 y hy).1
      have := HRT9.out
      rw [Below.heap_setCell _ _ _ _ (by simp; omega)]

set_option maxRecDepth 100000 in
theorem spec_eraseBook (u : LB) (w : World) (h : bOk w u) : Calls Tryd.prog 43 #[u.val] w (EbP w u.cs) := by
  have gA : Gw w ((w.alloc (.cells #[.slice u.a u.ks.length u.cap] 42)).alloc (.cells #[.slice none 0 0] 42)) := ((Gw.refl w).alloc _).alloc _
  have hB := (BoxB.new w u 42).grow ((Gw.refl _).alloc (.cells #[.slice none 0 0] 42))
  have hR := heap_alloc_new (w.alloc (.cells #[.slice u.a u.ks.length u.cap] 42)) (.cells #[.slice none 0 0] 42)
  rw [World.size_alloc] at hR
  have HR := Lib.hid hR
  have G := Lib.hid gA
  have OB := Lib.hid (h.grow gA)
  have BB := Lib.hid hB
  clear h gA hB hR
  go_enter Tryd.func43, Tryd.ntmps43
  go_upto_region 1 with (fail)
  generalize ((w.alloc (.cells #[.slice u.a u.ks.length u.cap] 42)).alloc (.cells #[.slice none 0 0] 42)) = w1 at *
  have KO := spec_l06Book u w1 _ OB.out BB.out
  have HR1 := Lib.hid (Array.getElem?_eq_some_iff.1 HR.out).1
  cases hbk : bkC u.cs with
  | false =>
    rw [hbk] at KO
    have KOO := Lib.hid KO
    have C := Lib.hid (eb_no hbk)
    clear KO hbk
    go_wp2_with fail
    refine KOO.out.mono ?_
    rintro e w2 ⟨rfl, g2⟩
    have R2 := Lib.hid ((g2.block _ HR1.out).trans HR.out)
    have G2 := Lib.hid (G.out.trans g2)
    have r0 : w2.cell? ⟨w.heap.size + 1, 0, none⟩ = some (.slice none 0 0) := cell_of_row _ _ 0 _ _ _ R2.out
    have rf0 : w2.frozen? ⟨w.heap.size + 1, 0, none⟩ = false := by simp [World.frozen?, R2.out]
    clear g2 KOO
    go_wp2_with fail
    refine bodyPost_ret (v := .tuple #[zeB.val, .int .i64 1]) (by simp [results, Tryd.results43, go_sem, r0]; exact ⟨rfl, rfl, rfl⟩) rfl ⟨zeB, by rw [C.out.1], by rw [C.out.2]; rfl, coNew_nil _ _, Below.setCell G2.out (by simp) _⟩
  | true =>
    rw [hbk] at KO
    have KOO := Lib.hid KO
    have HBK := Lib.hid hbk
    clear KO hbk
    go_wp2_with fail
    refine KOO.out.mono ?_
    rintro e w2 ⟨rfl, g2⟩
    have R2 := Lib.hid ((g2.block _ HR1.out).trans HR.out)
    have G2 := Lib.hid (G.out.trans g2)
    have L2 := Lib.hid (Nat.lt_of_lt_of_le HR1.out g2.size)
    have KE := Lib.hid (spec_l08EraseBook u w2 _ (OB.out.grow g2) (BB.out.grow g2) HBK.out)
    clear g2 KOO
    go_wp2_with fail
    refine KE.out.mono ?_
    rintro e w3 ⟨x, rfl, hx, hnew, g3⟩
    have HX := Lib.hid hx
    have NX := Lib.hid hnew
    have R3 := Lib.hid ((g3.block _ L2.out).trans R2.out)
    have G3 := Lib.hid (G2.out.trans g3)
    have r0 : w3.cell? ⟨w.heap.size + 1, 0, none⟩ = some (.slice none 0 0) := cell_of_row _ _ 0 _ _ _ R3.out
    have rf0 : w3.frozen? ⟨w.heap.size + 1, 0, none⟩ = false := by simp [World.frozen?, R3.out]
    clear hx hnew g3 KE
    go_wp2_with fail
    refine bodyPost_ret (v := .tuple #[x.val, .int .i64 (ebCd u.cs)]) (by simp [results, Tryd.results43, go_sem, r0]) rfl ⟨x, rfl, HX.out, ?_, Below.setCell G3.out (by simp) _⟩
    refine gNewSl.mono (gNewSl.same (by decide) coLen coFr NX.out fun y hy => ?_) (by have := L2.out; omega)
    have := (NX.out.2.2 y hy).1
    have := L2.out
    rw [Below.heap_setCell _ _ _ _ (by simp; omega)]

theorem es_er {t : Co} (h : closC t = true) : (esCd t = 0 ∧ t.er = some (esRs t)) ∨ (esCd t = 4 ∧ t.er = none) := by
  cases hr : t.er with
  | none => exact .inr ⟨(esCd_none h hr).1, rfl⟩
  | some r => exact .inl ⟨(esCd_some h hr).1, by rw [(esCd_some h hr).2]⟩

set_option maxRecDepth 100000 in
set_option maxHeartbeats 2000000 in
theorem impl_eraseBook (u : LB) (w : World) (h : bOk w u) (hT : KTbl w) : Calls Tryd.prog 44 #[u.val] w (EbP w u.cs) := by
  obtain ⟨i0, hi, hz0, hz1, hz2⟩ := info_parts infoK
  have HI := Lib.hid hi
  have HZ0 := Lib.hid hz0
  have HZ1 := Lib.hid hz1
  have HZ2 := Lib.hid hz2
  clear hi hz0 hz1 hz2
  have gA : Gw w ((w.alloc (.cells #[.slice u.a u.ks.length u.cap] 42)).alloc (.cells #[.slice none 0 0] 42)) := ((Gw.refl w).alloc _).alloc _
  have hB := (BoxB.new w u 42).grow ((Gw.refl _).alloc (.cells #[.slice none 0 0] 42))
  have hR := heap_alloc_new (w.alloc (.cells #[.slice u.a u.ks.length u.cap] 42)) (.cells #[.slice none 0 0] 42)
  rw [World.size_alloc] at hR
  have HR := Lib.hid hR
  have G := Lib.hid gA
  have H0 := Lib.hid h
  have T0 := Lib.hid hT
  have BB := Lib.hid hB
  have SZ1 := Lib.hid (show ((w.alloc (.cells #[.slice u.a u.ks.length u.cap] 42)).alloc (.cells #[.slice none 0 0] 42)).heap.size = w.heap.size + 2 by simp)
  clear h gA hB hR hT
  go_enter Tryd.func44, Tryd.ntmps44
  go_upto_region 1 with (fail)
  generalize ((w.alloc (.cells #[.slice u.a u.ks.length u.cap] 42)).alloc (.cells #[.slice none 0 0] 42)) = w1 at *
  have KO := impl_validBook u w1 (H0.out.grow G.out) (T0.out.grow G.out)
  have HR1 := Lib.hid (Array.getElem?_eq_some_iff.1 HR.out).1
  have p0 := BB.out.c
  cases hbk : bkC u.cs with
  | false =>
    rw [hbk] at KO
    have KOO := Lib.hid KO
    have C := Lib.hid (eb_no hbk)
    clear KO hbk
    go_wp2_with fail
    refine KOO.out.mono ?_
    rintro e w2 ⟨rfl, g2⟩
    have R2 := Lib.hid ((g2.block _ HR1.out).trans HR.out)
    have G2 := Lib.hid (G.out.trans g2)
    have r0 : w2.cell? ⟨w.heap.size + 1, 0, none⟩ = some (.slice none 0 0) := cell_of_row _ _ 0 _ _ _ R2.out
    have rf0 : w2.frozen? ⟨w.heap.size + 1, 0, none⟩ = false := by simp [World.frozen?, R2.out]
    clear g2 KOO p0
    go_wp2_with fail
    refine bodyPost_ret (v := .tuple #[zeB.val, .int .i64 1]) (by simp [results, Tryd.results44, go_sem, r0]; exact ⟨rfl, rfl, rfl⟩) rfl ⟨zeB, by rw [C.out.1], by rw [C.out.2]; rfl, coNew_nil _ _, Below.setCell G2.out (by simp) _⟩
  | true =>
  rw [hbk] at KO
  have KOO := Lib.hid KO
  have HBK := Lib.hid hbk
  have hcl := bkC_clos hbk
  have HCL := Lib.hid (show u.ks.length ≤ 24 ∧ ∀ j (hj : j < u.ks.length), closC u.ks[j].co = true from ⟨by have := hcl.1; simpa [LB.cs] using this, fun j hj => hcl.2 _ (by rw [LB.cs]; exact List.mem_map_of_mem (List.getElem_mem hj))⟩)
  clear KO hbk hcl
  go_wp2_with fail
  refine KOO.out.mono ?_
  rintro e w2 ⟨rfl, g2⟩
  have hT0 := heap_alloc_new w2 (.cells #[.slice none 0 0] 42)
  have HRX := Lib.hid ((Below.heap_alloc w2 (.cells #[.slice none 0 0] 42) _ (Nat.lt_of_lt_of_le HR1.out g2.size)).trans ((g2.block _ HR1.out).trans HR.out))
  have BX2 := Lib.hid ((BB.out.grow g2).grow ((Gw.refl w2).alloc (.cells #[.slice none 0 0] 42)))
  have GX := Lib.hid ((G.out.trans g2).alloc (.cells #[.slice none 0 0] 42))
  have SZ2 := Lib.hid (show (w2.alloc (.cells #[.slice none 0 0] 42)).heap.size = w2.heap.size + 1 ∧ w.heap.size + 2 ≤ w2.heap.size from ⟨by simp, by have := g2.size; have := SZ1.out; omega⟩)
  clear g2 KOO p0
  go_upto_region 4 with (fail)
  obtain ⟨T, hTe⟩ : ∃ T, T = w2.heap.size := ⟨_, rfl⟩
  rw [← hTe] at hT0 SZ2
  rw [← hTe]
  have HT0 := Lib.hid hT0
  generalize w2.alloc (.cells #[.slice none 0 0] 42) = w3 at *
  clear hT0 hTe
  have p0 := BX2.out.c
  go_wp2_with fail
  obtain ⟨Bk, hBk0⟩ : ∃ Bk, Bk = T + 1 := ⟨_, rfl⟩
  have HB0 := Lib.hid hBk0
  clear hBk0 p0
  go_loopw [16] (fun i wr => EbRel w u (w.heap.size + 1) T Bk i wr) (fun i _ => u.ks.length - (intOf i).toNat)
  case atStart => exact ⟨[], .slice none 0 0, rfl, Nat.zero_le _, (fun j h => by simp at h), gApp.nil _ _, HRX.out, HT0.out, GX.out, by rw [HB0.out, SZ2.out.1]; exact Nat.le_refl _⟩
  case round =>
    obtain ⟨us, v, rfl, hle, hers, happ, hb0, hb2, hg, hBk⟩ := hrel
    have hl24 : u.ks.length ≤ 24 := HCL.out.1
    have HERS := Lib.hid hers
    have HA := Lib.hid happ
    have HRR := Lib.hid hb0
    have HTR := Lib.hid hb2
    have HG5 := Lib.hid hg
    obtain ⟨va, vc, rfl⟩ := happ.form
    have HRT9 := Lib.hid (show w.heap.size + 1 < Bk ∧ w.heap.size + 1 ≠ T from ⟨by have := HB0.out; have := SZ2.out.2; omega, by have := SZ2.out.2; omega⟩)
    have HTB9 := Lib.hid (show w.heap.size ≤ T ∧ T < Bk from ⟨by have := SZ2.out.2; omega, by have := HB0.out; omega⟩)
    have HBW := Lib.hid (show w.heap.size ≤ Bk ∧ Bk ≤ wr.heap.size from ⟨by have := HRT9.out; omega, hBk⟩)
    have OB5 := Lib.hid (H0.out.grow HG5.out)
    clear hers happ hb0 hg hBk
    by_cases hlt : us.length < u.ks.length
    · obtain ⟨bk, ok, ha, hkid⟩ := kidB OB5.out us.length hlt
      rw [ha]
      obtain ⟨p0, p1, p2, p3⟩ := hkid.c
      have q0 : (0 : Int) ≤ us.length := by omega
      have q1' : (us.length : Int) < u.ks.length := by omega
      have gB := (Gw.refl wr).alloc (u.ks[us.length].obj 30)
      have BK := Lib.hid (BoxK.new wr u.ks[us.length] 30)
      have IH := Lib.hid (impl_eraseCo u.ks[us.length] _ (hkid.2.grow gB) (T0.out.grow (HG5.out.trans gB)))
      have GB := Lib.hid gB
      have EE := Lib.hid (es_er (HCL.out.2 us.length hlt))
      obtain ⟨z, hz⟩ : ∃ z, z = u.ks[us.length] := ⟨_, rfl⟩
      rw [← hz] at p0 p1 p2 p3 GB BK IH EE
      have HZ9 := Lib.hid hz
      clear ha hkid hb2 hle gB hz
      go_upto_region 7 with (fail)
      obtain ⟨B6, hB6⟩ : ∃ B6, B6 = wr.heap.size := ⟨_, rfl⟩
      rw [← hB6] at BK
      rw [← hB6]
      clear p0 p1 p2 p3 hB6
      generalize wr.alloc (.cells #[.int .i64 z.k, .int .i64 z.v, .slice z.da z.ds.length z.dc, .slice z.a z.ks.length z.cap] 30) = wk at *
      obtain ⟨p0, p1, p2, p3⟩ := BK.out.c
      go_wp2_with fail
      refine IH.out.mono ?_
      rintro e w4 ⟨x, rfl, hc, hnew, hg1⟩
      have HQ := Lib.hid (show Gw wr (w4.alloc (x.obj 30)) from (GB.out.trans hg1).alloc _)
      have HN := Lib.hid (show x.New wr.heap.size (w4.alloc (x.obj 30)) from (hnew.grow coGr ((Gw.refl w4).alloc _)).mono GB.out.size)
      have BX := Lib.hid (BoxK.new w4 x 30)
      rcases EE.out with ⟨he, hk⟩ | ⟨he, hk⟩
      · have HEK := Lib.hid (show u.ks[us.length].co.er = some x.co by rw [← HZ9.out, hc]; exact hk)
        rw [he]
        clear hk he hc hnew hg1 IH p0 p1 p2 p3 EE BK
        go_upto_region 8 with (fail)
        generalize w4.alloc (.cells #[.int .i64 x.k, .int .i64 x.v, .slice x.da x.ds.length x.dc, .slice x.a x.ks.length x.cap] 30) = wq at *
        have HOW := Lib.hid ((HA.out.grow coGr HQ.out).1.alloc (.cells #[.int .i64 x.k, .int .i64 x.v, .slice x.da x.ds.length x.dc, .slice x.a x.ks.length x.cap] 30))
        have HNEWS := Lib.hid (World.news_of_block (heap_alloc_new wq (.cells #[.int .i64 x.k, .int .i64 x.v, .slice x.da x.ds.length x.dc, .slice x.a x.ks.length x.cap] 30)))
        have HL1 := Lib.hid (show Bk ≤ (wq.alloc (.cells #[.int .i64 x.k, .int .i64 x.v, .slice x.da x.ds.length x.dc, .slice x.a x.ks.length x.cap] 30)).heap.size by have := HBW.out; have := HQ.out.size; simp; omega)
        have LEN := Lib.hid (show us.length + 1 ≤ 24 by have := HCL.out.1; omega)
        have HTQ := Lib.hid ((HQ.out.block T (by have := HTB9.out; have := HBW.out; omega)).trans HTR.out)
        have y0 : wq.cell? ⟨T, 0, none⟩ = some (.slice va us.length vc) := cell_of_row _ _ 0 _ _ _ HTQ.out
        obtain ⟨e0, e1, e2, e3⟩ := BX.out.c
        go_wp2_with (at_builtin; refine wpList_append_lies _ rfl _ _ 28 rfl Bk 30 i0 _ 4 64 Tryd.underlying28 HI.out HZ0.out HZ1.out HZ2.out rfl (by decide) _ us.length (us.flatMap coE) rfl HOW.out ⟨wq.heap.size, 0, none⟩ 1 1 [.int .i64 x.k, .int .i64 x.v, .slice x.da x.ds.length x.dc, .slice x.a x.ks.length x.cap] rfl rfl HNEWS.out (one4 _ _ _ _ _ _ _ _) (by decide) (by unfold maxLen; have := LEN.out; omega) (by have := LEN.out; omega) HL1.out _ rfl ?_)
        intro g cap w2 hown2 hgr2 hat2 hlt2
        have HO2 := Lib.hid hown2
        have HG2 := Lib.hid hgr2
        have HA2 := Lib.hid hat2
        have kT : w2.heap[T]? = wq.heap[T]? := (hgr2.block T (by have := HTB9.out; have := HL1.out; omega) (fun e => by have := (HA.out.1.lt T e.symm).1; have := HTB9.out; omega)).trans (Below.heap_alloc _ _ _ (by have := HTB9.out; have := HBW.out; have := HQ.out.size; omega))
        have y4 : w2.cell? ⟨T, 0, none⟩ = some (.slice va us.length vc) := (World.cell?_of_block (a := ⟨T, 0, none⟩) kT).trans y0
        have f4 : w2.frozen? ⟨T, 0, none⟩ = false := by simp [World.frozen?, kT, HTQ.out]
        clear hown2 hgr2 hat2 kT y0 e0 e1 e2 e3
        go_wp2_with fail
        go_roundw
        case rel => exact eb_next HRR.out HA.out HERS.out hlt HEK.out HTR.out HRT9.out HTB9.out HG5.out HQ.out HN.out HBW.out HO2.out HG2.out (HA2.out.imp id (fun e => by rw [e]; simp))
        case measure => simp [intOf]; omega
      · rw [HZ9.out] at hk
        rw [he]
        clear hnew hg1 IH p0 p1 p2 p3 BX HN hc he EE BK
        go_upto_region 8 with (fail)
        generalize w4.alloc (.cells #[.int .i64 x.k, .int .i64 x.v, .slice x.da x.ds.length x.dc, .slice x.a x.ks.length x.cap] 30) = wq at *
        have HEN := Lib.hid (show Co.er.ers u.cs = none from ers_none _ us.length (by rw [LB.cs]; simpa using hlt) (by simp only [LB.cs, List.getElem_map]; exact hk))
        have C := Lib.hid (eb_none HBK.out HEN.out)
        have RQ := Lib.hid ((HQ.out.block _ (Array.getElem?_eq_some_iff.1 HRR.out).1).trans HRR.out)
        have GQ := Lib.hid (HG5.out.trans HQ.out)
        have r0 : wq.cell? ⟨w.heap.size + 1, 0, none⟩ = some (.slice none 0 0) := cell_of_row _ _ 0 _ _ _ RQ.out
        have rf0 : wq.frozen? ⟨w.heap.size + 1, 0, none⟩ = false := by simp [World.frozen?, RQ.out]
        clear hk
        go_wp2_with fail
        refine bodyPost_ret (v := .tuple #[zeB.val, .int .i64 4]) (by simp [results, Tryd.results44, go_sem, r0]; exact ⟨rfl, rfl, rfl⟩) rfl ⟨zeB, by rw [C.out.1], by rw [C.out.2]; rfl, coNew_nil _ _, Below.setCell GQ.out (by simp) _⟩
    · have hall : us.length = u.ks.length := by omega
      have HERB := Lib.hid (show Co.er.ers u.cs = some (us.map LK.co) from ers_some _ _ (by rw [LB.cs]; simp [hall]) (fun i h1 h2 => by
        have h3 : i < us.length := by rw [LB.cs] at h1; simp at h1; omega
        have := HERS.out i h3 (by omega)
        simp only [LB.cs, List.getElem_map]
        exact this))
      have C := Lib.hid (eb_some HBK.out HERB.out)
      have CN := Lib.hid (HA.out.done coLen)
      have t0 : wr.cell? ⟨T, 0, none⟩ = some (.slice va us.length vc) := cell_of_row _ _ 0 _ _ _ hb2
      have r0 : wr.cell? ⟨w.heap.size + 1, 0, none⟩ = some (.slice none 0 0) := cell_of_row _ _ 0 _ _ _ HRR.out
      have rf0 : wr.frozen? ⟨w.heap.size + 1, 0, none⟩ = false := by simp [World.frozen?, HRR.out]
      have q0 : (0 : Int) ≤ us.length := by omega
      have q1' : ¬ ((us.length : Int) < u.ks.length) := by omega
      clear hall hle hlt
      go_wp2_with fail
      refine bodyPost_ret (v := .tuple #[(LB.mk va vc us).val, .int .i64 0]) (by simp [results, Tryd.results44, go_sem, r0]) rfl ⟨⟨va, vc, us⟩, by rw [C.out.1], by rw [C.out.2]; rfl, ?_, Below.setCell HG5.out (by simp) _⟩
      refine gNewSl.mono (gNewSl.same (by decide) coLen coFr CN.out fun y hy => ?_) (by have := HBW.out; omega)
      have := (CN.out.2.2 y hy).1
      have := HRT9.out
      rw [Below.heap_setCell _ _ _ _ (by simp; omega)]

theorem laws_markB (u : LB) (B : Nat) (w : World) (k : Nat) (h : coNew B w u.a u.cap u.ks) (h1 : 1 ≤ k) (h2 : k + mcs u.ks ≤ 8000000) : Calls Tryd.prog 45 #[u.val, .int .i64 k] w fun e w' => e = .returned (.int .i64 ((mkc u.ks k).2 : Nat)) ∧ coNew B w' u.a u.cap (mkc u.ks k).1 ∧ Chg w w' (fun x => x ∈ nbl LK.bl u.a u.ks) := by
  have g0 := (Gw.refl w).alloc (.cells #[.slice u.a u.ks.length u.cap] 42)
  have BX := BoxB.new w u 42
  have KM := Lib.hid (laws_markKS u.ks B _ u.a u.cap k (gNewSl.grow coLen coGr h g0) h1 h2)
  have G0 := Lib.hid g0
  have c0 := BX.c
  clear h g0 BX
  go_enter Tryd.func45, Tryd.ntmps45
  go_upto_region 1 with (fail)
  generalize w.alloc (.cells #[.slice u.a u.ks.length u.cap] 42) = w1 at *
  go_wp2_with fail
  refine KM.out.mono ?_
  rintro e w2 ⟨rfl, hn, hc⟩
  have F := Lib.hid (And.intro hn ((Chg.of_gw G0.out (fun x => x ∈ nbl LK.bl u.a u.ks)).trans hc (fun _ _ e => e)))
  clear hn hc KM c0
  go_wp2_with fail
  go_ret
  exact ⟨rfl, F.out⟩
theorem laws_heldB (u : LB) (w : World) (k : Nat) (h : coSl w u.a u.cap (mkc u.ks k).1) (h1 : 1 ≤ k) (h2 : k + mcs u.ks ≤ 8000000) : Calls Tryd.prog 46 #[u.val, .int .i64 k] w (HdN w (mkc u.ks k).2) := by
  have g0 := (Gw.refl w).alloc (.cells #[.slice u.a u.ks.length u.cap] 42)
  have BX := BoxB.new w u 42
  have KM := Lib.hid (laws_heldKS u.ks _ u.a u.cap k u.ks.length rfl (gSl.grow coLen coGr h g0) h1 h2)
  have G0 := Lib.hid g0
  have c0 := BX.c
  clear h g0 BX
  go_enter Tryd.func46, Tryd.ntmps46
  go_upto_region 1 with (fail)
  generalize w.alloc (.cells #[.slice u.a u.ks.length u.cap] 42) = w1 at *
  generalize (mkc u.ks k).2 = q at *
  have hq : ¬ ((q : Nat) : Int) < 0 := by omega
  go_wp2_with fail
  refine KM.out.mono ?_
  rintro e w2 ⟨rfl, g2⟩
  have G2 := Lib.hid (G0.out.trans g2)
  clear g2 KM c0
  go_wp2_with fail
  go_ret
  exact ⟨rfl, G2.out⟩
theorem newB_chg {B : Nat} {w w' : World} {u : LB} {S : Nat → Prop} (h : coNew B w u.a u.cap u.ks) (hc : Chg w w' S) (hS : ∀ b ∈ nbl LK.bl u.a u.ks, ¬ S b) : coNew B w' u.a u.cap u.ks :=
  gNewSl.same (by decide) coLen coFr h fun y hy => hc.2.2.2.2 y (h.2.2 y hy).2.lt (hS y hy)
theorem mcs_co : ∀ ks : List LK, mcs ks = Co.mc.mcl (ks.map LK.co)
  | [] => by rw [mcs_nil]; rfl
  | t :: ts => by rw [mcs_cons, List.map_cons, Co.mc.mcl, mcn_co, mcs_co ts]
theorem mcs_sz : ∀ ks : List LK, mcs ks ≤ 2 * LK.sz.szl ks
  | [] => by rw [mcs_nil]; omega
  | t :: ts => by
    have := mcn_sz t
    have := mcs_sz ts
    rw [mcs_cons, LK.sz.szl]
    omega
theorem mcb_like {u t : LB} (h : u.cs = t.cs) (hz : t.sz ≤ 1048576) : 1 + mcs u.ks ≤ 8000000 := by
  have h1 := mcs_sz t.ks
  have h2 : LK.sz.szl t.ks = t.sz := by unfold LB.sz; rw [← kszl_eq]
  have h3 : mcs u.ks = mcs t.ks := by
    rw [mcs_co, mcs_co]
    exact congrArg Co.mc.mcl h
  omega
theorem mcl_le : ∀ (ts : List Co), (∀ t ∈ ts, t.mc ≤ 2400) → Co.mc.mcl ts ≤ 2400 * ts.length
  | [], _ => by rw [Co.mc.mcl]; omega
  | t :: ts, h => by
    rw [Co.mc.mcl, List.length_cons]
    have := h t (by simp)
    have := mcl_le ts fun x hx => h x (by simp [hx])
    omega
theorem eb_mcs {u : LB} {ts : List Co} (h : u.cs = ebRs ts) : 1 + mcs u.ks ≤ 8000000 := by
  have h3 : mcs u.ks = Co.mc.mcl (ebRs ts) := by rw [mcs_co]; exact congrArg Co.mc.mcl h
  rw [h3]
  unfold ebRs
  by_cases hb : bkC ts = true
  · rw [if_pos hb]
    cases hr : Co.er.ers ts with
    | none => show 1 + Co.mc.mcl [] ≤ 8000000; rw [Co.mc.mcl]; omega
    | some rs =>
      obtain ⟨l1, l2⟩ := ers_len ts rs hr
      have h24 := (bkC_clos hb).1
      have := mcl_le rs fun t ht => by
        obtain ⟨i, hi, rfl⟩ := List.mem_iff_getElem.1 ht
        exact ok_mc (er_ok (l2 i (by omega) hi))
      show 1 + Co.mc.mcl rs ≤ 8000000
      omega
  · rw [if_neg hb]; show 1 + Co.mc.mcl [] ≤ 8000000; rw [Co.mc.mcl]; omega

end Go.Proofs.YtfbgkbgoooepmaaDoor.Con
