/-
  Contract of the program's IsClosed. Condition: the core term lies in memory, and the table of forms reads as the program's text lays it.
-/
import Derived.Test.YtkpbiifikkbaeaaDoorCoSize
import Derived.Test.YtkpbiifikkbaeaaDoorCoFv
namespace Go.Proofs.YtkpbiifikkbaeaaDoor.Con
open Go.RowKit
set_option linter.unusedVariables false
attribute [local go_sem] Oper.semAt_some

theorem fv_any (u : LK) (b o : Nat) : (u.co.pl 0 0).any freeP = !(fvL (nodesK u b o 0 0)).isEmpty := by
  rw [← nodesK_pl u b o 0 0, List.any_map]
  generalize nodesK u b o 0 0 = xs
  induction xs with
  | nil => rfl
  | cons x xs ih =>
    rw [List.any_cons, ih]
    unfold fvL
    rw [List.filterMap_cons]
    cases hf : freeP x.pk with
    | true => rw [fvN_yes hf]; simp [hf]
    | false => rw [fvN_no hf]; simp [hf]

set_option maxRecDepth 100000 in
theorem impl_closed_no (u : LK) (w : World) (h : u.Ok w) (hT : KTbl w) (hok : okC u.co = false) : Calls Tryd.prog 93 #[u.val] w (BoolGw false w) := by
  have HU := Lib.hid h
  have HT := Lib.hid hT
  have g0 : Gw w ((w.alloc (u.obj 42)).alloc (.cells #[.bool false] 4)) := ((Gw.refl w).alloc _).alloc _
  have BK := Lib.hid ((BoxK.new w u 42).grow ((Gw.refl _).alloc (.cells #[.bool false] 4)))
  have BR := Boxed.new (w.alloc (u.obj 42)) 4 (.bool false)
  rw [World.size_alloc] at BR
  have G := Lib.hid g0
  clear h hT g0
  go_enter Tryd.func93, Tryd.ntmps93
  go_upto_region 1 with (fail)
  generalize (w.alloc (.cells #[.int .i64 u.k, .int .i64 u.v, .slice u.da u.ds.length u.dc, .slice u.a u.ks.length u.cap] 42)).alloc (.cells #[.bool false] 4) = w1 at *
  have BRR := Lib.hid BR
  have KV0 := impl_validCo u w1 (HU.out.grow G.out) (HT.out.grow G.out)
  rw [hok] at KV0
  have KV := Lib.hid KV0
  clear KV0 BR hok
  obtain ⟨p0, p1, p2, p3⟩ := BK.out.c
  go_wp2_with fail
  refine KV.out.mono ?_
  rintro e w2 ⟨rfl, g2⟩
  have BR2 : Boxed w2 (w.heap.size + 1) 4 (.bool false) := (g2.block _ BRR.out.lt).trans BRR.out
  have G2 := Lib.hid (G.out.trans g2)
  have cR := BR2.cell
  have fR := BR2.frozen
  clear p0 p1 p2 p3 KV g2 BK BRR
  go_wp2_with fail
  have cF := (BR2.set (.bool false)).cell
  refine bodyPost_ret (v := .bool false) (by simp [results, Tryd.results93, go_sem, cF]) rfl ⟨rfl, Below.setCell G2.out (by simp) _⟩

set_option maxRecDepth 100000 in
set_option maxHeartbeats 4000000 in
theorem impl_closed_yes (u : LK) (w : World) (h : u.Ok w) (hT : KTbl w) (hok : okC u.co = true) : Calls Tryd.prog 93 #[u.val] w (BoolGw (!((u.co.pl 0 0).any freeP)) w) := by
  have HU := Lib.hid h
  have HT := Lib.hid hT
  have g0 : Gw w ((w.alloc (u.obj 42)).alloc (.cells #[.bool false] 4)) := ((Gw.refl w).alloc _).alloc _
  have BK := Lib.hid ((BoxK.new w u 42).grow ((Gw.refl _).alloc (.cells #[.bool false] 4)))
  have BR := Boxed.new (w.alloc (u.obj 42)) 4 (.bool false)
  rw [World.size_alloc] at BR
  have G := Lib.hid g0
  clear h hT g0
  refine (callsIn_wide (n := 9)).1 ?_
  refine callsIn_of_wp_marks Tryd.func93 rfl trivial ?_ rfl
  simp only [Tryd.ntmps93, List.size_toArray, List.length_cons, List.length_nil, Nat.reduceAdd, Nat.reduceSub, Array.replicate_succ, Array.replicate_zero, List.push_toArray, List.append_toArray, List.nil_append, List.cons_append]
  have f1 : Fence.wide.fn 107 := trivial
  have f2 : Fence.wide.fn 77 := trivial
  gi_upto_region 1 with (fail)
  generalize (w.alloc (.cells #[.int .i64 u.k, .int .i64 u.v, .slice u.da u.ds.length u.dc, .slice u.a u.ks.length u.cap] 42)).alloc (.cells #[.bool false] 4) = w1 at *
  obtain ⟨B0, hB0⟩ : ∃ x, x = w.heap.size := ⟨_, rfl⟩
  obtain ⟨B1, hB1⟩ : ∃ x, x = w.heap.size + 1 := ⟨_, rfl⟩
  rw [← hB0] at BK
  rw [← hB1] at BR
  rw [← hB1, ← hB0]
  have HB := Lib.hid (And.intro hB0 hB1)
  have BRR := Lib.hid BR
  have KV0 := impl_validCo u w1 (HU.out.grow G.out) (HT.out.grow G.out)
  rw [hok] at KV0
  have KV := Lib.hid KV0
  clear KV0
  clear hB0 hB1 BR
  obtain ⟨p0, p1, p2, p3⟩ := BK.out.c
  gi_wp2_with fail
  refine (callsIn_wide.2 KV.out).mono ?_
  rintro e w2 ⟨rfl, g2⟩
  have BR2 : Boxed w2 B1 4 (.bool false) := (g2.block _ BRR.out.lt).trans BRR.out
  have BK2 := Lib.hid (BK.out.grow g2)
  have G2 := Lib.hid (G.out.trans g2)
  have cR := BR2.cell
  have fR := BR2.frozen
  have BRR2 := Lib.hid BR2
  have hB1 : w.heap.size ≤ B1 := by have := HB.out; omega
  clear p0 p1 p2 p3 KV g2 BR2 BK BRR
  have HOK := Lib.hid hok
  clear hok
  have KN := Lib.hid (impl_freeVars B0 0 w2)
  gi_wp2_with fail
  refine (callsIn_wide.2 KN.out).mono ?_
  rintro e w3 ⟨rfl, hw3'⟩
  have HW3 := Lib.hid hw3'
  clear hw3'
  gi_wp2_with fail
  have hw3 := HW3.out
  clear HW3
  obtain ⟨B, hB⟩ : ∃ x, x = w2.heap.size := ⟨_, rfl⟩
  have g23 : Gw w2 w3 := by rw [hw3]; exact (Gw.refl w2).alloc _
  have hBs : B < w3.heap.size := by rw [hw3, hB]; simp
  have HC := Lib.hid (show w3.cell? ⟨B, 0, none⟩ = some (.pointer (some ⟨B0, 0, none⟩)) by rw [hw3, hB]; exact cell_of_row _ _ 0 _ _ _ (heap_alloc_new w2 _))
  have CA := Lib.hid (BK2.out.at (HU.out.grow G2.out))
  have HD := Lib.hid (show u.co.dp ≤ 1000 by have := (okC_good HOK.out).2.1; omega)
  have G23 := Lib.hid g23
  have HS := Lib.hid (show w2.heap.size ≤ w3.heap.size ∧ w.heap.size ≤ w2.heap.size ∧ B1 < w2.heap.size from ⟨g23.size, G2.out.size, BRR2.out.lt⟩)
  have I0 := Lib.hid (show (Boxed w3 B1 4 (.bool false) ∧ Below w.heap.size w w3) ∧ ([] : List (FvS (fvL (nodesK u B0 0 0 0)))) = [] from ⟨⟨(g23.block _ BRR2.out.lt).trans BRR2.out, G2.out.trans g23⟩, rfl⟩)
  have LK1 := Lib.hid (fv_any u B0 0)
  rw [← hB]
  have HBB := Lib.hid hB
  clear cR fR hw3 g23 hB KN BK2 BRR2
  refine range_O (by omega) (gf := 110) (lb := #[.pointer (some ⟨B, 0, none⟩)]) rfl (enters_of Tryd.func110 (by kernel_rfl) rfl)
    (fv_seq (9 - 1) (by omega) B B0 0 u w2 w3 hBs HC.out CA.out HD.out G23.out) (fun _ => rfl) KeepP.trans (fun hA g => KeepP.gw (Nat.le_trans HS.out.1 hA) g) (keepP_b HS.out.1)
    (fun pre W => (Boxed W B1 4 (.bool false) ∧ Below w.heap.size w W) ∧ pre = [])
    (fun c pre W => c = .ret ∧ pre ≠ [] ∧ Boxed W B1 4 (.bool false) ∧ Below w.heap.size w W)
    (fun pre x a' W => a'.defers = [] ∧ a'.tmps = #[u.val, .pointer (some ⟨B0, 0, none⟩), .pointer (some ⟨B1, 0, none⟩), u.val, .bool true, .bool false, .func (.func 110) #[] #[.pointer (some ⟨B, 0, none⟩)], .int .i64 (x.1 : Int)])
    (OwnFrom.and (OwnFrom.and (Own.from (boxed_own _ _ _) _) (ownFrom_below (Nat.le_refl _) (Nat.le_trans HS.out.2.1 HS.out.1))) (fun _ _ _ _ h _ _ => h))
    (fun c => OwnFrom.and (fun _ _ _ _ h _ _ => h) (OwnFrom.and (fun _ _ _ _ h _ _ => h) (OwnFrom.and (Own.from (boxed_own _ _ _) _) (ownFrom_below (Nat.le_refl _) (Nat.le_trans HS.out.2.1 HS.out.1)))))
    (fun s x a' _ X Y row hs hg hr => hs)
    I0.out
    ?assign ?body ?done ?stop
  case assign =>
    rintro l pre x W K hi hK
    have HI := Lib.hid hi
    have HK := Lib.hid hK
    clear hi hK
    gi_wp2
    exact HK.out _ _ (Gw.refl W) ⟨rfl, rfl⟩
  case body =>
    rintro l pre x a' W hl hl2 ⟨⟨iR, iB⟩, rfl⟩ ⟨hd, ht⟩ hlen
    obtain ⟨tm, df⟩ := a'
    simp only at hd ht
    subst hd ht
    have IR := Lib.hid iR
    have IB := Lib.hid iB
    have cR := iR.cell
    have fR := iR.frozen
    clear iR iB
    gi_wp2
    exact ⟨(KeepsOthers.setCell _ _ _).from _, rfl, by simp, IR.out.set _, IB.out.setCell (p := ⟨B1, 0, none⟩) hB1 _⟩
  case done =>
    rintro D ys W hD hys ⟨⟨iR, iB⟩, rfl⟩ hK
    have HE := Lib.hid (show (u.co.pl 0 0).any freeP = false by rw [LK1.out, ← hys]; rfl)
    have IR := Lib.hid iR
    have cR := iR.cell
    have fR := iR.frozen
    have HKK := Lib.hid hK
    have BB := Lib.hid (iB.setCell (p := ⟨B1, 0, none⟩) hB1 (.bool true))
    clear iR iB hK hys
    gi_wp2
    have hD2 : B1 ≠ D := by have := HS.out; omega
    have hKD : (W.setCell ⟨B1, 0, none⟩ (.bool true)).heap[D]? = some (.deferred (some [])) := (Below.heap_setCell _ _ _ _ (by simpa using fun e => hD2 e.symm)).trans HKK.out
    have cF : ((W.setCell ⟨B1, 0, none⟩ (.bool true)).putObj D (.deferred none)).cell? ⟨B1, 0, none⟩ = some (.bool true) := Boxed.cell ((World.putObj_heap_other hD2).trans (IR.out.set (.bool true)))
    refine ⟨by simp, .inl ⟨_, _, rfl, run_takeDeferred hKD, ?_⟩⟩
    exact ⟨.bool true, by simp [results, Tryd.results93, go_sem, cF], by rw [HE.out]; rfl, BB.out.trans (belowK_b (w := w) (Nat.le_refl _) _ D _ (.deferred none) (by have := HS.out; omega) hKD rfl rfl)⟩
  case stop =>
    rintro D c pre W hD ⟨rfl, hne, iR, iB⟩ hK
    have HE := Lib.hid (show (u.co.pl 0 0).any freeP = true by
      rw [LK1.out]
      cases pre with
      | nil => exact absurd rfl hne
      | cons p ps =>
        cases hf : fvL (nodesK u B0 0 0 0) with
        | nil =>
          obtain ⟨pv, hpv⟩ := p
          have h2 : pv ∈ ([] : List Nat) := by rw [← hf]; exact hpv
          cases h2
        | cons _ _ => rfl)
    have IR := Lib.hid iR
    have HKK := Lib.hid hK
    have BB := Lib.hid iB
    clear iR iB hK hne
    gi_wp2
    have hD2 : B1 ≠ D := by have := HS.out; omega
    have cF : (W.putObj D (.deferred none)).cell? ⟨B1, 0, none⟩ = some (.bool false) := Boxed.cell ((World.putObj_heap_other hD2).trans IR.out)
    refine ⟨by simp, .inl ⟨_, _, rfl, run_takeDeferred HKK.out, ?_⟩⟩
    exact ⟨.bool false, by simp [results, Tryd.results93, go_sem, cF], by rw [HE.out]; rfl, BB.out.trans (belowK_b (w := w) (Nat.le_refl _) _ D _ (.deferred none) (by have := HS.out; omega) HKK.out rfl rfl)⟩

theorem impl_closed (u : LK) (w : World) (h : u.Ok w) (hT : KTbl w) : Calls Tryd.prog 93 #[u.val] w (BoolGw (closC u.co) w) := by
  cases hok : okC u.co with
  | false => have := impl_closed_no u w h hT hok; unfold closC; rw [hok]; exact this
  | true => have := impl_closed_yes u w h hT hok; unfold closC; rw [hok]; exact this

end Go.Proofs.YtkpbiifikkbaeaaDoor.Con
