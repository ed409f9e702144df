/-
  Contract of the program's CountVar. Condition: the core term lies in memory, and the table of forms reads as the program's text lays it.
-/
import Derived.Test.YtfbgkbgoooepmaaDoorCoSize
import Derived.Test.YtfbgkbgoooepmaaDoorCoFv
import Derived.Test.YtfbgkbgoooepmaaDoorCoCn
import Derived.Test.YtfbgkbgoooepmaaDoorCoEr
namespace Go.Proofs.YtfbgkbgoooepmaaDoor.Con
open Go.RowKit
set_option linter.unusedVariables false
attribute [local go_sem] Oper.semAt_some

def eqI (i : Int) (v : Nat) : Bool := (v : Int) == i
theorem fv_countP (i : Int) (hi : 0 ≤ i) (xs : List NodeK) : (fvL xs).countP (eqI i) = (xs.map NodeK.pk).countP (isP i) := by
  induction xs with
  | nil => rfl
  | cons x xs ih =>
    rw [List.map_cons, List.countP_cons, ← ih]
    unfold fvL
    rw [List.filterMap_cons]
    have e1 : isP i x.pk = (x.u.k == 1 && (x.u.v == i + x.bd)) := rfl
    cases hf : freeP x.pk with
    | true =>
      have h2 : ((x.u.k == 1) && decide ((x.bd : Int) ≤ x.u.v)) = true := hf
      have h3 : x.u.k = 1 ∧ (x.bd : Int) ≤ x.u.v := by simpa using h2
      rw [fvN_yes hf]
      simp only [List.countP_cons]
      congr 1
      rw [e1]
      unfold eqI
      rw [Int.toNat_of_nonneg (by omega), show (x.u.k == 1) = true by simpa using h3.1, Bool.true_and]
      by_cases hv : x.u.v = i + x.bd
      · rw [show (x.u.v - (x.bd : Int) == i) = true by simp; omega, show (x.u.v == i + (x.bd : Int)) = true by simpa using hv]
      · rw [show (x.u.v - (x.bd : Int) == i) = false by simp; omega, show (x.u.v == i + (x.bd : Int)) = false by simpa using hv]
    | false =>
      have h2 : ((x.u.k == 1) && decide ((x.bd : Int) ≤ x.u.v)) = false := hf
      rw [fvN_no hf]
      have : isP i x.pk = false := by
        rw [e1]
        cases hk : (x.u.k == 1) with
        | false => rfl
        | true =>
          rw [hk, Bool.true_and] at h2
          have h3 : ¬ (x.bd : Int) ≤ x.u.v := by simpa using h2
          simp; omega
      rw [this]; simp
theorem fv_le {u : LK} {b o : Nat} (hok : u.co.all headC = true) {v : Nat} (hv : v ∈ fvL (nodesK u b o 0 0)) : v ≤ 255 := by
  obtain ⟨x, hx, he⟩ := List.mem_filterMap.1 hv
  have hh := (nodesK_all headC u b o 0 0).2 hok x hx
  cases hf : freeP x.pk with
  | false => rw [fvN_no hf] at he; cases he
  | true =>
    have h2 : ((x.u.k == 1) && decide ((x.bd : Int) ≤ x.u.v)) = true := hf
    have h3 : x.u.k = 1 ∧ (x.bd : Int) ≤ x.u.v := by simpa using h2
    rw [fvN_yes hf] at he
    unfold headC at hh
    simp only [Bool.and_eq_true] at hh
    have h4 := hh.2.2.1
    rw [h3.1] at h4
    have h5 : inV x.u.v 0 255 = true := h4
    unfold inV at h5
    simp only [decide_eq_true_eq] at h5
    have := Option.some.inj he
    omega
theorem fv_count (u : LK) (b o : Nat) (i : Int) (hok : okC u.co = true) : (((fvL (nodesK u b o 0 0)).countP (eqI i) : Nat) : Int) = cntC i u.co := by
  unfold cntC
  by_cases hi : 0 ≤ i ∧ i ≤ 255
  · rw [if_pos ⟨hok, hi.1, hi.2⟩, fv_countP i hi.1, nodesK_pl]
  · rw [if_neg (fun h => hi h.2)]
    have : (fvL (nodesK u b o 0 0)).countP (eqI i) = 0 := List.countP_eq_zero.2 fun v hv he => by
      have h1 := fv_le (okC_good hok).1 hv
      unfold eqI at he
      have : (v : Int) = i := by simpa using he
      omega
    rw [this]; rfl

/-- The count among those that came. -/
def cnV {L : List Nat} (i : Int) (pre : List (FvS L)) : Nat := (pre.map (·.1)).countP (eqI i)
theorem cnV_le {L : List Nat} (i : Int) (pre : List (FvS L)) : cnV i pre ≤ pre.length := by unfold cnV; have := List.countP_le_length (p := eqI i) (l := pre.map (·.1)); simpa using this
theorem cnV_snoc {L : List Nat} (i : Int) (pre : List (FvS L)) (x : FvS L) : cnV i (pre ++ [x]) = cnV i pre + (if eqI i x.1 = true then 1 else 0) := by
  unfold cnV
  rw [List.map_append, List.countP_append]
  simp [List.countP_cons]

set_option maxRecDepth 100000 in
theorem impl_count_no (u : LK) (i : Int) (w : World) (h : u.Ok w) (hT : KTbl w) (hok : okC u.co = false) : Calls Tryd.prog 27 #[u.val, .int .i64 i] w (IntGw 0 w) := by
  have HU := Lib.hid h
  have HT := Lib.hid hT
  have g0 : Gw w ((w.alloc (u.obj 30)).alloc (.cells #[.int .i64 i] 2)) := ((Gw.refl w).alloc _).alloc _
  have BK := Lib.hid ((BoxK.new w u 30).grow ((Gw.refl _).alloc (.cells #[.int .i64 i] 2)))
  have G := Lib.hid g0
  clear h hT g0
  go_enter Tryd.func27, Tryd.ntmps27
  go_upto_region 1 with (fail)
  generalize (w.alloc (.cells #[.int .i64 u.k, .int .i64 u.v, .slice u.da u.ds.length u.dc, .slice u.a u.ks.length u.cap] 30)).alloc (.cells #[.int .i64 i] 2) = w1 at *
  have KV0 := impl_validCo u w1 (HU.out.grow G.out) (HT.out.grow G.out)
  rw [hok] at KV0
  have KV := Lib.hid KV0
  clear KV0 hok
  obtain ⟨p0, p1, p2, p3⟩ := BK.out.c
  go_wp2_with fail
  refine KV.out.mono ?_
  rintro e w2 ⟨rfl, g2⟩
  have G2 := Lib.hid (G.out.trans g2)
  clear p0 p1 p2 p3 KV g2 BK
  go_wp2_with fail
  go_ret
  exact ⟨rfl, G2.out⟩

set_option maxRecDepth 100000 in
set_option maxHeartbeats 4000000 in
theorem impl_count_yes (u : LK) (i : Int) (w : World) (h : u.Ok w) (hT : KTbl w) (hok : okC u.co = true) : Calls Tryd.prog 27 #[u.val, .int .i64 i] w (IntGw (cntC i u.co) w) := by
  have HU := Lib.hid h
  have HT := Lib.hid hT
  have g0 : Gw w ((w.alloc (u.obj 30)).alloc (.cells #[.int .i64 i] 2)) := ((Gw.refl w).alloc _).alloc _
  have BK := Lib.hid ((BoxK.new w u 30).grow ((Gw.refl _).alloc (.cells #[.int .i64 i] 2)))
  have BI := Boxed.new (w.alloc (u.obj 30)) 2 (.int .i64 i)
  rw [World.size_alloc] at BI
  have G := Lib.hid g0
  clear h hT g0
  refine (callsIn_wide (n := 9)).1 ?_
  refine callsIn_of_wp_marks Tryd.func27 rfl trivial ?_ rfl
  simp only [Tryd.ntmps27, List.size_toArray, List.length_cons, List.length_nil, Nat.reduceAdd, Nat.reduceSub, Array.replicate_succ, Array.replicate_zero, List.push_toArray, List.append_toArray, List.nil_append, List.cons_append]
  have f1 : Fence.wide.fn 18 := trivial
  have f2 : Fence.wide.fn 62 := trivial
  gi_upto_region 1 with (fail)
  generalize (w.alloc (.cells #[.int .i64 u.k, .int .i64 u.v, .slice u.da u.ds.length u.dc, .slice u.a u.ks.length u.cap] 30)).alloc (.cells #[.int .i64 i] 2) = w1 at *
  obtain ⟨B0, hB0⟩ : ∃ x, x = w.heap.size := ⟨_, rfl⟩
  obtain ⟨B1, hB1⟩ : ∃ x, x = w.heap.size + 1 := ⟨_, rfl⟩
  rw [← hB0] at BK
  rw [← hB1] at BI
  rw [← hB1, ← hB0]
  have HB := Lib.hid (And.intro hB0 hB1)
  have BII := Lib.hid BI
  have KV0 := impl_validCo u w1 (HU.out.grow G.out) (HT.out.grow G.out)
  rw [hok] at KV0
  have KV := Lib.hid KV0
  have HOK := Lib.hid hok
  clear KV0 hB0 hB1 BI hok
  obtain ⟨p0, p1, p2, p3⟩ := BK.out.c
  gi_wp2_with fail
  refine (callsIn_wide.2 KV.out).mono ?_
  rintro e w2 ⟨rfl, g2⟩
  have BI2 : Boxed w2 B1 2 (.int .i64 i) := (g2.block _ BII.out.lt).trans BII.out
  have BK2 := Lib.hid (BK.out.grow g2)
  have G2 := Lib.hid (G.out.trans g2)
  have BII2 := Lib.hid BI2
  clear p0 p1 p2 p3 KV g2 BI2 BK BII
  gi_upto_region 4 with (fail)
  have gC : Gw w2 (w2.alloc (.cells #[.int .i64 0] 2)) := (Gw.refl w2).alloc _
  have BC0 := Boxed.new w2 2 (.int .i64 0)
  generalize w2.alloc (.cells #[.int .i64 0] 2) = w2' at *
  obtain ⟨B2, hB2⟩ : ∃ x, x = w2.heap.size := ⟨_, rfl⟩
  rw [← hB2] at BC0
  rw [← hB2]
  have HB2 := Lib.hid hB2
  have GC := Lib.hid gC
  have BC := Lib.hid BC0
  clear gC BC0 hB2
  have KN := Lib.hid (impl_freeVars B0 0 w2')
  gi_wp2_with fail
  refine (callsIn_wide.2 KN.out).mono ?_
  rintro e w3 ⟨rfl, hw3'⟩
  have HW3 := Lib.hid hw3'
  clear hw3'
  gi_wp2_with fail
  have hw3 := HW3.out
  clear HW3
  obtain ⟨B, hB⟩ : ∃ x, x = w2'.heap.size := ⟨_, rfl⟩
  have g23 : Gw w2' w3 := by rw [hw3]; exact (Gw.refl w2').alloc _
  have hBs : B < w3.heap.size := by rw [hw3, hB]; simp
  have HC := Lib.hid (show w3.cell? ⟨B, 0, none⟩ = some (.pointer (some ⟨B0, 0, none⟩)) by rw [hw3, hB]; exact cell_of_row _ _ 0 _ _ _ (heap_alloc_new w2' _))
  have CA := Lib.hid (BK2.out.at (HU.out.grow G2.out))
  have HD := Lib.hid (show u.co.dp ≤ 1000 ∧ u.co.nn ≤ 400 by have := okC_good HOK.out; exact ⟨by have := this.2.1; omega, this.2.2⟩)
  have G23 := Lib.hid (GC.out.trans g23)
  have HS := Lib.hid (show w2.heap.size ≤ w3.heap.size ∧ w.heap.size ≤ w2.heap.size ∧ B1 < w2.heap.size ∧ w2.heap.size ≤ B2 from ⟨(GC.out.trans g23).size, G2.out.size, BII2.out.lt, by have := HB2.out; omega⟩)
  have I0 := Lib.hid (show (Boxed w3 B2 2 (.int .i64 ((cnV i ([] : List (FvS (fvL (nodesK u B0 0 0 0))))) : Nat)) ∧ Boxed w3 B1 2 (.int .i64 i)) ∧ Below w2.heap.size w2 w3 from
    ⟨⟨(g23.block _ BC.out.lt).trans BC.out, ((GC.out.trans g23).block _ BII2.out.lt).trans BII2.out⟩, GC.out.trans g23⟩)
  have FC := Lib.hid (fv_count u B0 0 i HOK.out)
  rw [← hB]
  have HBB := Lib.hid hB
  clear hw3 g23 hB KN BK2 BII2
  refine range_O (by omega) (gf := 96) (lb := #[.pointer (some ⟨B, 0, none⟩)]) rfl (enters_of Tryd.func96 (by kernel_rfl) rfl)
    (fv_seq (9 - 1) (by omega) B B0 0 u w2 w3 hBs HC.out CA.out HD.out.1 G23.out) (fun _ => rfl) KeepP.trans (fun hA g => KeepP.gw (Nat.le_trans HS.out.1 hA) g) (keepP_b HS.out.1)
    (fun pre W => (Boxed W B2 2 (.int .i64 ((cnV i pre) : Nat)) ∧ Boxed W B1 2 (.int .i64 i)) ∧ Below w2.heap.size w2 W)
    (fun _ _ _ => False)
    (fun pre x a' W => a'.defers = [] ∧ a'.tmps = #[u.val, .int .i64 i, .pointer (some ⟨B0, 0, none⟩), .pointer (some ⟨B1, 0, none⟩), .int .i64 0, .pointer (some ⟨B2, 0, none⟩), .int .i64 (x.1 : Int), u.val, .bool true, .bool false, .func (.func 96) #[] #[.pointer (some ⟨B, 0, none⟩)], .int .i64 (x.1 : Int), undef, undef, undef, undef, undef, undef, undef])
    (OwnFrom.and (OwnFrom.and (Own.from (boxed_own _ _ _) _) (Own.from (boxed_own _ _ _) _)) (ownFrom_below (Nat.le_refl _) HS.out.1))
    (fun c _ _ _ _ hs _ _ => hs)
    (fun s x a' _ X Y row hs hg hr => hs)
    I0.out
    ?assign ?body ?done ?stop
  case assign =>
    rintro l pre x W K hi hK
    have HI := Lib.hid hi
    have HK := Lib.hid hK
    clear hi hK
    gi_wp2
    exact HK.out _ _ (Gw.refl W) ⟨rfl, rfl⟩
  case body =>
    rintro l pre x a' W hl hl2 ⟨⟨iC, iI⟩, iB⟩ ⟨hd, ht⟩ hlen
    obtain ⟨tm, df⟩ := a'
    simp only at hd ht
    subst hd ht
    have IC := Lib.hid iC
    have II := Lib.hid iI
    have IB := Lib.hid iB
    have hcl := cnV_le i pre
    have hn := HD.out.2
    obtain ⟨s, hs⟩ : ∃ s, s = cnV i pre := ⟨_, rfl⟩
    rw [← hs] at iC IC hcl
    have SN := Lib.hid (cnV_snoc i pre x)
    rw [← hs] at SN
    have cC := iC.cell
    have fC := iC.frozen
    have cI := iI.cell
    obtain ⟨p, hp⟩ : ∃ p : Nat, p = if eqI i x.1 = true then 1 else 0 := ⟨_, rfl⟩
    rw [← hp] at SN
    have hp1 : p ≤ 1 := by rw [hp]; split <;> omega
    have KO := Lib.hid (oneIf_of ((x.1 : Int) == i) p (by rw [hp]; rfl) W.drew)
    have wr1 : IntKind.i64.wrap ((s : Int) + p) = (s : Int) + p := by unfold IntKind.wrap; simp [IntKind.signed, IntKind.bits]; omega
    have hmx : Tryd.prog.follows .mixedOrders = true := by kernel_rfl
    clear iC iI iB hp hs
    gi_upto_region 6 with (fail)
    refine regIn_hid (fun L hL => ?_)
    have HL := Lib.hid hL
    clear hL
    refine regIn_start 6 hmx (by rw [HL.out]; kernel_rfl) (fun ⟨_, _, h⟩ => h) (by rw [HL.out]; kernel_rfl) ?_
    refine reg_do 0 (by decide) (by rw [HL.out]; rfl) (by rw [HL.out]; kernel_rfl) ?_; intro K hK; go_simp; refine hK _ ?_; clear hK K
    refine reg_do 1 (by decide) (by rw [HL.out]; rfl) (by rw [HL.out]; kernel_rfl) ?_; intro K hK; go_simp; refine hK _ ?_; clear hK K
    refine reg_do 2 (by decide) (by rw [HL.out]; rfl) (by rw [HL.out]; kernel_rfl) ?_; intro K hK; go_simp; refine hK _ ?_; clear hK K
    refine reg_do 3 (by decide) (by rw [HL.out]; rfl) (by rw [HL.out]; kernel_rfl) ?_; intro K hK; go_simp; refine hK _ ?_; clear hK K
    refine reg_do 4 (by decide) (by rw [HL.out]; rfl) (by rw [HL.out]; kernel_rfl) ?_; intro K hK; go_simp; refine ⟨_, KO.out, hK _ ?_⟩; clear hK K
    refine reg_do 5 (by decide) (by rw [HL.out]; rfl) (by rw [HL.out]; kernel_rfl) ?_; intro K hK; go_simp; refine hK _ ?_; clear hK K
    refine reg_end ?_
    refine tailIn_do 6 (by rw [HL.out]; rfl) (by rw [HL.out]; kernel_rfl) ?_; intro K hK; refine ⟨fun _ _ => trivial, ?_⟩; rw [Oper.semAt_eq _ _ _ (fun c h => by cases h)]; go_simp; refine hK _ _ ?_; clear hK K
    refine tailIn_end 7 (by rw [HL.out]; decide) ?_
    gi_wp2
    have hb2 : w2.heap.size ≤ B2 := HS.out.2.2.2
    have hne : B1 ≠ B2 := by have := HS.out; omega
    have bC : Boxed (W.setCell ⟨B2, 0, none⟩ (.int .i64 ((s : Int) + p))) B2 2 (.int .i64 ((s : Int) + p)) := IC.out.set _
    have kP : KeepP w2.heap.size W (W.setCell ⟨B2, 0, none⟩ (.int .i64 ((s : Int) + p))) := KeepP.set IC.out hb2 (by decide) (by decide) _
    refine ⟨((KeepsOthers.setCell _ _ _).from _).trans (keeps_of_gw (Gw.refl _).drew), kP.trans (KeepP.gw (Nat.le_trans IB.out.size kP.1.size) (Gw.refl _).drew), ⟨?_, II.out.other hne _⟩, (IB.out.trans kP.1).drew⟩
    rw [SN.out, show ((s + p : Nat) : Int) = (s : Int) + p by omega]
    exact bC
  case done =>
    rintro D ys W hD hys ⟨⟨iC, iI⟩, iB⟩ hK
    have FF := Lib.hid (show ((cnV i ys : Nat) : Int) = cntC i u.co by rw [← FC.out]; unfold cnV; rw [hys])
    have cC := iC.cell
    have fC := iC.frozen
    have HKK := Lib.hid hK
    have BB := Lib.hid (Below.trans G2.out (iB.mono HS.out.2.1))
    clear iC iI iB hK hys
    gi_wp2
    refine ⟨by simp, .inl ⟨_, _, rfl, run_takeDeferred HKK.out, ?_⟩⟩
    exact ⟨_, results_tmp rfl _ _ _, by rw [FF.out]; rfl, BB.out.trans (belowK_b (w := w) (Nat.le_refl _) _ D _ (.deferred none) (by have := HS.out; omega) HKK.out rfl rfl)⟩
  case stop =>
    rintro D c pre W hD h hK
    exact h.elim

theorem impl_count (u : LK) (i : Int) (w : World) (h : u.Ok w) (hT : KTbl w) : Calls Tryd.prog 27 #[u.val, .int .i64 i] w (IntGw (cntC i u.co) w) := by
  cases hok : okC u.co with
  | false => have := impl_count_no u i w h hT hok; unfold cntC; rw [hok]; simpa using this
  | true => exact impl_count_yes u i w h hT hok

end Go.Proofs.YtfbgkbgoooepmaaDoor.Con
