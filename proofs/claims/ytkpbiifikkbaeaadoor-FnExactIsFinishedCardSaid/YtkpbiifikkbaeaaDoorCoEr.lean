/-
  Contracts of the model's l06Erased and IsErased and of the program's IsErased. Condition: the core term lies in memory, and the table of forms reads as the program's text lays it.
-/
import Derived.Test.YtkpbiifikkbaeaaDoorCoNa
import Derived.Test.YtkpbiifikkbaeaaDoorCoSp
import Derived.Test.YtkpbiifikkbaeaaDoorCoSize
import Derived.Test.YtkpbiifikkbaeaaDoorCoYd
namespace Go.Proofs.YtkpbiifikkbaeaaDoor.Con
open Go.RowKit
set_option linter.unusedVariables false
attribute [local go_sem] Oper.semAt_some

def erH (k _ : Int) (_ : List Int) (_ : Nat) : Bool := !(k == 6) && !(k == 7)

/-- All nodes that came meet H; one of them doesn't. -/
def AllN {w0 : World} {LL : List NodeK} (H : Int → Int → List Int → Nat → Bool) (pre : List (NodeS w0 LL)) : Prop := ∀ x ∈ pre, H x.1.u.k x.1.u.v x.1.u.ds x.1.u.ks.length = true
def ExN {w0 : World} {LL : List NodeK} (H : Int → Int → List Int → Nat → Bool) (pre : List (NodeS w0 LL)) : Prop := ∃ x ∈ pre, H x.1.u.k x.1.u.v x.1.u.ds x.1.u.ks.length = false
theorem AllN.snoc {w0 : World} {LL : List NodeK} {H : Int → Int → List Int → Nat → Bool} {pre : List (NodeS w0 LL)} {x : NodeS w0 LL} (h : AllN H pre) (hx : H x.1.u.k x.1.u.v x.1.u.ds x.1.u.ks.length = true) : AllN H (pre ++ [x]) := fun y hy => by
  rcases List.mem_append.1 hy with hy | hy
  · exact h y hy
  · obtain rfl : y = x := by simpa using hy
    exact hx
theorem ExN.snoc {w0 : World} {LL : List NodeK} {H : Int → Int → List Int → Nat → Bool} {pre : List (NodeS w0 LL)} {x : NodeS w0 LL} (hx : H x.1.u.k x.1.u.v x.1.u.ds x.1.u.ks.length = false) : ExN H (pre ++ [x]) := ⟨x, by simp, hx⟩
theorem AllN.done {w0 : World} {LL : List NodeK} {H : Int → Int → List Int → Nat → Bool} {ys : List (NodeS w0 LL)} {u : LK} {b o : Nat} (h : AllN H ys) (hys : ys.map (·.1) = nodesK u b o 0 0) : u.co.all H = true := (nodesK_all H u b o 0 0).1 fun x hx => by
  rw [← hys] at hx
  obtain ⟨y, hy, rfl⟩ := List.mem_map.1 hx
  exact h y hy
theorem ExN.stop {w0 : World} {u : LK} {b o : Nat} {H : Int → Int → List Int → Nat → Bool} {pre : List (NodeS w0 (nodesK u b o 0 0))} (h : ExN H pre) : u.co.all H = false := by
  obtain ⟨x, hx, he⟩ := h
  cases hb : u.co.all H with
  | false => rfl
  | true => have := (nodesK_all H u b o 0 0).2 hb x.1 x.2.1; rw [he] at this; cases this

theorem calls_take (H : Int → Int → List Int → Nat → Bool) {ks : List Co} {j : Nat} (hj : j < ks.length) (h : ks[j].all H = false) : Co.all.alls H ks = false := by
  cases hb : Co.all.alls H ks with
  | false => rfl
  | true => have := (calls_iff H ks).1 hb _ (List.getElem_mem hj); rw [h] at this; cases this

def KEr (u : LK) : Prop := ∀ (w : World) (b o : Nat), coAt w b o u → Calls Tryd.prog 90 #[.pointer (some ⟨b, o, none⟩)] w (BoolGw (u.co.all erH) w)

set_option maxRecDepth 100000 in
theorem ker_of (u : LK) (ih : ∀ t ∈ u.ks, KEr t) : KEr u := by
  intro w b o h
  have hll := h.2.kl
  have A := Lib.hid h
  have EQ := Lib.hid (Co.all_eq erH u.co)
  obtain ⟨p0, p1, p2, p3⟩ := h.c
  clear h
  by_cases h6 : u.k = 6
  · have F := Lib.hid (show u.co.all erH = false by rw [EQ.out, LK.co_k, h6]; rfl)
    have q : (u.k == 6) = true := by simpa using h6
    clear h6
    go_enter Tryd.func90, Tryd.ntmps90
    go_wp2_with fail
    go_ret
    exact ⟨ret_b F.out.symm, Gw.refl _⟩
  have q6 : (u.k == 6) = false := by simpa using h6
  by_cases h7 : u.k = 7
  · have F := Lib.hid (show u.co.all erH = false by rw [EQ.out, LK.co_k, h7]; rfl)
    have q : (u.k == 7) = true := by simpa using h7
    clear h6 h7
    go_enter Tryd.func90, Tryd.ntmps90
    go_wp2_with fail
    go_ret
    exact ⟨ret_b F.out.symm, Gw.refl _⟩
  have q7 : (u.k == 7) = false := by simpa using h7
  have F := Lib.hid (show u.co.all erH = Co.all.alls erH u.co.ks by rw [EQ.out, LK.co_k]; unfold erH; rw [q6, q7]; rfl)
  clear h6 h7
  go_enter Tryd.func90, Tryd.ntmps90
  go_wp2_with fail
  clear p0 p1 p2 p3 q6 q7
  go_loopw [3] (fun i wr => ∃ j : Nat, j ≤ u.ks.length ∧ i = .int .i64 j ∧ Gw w wr ∧ ∀ x (hx : x < u.ks.length), x < j → u.ks[x].co.all erH = true) (fun i _ => u.ks.length - (intOf i).toNat)
  case atStart => exact ⟨0, by omega, rfl, Gw.refl _, fun x _ h => absurd h (by omega)⟩
  case round =>
    obtain ⟨j, hj, rfl, hg, hall⟩ := hrel
    have HALL := Lib.hid hall
    have HG := Lib.hid hg
    have A3 := Lib.hid (A.out.grow hg)
    clear hall hg
    obtain ⟨p0, p1, p2, p3⟩ := A3.out.c
    by_cases hlt : j < u.ks.length
    · obtain ⟨bk, ok, ha, hkid⟩ := coAt.kid A3.out.2.kids j hlt
      rw [ha] at p3
      have r0 : (0 : Int) ≤ j := by omega
      have r1 : (j : Int) < u.ks.length := by omega
      have KEY := Lib.hid (ih u.ks[j] (List.getElem_mem hlt) wr bk (ok + j * 4) hkid)
      clear ha hkid
      go_wp2_with fail
      refine KEY.out.mono ?_
      rintro e w3 ⟨rfl, g3⟩
      have G3 := Lib.hid (HG.out.trans g3)
      clear g3 KEY p0 p1 p2 p3
      cases hb : u.ks[j].co.all erH with
      | false =>
        have FF := Lib.hid (calls_take erH (ks := u.co.ks) (j := j) (by rw [u.co_len]; exact hlt) (by rw [u.co_kid j hlt]; exact hb))
        clear hb
        go_wp2_with fail
        go_ret
        exact ⟨ret_b (by rw [F.out, FF.out]), G3.out⟩
      | true =>
        have HB := Lib.hid hb
        clear hb
        go_wp2_with fail
        go_roundw
        case rel =>
          refine ⟨j + 1, by omega, by go_num, G3.out, fun x hx hi => ?_⟩
          by_cases e : x = j
          · subst e; exact HB.out
          · exact HALL.out x hx (by omega)
        case measure => simp [intOf]; omega
    · obtain rfl : j = u.ks.length := by omega
      have FF := Lib.hid (show Co.all.alls erH u.co.ks = true from (calls_iff _ _).2 fun t ht => by
        rw [LK.co_ks] at ht
        obtain ⟨s, hs, rfl⟩ := List.mem_map.1 ht
        obtain ⟨i, hi, rfl⟩ := List.mem_iff_getElem.1 hs
        exact HALL.out i hi hi)
      go_wp2_with fail
      go_ret
      exact ⟨ret_b (by rw [F.out, FF.out]), HG.out⟩

theorem ker_all (u : LK) : KEr u := by
  refine LK.ind (P := KEr) (fun k v da dc ds a cap ks ih => ?_) u
  exact ker_of (.mk k v da dc ds a cap ks) ih

set_option maxRecDepth 100000 in
theorem impl_erased_no (u : LK) (w : World) (h : u.Ok w) (hT : KTbl w) (hok : okC u.co = false) : Calls Tryd.prog 75 #[u.val] w (BoolGw false w) := by
  have HU := Lib.hid h
  have HT := Lib.hid hT
  have g0 : Gw w ((w.alloc (u.obj 42)).alloc (.cells #[.bool false] 4)) := ((Gw.refl w).alloc _).alloc _
  have BK := Lib.hid ((BoxK.new w u 42).grow ((Gw.refl _).alloc (.cells #[.bool false] 4)))
  have BR := Boxed.new (w.alloc (u.obj 42)) 4 (.bool false)
  rw [World.size_alloc] at BR
  have G := Lib.hid g0
  clear h hT g0
  go_enter Tryd.func75, Tryd.ntmps75
  go_upto_region 1 with (fail)
  generalize (w.alloc (.cells #[.int .i64 u.k, .int .i64 u.v, .slice u.da u.ds.length u.dc, .slice u.a u.ks.length u.cap] 42)).alloc (.cells #[.bool false] 4) = w1 at *
  have BRR := Lib.hid BR
  have KV0 := impl_validCo u w1 (HU.out.grow G.out) (HT.out.grow G.out)
  rw [hok] at KV0
  have KV := Lib.hid KV0
  clear KV0 BR hok
  obtain ⟨p0, p1, p2, p3⟩ := BK.out.c
  go_wp2_with fail
  refine KV.out.mono ?_
  rintro e w2 ⟨rfl, g2⟩
  have BR2 : Boxed w2 (w.heap.size + 1) 4 (.bool false) := (g2.block _ BRR.out.lt).trans BRR.out
  have G2 := Lib.hid (G.out.trans g2)
  have cR := BR2.cell
  have fR := BR2.frozen
  clear p0 p1 p2 p3 KV g2 BK BRR
  go_wp2_with fail
  have cF := (BR2.set (.bool false)).cell
  refine bodyPost_ret (v := .bool false) (by simp [results, Tryd.results75, go_sem, cF]) rfl ⟨rfl, Below.setCell G2.out (by simp) _⟩

set_option maxRecDepth 100000 in
set_option maxHeartbeats 4000000 in
theorem impl_erased_yes (u : LK) (w : World) (h : u.Ok w) (hT : KTbl w) (hok : okC u.co = true) : Calls Tryd.prog 75 #[u.val] w (BoolGw (u.co.all erH) w) := by
  have HU := Lib.hid h
  have HT := Lib.hid hT
  have g0 : Gw w ((w.alloc (u.obj 42)).alloc (.cells #[.bool false] 4)) := ((Gw.refl w).alloc _).alloc _
  have BK := Lib.hid ((BoxK.new w u 42).grow ((Gw.refl _).alloc (.cells #[.bool false] 4)))
  have BR := Boxed.new (w.alloc (u.obj 42)) 4 (.bool false)
  rw [World.size_alloc] at BR
  have G := Lib.hid g0
  clear h hT g0
  refine (callsIn_wide (n := 9)).1 ?_
  refine callsIn_of_wp_marks Tryd.func75 rfl trivial ?_ rfl
  simp only [Tryd.ntmps75, List.size_toArray, List.length_cons, List.length_nil, Nat.reduceAdd, Nat.reduceSub, Array.replicate_succ, Array.replicate_zero, List.push_toArray, List.append_toArray, List.nil_append, List.cons_append]
  have f1 : Fence.wide.fn 107 := trivial
  have f2 : Fence.wide.fn 108 := trivial
  gi_upto_region 1 with (fail)
  generalize (w.alloc (.cells #[.int .i64 u.k, .int .i64 u.v, .slice u.da u.ds.length u.dc, .slice u.a u.ks.length u.cap] 42)).alloc (.cells #[.bool false] 4) = w1 at *
  obtain ⟨B0, hB0⟩ : ∃ x, x = w.heap.size := ⟨_, rfl⟩
  obtain ⟨B1, hB1⟩ : ∃ x, x = w.heap.size + 1 := ⟨_, rfl⟩
  rw [← hB0] at BK
  rw [← hB1] at BR
  rw [← hB1, ← hB0]
  have HB := Lib.hid (And.intro hB0 hB1)
  have BRR := Lib.hid BR
  have KV0 := impl_validCo u w1 (HU.out.grow G.out) (HT.out.grow G.out)
  rw [hok] at KV0
  have KV := Lib.hid KV0
  clear KV0
  clear hB0 hB1 BR
  obtain ⟨p0, p1, p2, p3⟩ := BK.out.c
  gi_wp2_with fail
  refine (callsIn_wide.2 KV.out).mono ?_
  rintro e w2 ⟨rfl, g2⟩
  have BR2 : Boxed w2 B1 4 (.bool false) := (g2.block _ BRR.out.lt).trans BRR.out
  have BK2 := Lib.hid (BK.out.grow g2)
  have G2 := Lib.hid (G.out.trans g2)
  have cR := BR2.cell
  have fR := BR2.frozen
  have BRR2 := Lib.hid BR2
  have hB1 : w.heap.size ≤ B1 := by have := HB.out; omega
  clear p0 p1 p2 p3 KV g2 BR2 BK BRR
  have HOK := Lib.hid hok
  clear hok
  have KN := Lib.hid (impl_coreNodes B0 0 w2)
  gi_wp2_with fail
  refine (callsIn_wide.2 KN.out).mono ?_
  rintro e w3 ⟨rfl, hw3'⟩
  have HW3 := Lib.hid hw3'
  clear hw3'
  gi_wp2_with fail
  have hw3 := HW3.out
  clear HW3
  obtain ⟨B, hB⟩ : ∃ x, x = w2.heap.size := ⟨_, rfl⟩
  have g23 : Gw w2 w3 := by rw [hw3]; exact (Gw.refl w2).alloc _
  have hBs : B < w3.heap.size := by rw [hw3, hB]; simp
  have HC := Lib.hid (show w3.cell? ⟨B, 0, none⟩ = some (.pointer (some ⟨B0, 0, none⟩)) by rw [hw3, hB]; exact cell_of_row _ _ 0 _ _ _ (heap_alloc_new w2 _))
  have CA := Lib.hid (BK2.out.at (HU.out.grow G2.out))
  have HD := Lib.hid (show u.co.dp ≤ 1000 by have := (okC_good HOK.out).2.1; omega)
  have G23 := Lib.hid g23
  have HS := Lib.hid (show w2.heap.size ≤ w3.heap.size ∧ w.heap.size ≤ w2.heap.size ∧ B1 < w2.heap.size from ⟨g23.size, G2.out.size, BRR2.out.lt⟩)
  have I0 := Lib.hid (show (Boxed w3 B1 4 (.bool false) ∧ Below w2.heap.size w2 w3) ∧ AllN erH ([] : List (NodeS w2 (nodesK u B0 0 0 0))) from ⟨⟨(g23.block _ BRR2.out.lt).trans BRR2.out, g23⟩, fun x h => by cases h⟩)
  rw [← hB]
  have HBB := Lib.hid hB
  clear cR fR hw3 g23 hB KN BK2 BRR2
  refine wpIn_rangeFunc_ownH rfl (by omega) (gf := 117) (lb := #[.pointer (some ⟨B, 0, none⟩)]) rfl trivial (enters_of Tryd.func117 (by kernel_rfl) rfl)
    (cn_stops (9 - 1) (by omega) B B0 0 u w2 w3 hBs HC.out CA.out HD.out G23.out) KeepP.trans (keepP_b HS.out.1) (Below.refl _ _) (fun _ => rfl)
    (fun pre W => (Boxed W B1 4 (.bool false) ∧ Below w2.heap.size w2 W) ∧ AllN erH pre)
    (fun c pre W => c = .ret ∧ ExN erH pre ∧ Boxed W B1 4 (.bool false) ∧ Below w.heap.size w W)
    (OwnFrom.and (OwnFrom.and (Own.from (boxed_own _ _ _) _) (ownFrom_below (Nat.le_refl _) HS.out.1)) (fun _ _ _ _ h _ _ => h))
    (fun c => OwnFrom.and (fun _ _ _ _ h _ _ => h) (OwnFrom.and (fun _ _ _ _ h _ _ => h) (OwnFrom.and (Own.from (boxed_own _ _ _) _) (ownFrom_below (Nat.le_refl _) (Nat.le_trans HS.out.2.1 HS.out.1)))))
    I0.out
    (fun x a' W => a' = { tmps := #[u.val, .pointer (some ⟨B0, 0, none⟩), .pointer (some ⟨B1, 0, none⟩), .pointer (some ⟨x.1.b, x.1.o, none⟩), u.val, .bool true, .bool false, .func (.func 117) #[] #[.pointer (some ⟨B, 0, none⟩)], .pointer (some ⟨x.1.b, x.1.o, none⟩), .agg #[.int .i64 x.1.bd, .int .i64 x.1.lv], undef, undef, undef, undef, undef, undef, undef, undef, undef, undef, undef, undef], defers := [] })
    (fun x a' _ X Y row hs hg hr => hs)
    ?assign ?body ?done ?stop
  case assign =>
    rintro l pre x W K hi hK
    have HI := Lib.hid hi
    have HK := Lib.hid hK
    clear hi hK
    simp only [encN]
    gi_wp2
    exact HK.out _ _ (keeps_of_gw (Gw.refl W)) (KeepP.gw HI.out.1.2.size (Gw.refl W)) HI.out rfl
  case body =>
    rintro l pre x a' W hl ⟨r, hr⟩ ⟨⟨iR, iB⟩, hall⟩ rfl hlen2
    have IR := Lib.hid iR
    have IB := Lib.hid iB
    have HALL := Lib.hid hall
    have hsz : w2.heap.size ≤ W.heap.size := iB.size
    obtain ⟨p0, p1, p2, p3⟩ := (x.2.2.1.grow iB).c
    have cR := iR.cell
    have fR := iR.frozen
    clear iR iB hall hr r
    have fin : ∀ (W' : World), W' = W.setCell ⟨B1, 0, none⟩ (.bool false) → erH x.1.u.k x.1.u.v x.1.u.ds x.1.u.ks.length = false → KeepsFrom w3.heap.size W W' ∧ ExN erH (pre ++ [x]) ∧ Boxed W' B1 4 (.bool false) ∧ Below w.heap.size w W' := fun W' hW' he => by
      subst hW'
      exact ⟨(KeepsOthers.setCell _ _ _).from _, ExN.snoc he, IR.out.set _, (Below.trans G2.out (IB.out.mono HS.out.2.1)).setCell (p := ⟨B1, 0, none⟩) hB1 _⟩
    have FIN := Lib.hid fin
    clear fin
    by_cases h6 : x.1.u.k = 6
    · have q6 : (x.1.u.k == 6) = true := by simpa using h6
      have HE := Lib.hid (show erH x.1.u.k x.1.u.v x.1.u.ds x.1.u.ks.length = false by unfold erH; rw [q6]; rfl)
      clear h6
      gi_wp2
      obtain ⟨k1, k2, k3, k4⟩ := FIN.out _ rfl HE.out
      exact ⟨k1, rfl, k2, k3, k4⟩
    have q6 : (x.1.u.k == 6) = false := by simpa using h6
    by_cases h7 : x.1.u.k = 7
    · have q7 : (x.1.u.k == 7) = true := by simpa using h7
      have HE := Lib.hid (show erH x.1.u.k x.1.u.v x.1.u.ds x.1.u.ks.length = false by unfold erH; rw [q6, q7]; rfl)
      clear h6 h7
      gi_wp2
      obtain ⟨k1, k2, k3, k4⟩ := FIN.out _ rfl HE.out
      exact ⟨k1, rfl, k2, k3, k4⟩
    have q7 : (x.1.u.k == 7) = false := by simpa using h7
    have HE := Lib.hid (show erH x.1.u.k x.1.u.v x.1.u.ds x.1.u.ks.length = true by unfold erH; rw [q6, q7]; rfl)
    clear h6 h7
    gi_wp2
    exact ⟨keeps_of_gw (Gw.refl W), KeepP.gw hsz (Gw.refl W), ⟨IR.out, IB.out⟩, HALL.out.snoc HE.out⟩
  case done =>
    rintro D ys W hD hys ⟨⟨iR, iB⟩, hall⟩ hK
    have HE := Lib.hid (AllN.done hall hys)
    have IR := Lib.hid iR
    have cR := iR.cell
    have fR := iR.frozen
    have HKK := Lib.hid hK
    have BB := Lib.hid ((Below.trans G2.out (iB.mono HS.out.2.1)).setCell (p := ⟨B1, 0, none⟩) hB1 (.bool true))
    clear iR iB hall hK hys
    gi_wp2
    have hD2 : B1 ≠ D := by have := HS.out; omega
    have hKD : (W.setCell ⟨B1, 0, none⟩ (.bool true)).heap[D]? = some (.deferred (some [])) := (Below.heap_setCell _ _ _ _ (by simpa using fun e => hD2 e.symm)).trans HKK.out
    have cF : ((W.setCell ⟨B1, 0, none⟩ (.bool true)).putObj D (.deferred none)).cell? ⟨B1, 0, none⟩ = some (.bool true) := Boxed.cell ((World.putObj_heap_other hD2).trans (IR.out.set (.bool true)))
    refine ⟨by simp, .inl ⟨_, _, rfl, run_takeDeferred hKD, ?_⟩⟩
    exact ⟨.bool true, by simp [results, Tryd.results75, go_sem, cF], by rw [HE.out], BB.out.trans (belowK_b (w := w) (Nat.le_refl _) _ D _ (.deferred none) (by have := HS.out; omega) hKD rfl rfl)⟩
  case stop =>
    rintro D c pre W hD _ ⟨rfl, hex, iR, iB⟩ hK
    have HE := Lib.hid (hex.stop)
    have IR := Lib.hid iR
    have HKK := Lib.hid hK
    have BB := Lib.hid iB
    clear iR iB hK hex
    gi_wp2
    have hD2 : B1 ≠ D := by have := HS.out; omega
    have cF : (W.putObj D (.deferred none)).cell? ⟨B1, 0, none⟩ = some (.bool false) := Boxed.cell ((World.putObj_heap_other hD2).trans IR.out)
    refine ⟨by simp, .inl ⟨_, _, rfl, run_takeDeferred HKK.out, ?_⟩⟩
    exact ⟨.bool false, by simp [results, Tryd.results75, go_sem, cF], by rw [HE.out], BB.out.trans (belowK_b (w := w) (Nat.le_refl _) _ D _ (.deferred none) (by have := HS.out; omega) HKK.out rfl rfl)⟩

theorem impl_erased (u : LK) (w : World) (h : u.Ok w) (hT : KTbl w) : Calls Tryd.prog 75 #[u.val] w (BoolGw (okC u.co && u.co.all erH) w) := by
  cases hok : okC u.co with
  | false => exact impl_erased_no u w h hT hok
  | true => exact impl_erased_yes u w h hT hok

end Go.Proofs.YtkpbiifikkbaeaaDoor.Con
