/-
  Contract of the program's IsNormal. Condition: the book and the core term lie in memory, and the table of forms reads as the program's text lays it.
-/
import Derived.Test.YtfbgkbgoooepmaaDoorMs
import Derived.Test.YtfbgkbgoooepmaaDoorRd
namespace Go.Proofs.YtfbgkbgoooepmaaDoor.Con
open Go.RowKit
set_option linter.unusedVariables false
attribute [local go_sem] Oper.semAt_some

/-- No node is a redex. -/
def Co.nm : Co → Bool
  | .mk k v ds ks => (Co.mk k v ds ks).rd == 0 && nms ks
where nms : List Co → Bool
  | [] => true
  | t :: ts => t.nm && nms ts
theorem Co.nm_eq (t : Co) : t.nm = (t.rd == 0 && Co.nm.nms t.ks) := by cases t; rw [Co.nm]; rfl
theorem nms_iff (ks : List Co) : Co.nm.nms ks = true ↔ ∀ t ∈ ks, t.nm = true := by
  induction ks with
  | nil => simp [Co.nm.nms]
  | cons t ts ih => simp [Co.nm.nms, ih]
theorem nodesK_nm_of (u : LK) (ih : ∀ t ∈ u.ks, ∀ b o bd lv, (∀ x ∈ nodesK t b o bd lv, x.u.co.rd = 0) ↔ t.co.nm = true) (b o bd lv : Nat) :
    (∀ x ∈ nodesK u b o bd lv, x.u.co.rd = 0) ↔ u.co.nm = true := by
  rw [nodesK_eq, Co.nm_eq, Bool.and_eq_true, nms_iff, LK.co_ks, beq_iff_eq]
  constructor
  · intro h
    refine ⟨h _ List.mem_cons_self, fun t ht => ?_⟩
    obtain ⟨s, hs, rfl⟩ := List.mem_map.1 ht
    obtain ⟨i, hi, rfl⟩ := List.mem_iff_getElem.1 hs
    refine (ih _ (List.getElem_mem hi) (blkOf u.a) (offOf u.a + i * 4) (bd + bndK u.k i) (lv + bxK u.k)).1 fun x hx => h x (List.mem_cons_of_mem _ (mem_kidsK.2 ⟨i, hi, ?_⟩))
    rw [List.getD, List.getElem?_eq_getElem hi]; exact hx
  · rintro ⟨h1, h2⟩ x hx
    rcases List.mem_cons.1 hx with rfl | hx
    · exact h1
    · obtain ⟨i, hi, hx⟩ := mem_kidsK.1 hx
      rw [List.getD, List.getElem?_eq_getElem hi] at hx
      exact (ih _ (List.getElem_mem hi) (blkOf u.a) (offOf u.a + i * 4) (bd + bndK u.k i) (lv + bxK u.k)).2 (h2 _ (List.mem_map_of_mem (List.getElem_mem hi))) x hx
theorem nodesK_nm (u : LK) : ∀ b o bd lv, (∀ x ∈ nodesK u b o bd lv, x.u.co.rd = 0) ↔ u.co.nm = true := by
  refine LK.ind (P := fun u => ∀ b o bd lv, (∀ x ∈ nodesK u b o bd lv, x.u.co.rd = 0) ↔ u.co.nm = true) (fun k v da dc ds a cap ks ih => ?_) u
  exact nodesK_nm_of (.mk k v da dc ds a cap ks) ih
/-- What passes to the kids holds for every node. -/
theorem nodesK_her_of (Q : Co → Prop) (hQ : ∀ t, Q t → ∀ s ∈ t.ks, Q s) (u : LK) (ih : ∀ t ∈ u.ks, ∀ b o bd lv, Q t.co → ∀ x ∈ nodesK t b o bd lv, Q x.u.co) (b o bd lv : Nat) (h : Q u.co) : ∀ x ∈ nodesK u b o bd lv, Q x.u.co := by
  intro x hx
  rw [nodesK_eq] at hx
  rcases List.mem_cons.1 hx with rfl | hx
  · exact h
  · obtain ⟨i, hi, hx⟩ := mem_kidsK.1 hx
    rw [List.getD, List.getElem?_eq_getElem hi] at hx
    exact ih _ (List.getElem_mem hi) _ _ _ _ (hQ _ h _ (by rw [LK.co_ks]; exact List.mem_map_of_mem (List.getElem_mem hi))) x hx
theorem nodesK_her (Q : Co → Prop) (hQ : ∀ t, Q t → ∀ s ∈ t.ks, Q s) (u : LK) : ∀ b o bd lv, Q u.co → ∀ x ∈ nodesK u b o bd lv, Q x.u.co := by
  refine LK.ind (P := fun u => ∀ b o bd lv, Q u.co → ∀ x ∈ nodesK u b o bd lv, Q x.u.co) (fun k v da dc ds a cap ks ih => ?_) u
  exact nodesK_her_of Q hQ (.mk k v da dc ds a cap ks) ih
theorem all_her (H : Int → Int → List Int → Nat → Bool) (t : Co) (h : t.all H = true) : ∀ s ∈ t.ks, s.all H = true := by
  rw [Co.all_eq, Bool.and_eq_true, calls_iff] at h
  exact h.2
theorem all_hd {H : Int → Int → List Int → Nat → Bool} {u : LK} (h : u.co.all H = true) : H u.k u.v u.ds u.ks.length = true ∧ ∀ i (hi : i < u.ks.length), H u.ks[i].k u.ks[i].v u.ks[i].ds u.ks[i].ks.length = true := by
  have h1 : ∀ (u : LK), u.co.all H = true → H u.k u.v u.ds u.ks.length = true := fun u h => by
    rw [Co.all_eq, Bool.and_eq_true, LK.co_k, LK.co_v, LK.co_ds, LK.co_len] at h
    exact h.1
  exact ⟨h1 u h, fun i hi => h1 _ (all_her H u.co h _ (by rw [LK.co_ks]; exact List.mem_map_of_mem (List.getElem_mem hi)))⟩

def NmA {w0 : World} {LL : List NodeK} (pre : List (NodeS w0 LL)) : Prop := ∀ x ∈ pre, x.1.u.co.rd = 0
def NmE {w0 : World} {LL : List NodeK} (pre : List (NodeS w0 LL)) : Prop := ∃ x ∈ pre, x.1.u.co.rd ≠ 0
theorem NmA.snoc {w0 : World} {LL : List NodeK} {pre : List (NodeS w0 LL)} {x : NodeS w0 LL} (h : NmA pre) (hx : x.1.u.co.rd = 0) : NmA (pre ++ [x]) := fun y hy => by
  rcases List.mem_append.1 hy with hy | hy
  · exact h y hy
  · obtain rfl : y = x := by simpa using hy
    exact hx
theorem NmE.snoc {w0 : World} {LL : List NodeK} {pre : List (NodeS w0 LL)} {x : NodeS w0 LL} (hx : x.1.u.co.rd ≠ 0) : NmE (pre ++ [x]) := ⟨x, by simp, hx⟩
theorem NmA.done {w0 : World} {LL : List NodeK} {ys : List (NodeS w0 LL)} {u : LK} {b o : Nat} (h : NmA ys) (hys : ys.map (·.1) = nodesK u b o 0 0) : u.co.nm = true := (nodesK_nm u b o 0 0).1 fun x hx => by
  rw [← hys] at hx
  obtain ⟨y, hy, rfl⟩ := List.mem_map.1 hx
  exact h y hy
theorem NmE.stop {w0 : World} {u : LK} {b o : Nat} {pre : List (NodeS w0 (nodesK u b o 0 0))} (h : NmE pre) : u.co.nm = false := by
  obtain ⟨x, hx, he⟩ := h
  cases hb : u.co.nm with
  | false => rfl
  | true => exact absurd ((nodesK_nm u b o 0 0).2 hb x.1 x.2.1) he

set_option maxRecDepth 100000 in
set_option maxHeartbeats 1000000 in
theorem impl_nm_no (u : LB) (c : LK) (w : World) (h : bOk w u) (hc : c.Ok w) (hT : KTbl w) (hm : msC u.cs c.co = false) : Calls Tryd.prog 48 #[u.val, c.val] w (BoolGw false w) := by
  have HU := Lib.hid h
  have HC0 := Lib.hid hc
  have HT := Lib.hid hT
  have g0 : Gw w (((w.alloc (.cells #[.slice u.a u.ks.length u.cap] 42)).alloc (c.obj 30)).alloc (.cells #[.bool false] 4)) := (((Gw.refl w).alloc _).alloc _).alloc _
  have BB := Lib.hid ((BoxB.new w u 42).grow (((Gw.refl _).alloc (c.obj 30)).alloc (.cells #[.bool false] 4)))
  have hBK := (BoxK.new (w.alloc (.cells #[.slice u.a u.ks.length u.cap] 42)) c 30).grow ((Gw.refl _).alloc (.cells #[.bool false] 4))
  rw [World.size_alloc] at hBK
  have BR := Boxed.new ((w.alloc (.cells #[.slice u.a u.ks.length u.cap] 42)).alloc (c.obj 30)) 4 (.bool false)
  rw [World.size_alloc, World.size_alloc] at BR
  have G := Lib.hid g0
  clear h hc hT g0
  go_enter Tryd.func48, Tryd.ntmps48
  go_upto_region 1 with (fail)
  generalize (((w.alloc (.cells #[.slice u.a u.ks.length u.cap] 42)).alloc (.cells #[.int .i64 c.k, .int .i64 c.v, .slice c.da c.ds.length c.dc, .slice c.a c.ks.length c.cap] 30)).alloc (.cells #[.bool false] 4)) = w1 at *
  have BRR := Lib.hid BR
  have KV0 := impl_ms u c w1 (HU.out.grow G.out) (HC0.out.grow G.out) (HT.out.grow G.out)
  rw [hm] at KV0
  have KV := Lib.hid KV0
  have q0 := BB.out.c
  obtain ⟨p0, p1, p2, p3⟩ := hBK.c
  clear KV0 BR hm hBK
  go_wp2_with fail
  refine KV.out.mono ?_
  rintro e w2 ⟨rfl, g2⟩
  have BR2 : Boxed w2 (w.heap.size + 1 + 1) 4 (.bool false) := (g2.block _ BRR.out.lt).trans BRR.out
  have G2 := Lib.hid (G.out.trans g2)
  have cR := BR2.cell
  have fR := BR2.frozen
  clear p0 p1 p2 p3 q0 KV g2 BB BRR
  go_wp2_with fail
  have cF := (BR2.set (.bool false)).cell
  refine bodyPost_ret (v := .bool false) (by simp [results, Tryd.results48, go_sem, cF]) rfl ⟨rfl, Below.setCell G2.out (by simp; omega) _⟩

set_option maxRecDepth 100000 in
set_option maxHeartbeats 4000000 in
theorem impl_nm_yes (u : LB) (c : LK) (w : World) (h : bOk w u) (hc : c.Ok w) (hT : KTbl w) (hm : msC u.cs c.co = true) : Calls Tryd.prog 48 #[u.val, c.val] w (BoolGw c.co.nm w) := by
  have HG := Lib.hid (show c.co.all headC = true ∧ c.co.dp ≤ 1000 by
    unfold msC at hm
    rw [Bool.and_eq_true, Bool.and_eq_true] at hm
    have h0 := okC_good (clos_ok hm.2.1)
    exact ⟨h0.1, by have := h0.2.1; omega⟩)
  have HU := Lib.hid h
  have HC0 := Lib.hid hc
  have HT := Lib.hid hT
  have g0 : Gw w (((w.alloc (.cells #[.slice u.a u.ks.length u.cap] 42)).alloc (c.obj 30)).alloc (.cells #[.bool false] 4)) := (((Gw.refl w).alloc _).alloc _).alloc _
  have BB := Lib.hid ((BoxB.new w u 42).grow (((Gw.refl _).alloc (c.obj 30)).alloc (.cells #[.bool false] 4)))
  have hBK := (BoxK.new (w.alloc (.cells #[.slice u.a u.ks.length u.cap] 42)) c 30).grow ((Gw.refl _).alloc (.cells #[.bool false] 4))
  rw [World.size_alloc] at hBK
  have BR := Boxed.new ((w.alloc (.cells #[.slice u.a u.ks.length u.cap] 42)).alloc (c.obj 30)) 4 (.bool false)
  rw [World.size_alloc, World.size_alloc] at BR
  have G := Lib.hid g0
  clear h hc hT g0
  refine (callsIn_wide (n := 9)).1 ?_
  refine callsIn_of_wp_marks Tryd.func48 rfl trivial ?_ rfl
  simp only [Tryd.ntmps48, List.size_toArray, List.length_cons, List.length_nil, Nat.reduceAdd, Nat.reduceSub, Array.replicate_succ, Array.replicate_zero, List.push_toArray, List.append_toArray, List.nil_append, List.cons_append]
  have f1 : Fence.wide.fn 87 := trivial
  have f2 : Fence.wide.fn 60 := trivial
  have f3 : Fence.wide.fn 88 := trivial
  gi_upto_region 1 with (fail)
  generalize (((w.alloc (.cells #[.slice u.a u.ks.length u.cap] 42)).alloc (.cells #[.int .i64 c.k, .int .i64 c.v, .slice c.da c.ds.length c.dc, .slice c.a c.ks.length c.cap] 30)).alloc (.cells #[.bool false] 4)) = w1 at *
  obtain ⟨B0, hB0⟩ : ∃ x, x = w.heap.size + 1 := ⟨_, rfl⟩
  obtain ⟨B1, hB1⟩ : ∃ x, x = w.heap.size + 1 + 1 := ⟨_, rfl⟩
  rw [← hB1] at BR
  rw [← hB0] at hBK
  rw [← hB1, ← hB0]
  have HB := Lib.hid (And.intro hB0 hB1)
  have BRR := Lib.hid BR
  have BK := Lib.hid hBK
  have KV0 := impl_ms u c w1 (HU.out.grow G.out) (HC0.out.grow G.out) (HT.out.grow G.out)
  rw [hm] at KV0
  have KV := Lib.hid KV0
  clear KV0 hB0 hB1 BR hBK hm
  obtain ⟨p0, p1, p2, p3⟩ := BK.out.c
  have q0 := BB.out.c
  gi_wp2_with fail
  refine (callsIn_wide.2 KV.out).mono ?_
  rintro e w2 ⟨rfl, g2⟩
  have BRR2 := Lib.hid (show Boxed w2 B1 4 (.bool false) from (g2.block _ BRR.out.lt).trans BRR.out)
  have A2 := Lib.hid ((BK.out.grow g2).at (HC0.out.grow (G.out.trans g2)))
  have G2 := Lib.hid (G.out.trans g2)
  have hB1 : w.heap.size ≤ B1 := by have := HB.out; omega
  clear p0 p1 p2 p3 q0 KV g2 BK BRR
  have KN := Lib.hid (impl_coreNodes B0 0 w2)
  gi_wp2_with fail
  refine (callsIn_wide.2 KN.out).mono ?_
  rintro e w3 ⟨rfl, hw3'⟩
  have HW3 := Lib.hid hw3'
  clear hw3'
  gi_wp2_with fail
  have hw3 := HW3.out
  clear HW3
  obtain ⟨B, hB⟩ : ∃ x, x = w2.heap.size := ⟨_, rfl⟩
  have g23 : Gw w2 w3 := by rw [hw3]; exact (Gw.refl w2).alloc _
  have hBs : B < w3.heap.size := by rw [hw3, hB]; simp
  have HC := Lib.hid (show w3.cell? ⟨B, 0, none⟩ = some (.pointer (some ⟨B0, 0, none⟩)) by rw [hw3, hB]; exact cell_of_row _ _ 0 _ _ _ (heap_alloc_new w2 _))
  have CA := Lib.hid A2.out
  have G23 := Lib.hid g23
  have HS := Lib.hid (show w2.heap.size ≤ w3.heap.size ∧ w.heap.size ≤ w2.heap.size ∧ B1 < w2.heap.size from ⟨g23.size, G2.out.size, BRR2.out.lt⟩)
  have I0 := Lib.hid (show (Boxed w3 B1 4 (.bool false) ∧ Below w2.heap.size w2 w3) ∧ NmA ([] : List (NodeS w2 (nodesK c B0 0 0 0))) from ⟨⟨(g23.block _ BRR2.out.lt).trans BRR2.out, g23⟩, fun x h => by cases h⟩)
  rw [← hB]
  have HBB := Lib.hid hB
  clear hw3 g23 hB KN BRR2
  refine wpIn_rangeFunc_ownH rfl (by omega) (gf := 93) (lb := #[.pointer (some ⟨B, 0, none⟩)]) rfl trivial (enters_of Tryd.func93 (by kernel_rfl) rfl)
    (cn_stops (9 - 1) (by omega) B B0 0 c w2 w3 hBs HC.out CA.out HG.out.2 G23.out) KeepP.trans (keepP_b HS.out.1) (Below.refl _ _) (fun _ => rfl)
    (fun pre W => (Boxed W B1 4 (.bool false) ∧ Below w2.heap.size w2 W) ∧ NmA pre)
    (fun c pre W => c = .ret ∧ NmE pre ∧ Boxed W B1 4 (.bool false) ∧ Below w.heap.size w W)
    (OwnFrom.and (OwnFrom.and (Own.from (boxed_own _ _ _) _) (ownFrom_below (Nat.le_refl _) HS.out.1)) (fun _ _ _ _ h _ _ => h))
    (fun c => OwnFrom.and (fun _ _ _ _ h _ _ => h) (OwnFrom.and (fun _ _ _ _ h _ _ => h) (OwnFrom.and (Own.from (boxed_own _ _ _) _) (ownFrom_below (Nat.le_refl _) (Nat.le_trans HS.out.2.1 HS.out.1)))))
    I0.out
    (fun x a' W => a' = { tmps := #[u.val, c.val, .pointer (some ⟨w.heap.size, 0, none⟩), .pointer (some ⟨B0, 0, none⟩), .pointer (some ⟨B1, 0, none⟩), .pointer (some ⟨x.1.b, x.1.o, none⟩), u.val, c.val, .bool true, .bool false, .func (.func 93) #[] #[.pointer (some ⟨B, 0, none⟩)], .pointer (some ⟨x.1.b, x.1.o, none⟩), .agg #[.int .i64 x.1.bd, .int .i64 x.1.lv], undef, undef, undef], defers := [] })
    (fun x a' _ X Y row hs hg hr => hs)
    ?assign ?body ?done ?stop
  case assign =>
    rintro l pre x W K hi hK
    have HI := Lib.hid hi
    have HK := Lib.hid hK
    clear hi hK
    simp only [encN]
    gi_wp2
    exact HK.out _ _ (keeps_of_gw (Gw.refl W)) (KeepP.gw HI.out.1.2.size (Gw.refl W)) HI.out rfl
  case body =>
    rintro l pre x a' W hl ⟨r, hr⟩ ⟨⟨iR, iB⟩, hall⟩ rfl hlen2
    have IR := Lib.hid iR
    have IB := Lib.hid iB
    have HALL := Lib.hid hall
    have hsz : w2.heap.size ≤ W.heap.size := iB.size
    have hd := all_hd (nodesK_her (fun t => t.all headC = true) (all_her headC) c B0 0 0 0 HG.out.1 x.1 x.2.1)
    have KY := Lib.hid (impl_redexKind x.1.u W x.1.b x.1.o (x.2.2.1.grow iB) hd.1 hd.2)
    clear iR iB hall hr r hd
    gi_wp2_with fail
    refine (CallsIn.inRound l (callsIn_wide.2 KY.out)).mono ?_
    rintro e W4 ⟨rfl, g4⟩
    have iR4 : Boxed W4 B1 4 (.bool false) := (g4.block _ IR.out.lt).trans IR.out
    have cR := iR4.cell
    have fR := iR4.frozen
    have IR4 := Lib.hid iR4
    have IB4 := Lib.hid (IB.out.trans (g4.mono hsz))
    have fin : ∀ (W' : World), W' = W4.setCell ⟨B1, 0, none⟩ (.bool false) → x.1.u.co.rd ≠ 0 → KeepsFrom w3.heap.size W W' ∧ NmE (pre ++ [x]) ∧ Boxed W' B1 4 (.bool false) ∧ Below w.heap.size w W' := fun W' hW' he => by
      subst hW'
      exact ⟨(keeps_of_gw g4).trans ((KeepsOthers.setCell _ _ _).from _), NmE.snoc he, IR4.out.set _, (Below.trans G2.out (IB4.out.mono HS.out.2.1)).setCell (p := ⟨B1, 0, none⟩) hB1 _⟩
    have FIN := Lib.hid fin
    have G4 := Lib.hid g4
    clear fin iR4 g4 KY
    by_cases hb : x.1.u.co.rd = 0
    · have HE := Lib.hid hb
      have q : (x.1.u.co.rd != 0) = false := by simp [hb]
      clear hb
      gi_wp2
      exact ⟨keeps_of_gw G4.out, KeepP.gw hsz G4.out, ⟨IR4.out, IB4.out⟩, HALL.out.snoc HE.out⟩
    · have HE := Lib.hid hb
      have q : (x.1.u.co.rd != 0) = true := by simpa using hb
      clear hb
      gi_wp2
      obtain ⟨k1, k2, k3, k4⟩ := FIN.out _ rfl HE.out
      exact ⟨k1, rfl, k2, k3, k4⟩
  case done =>
    rintro D ys W hD hys ⟨⟨iR, iB⟩, hall⟩ hK
    have HE := Lib.hid (NmA.done hall hys)
    have IR := Lib.hid iR
    have cR := iR.cell
    have fR := iR.frozen
    have HKK := Lib.hid hK
    have BB := Lib.hid ((Below.trans G2.out (iB.mono HS.out.2.1)).setCell (p := ⟨B1, 0, none⟩) hB1 (.bool true))
    clear iR iB hall hK hys
    gi_wp2
    have hD2 : B1 ≠ D := by have := HS.out; omega
    have hKD : (W.setCell ⟨B1, 0, none⟩ (.bool true)).heap[D]? = some (.deferred (some [])) := (Below.heap_setCell _ _ _ _ (by simpa using fun e => hD2 e.symm)).trans HKK.out
    have cF : ((W.setCell ⟨B1, 0, none⟩ (.bool true)).putObj D (.deferred none)).cell? ⟨B1, 0, none⟩ = some (.bool true) := Boxed.cell ((World.putObj_heap_other hD2).trans (IR.out.set (.bool true)))
    refine ⟨by simp, .inl ⟨_, _, rfl, run_takeDeferred hKD, ?_⟩⟩
    exact ⟨.bool true, by simp [results, Tryd.results48, go_sem, cF], by rw [HE.out], BB.out.trans (belowK_b (w := w) (Nat.le_refl _) _ D _ (.deferred none) (by have := HS.out; omega) hKD rfl rfl)⟩
  case stop =>
    rintro D c pre W hD _ ⟨rfl, hex, iR, iB⟩ hK
    have HE := Lib.hid (hex.stop)
    have IR := Lib.hid iR
    have HKK := Lib.hid hK
    have BB := Lib.hid iB
    clear iR iB hK hex
    gi_wp2
    have hD2 : B1 ≠ D := by have := HS.out; omega
    have cF : (W.putObj D (.deferred none)).cell? ⟨B1, 0, none⟩ = some (.bool false) := Boxed.cell ((World.putObj_heap_other hD2).trans IR.out)
    refine ⟨by simp, .inl ⟨_, _, rfl, run_takeDeferred HKK.out, ?_⟩⟩
    exact ⟨.bool false, by simp [results, Tryd.results48, go_sem, cF], by rw [HE.out], BB.out.trans (belowK_b (w := w) (Nat.le_refl _) _ D _ (.deferred none) (by have := HS.out; omega) HKK.out rfl rfl)⟩

theorem impl_nm (u : LB) (c : LK) (w : World) (h : bOk w u) (hc : c.Ok w) (hT : KTbl w) : Calls Tryd.prog 48 #[u.val, c.val] w (BoolGw (msC u.cs c.co && c.co.nm) w) := by
  cases hm : msC u.cs c.co with
  | false => exact impl_nm_no u c w h hc hT hm
  | true => exact impl_nm_yes u c w h hc hT hm

end Go.Proofs.YtfbgkbgoooepmaaDoor.Con
