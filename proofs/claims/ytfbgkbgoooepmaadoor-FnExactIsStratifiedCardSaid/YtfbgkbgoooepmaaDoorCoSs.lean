/-
  Contract of the program's IsStratified. Condition: the core term lies in memory, and the table of forms reads as the program's text lays it.
-/
import Derived.Test.YtfbgkbgoooepmaaDoorCoBs
import Derived.Test.YtfbgkbgoooepmaaDoorCoCl
import Derived.Test.YtfbgkbgoooepmaaDoorCoNa
namespace Go.Proofs.YtfbgkbgoooepmaaDoor.Con
open Go.RowKit
set_option linter.unusedVariables false
attribute [local go_sem] Oper.semAt_some

theorem nodesK_sub (u : LK) : ∀ b o bd lv, ∀ x ∈ nodesK u b o bd lv, x.u.co.dp ≤ u.co.dp ∧ x.u.co.nn ≤ u.co.nn := by
  refine LK.ind (P := fun u => ∀ b o bd lv, ∀ x ∈ nodesK u b o bd lv, x.u.co.dp ≤ u.co.dp ∧ x.u.co.nn ≤ u.co.nn) (fun k v da dc ds a cap ks ih b o bd lv x hx => ?_) u
  rw [nodesK_eq] at hx
  rcases List.mem_cons.1 hx with rfl | hx
  · exact ⟨Nat.le_refl _, Nat.le_refl _⟩
  · obtain ⟨i, hi, hx⟩ := mem_kidsK.1 hx
    rw [List.getD, List.getElem?_eq_getElem hi] at hx
    obtain ⟨h1, h2⟩ := ih _ (List.getElem_mem hi) _ _ _ _ x hx
    have h3 := dp_kid (u := .mk k v da dc ds a cap ks) i hi
    have h4 := nn_kidC (u := .mk k v da dc ds a cap ks) i hi
    exact ⟨Nat.le_trans h1 (Nat.le_trans (Nat.le_succ _) h3), Nat.le_trans h2 h4⟩

/-- All nodes that came lie at their levels as they ask; one of them doesn't. -/
def AllT {w0 : World} {LL : List NodeK} (pre : List (NodeS w0 LL)) : Prop := ∀ x ∈ pre, StN x.1
def ExT {w0 : World} {LL : List NodeK} (pre : List (NodeS w0 LL)) : Prop := ∃ x ∈ pre, stH x.1.u.co x.1.lv = false
theorem AllT.snoc {w0 : World} {LL : List NodeK} {pre : List (NodeS w0 LL)} {x : NodeS w0 LL} (h : AllT pre) (hx : stH x.1.u.co x.1.lv = true) : AllT (pre ++ [x]) := fun y hy => by
  rcases List.mem_append.1 hy with hy | hy
  · exact h y hy
  · obtain rfl : y = x := by simpa using hy
    exact hx
theorem ExT.snoc {w0 : World} {LL : List NodeK} {pre : List (NodeS w0 LL)} {x : NodeS w0 LL} (hx : stH x.1.u.co x.1.lv = false) : ExT (pre ++ [x]) := ⟨x, by simp, hx⟩
theorem AllT.done {w0 : World} {LL : List NodeK} {ys : List (NodeS w0 LL)} {u : LK} {b o : Nat} (h : AllT ys) (hys : ys.map (·.1) = nodesK u b o 0 0) : u.co.str 0 = true := (nodesK_str u b o 0 0).1 fun x hx => by
  rw [← hys] at hx
  obtain ⟨y, hy, rfl⟩ := List.mem_map.1 hx
  exact h y hy
theorem ExT.stop {w0 : World} {u : LK} {b o : Nat} {pre : List (NodeS w0 (nodesK u b o 0 0))} (h : ExT pre) : u.co.str 0 = false := by
  obtain ⟨x, hx, he⟩ := h
  cases hb : u.co.str 0 with
  | false => rfl
  | true => have h1 : stH x.1.u.co x.1.lv = true := (nodesK_str u b o 0 0).2 hb x.1 x.2.1; rw [he] at h1; cases h1

set_option maxRecDepth 100000 in
theorem impl_strat_no (u : LK) (w : World) (h : u.Ok w) (hT : KTbl w) (hok : closC u.co = false) : Calls Tryd.prog 34 #[u.val] w (BoolGw false w) := by
  have g0 : Gw w ((w.alloc (u.obj 30)).alloc (.cells #[.bool false] 4)) := ((Gw.refl w).alloc _).alloc _
  have KV0 := impl_closed u _ (h.grow g0) (hT.grow g0)
  rw [hok] at KV0
  have KV := Lib.hid KV0
  have BK := Lib.hid ((BoxK.new w u 30).grow ((Gw.refl _).alloc (.cells #[.bool false] 4)))
  have BR := Boxed.new (w.alloc (u.obj 30)) 4 (.bool false)
  rw [World.size_alloc] at BR
  have G := Lib.hid g0
  have BRR := Lib.hid BR
  clear h hT hok g0 KV0 BR
  obtain ⟨p0, p1, p2, p3⟩ := BK.out.c
  go_enter Tryd.func34, Tryd.ntmps34
  go_wp2_with fail
  refine KV.out.mono ?_
  rintro e w2 ⟨rfl, g2⟩
  have BR2 : Boxed w2 (w.heap.size + 1) 4 (.bool false) := (g2.block _ BRR.out.lt).trans BRR.out
  have cR := BR2.cell
  have fR := BR2.frozen
  have BB := Lib.hid BR2
  have G2 := Lib.hid (G.out.trans g2)
  clear p0 p1 p2 p3 g2 BR2
  go_wp2_with fail
  have cF : (w2.setCell ⟨w.heap.size + 1, 0, none⟩ (.bool false)).cell? ⟨w.heap.size + 1, 0, none⟩ = some (.bool false) := (BB.out.set _).cell
  refine bodyPost_ret (v := .bool false) (by simp [results, Tryd.results34, go_sem, cF]) rfl ⟨rfl, Below.setCell G2.out (by simp) _⟩

set_option maxRecDepth 100000 in
set_option maxHeartbeats 4000000 in
theorem impl_strat_yes (u : LK) (w : World) (h : u.Ok w) (hT : KTbl w) (hok : closC u.co = true) : Calls Tryd.prog 34 #[u.val] w (BoolGw (u.co.str 0) w) := by
  have HU := Lib.hid h
  have HT := Lib.hid hT
  have g0 : Gw w ((w.alloc (u.obj 30)).alloc (.cells #[.bool false] 4)) := ((Gw.refl w).alloc _).alloc _
  have BK := Lib.hid ((BoxK.new w u 30).grow ((Gw.refl _).alloc (.cells #[.bool false] 4)))
  have BR := Boxed.new (w.alloc (u.obj 30)) 4 (.bool false)
  rw [World.size_alloc] at BR
  have G := Lib.hid g0
  have GD := Lib.hid (show goodC headC u.co 80 400 by unfold closC at hok; rw [Bool.and_eq_true] at hok; exact okC_good hok.1)
  clear h hT g0
  refine (callsIn_wide (n := 9)).1 ?_
  refine callsIn_of_wp_marks Tryd.func34 rfl trivial ?_ rfl
  simp only [Tryd.ntmps34, List.size_toArray, List.length_cons, List.length_nil, Nat.reduceAdd, Nat.reduceSub, Array.replicate_succ, Array.replicate_zero, List.push_toArray, List.append_toArray, List.nil_append, List.cons_append]
  have f1 : Fence.wide.fn 25 := trivial
  have f2 : Fence.wide.fn 60 := trivial
  have f3 : Fence.wide.fn 69 := trivial
  gi_upto_region 1 with (fail)
  generalize (w.alloc (.cells #[.int .i64 u.k, .int .i64 u.v, .slice u.da u.ds.length u.dc, .slice u.a u.ks.length u.cap] 30)).alloc (.cells #[.bool false] 4) = w1 at *
  obtain ⟨B0, hB0⟩ : ∃ x, x = w.heap.size := ⟨_, rfl⟩
  obtain ⟨B1, hB1⟩ : ∃ x, x = w.heap.size + 1 := ⟨_, rfl⟩
  rw [← hB0] at BK
  rw [← hB1] at BR
  rw [← hB1, ← hB0]
  have HB := Lib.hid (And.intro hB0 hB1)
  have BRR := Lib.hid BR
  have KV0 := impl_closed u w1 (HU.out.grow G.out) (HT.out.grow G.out)
  rw [hok] at KV0
  have KV := Lib.hid KV0
  clear KV0
  clear hB0 hB1 BR
  obtain ⟨p0, p1, p2, p3⟩ := BK.out.c
  gi_wp2_with fail
  refine (callsIn_wide.2 KV.out).mono ?_
  rintro e w2 ⟨rfl, g2⟩
  have BR2 : Boxed w2 B1 4 (.bool false) := (g2.block _ BRR.out.lt).trans BRR.out
  have BK2 := Lib.hid (BK.out.grow g2)
  have G2 := Lib.hid (G.out.trans g2)
  have cR := BR2.cell
  have fR := BR2.frozen
  have BRR2 := Lib.hid BR2
  have hB1 : w.heap.size ≤ B1 := by have := HB.out; omega
  clear p0 p1 p2 p3 KV g2 BR2 BK BRR
  clear hok
  have KN := Lib.hid (impl_coreNodes B0 0 w2)
  gi_wp2_with fail
  refine (callsIn_wide.2 KN.out).mono ?_
  rintro e w3 ⟨rfl, hw3'⟩
  have HW3 := Lib.hid hw3'
  clear hw3'
  gi_wp2_with fail
  have hw3 := HW3.out
  clear HW3
  obtain ⟨B, hB⟩ : ∃ x, x = w2.heap.size := ⟨_, rfl⟩
  have g23 : Gw w2 w3 := by rw [hw3]; exact (Gw.refl w2).alloc _
  have hBs : B < w3.heap.size := by rw [hw3, hB]; simp
  have HC := Lib.hid (show w3.cell? ⟨B, 0, none⟩ = some (.pointer (some ⟨B0, 0, none⟩)) by rw [hw3, hB]; exact cell_of_row _ _ 0 _ _ _ (heap_alloc_new w2 _))
  have CA := Lib.hid (BK2.out.at (HU.out.grow G2.out))
  have HD := Lib.hid (show u.co.dp ≤ 1000 by have := GD.out.2.1; omega)
  have HN := Lib.hid (show u.co.nn ≤ 1000 by have := GD.out.2.2; omega)
  have HH := Lib.hid ((nodesK_all headC u B0 0 0 0).2 GD.out.1)
  have G3 := Lib.hid g23
  have HS := Lib.hid (show w2.heap.size ≤ w3.heap.size ∧ w.heap.size ≤ w2.heap.size ∧ B1 < w2.heap.size from ⟨g23.size, G2.out.size, BRR2.out.lt⟩)
  have I0 := Lib.hid (show (Boxed w3 B1 4 (.bool false) ∧ Below w2.heap.size w2 w3) ∧ AllT ([] : List (NodeS w2 (nodesK u B0 0 0 0))) from ⟨⟨(g23.block _ BRR2.out.lt).trans BRR2.out, g23⟩, fun x h => by cases h⟩)
  rw [← hB]
  have HBB := Lib.hid hB
  clear cR fR hw3 g23 hB KN BRR2 BK2
  refine wpIn_rangeFunc_ownH rfl (by omega) (gf := 93) (lb := #[.pointer (some ⟨B, 0, none⟩)]) rfl trivial (enters_of Tryd.func93 (by kernel_rfl) rfl)
    (cn_stops (9 - 1) (by omega) B B0 0 u w2 w3 hBs HC.out CA.out HD.out G3.out) KeepP.trans (keepP_b HS.out.1) (Below.refl _ _) (fun _ => rfl)
    (fun pre W => (Boxed W B1 4 (.bool false) ∧ Below w2.heap.size w2 W) ∧ AllT pre)
    (fun c pre W => c = .ret ∧ ExT pre ∧ Boxed W B1 4 (.bool false) ∧ Below w.heap.size w W)
    (OwnFrom.and (OwnFrom.and (Own.from (boxed_own _ _ _) _) (ownFrom_below (Nat.le_refl _) HS.out.1)) (fun _ _ _ _ h _ _ => h))
    (fun c => OwnFrom.and (fun _ _ _ _ h _ _ => h) (OwnFrom.and (fun _ _ _ _ h _ _ => h) (OwnFrom.and (Own.from (boxed_own _ _ _) _) (ownFrom_below (Nat.le_refl _) (Nat.le_trans HS.out.2.1 HS.out.1)))))
    I0.out
    (fun x a' X => ∃ Bp, (B1 < Bp ∧ BoxP X Bp x.1.bd x.1.lv) ∧ a' = { tmps := #[u.val, .pointer (some ⟨B0, 0, none⟩), .pointer (some ⟨B1, 0, none⟩), .pointer (some ⟨x.1.b, x.1.o, none⟩), .pointer (some ⟨Bp, 0, none⟩), u.val, .bool true, .bool false, .func (.func 93) #[] #[.pointer (some ⟨B, 0, none⟩)], .pointer (some ⟨x.1.b, x.1.o, none⟩), .agg #[.int .i64 x.1.bd, .int .i64 x.1.lv], undef, undef, undef, undef, undef, undef, undef, undef], defers := [] })
    (fun x a' _ X Y row ⟨Bp, ⟨h0, h1⟩, h2⟩ hg hr => ⟨Bp, ⟨h0, (hg.block Bp h1.lt (fun e => by obtain ⟨_, o', h3, h4⟩ := hr Bp e.symm; rw [show X.heap[Bp]? = _ from h1] at h3; cases h3; cases h4)).trans h1⟩, h2⟩)
    ?assign ?body ?done ?stop
  case assign =>
    rintro l2 pre x X K hi hK
    have HI2 := Lib.hid hi
    have HK := Lib.hid hK
    clear hi hK
    simp only [encN]
    gi_wp2
    exact HK.out _ _ (keeps_of_gw ((Gw.refl X).alloc _)) (KeepP.gw HI2.out.1.2.size ((Gw.refl X).alloc _)) (by
      obtain ⟨⟨i1, i2⟩, i3⟩ := HI2.out
      exact ⟨⟨i1.alloc _, i2.alloc i2.size _⟩, i3⟩) ⟨X.heap.size, ⟨by obtain ⟨⟨i1, _⟩, _⟩ := HI2.out; exact i1.lt, heap_alloc_new X _⟩, rfl⟩
  case body =>
    rintro l pre x a' W hl ⟨r, hr⟩ ⟨⟨iR, iB⟩, hall⟩ ⟨Bp, ⟨hBp, hP⟩, rfl⟩ hlen2
    have IR := Lib.hid iR
    have IB := Lib.hid iB
    have HALL := Lib.hid hall
    have hsz : w2.heap.size ≤ W.heap.size := iB.size
    have SUB := Lib.hid (nodesK_sub u B0 0 0 0 x.1 x.2.1)
    have KY := Lib.hid (impl_bindsStr x.1.u W x.1.b x.1.o (x.2.2.1.grow iB) (HH.out x.1 x.2.1) (Nat.le_trans SUB.out.1 HD.out) (Nat.le_trans SUB.out.2 HN.out))
    have SE := Lib.hid (stH_eq x.1.u.co x.1.lv)
    obtain ⟨a0, a1⟩ := hP.c
    have hlv : x.1.lv ≤ 100000 := x.2.2.2.2
    by_cases h8 : 8 < x.1.lv
    · have q8 : decide ((8 : Int) < (x.1.lv : Int)) = true := decide_eq_true (by omega)
      have HE := Lib.hid (show stH x.1.u.co x.1.lv = false by rw [SE.out, decide_eq_false (by omega)]; rfl)
      have cR := IR.out.cell
      have fR := IR.out.frozen
      clear iR iB hall hr r hP a0 h8
      gi_wp2_with fail
      exact ⟨(KeepsOthers.setCell _ _ _).from _, rfl, ExT.snoc HE.out, IR.out.set _, (Below.trans G2.out (IB.out.mono HS.out.2.1)).setCell (p := ⟨B1, 0, none⟩) hB1 _⟩
    · have q8 : decide ((8 : Int) < (x.1.lv : Int)) = false := decide_eq_false (by omega)
      have SE2 := Lib.hid (show stH x.1.u.co x.1.lv = bnS x.1.u.co by rw [SE.out, decide_eq_true (by omega)]; rfl)
      clear iR iB hall hr r hP a0 h8
      gi_wp2_with fail
      refine (CallsIn.inRound l (callsIn_wide.2 KY.out)).mono ?_
      rintro e W4 ⟨rfl, g4⟩
      have iR4 : Boxed W4 B1 4 (.bool false) := (g4.block _ IR.out.lt).trans IR.out
      have cR := iR4.cell
      have fR := iR4.frozen
      have IR4 := Lib.hid iR4
      have IB4 := Lib.hid (IB.out.trans (g4.mono hsz))
      have fin : ∀ (W' : World), W' = W4.setCell ⟨B1, 0, none⟩ (.bool false) → stH x.1.u.co x.1.lv = false → KeepsFrom w3.heap.size W W' ∧ ExT (pre ++ [x]) ∧ Boxed W' B1 4 (.bool false) ∧ Below w.heap.size w W' := fun W' hW' he => by
        subst hW'
        exact ⟨(keeps_of_gw g4).trans ((KeepsOthers.setCell _ _ _).from _), ExT.snoc he, IR4.out.set _, (Below.trans G2.out (IB4.out.mono HS.out.2.1)).setCell (p := ⟨B1, 0, none⟩) hB1 _⟩
      have FIN := Lib.hid fin
      have G4 := Lib.hid g4
      clear fin iR4 g4 KY a1
      cases hb : bnS x.1.u.co with
      | false =>
        have HE := Lib.hid (show stH x.1.u.co x.1.lv = false from SE2.out.trans hb)
        clear hb
        gi_wp2
        obtain ⟨k1, k2, k3, k4⟩ := FIN.out _ rfl HE.out
        exact ⟨k1, rfl, k2, k3, k4⟩
      | true =>
        have HE := Lib.hid (show stH x.1.u.co x.1.lv = true from SE2.out.trans hb)
        clear hb
        gi_wp2
        exact ⟨keeps_of_gw G4.out, KeepP.gw hsz G4.out, ⟨IR4.out, IB4.out⟩, HALL.out.snoc HE.out⟩
  case done =>
    rintro D ys W hD hys ⟨⟨iR, iB⟩, hall⟩ hK
    have HE := Lib.hid (AllT.done hall hys)
    have IR := Lib.hid iR
    have cR := iR.cell
    have fR := iR.frozen
    have HKK := Lib.hid hK
    have BB := Lib.hid ((Below.trans G2.out (iB.mono HS.out.2.1)).setCell (p := ⟨B1, 0, none⟩) hB1 (.bool true))
    clear iR iB hall hK hys
    gi_wp2
    have hD2 : B1 ≠ D := by have := HS.out; omega
    have hKD : (W.setCell ⟨B1, 0, none⟩ (.bool true)).heap[D]? = some (.deferred (some [])) := (Below.heap_setCell _ _ _ _ (by simpa using fun e => hD2 e.symm)).trans HKK.out
    have cF : ((W.setCell ⟨B1, 0, none⟩ (.bool true)).putObj D (.deferred none)).cell? ⟨B1, 0, none⟩ = some (.bool true) := Boxed.cell ((World.putObj_heap_other hD2).trans (IR.out.set (.bool true)))
    refine ⟨by simp, .inl ⟨_, _, rfl, run_takeDeferred hKD, ?_⟩⟩
    exact ⟨.bool true, by simp [results, Tryd.results34, go_sem, cF], by rw [HE.out], BB.out.trans (belowK_b (w := w) (Nat.le_refl _) _ D _ (.deferred none) (by have := HS.out; omega) hKD rfl rfl)⟩
  case stop =>
    rintro D c pre W hD _ ⟨rfl, hex, iR, iB⟩ hK
    have HE := Lib.hid (hex.stop)
    have IR := Lib.hid iR
    have HKK := Lib.hid hK
    have BB := Lib.hid iB
    clear iR iB hK hex
    gi_wp2
    have hD2 : B1 ≠ D := by have := HS.out; omega
    have cF : (W.putObj D (.deferred none)).cell? ⟨B1, 0, none⟩ = some (.bool false) := Boxed.cell ((World.putObj_heap_other hD2).trans IR.out)
    refine ⟨by simp, .inl ⟨_, _, rfl, run_takeDeferred HKK.out, ?_⟩⟩
    exact ⟨.bool false, by simp [results, Tryd.results34, go_sem, cF], by rw [HE.out], BB.out.trans (belowK_b (w := w) (Nat.le_refl _) _ D _ (.deferred none) (by have := HS.out; omega) HKK.out rfl rfl)⟩

theorem impl_strat (u : LK) (w : World) (h : u.Ok w) (hT : KTbl w) : Calls Tryd.prog 34 #[u.val] w (BoolGw (strC u.co) w) := by
  cases hok : closC u.co with
  | false => have := impl_strat_no u w h hT hok; unfold strC; rw [hok]; exact this
  | true => have := impl_strat_yes u w h hT hok; unfold strC; rw [hok]; exact this

end Go.Proofs.YtfbgkbgoooepmaaDoor.Con
