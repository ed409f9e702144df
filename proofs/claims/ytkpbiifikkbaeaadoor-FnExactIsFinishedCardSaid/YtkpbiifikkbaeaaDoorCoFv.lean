/-
  Contracts of the program's freeVariables and its closure: they hand out the free variables of a core term. Condition: the core term lies in memory.
-/
import Derived.Test.YtkpbiifikkbaeaaDoorCoYd
import Derived.Test.YtkpbiifikkbaeaaDoorCoPl
import Derived.Test.YtkpbiifikkbaeaaDoorSeqO
namespace Go.Proofs.YtkpbiifikkbaeaaDoor.Con
open Go.RowKit
set_option linter.unusedVariables false
attribute [local go_sem] Oper.semAt_some

def fvN (x : NodeK) : Option Nat := if freeP x.pk = true then some (x.u.v - x.bd).toNat else none
def fvL (xs : List NodeK) : List Nat := xs.filterMap fvN
abbrev FvS (L : List Nat) : Type := { v : Nat // v ∈ L }
theorem fvN_no {x : NodeK} (h : freeP x.pk = false) : fvN x = none := by unfold fvN; rw [h]; rfl
theorem fvN_yes {x : NodeK} (h : freeP x.pk = true) : fvN x = some (x.u.v - x.bd).toNat := by unfold fvN; rw [h]; rfl

theorem impl_freeVars (b o : Nat) (w : World) : Calls Tryd.prog 77 #[.pointer (some ⟨b, o, none⟩)] w fun e w' =>
    e = .returned (.func (.func 110) #[] #[.pointer (some ⟨w.heap.size, 0, none⟩)]) ∧ w' = w.alloc (.cells #[.pointer (some ⟨b, o, none⟩)] 98) := by
  go_enter Tryd.func77, Tryd.ntmps77
  go_wp2_with fail
  go_ret
  exact ⟨rfl, rfl⟩

set_option maxRecDepth 100000 in
set_option maxHeartbeats 4000000 in
theorem fv_seq (n : Nat) (hn : 3 ≤ n) (Bs : Nat) (b o : Nat) (u : LK) (w0 w : World) (hBs : Bs < w.heap.size) (hc : w.cell? ⟨Bs, 0, none⟩ = some (.pointer (some ⟨b, o, none⟩))) (hu : coAt w0 b o u) (hd : u.co.dp ≤ 1000) (hb : Gw w0 w) :
    SeqO n Tryd.prog 110 #[.pointer (some ⟨Bs, 0, none⟩)] (fun v : FvS (fvL (nodesK u b o 0 0)) => #[.int .i64 (v.1 : Int)]) (KeepP w0.heap.size) (fun ys => ys.map (·.1) = fvL (nodesK u b o 0 0)) u.co.nn w := fun l J Jx W hW hJ hJx hY h0 => by
  have HY := Lib.hid hY
  have HJ := Lib.hid hJ
  have HJX := Lib.hid hJx
  have HU := Lib.hid hu
  have c0 : W.cell? ⟨Bs, 0, none⟩ = some (.pointer (some ⟨b, o, none⟩)) := (hW.cell (p := ⟨Bs, 0, none⟩) hBs).trans hc
  have G0 := Lib.hid (show Gw w0 W from hb.trans hW)
  have gA : Gw W (W.alloc (.cells #[.func (.yield l) #[] #[]] 120)) := (Gw.refl W).alloc _
  have BY := Lib.hid (Boxed.new W 120 (.func (.yield l) #[] #[]))
  have J1 := Lib.hid (own_gw hJ h0 gA)
  have c1 := gA.cell c0 (cell_lt c0)
  have GA := Lib.hid gA
  clear hJ hJx hY h0 hb hW hc hBs hu gA c0
  show CallsIn Fence.wide n Tryd.prog 110 #[.func (.yield l) #[] #[], .pointer (some ⟨Bs, 0, none⟩)] W _
  refine callsIn_of_wp_marks Tryd.func110 rfl trivial ?_ rfl
  simp only [Tryd.ntmps110, List.size_toArray, List.length_cons, List.length_nil, Nat.reduceAdd, Nat.reduceSub, Array.replicate_succ, Array.replicate_zero, List.push_toArray, List.append_toArray, List.nil_append, List.cons_append]
  have f2 : Fence.wide.fn 108 := trivial
  gi_upto_region 1 with (fail)
  generalize W.alloc (.cells #[.func (.yield l) #[] #[]] 120) = w1 at *
  obtain ⟨By, hBy⟩ : ∃ x, x = W.heap.size := ⟨_, rfl⟩
  rw [← hBy] at BY
  rw [← hBy]
  have HBY := Lib.hid hBy
  clear hBy
  have KN := Lib.hid (impl_coreNodes b o w1)
  gi_wp2_with fail
  refine ⟨fun _ => by omega, ?_⟩
  refine (callsIn_wide.2 KN.out).mono ?_
  rintro e w3 ⟨rfl, hw3'⟩
  have HW3 := Lib.hid hw3'
  clear hw3' c1 KN
  gi_wp2_with fail
  have hw3 := HW3.out
  obtain ⟨B, hB⟩ : ∃ x, x = w1.heap.size := ⟨_, rfl⟩
  have g23 : Gw w1 w3 := by rw [hw3]; exact (Gw.refl w1).alloc _
  have hBs : B < w3.heap.size := by rw [hw3, hB]; simp
  have HC := Lib.hid (show w3.cell? ⟨B, 0, none⟩ = some (.pointer (some ⟨b, o, none⟩)) by rw [hw3, hB]; exact cell_of_row _ _ 0 _ _ _ (heap_alloc_new w1 _))
  have G3 := Lib.hid (show Gw w0 w3 from (G0.out.trans GA.out).trans g23)
  have HS := Lib.hid (show W.heap.size ≤ w3.heap.size ∧ w0.heap.size ≤ w3.heap.size from ⟨(GA.out.trans g23).size, G3.out.size⟩)
  have I0 := Lib.hid (show (Boxed w3 By 120 (.func (.yield l) #[] #[]) ∧ Below w0.heap.size w0 w3) ∧ (∃ seg : List (FvS (fvL (nodesK u b o 0 0))), seg.map (·.1) = fvL (([] : List (NodeS w0 (nodesK u b o 0 0))).map (·.1)) ∧ J seg w3) from ⟨⟨(g23.block _ BY.out.lt).trans BY.out, G3.out⟩, [], rfl, own_gw HJ.out J1.out g23⟩)
  rw [← hB]
  clear hw3 HW3 g23 hB BY J1
  refine wpIn_rangeFunc_ownH rfl (by omega) (gf := 117) (lb := #[.pointer (some ⟨B, 0, none⟩)]) rfl trivial (enters_of Tryd.func117 (by kernel_rfl) rfl)
    (cn_stops (n - 1) (by omega) B b o u w0 w3 hBs HC.out HU.out hd G3.out) KeepP.trans (keepP_b HS.out.2) (Below.refl _ _) (fun _ => rfl)
    (fun pre X => (Boxed X By 120 (.func (.yield l) #[] #[]) ∧ Below w0.heap.size w0 X) ∧ (∃ seg : List (FvS (fvL (nodesK u b o 0 0))), seg.map (·.1) = fvL (pre.map (·.1)) ∧ J seg X))
    (fun c pre X => c = .ret ∧ ∃ s, Jx s X)
    (OwnFrom.and (OwnFrom.and (Own.from (boxed_own _ _ _) _) (ownFrom_below (Nat.le_refl _) HS.out.2)) (fun s X Y row ⟨seg, h1, h2⟩ hg hr => ⟨seg, h1, own_mono HJ.out HS.out.1 _ _ _ _ h2 hg hr⟩))
    (fun c s X Y row ⟨h1, s', h2⟩ hg hr => ⟨h1, s', own_mono HJX.out HS.out.1 _ _ _ _ h2 hg hr⟩)
    I0.out
    (fun x a' X => ∃ Bp, BoxP X Bp x.1.bd x.1.lv ∧ a' = { tmps := #[.func (.yield l) #[] #[], .pointer (some ⟨Bs, 0, none⟩), .pointer (some ⟨By, 0, none⟩), .pointer (some ⟨x.1.b, x.1.o, none⟩), .pointer (some ⟨Bp, 0, none⟩), .pointer (some ⟨b, o, none⟩), .func (.func 117) #[] #[.pointer (some ⟨B, 0, none⟩)], .pointer (some ⟨x.1.b, x.1.o, none⟩), .agg #[.int .i64 x.1.bd, .int .i64 x.1.lv], undef, undef, undef, undef, undef, undef, undef, undef, undef, undef, undef, undef, undef, undef, undef, undef, undef, undef, undef, undef, undef, undef, undef, undef, undef, undef], defers := [] })
    (fun x a' _ X Y row ⟨Bp, h1, h2⟩ hg hr => ⟨Bp, (hg.block Bp h1.lt (fun e => by obtain ⟨_, o', h3, h4⟩ := hr Bp e.symm; rw [show X.heap[Bp]? = _ from h1] at h3; cases h3; cases h4)).trans h1, h2⟩)
    ?assign ?body ?done ?stop
  case assign =>
    rintro l2 pre x X K hi hK
    have HI := Lib.hid hi
    have HK := Lib.hid hK
    clear hi hK
    simp only [encN]
    gi_wp2
    exact HK.out _ _ (keeps_of_gw ((Gw.refl X).alloc _)) (KeepP.gw HI.out.1.2.size ((Gw.refl X).alloc _)) (by
      obtain ⟨⟨i1, i2⟩, seg, i3, i4⟩ := HI.out
      exact ⟨⟨i1.alloc _, i2.alloc i2.size _⟩, seg, i3, own_gw HJ.out i4 ((Gw.refl X).alloc _)⟩) ⟨X.heap.size, heap_alloc_new X _, rfl⟩
  case body =>
    rintro l2 pre x a' X hl ⟨r, hr⟩ ⟨⟨iY, iB⟩, seg, i3, i4⟩ ⟨Bp, hP, rfl⟩ hlen2
    have IY := Lib.hid iY
    have IB := Lib.hid iB
    have I34 := Lib.hid (And.intro i3 i4)
    have HP := Lib.hid hP
    have hsz : w0.heap.size ≤ X.heap.size := iB.size
    obtain ⟨p0, p1, p2, p3⟩ := (x.2.2.1.grow iB).c
    obtain ⟨a0, a1⟩ := hP.c
    have y0 := iY.cell
    clear iY iB i3 i4 hP hr r p2 p3 a1
    have hmx : Tryd.prog.follows .mixedOrders = true := by kernel_rfl
    cases hfp : freeP x.1.pk with
    | false =>
      have FIN := Lib.hid (show KeepsFrom w3.heap.size X X.drew ∧ KeepP w0.heap.size X X.drew ∧ (Boxed X.drew By 120 (.func (.yield l) #[] #[]) ∧ Below w0.heap.size w0 X.drew) ∧ (∃ seg : List (FvS (fvL (nodesK u b o 0 0))), seg.map (·.1) = fvL ((pre ++ [x]).map (·.1)) ∧ J seg X.drew) from
        ⟨keeps_of_gw (Gw.refl X).drew, KeepP.gw hsz (Gw.refl X).drew, ⟨IY.out, IB.out.drew⟩, seg, by rw [I34.out.1]; unfold fvL; rw [List.map_append, List.filterMap_append]; simp [fvN_no hfp], own_gw HJ.out I34.out.2 (Gw.refl X).drew⟩)
      by_cases hk : x.1.u.k = 1
      · have q1 : (x.1.u.k == 1) = true := by simpa using hk
        have HV := Lib.hid (show ¬ (x.1.bd : Int) ≤ x.1.u.v from fun hv => by
          have : freeP x.1.pk = true := by
            show ((x.1.u.k == 1) && decide ((x.1.bd : Int) ≤ x.1.u.v)) = true
            rw [q1, decide_eq_true hv]; rfl
          rw [hfp] at this; cases this)
        clear hk hfp
        gi_upto_region 4 with (fail)
        refine regIn_hid (fun L hL => ?_)
        have HL := Lib.hid hL
        clear hL
        refine regIn_start 23 hmx (by rw [HL.out]; kernel_rfl) (fun ⟨_, _, h⟩ => h) (by rw [HL.out]; kernel_rfl) ?_
        refine reg_do 0 (by decide) (by rw [HL.out]; rfl) (by rw [HL.out]; kernel_rfl) ?_; intro K hK; go_simp; refine hK _ ?_; clear hK K
        refine reg_do 1 (by decide) (by rw [HL.out]; rfl) (by rw [HL.out]; kernel_rfl) ?_; intro K hK; go_simp; refine hK _ ?_; clear hK K
        refine reg_do 2 (by decide) (by rw [HL.out]; rfl) (by rw [HL.out]; kernel_rfl) ?_; intro K hK; go_simp; refine hK _ ?_; clear hK K
        refine reg_do 3 (by decide) (by rw [HL.out]; rfl) (by rw [HL.out]; kernel_rfl) ?_; intro K hK; go_simp; refine hK _ ?_; clear hK K
        refine reg_do 4 (by decide) (by rw [HL.out]; rfl) (by rw [HL.out]; kernel_rfl) ?_; intro K hK; go_simp; refine hK _ ?_; clear hK K
        refine reg_do 5 (by decide) (by rw [HL.out]; rfl) (by rw [HL.out]; kernel_rfl) ?_; intro K hK; go_simp; refine hK _ ?_; clear hK K
        refine reg_do 6 (by decide) (by rw [HL.out]; rfl) (by rw [HL.out]; kernel_rfl) ?_; intro K hK; go_simp; refine hK _ ?_; clear hK K
        refine reg_do 7 (by decide) (by rw [HL.out]; rfl) (by rw [HL.out]; kernel_rfl) ?_; intro K hK; go_simp; refine hK _ ?_; clear hK K
        refine reg_do 8 (by decide) (by rw [HL.out]; rfl) (by rw [HL.out]; kernel_rfl) ?_; intro K hK; go_simp; refine hK _ ?_; clear hK K
        refine reg_do 9 (by decide) (by rw [HL.out]; rfl) (by rw [HL.out]; kernel_rfl) ?_; intro K hK; go_simp; refine hK _ ?_; clear hK K
        refine reg_do 10 (by decide) (by rw [HL.out]; rfl) (by rw [HL.out]; kernel_rfl) ?_; intro K hK; go_simp; refine hK _ ?_; clear hK K
        refine reg_do 11 (by decide) (by rw [HL.out]; rfl) (by rw [HL.out]; kernel_rfl) ?_; intro K hK; go_simp; refine hK _ ?_; clear hK K
        refine reg_do 12 (by decide) (by rw [HL.out]; rfl) (by rw [HL.out]; kernel_rfl) ?_; intro K hK; go_simp; refine hK _ ?_; clear hK K
        rw [decide_eq_false HV.out]
        refine reg_do 13 (by decide) (by rw [HL.out]; rfl) (by rw [HL.out]; kernel_rfl) ?_; intro K hK; go_simp; refine hK _ ?_; clear hK K
        refine reg_do 14 (by decide) (by rw [HL.out]; rfl) (by rw [HL.out]; kernel_rfl) ?_; intro K hK; go_simp; refine hK _ ?_; clear hK K
        refine reg_no 15 (by decide) (by rw [HL.out]; rfl) (by rw [HL.out]; kernel_rfl) ?_
        refine reg_no 16 (by decide) (by rw [HL.out]; rfl) (by rw [HL.out]; kernel_rfl) ?_
        refine reg_no 17 (by decide) (by rw [HL.out]; rfl) (by rw [HL.out]; kernel_rfl) ?_
        refine reg_no 18 (by decide) (by rw [HL.out]; rfl) (by rw [HL.out]; kernel_rfl) ?_
        refine reg_no 19 (by decide) (by rw [HL.out]; rfl) (by rw [HL.out]; kernel_rfl) ?_
        refine reg_no 20 (by decide) (by rw [HL.out]; rfl) (by rw [HL.out]; kernel_rfl) ?_
        refine reg_no 21 (by decide) (by rw [HL.out]; rfl) (by rw [HL.out]; kernel_rfl) ?_
        refine reg_no 22 (by decide) (by rw [HL.out]; rfl) (by rw [HL.out]; kernel_rfl) ?_
        refine reg_end ?_
        refine tailIn_no 23 (by rw [HL.out]; rfl) (fun _ => trivial) (by rw [HL.out]; kernel_rfl) ?_
        refine tailIn_no 24 (by rw [HL.out]; rfl) (fun _ => trivial) (by rw [HL.out]; kernel_rfl) ?_
        refine tailIn_do 25 (by rw [HL.out]; rfl) (by rw [HL.out]; kernel_rfl) ?_; intro K hK; refine ⟨fun _ _ => trivial, ?_⟩; rw [Oper.semAt_eq _ _ _ (fun c h => by cases h)]; go_simp; refine hK _ _ ?_; clear hK K
        refine tailIn_end 26 (by rw [HL.out]; decide) ?_
        gi_wp2
        exact FIN.out
      · have q1 : (x.1.u.k == 1) = false := by simpa using hk
        clear hk hfp
        gi_upto_region 4 with (fail)
        refine regIn_hid (fun L hL => ?_)
        have HL := Lib.hid hL
        clear hL
        refine regIn_start 23 hmx (by rw [HL.out]; kernel_rfl) (fun ⟨_, _, h⟩ => h) (by rw [HL.out]; kernel_rfl) ?_
        refine reg_do 0 (by decide) (by rw [HL.out]; rfl) (by rw [HL.out]; kernel_rfl) ?_; intro K hK; go_simp; refine hK _ ?_; clear hK K
        refine reg_do 1 (by decide) (by rw [HL.out]; rfl) (by rw [HL.out]; kernel_rfl) ?_; intro K hK; go_simp; refine hK _ ?_; clear hK K
        refine reg_do 2 (by decide) (by rw [HL.out]; rfl) (by rw [HL.out]; kernel_rfl) ?_; intro K hK; go_simp; refine hK _ ?_; clear hK K
        refine reg_do 3 (by decide) (by rw [HL.out]; rfl) (by rw [HL.out]; kernel_rfl) ?_; intro K hK; go_simp; refine hK _ ?_; clear hK K
        refine reg_do 4 (by decide) (by rw [HL.out]; rfl) (by rw [HL.out]; kernel_rfl) ?_; intro K hK; go_simp; refine hK _ ?_; clear hK K
        refine reg_do 5 (by decide) (by rw [HL.out]; rfl) (by rw [HL.out]; kernel_rfl) ?_; intro K hK; go_simp; refine hK _ ?_; clear hK K
        refine reg_no 6 (by decide) (by rw [HL.out]; rfl) (by rw [HL.out]; kernel_rfl) ?_
        refine reg_no 7 (by decide) (by rw [HL.out]; rfl) (by rw [HL.out]; kernel_rfl) ?_
        refine reg_no 8 (by decide) (by rw [HL.out]; rfl) (by rw [HL.out]; kernel_rfl) ?_
        refine reg_no 9 (by decide) (by rw [HL.out]; rfl) (by rw [HL.out]; kernel_rfl) ?_
        refine reg_no 10 (by decide) (by rw [HL.out]; rfl) (by rw [HL.out]; kernel_rfl) ?_
        refine reg_no 11 (by decide) (by rw [HL.out]; rfl) (by rw [HL.out]; kernel_rfl) ?_
        refine reg_no 12 (by decide) (by rw [HL.out]; rfl) (by rw [HL.out]; kernel_rfl) ?_
        refine reg_do 13 (by decide) (by rw [HL.out]; rfl) (by rw [HL.out]; kernel_rfl) ?_; intro K hK; go_simp; refine hK _ ?_; clear hK K
        refine reg_do 14 (by decide) (by rw [HL.out]; rfl) (by rw [HL.out]; kernel_rfl) ?_; intro K hK; go_simp; refine hK _ ?_; clear hK K
        refine reg_no 15 (by decide) (by rw [HL.out]; rfl) (by rw [HL.out]; kernel_rfl) ?_
        refine reg_no 16 (by decide) (by rw [HL.out]; rfl) (by rw [HL.out]; kernel_rfl) ?_
        refine reg_no 17 (by decide) (by rw [HL.out]; rfl) (by rw [HL.out]; kernel_rfl) ?_
        refine reg_no 18 (by decide) (by rw [HL.out]; rfl) (by rw [HL.out]; kernel_rfl) ?_
        refine reg_no 19 (by decide) (by rw [HL.out]; rfl) (by rw [HL.out]; kernel_rfl) ?_
        refine reg_no 20 (by decide) (by rw [HL.out]; rfl) (by rw [HL.out]; kernel_rfl) ?_
        refine reg_no 21 (by decide) (by rw [HL.out]; rfl) (by rw [HL.out]; kernel_rfl) ?_
        refine reg_no 22 (by decide) (by rw [HL.out]; rfl) (by rw [HL.out]; kernel_rfl) ?_
        refine reg_end ?_
        refine tailIn_no 23 (by rw [HL.out]; rfl) (fun _ => trivial) (by rw [HL.out]; kernel_rfl) ?_
        refine tailIn_no 24 (by rw [HL.out]; rfl) (fun _ => trivial) (by rw [HL.out]; kernel_rfl) ?_
        refine tailIn_do 25 (by rw [HL.out]; rfl) (by rw [HL.out]; kernel_rfl) ?_; intro K hK; refine ⟨fun _ _ => trivial, ?_⟩; rw [Oper.semAt_eq _ _ _ (fun c h => by cases h)]; go_simp; refine hK _ _ ?_; clear hK K
        refine tailIn_end 26 (by rw [HL.out]; decide) ?_
        gi_wp2
        exact FIN.out
    | true =>
      have hkv : x.1.u.k = 1 ∧ (x.1.bd : Int) ≤ x.1.u.v := by
        have h2 : ((x.1.u.k == 1) && decide ((x.1.bd : Int) ≤ x.1.u.v)) = true := hfp
        simpa using h2
      have q1 : (x.1.u.k == 1) = true := by simpa using hkv.1
      have HV := Lib.hid hkv.2
      have hmem : (x.1.u.v - x.1.bd).toNat ∈ fvL (nodesK u b o 0 0) := List.mem_filterMap.2 ⟨x.1, x.2.1, fvN_yes hfp⟩
      have ev : (((x.1.u.v - x.1.bd).toNat : Nat) : Int) = x.1.u.v - x.1.bd := Int.toNat_of_nonneg (by have := hkv.2; omega)
      obtain ⟨vv, hvv⟩ : ∃ vv : FvS (fvL (nodesK u b o 0 0)), vv.1 = (x.1.u.v - x.1.bd).toNat := ⟨⟨_, hmem⟩, rfl⟩
      have hsl : seg.length < u.co.nn := by
        have h1 : (seg.map (·.1)).length ≤ (pre.map (·.1)).length := by rw [I34.out.1]; exact List.length_filterMap_le _ _
        simp only [List.length_map] at h1; omega
      have YA := HY.out seg vv X.drew (own_gw HJ.out I34.out.2 (Gw.refl X).drew) hsl
      clear hsl
      rw [show ((vv.1 : Nat) : Int) = x.1.u.v - x.1.bd by rw [hvv]; exact ev] at YA
      have VV := Lib.hid (show fvN x.1 = some vv.1 by rw [fvN_yes hfp, hvv])
      obtain ⟨fn, tmps, assign, body, hy, hR⟩ := YA
      have HRR := Lib.hid (show ∀ m, RoundIn (Fence.wide.inRound l2) m Tryd.prog l fn tmps assign body X.drew fun e Y => ((e = .returned (.bool true) ∧ J (seg ++ [vv]) Y ∧ KeepP w0.heap.size X.drew Y) ∨ (e = .returned (.bool false) ∧ Jx (seg ++ [vv]) Y)) ∧ KeepsFrom W.heap.size X.drew Y from fun m => roundIn_any (F := Fence.wide) rfl hR)
      have hvi := (x.2.2.1).2.vin
      have hxb := x.2.2.2.1
      have hv0 := hkv.2
      have wr1 : IntKind.i64.wrap (x.1.u.v - x.1.bd) = x.1.u.v - x.1.bd := by unfold IntKind.wrap; simp [IntKind.signed, IntKind.bits]; omega
      clear hR hvv hmem ev hkv hfp hvi hxb hv0
      gi_upto_region 4 with (fail)
      refine regIn_hid (fun L hL => ?_)
      have HL := Lib.hid hL
      clear hL
      refine regIn_start 23 hmx (by rw [HL.out]; kernel_rfl) (fun ⟨_, _, h⟩ => h) (by rw [HL.out]; kernel_rfl) ?_
      refine reg_do 0 (by decide) (by rw [HL.out]; rfl) (by rw [HL.out]; kernel_rfl) ?_; intro K hK; go_simp; refine hK _ ?_; clear hK K
      refine reg_do 1 (by decide) (by rw [HL.out]; rfl) (by rw [HL.out]; kernel_rfl) ?_; intro K hK; go_simp; refine hK _ ?_; clear hK K
      refine reg_do 2 (by decide) (by rw [HL.out]; rfl) (by rw [HL.out]; kernel_rfl) ?_; intro K hK; go_simp; refine hK _ ?_; clear hK K
      refine reg_do 3 (by decide) (by rw [HL.out]; rfl) (by rw [HL.out]; kernel_rfl) ?_; intro K hK; go_simp; refine hK _ ?_; clear hK K
      refine reg_do 4 (by decide) (by rw [HL.out]; rfl) (by rw [HL.out]; kernel_rfl) ?_; intro K hK; go_simp; refine hK _ ?_; clear hK K
      refine reg_do 5 (by decide) (by rw [HL.out]; rfl) (by rw [HL.out]; kernel_rfl) ?_; intro K hK; go_simp; refine hK _ ?_; clear hK K
      refine reg_do 6 (by decide) (by rw [HL.out]; rfl) (by rw [HL.out]; kernel_rfl) ?_; intro K hK; go_simp; refine hK _ ?_; clear hK K
      refine reg_do 7 (by decide) (by rw [HL.out]; rfl) (by rw [HL.out]; kernel_rfl) ?_; intro K hK; go_simp; refine hK _ ?_; clear hK K
      refine reg_do 8 (by decide) (by rw [HL.out]; rfl) (by rw [HL.out]; kernel_rfl) ?_; intro K hK; go_simp; refine hK _ ?_; clear hK K
      refine reg_do 9 (by decide) (by rw [HL.out]; rfl) (by rw [HL.out]; kernel_rfl) ?_; intro K hK; go_simp; refine hK _ ?_; clear hK K
      refine reg_do 10 (by decide) (by rw [HL.out]; rfl) (by rw [HL.out]; kernel_rfl) ?_; intro K hK; go_simp; refine hK _ ?_; clear hK K
      refine reg_do 11 (by decide) (by rw [HL.out]; rfl) (by rw [HL.out]; kernel_rfl) ?_; intro K hK; go_simp; refine hK _ ?_; clear hK K
      refine reg_do 12 (by decide) (by rw [HL.out]; rfl) (by rw [HL.out]; kernel_rfl) ?_; intro K hK; go_simp; refine hK _ ?_; clear hK K
      rw [decide_eq_true HV.out]
      refine reg_do 13 (by decide) (by rw [HL.out]; rfl) (by rw [HL.out]; kernel_rfl) ?_; intro K hK; go_simp; refine hK _ ?_; clear hK K
      refine reg_do 14 (by decide) (by rw [HL.out]; rfl) (by rw [HL.out]; kernel_rfl) ?_; intro K hK; go_simp; refine hK _ ?_; clear hK K
      refine reg_do 15 (by decide) (by rw [HL.out]; rfl) (by rw [HL.out]; kernel_rfl) ?_; intro K hK; go_simp; refine hK _ ?_; clear hK K
      refine reg_do 16 (by decide) (by rw [HL.out]; rfl) (by rw [HL.out]; kernel_rfl) ?_; intro K hK; go_simp; refine hK _ ?_; clear hK K
      refine reg_do 17 (by decide) (by rw [HL.out]; rfl) (by rw [HL.out]; kernel_rfl) ?_; intro K hK; go_simp; refine hK _ ?_; clear hK K
      refine reg_do 18 (by decide) (by rw [HL.out]; rfl) (by rw [HL.out]; kernel_rfl) ?_; intro K hK; go_simp; refine hK _ ?_; clear hK K
      refine reg_do 19 (by decide) (by rw [HL.out]; rfl) (by rw [HL.out]; kernel_rfl) ?_; intro K hK; go_simp; refine hK _ ?_; clear hK K
      refine reg_do 20 (by decide) (by rw [HL.out]; rfl) (by rw [HL.out]; kernel_rfl) ?_; intro K hK; go_simp; refine hK _ ?_; clear hK K
      refine reg_do 21 (by decide) (by rw [HL.out]; rfl) (by rw [HL.out]; kernel_rfl) ?_; intro K hK; go_simp; refine hK _ ?_; clear hK K
      refine reg_do 22 (by decide) (by rw [HL.out]; rfl) (by rw [HL.out]; kernel_rfl) ?_; intro K hK; go_simp; refine hK _ ?_; clear hK K
      refine reg_end ?_
      refine tailIn_do 23 (by rw [HL.out]; rfl) (by rw [HL.out]; kernel_rfl) ?_
      intro K hK
      refine ⟨fun _ _ => trivial, ?_⟩
      rw [Oper.semAt_eq _ _ _ (fun c h => by cases h)]
      have HK2 := Lib.hid hK
      clear hK
      go_simp
      refine ⟨fun _ => by omega, (HRR.out _).mono ?_⟩
      rintro e Y ⟨(⟨rfl, hJ3, hk3⟩ | ⟨rfl, hJx3⟩), hkf⟩
      · have JJ := Lib.hid (And.intro hJ3 (And.intro hk3 hkf))
        clear hJ3 hk3 hkf hy
        refine HK2.out _ _ ?_
        clear HK2 K
        refine tailIn_do 24 (by rw [HL.out]; rfl) (by rw [HL.out]; kernel_rfl) ?_; intro K hK; refine ⟨fun _ _ => trivial, ?_⟩; rw [Oper.semAt_eq _ _ _ (fun c h => by cases h)]; go_simp; refine hK _ _ ?_; clear hK K
        refine tailIn_do 25 (by rw [HL.out]; rfl) (by rw [HL.out]; kernel_rfl) ?_; intro K hK; refine ⟨fun _ _ => trivial, ?_⟩; rw [Oper.semAt_eq _ _ _ (fun c h => by cases h)]; go_simp; refine hK _ _ ?_; clear hK K
        refine tailIn_end 26 (by rw [HL.out]; decide) ?_
        gi_wp2
        obtain ⟨hJ3, hk3, hkf⟩ := JJ.out
        have kk : KeepP w0.heap.size X Y := (KeepP.gw hsz (Gw.refl X).drew).trans hk3
        exact ⟨(keeps_of_gw (Gw.refl X).drew).trans (keepsFrom_mono hkf HS.out.1), kk, ⟨kk.ybox IY.out, IB.out.trans kk.1⟩, seg ++ [vv], by
          rw [List.map_append, I34.out.1]; unfold fvL; rw [List.map_append, List.filterMap_append]; simp [VV.out]; rfl, hJ3⟩
      · have JJ := Lib.hid (And.intro hJx3 hkf)
        clear hJx3 hkf hy
        refine HK2.out _ _ ?_
        clear HK2 K
        refine tailIn_do 24 (by rw [HL.out]; rfl) (by rw [HL.out]; kernel_rfl) ?_; intro K hK; refine ⟨fun _ _ => trivial, ?_⟩; rw [Oper.semAt_eq _ _ _ (fun c h => by cases h)]; go_simp; refine hK _ _ ?_; clear hK K
        refine tailIn_do 25 (by rw [HL.out]; rfl) (by rw [HL.out]; kernel_rfl) ?_; intro K hK; refine ⟨fun _ _ => trivial, ?_⟩; rw [Oper.semAt_eq _ _ _ (fun c h => by cases h)]; go_simp; refine hK _ _ ?_; clear hK K
        refine tailIn_end 26 (by rw [HL.out]; decide) ?_
        gi_wp2
        obtain ⟨hJ3, hkf⟩ := JJ.out
        exact ⟨(keeps_of_gw (Gw.refl X).drew).trans (keepsFrom_mono hkf HS.out.1), rfl, _, hJ3⟩
  case done =>
    rintro D ys X hD hys ⟨⟨iY, iB⟩, seg, i3, i4⟩ hK
    have HKK := Lib.hid hK
    have JF := Lib.hid (own_mono HJ.out HS.out.1 _ _ _ _ i4 (grownBy_putObj' X D (.deferred none)) (fun r e => by cases e; exact ⟨hD, _, hK, rfl⟩))
    have SF := Lib.hid (show seg.map (·.1) = fvL (nodesK u b o 0 0) by rw [i3, hys])
    clear hK iY iB i3 i4
    gi_wp2
    refine ⟨by simp, .inl ⟨_, _, rfl, run_takeDeferred HKK.out, ?_⟩⟩
    exact ⟨_, results_none rfl _ _ _, ⟨_, rfl⟩, .inl ⟨seg, SF.out, JF.out⟩⟩
  case stop =>
    rintro D c pre X hD _ ⟨rfl, s, hs⟩ hK
    have HKK := Lib.hid hK
    have JF := Lib.hid (own_mono HJX.out HS.out.1 _ _ _ _ hs (grownBy_putObj' X D (.deferred none)) (fun r e => by cases e; exact ⟨hD, _, hK, rfl⟩))
    clear hK hs
    gi_wp2
    refine ⟨by simp, .inl ⟨_, _, rfl, run_takeDeferred HKK.out, ?_⟩⟩
    exact ⟨_, results_none rfl _ _ _, ⟨_, rfl⟩, .inr ⟨s, JF.out⟩⟩

end Go.Proofs.YtkpbiifikkbaeaaDoor.Con
