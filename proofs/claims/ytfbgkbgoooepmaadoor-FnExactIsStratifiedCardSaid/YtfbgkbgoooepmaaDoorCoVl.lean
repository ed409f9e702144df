/-
  Contract of the program's variableLevels. Condition: the core term lies in memory.
-/
import Derived.Test.YtfbgkbgoooepmaaDoorCoLv
import Derived.Test.YtfbgkbgoooepmaaDoorCoFv
import Derived.OwnWalkIn
import Derived.Laws.OwnMore
namespace Go.Proofs.YtfbgkbgoooepmaaDoor.Con
open Go.RowKit
set_option linter.unusedVariables false
attribute [local go_sem] Oper.semAt_some

theorem irow_own {β : Type} (n : Nat) (f : β → List Int) (v : Value) : Own (fun s W => IRow n W v (f s)) := fun s X Y row hs hg hrow => by
  refine World.ownsRow.kept hs hg ?_
  by_cases e : v.ownBlock = none
  · exact .inl e
  · refine .inr fun e2 => ?_
    rcases hs.2 with ⟨rfl, _⟩ | ⟨g, cap, cur, rfl, _, hgg, _⟩
    · exact e rfl
    · obtain ⟨o, ho, hc⟩ := hrow g (by rw [← e2]; rfl)
      rw [hgg] at ho
      cases ho
      cases hc
theorem keeps_of_row {B B' : Nat} {w w' : World} {v : Value} {L : List Int} (h : IRow B w v L) (hg : w.grownBy w' v.ownBlock) : KeepsFrom B' w w' :=
  ⟨hg.size, fun k o _ hk hc => (hg.block k (Array.getElem?_eq_some_iff.1 hk).1 (fun e => by
    rcases h.2 with ⟨rfl, _⟩ | ⟨g, cap, cur, rfl, _, hgg, _⟩
    · cases e
    · obtain rfl : k = g := by simpa [Value.ownBlock] using e
      rw [hgg] at hk
      cases hk
      cases hc)).trans hk⟩
theorem IRow.notB {B b : Nat} {w : World} {v x : Value} {L : List Int} {t : TypeId} (h : IRow B w v L) (hb : Boxed w b t x) (ht : t ≠ 2) : v.ownBlock ≠ some b := fun e => by
  rcases h.2 with ⟨rfl, _⟩ | ⟨g, cap, cur, rfl, _, hg, _⟩
  · cases e
  · obtain rfl : g = b := by simpa [Value.ownBlock] using e
    have h1 := (show w.heap[g]? = _ from hb).symm.trans hg
    simp only [Option.some.injEq, Obj.cells.injEq] at h1
    exact ht h1.2.1
theorem keepP_row {n0 B : Nat} {w w' : World} {v : Value} {L : List Int} (h : IRow B w v L) (hg : w.grownBy w' v.ownBlock) (hB : n0 ≤ B) (hw : n0 ≤ w.heap.size) : KeepP n0 w w' := by
  refine ⟨(Below.refl n0 w).grown hg hw (fun j hj => Nat.le_trans hB (h.at j hj).1), fun b cs e fr heq ht => hg.block b (Array.getElem?_eq_some_iff.1 heq).1 (fun e2 => ?_)⟩
  rcases h.2 with ⟨rfl, _⟩ | ⟨g, cap, cur, rfl, _, hgg, _⟩
  · cases e2
  · obtain rfl : b = g := by simpa [Value.ownBlock] using e2
    rw [hgg] at heq
    simp only [Option.some.injEq, Obj.cells.injEq] at heq
    obtain ⟨_, h2, _⟩ := heq
    subst h2
    rcases ht with ht | ht
    · exact absurd ht (by decide)
    · exact absurd ht (by decide)

theorem lvsP_snoc {α : Type} (i : Int) (f : α → PK) (pre : List α) (x : α) : lvsP i ((pre ++ [x]).map f) = lvsP i (pre.map f) ++ (if isP i (f x) = true then [((f x).lv : Int)] else []) := by
  rw [List.map_append, lvsP_app]
  unfold lvsP
  congr 1
  simp only [List.map_cons, List.map_nil, List.filter_cons, List.filter_nil]
  cases isP i (f x) <;> rfl

set_option maxRecDepth 100000 in
set_option maxHeartbeats 4000000 in
theorem impl_varLevels (u : LK) (w : World) (b o : Nat) (h : coAt w b o u) (hdp : u.co.dp ≤ 1000) (hnn : u.co.nn ≤ 1000) : Calls Tryd.prog 102 #[.pointer (some ⟨b, o, none⟩)] w fun e w' => ∃ v, e = .returned v ∧ IRow w.heap.size w' v (lvC u.co 0 0 0) ∧ Gw w w' := by
  have HU := Lib.hid h
  have HDP := Lib.hid hdp
  have HNN := Lib.hid hnn
  have BL0 := Boxed.new w 22 (.slice none 0 0)
  have g0 := (Gw.refl w).alloc (.cells #[.slice none 0 0] 22)
  clear h hdp hnn
  obtain ⟨i0, hi, hz0, hz1, hz2⟩ := info_parts infoI
  have HI := Lib.hid hi
  have HZ0 := Lib.hid hz0
  have HZ1 := Lib.hid hz1
  have HZ2 := Lib.hid hz2
  clear hi hz0 hz1 hz2
  refine (callsIn_wide (n := 9)).1 ?_
  refine callsIn_of_wp_marks Tryd.func102 rfl trivial ?_ rfl
  simp only [Tryd.ntmps102, List.size_toArray, List.length_cons, List.length_nil, Nat.reduceAdd, Nat.reduceSub, Array.replicate_succ, Array.replicate_zero, List.push_toArray, List.append_toArray, List.nil_append, List.cons_append]
  have f2 : Fence.wide.fn 60 := trivial
  gi_upto_region 2 with (fail)
  generalize w.alloc (.cells #[.slice none 0 0] 22) = w1 at *
  obtain ⟨BL, hBL⟩ : ∃ x, x = w.heap.size := ⟨_, rfl⟩
  rw [← hBL] at BL0
  rw [← hBL]
  have HBL := Lib.hid hBL
  have BL1 := Lib.hid BL0
  have G := Lib.hid g0
  clear hBL BL0 g0
  have KN := Lib.hid (impl_coreNodes b o w1)
  gi_wp2_with fail
  refine (callsIn_wide.2 KN.out).mono ?_
  rintro e w3 ⟨rfl, hw3'⟩
  have HW3 := Lib.hid hw3'
  clear hw3'
  gi_wp2_with fail
  have hw3 := HW3.out
  clear HW3
  obtain ⟨B, hB⟩ : ∃ x, x = w1.heap.size := ⟨_, rfl⟩
  have g23 : Gw w1 w3 := by rw [hw3]; exact (Gw.refl w1).alloc _
  have hBs : B < w3.heap.size := by rw [hw3, hB]; simp
  have HC := Lib.hid (show w3.cell? ⟨B, 0, none⟩ = some (.pointer (some ⟨b, o, none⟩)) by rw [hw3, hB]; exact cell_of_row _ _ 0 _ _ _ (heap_alloc_new w1 _))
  have HD := Lib.hid HDP.out
  have G3 := Lib.hid (G.out.trans g23)
  have HS := Lib.hid (show w.heap.size ≤ w3.heap.size ∧ BL < w3.heap.size ∧ w.heap.size ≤ BL from ⟨G3.out.size, by have := BL1.out.lt; have := g23.size; omega, by have := HBL.out; omega⟩)
  have I0 := Lib.hid (show (∃ v, Boxed w3 BL 22 v ∧ IRow w3.heap.size w3 v (lvsP 0 (([] : List (NodeS w (nodesK u b o 0 0))).map (fun x => x.1.pk)))) ∧ Below w.heap.size w w3 from ⟨⟨_, (g23.block _ BL1.out.lt).trans BL1.out, IRow.nil _ _⟩, G3.out⟩)
  rw [← hB]
  clear hw3 g23 hB KN BL1
  refine wpIn_rangeFunc_ownH rfl (by omega) (gf := 93) (lb := #[.pointer (some ⟨B, 0, none⟩)]) rfl trivial (enters_of Tryd.func93 (by kernel_rfl) rfl)
    (cn_stops (9 - 1) (by omega) B b o u w w3 hBs HC.out HU.out HD.out G3.out) KeepP.trans (keepP_b HS.out.1) (Below.refl _ _) (fun _ => rfl)
    (fun pre W => (∃ v, Boxed W BL 22 v ∧ IRow w3.heap.size W v (lvsP 0 (pre.map (fun x => x.1.pk)))) ∧ Below w.heap.size w W)
    (fun _ _ _ => False)
    (OwnFrom.and (fun s X Y row ⟨v, hb, hr⟩ hg hr' => ⟨v, boxed_own BL 22 (fun (_ : Unit) => v) () X Y row hb hg (fun r e => (hr' r e).2), irow_own _ (fun (_ : Unit) => lvsP 0 (s.map (fun x => x.1.pk))) v () X Y row hr hg (fun r e => (hr' r e).2)⟩) (ownFrom_below (Nat.le_refl _) HS.out.1))
    (fun _ _ _ _ _ hs _ _ => hs)
    I0.out
    (fun x a' X => ∃ Bp, (BL < Bp ∧ BoxP X Bp x.1.bd x.1.lv) ∧ a' = { tmps := #[.pointer (some ⟨b, o, none⟩), undef, .slice none 0 0, .pointer (some ⟨BL, 0, none⟩), .pointer (some ⟨x.1.b, x.1.o, none⟩), .pointer (some ⟨Bp, 0, none⟩), .pointer (some ⟨b, o, none⟩), .func (.func 93) #[] #[.pointer (some ⟨B, 0, none⟩)], .pointer (some ⟨x.1.b, x.1.o, none⟩), .agg #[.int .i64 x.1.bd, .int .i64 x.1.lv], undef, undef, undef, undef, undef, undef, undef, undef, undef, undef, undef, undef, undef, undef, undef, undef, undef, undef, undef, undef], defers := [] })
    (fun x a' _ X Y row ⟨Bp, ⟨h0, h1⟩, h2⟩ hg hr => ⟨Bp, ⟨h0, (hg.block Bp h1.lt (fun e => by obtain ⟨_, o', h3, h4⟩ := hr Bp e.symm; rw [show X.heap[Bp]? = _ from h1] at h3; cases h3; cases h4)).trans h1⟩, h2⟩)
    ?assign ?body ?done ?stop
  case assign =>
    rintro l2 pre x X K hi hK
    have HI2 := Lib.hid hi
    have HK := Lib.hid hK
    clear hi hK
    simp only [encN]
    gi_wp2
    exact HK.out _ _ (keeps_of_gw ((Gw.refl X).alloc _)) (KeepP.gw HI2.out.2.size ((Gw.refl X).alloc _)) (by
      obtain ⟨⟨v, i1, i2⟩, i3⟩ := HI2.out
      exact ⟨⟨v, i1.alloc _, i2.grow ((Gw.refl X).alloc _)⟩, i3.alloc i3.size _⟩) ⟨X.heap.size, ⟨by obtain ⟨⟨v, i1, _⟩, _⟩ := HI2.out; exact i1.lt, heap_alloc_new X _⟩, rfl⟩
  case body =>
    rintro l2 pre x a' X hl ⟨r, hr⟩ ⟨⟨v, iL, iR⟩, iB⟩ ⟨Bp, ⟨hBp, hP⟩, rfl⟩ hlen2
    have hsz : w.heap.size ≤ X.heap.size := iB.size
    have hsz3 : w3.heap.size ≤ X.heap.size := by have := (Array.getElem?_eq_some_iff.1 hr).1; omega
    obtain ⟨p0, p1, p2, p3⟩ := (x.2.2.1.grow iB).c
    obtain ⟨a0, a1⟩ := hP.c
    have SN := Lib.hid (lvsP_snoc 0 (fun x : NodeS w (nodesK u b o 0 0) => x.1.pk) pre x)
    have IL := Lib.hid iL
    have IR := Lib.hid iR
    have IB := Lib.hid iB
    have HPP := Lib.hid hP
    have LEN := Lib.hid (show (lvsP 0 (pre.map (fun x => x.1.pk))).length ≤ 1000 by
      have h1 := lvsP_len 0 (pre.map (fun x : NodeS w (nodesK u b o 0 0) => x.1.pk))
      rw [List.length_map] at h1
      have := HNN.out
      have hnl := nodesK_len u b o 0 0
      omega)
    clear iL iR iB hP hr r p2 p3
    have hmx : Tryd.prog.follows .mixedOrders = true := by kernel_rfl
    cases hfp : isP 0 x.1.pk with
    | false =>
      have FIN := Lib.hid (show KeepsFrom w3.heap.size X X.drew ∧ KeepP w.heap.size X X.drew ∧ (∃ v, Boxed X.drew BL 22 v ∧ IRow w3.heap.size X.drew v (lvsP 0 ((pre ++ [x]).map (fun x => x.1.pk)))) ∧ Below w.heap.size w X.drew from
        ⟨keeps_of_gw (Gw.refl X).drew, KeepP.gw hsz (Gw.refl X).drew, ⟨v, IL.out, by rw [SN.out, hfp]; simpa using IR.out.grow (Gw.refl X).drew⟩, IB.out.drew⟩)
      by_cases hk : x.1.u.k = 1
      · have q1 : (x.1.u.k == 1) = true := by simpa using hk
        have q2 : (x.1.u.v == x.1.bd) = false := by
          have h2 : ((x.1.u.k == 1) && (x.1.u.v == 0 + x.1.bd)) = false := hfp
          rw [q1, Bool.true_and, Int.zero_add] at h2; exact h2
        clear hk hfp a1
        gi_upto_region 5 with (fail)
        refine regIn_hid (fun L hL => ?_)
        have HL := Lib.hid hL
        clear hL
        refine regIn_start 13 hmx (by rw [HL.out]; kernel_rfl) (fun ⟨_, _, h⟩ => h) (by rw [HL.out]; kernel_rfl) ?_
        refine reg_do 0 (by decide) (by rw [HL.out]; rfl) (by rw [HL.out]; kernel_rfl) ?_; intro K hK; go_simp; refine hK _ ?_; clear hK K
        refine reg_do 1 (by decide) (by rw [HL.out]; rfl) (by rw [HL.out]; kernel_rfl) ?_; intro K hK; go_simp; refine hK _ ?_; clear hK K
        refine reg_do 2 (by decide) (by rw [HL.out]; rfl) (by rw [HL.out]; kernel_rfl) ?_; intro K hK; go_simp; refine hK _ ?_; clear hK K
        refine reg_do 3 (by decide) (by rw [HL.out]; rfl) (by rw [HL.out]; kernel_rfl) ?_; intro K hK; go_simp; refine hK _ ?_; clear hK K
        refine reg_do 4 (by decide) (by rw [HL.out]; rfl) (by rw [HL.out]; kernel_rfl) ?_; intro K hK; go_simp; refine hK _ ?_; clear hK K
        refine reg_do 5 (by decide) (by rw [HL.out]; rfl) (by rw [HL.out]; kernel_rfl) ?_; intro K hK; go_simp; refine hK _ ?_; clear hK K
        refine reg_do 6 (by decide) (by rw [HL.out]; rfl) (by rw [HL.out]; kernel_rfl) ?_; intro K hK; go_simp; refine hK _ ?_; clear hK K
        refine reg_do 7 (by decide) (by rw [HL.out]; rfl) (by rw [HL.out]; kernel_rfl) ?_; intro K hK; go_simp; refine hK _ ?_; clear hK K
        refine reg_do 8 (by decide) (by rw [HL.out]; rfl) (by rw [HL.out]; kernel_rfl) ?_; intro K hK; go_simp; refine hK _ ?_; clear hK K
        refine reg_do 9 (by decide) (by rw [HL.out]; rfl) (by rw [HL.out]; kernel_rfl) ?_; intro K hK; go_simp; refine hK _ ?_; clear hK K
        refine reg_do 10 (by decide) (by rw [HL.out]; rfl) (by rw [HL.out]; kernel_rfl) ?_; intro K hK; go_simp; refine hK _ ?_; clear hK K
        refine reg_do 11 (by decide) (by rw [HL.out]; rfl) (by rw [HL.out]; kernel_rfl) ?_; intro K hK; go_simp; refine hK _ ?_; clear hK K
        refine reg_do 12 (by decide) (by rw [HL.out]; rfl) (by rw [HL.out]; kernel_rfl) ?_; intro K hK; go_simp; refine hK _ ?_; clear hK K
        refine reg_end ?_
        refine tailIn_do 13 (by rw [HL.out]; rfl) (by rw [HL.out]; kernel_rfl) ?_; intro K hK; refine ⟨fun _ _ => trivial, ?_⟩; rw [Oper.semAt_eq _ _ _ (fun c h => by cases h)]; go_simp; refine hK _ _ ?_; clear hK K
        refine tailIn_end 14 (by rw [HL.out]; decide) ?_
        gi_wp2
        exact FIN.out
      · have q1 : (x.1.u.k == 1) = false := by simpa using hk
        clear hk hfp a0 a1
        gi_upto_region 5 with (fail)
        refine regIn_hid (fun L hL => ?_)
        have HL := Lib.hid hL
        clear hL
        refine regIn_start 13 hmx (by rw [HL.out]; kernel_rfl) (fun ⟨_, _, h⟩ => h) (by rw [HL.out]; kernel_rfl) ?_
        refine reg_do 0 (by decide) (by rw [HL.out]; rfl) (by rw [HL.out]; kernel_rfl) ?_; intro K hK; go_simp; refine hK _ ?_; clear hK K
        refine reg_do 1 (by decide) (by rw [HL.out]; rfl) (by rw [HL.out]; kernel_rfl) ?_; intro K hK; go_simp; refine hK _ ?_; clear hK K
        refine reg_do 2 (by decide) (by rw [HL.out]; rfl) (by rw [HL.out]; kernel_rfl) ?_; intro K hK; go_simp; refine hK _ ?_; clear hK K
        refine reg_do 3 (by decide) (by rw [HL.out]; rfl) (by rw [HL.out]; kernel_rfl) ?_; intro K hK; go_simp; refine hK _ ?_; clear hK K
        refine reg_do 4 (by decide) (by rw [HL.out]; rfl) (by rw [HL.out]; kernel_rfl) ?_; intro K hK; go_simp; refine hK _ ?_; clear hK K
        refine reg_do 5 (by decide) (by rw [HL.out]; rfl) (by rw [HL.out]; kernel_rfl) ?_; intro K hK; go_simp; refine hK _ ?_; clear hK K
        refine reg_no 6 (by decide) (by rw [HL.out]; rfl) (by rw [HL.out]; kernel_rfl) ?_
        refine reg_no 7 (by decide) (by rw [HL.out]; rfl) (by rw [HL.out]; kernel_rfl) ?_
        refine reg_no 8 (by decide) (by rw [HL.out]; rfl) (by rw [HL.out]; kernel_rfl) ?_
        refine reg_no 9 (by decide) (by rw [HL.out]; rfl) (by rw [HL.out]; kernel_rfl) ?_
        refine reg_no 10 (by decide) (by rw [HL.out]; rfl) (by rw [HL.out]; kernel_rfl) ?_
        refine reg_no 11 (by decide) (by rw [HL.out]; rfl) (by rw [HL.out]; kernel_rfl) ?_
        refine reg_no 12 (by decide) (by rw [HL.out]; rfl) (by rw [HL.out]; kernel_rfl) ?_
        refine reg_end ?_
        refine tailIn_do 13 (by rw [HL.out]; rfl) (by rw [HL.out]; kernel_rfl) ?_; intro K hK; refine ⟨fun _ _ => trivial, ?_⟩; rw [Oper.semAt_eq _ _ _ (fun c h => by cases h)]; go_simp; refine hK _ _ ?_; clear hK K
        refine tailIn_end 14 (by rw [HL.out]; decide) ?_
        gi_wp2
        exact FIN.out
    | true =>
      have h2 : ((x.1.u.k == 1) && (x.1.u.v == 0 + x.1.bd)) = true := hfp
      rw [Bool.and_eq_true, Int.zero_add] at h2
      obtain ⟨q1, q2⟩ := h2
      have SN2 := Lib.hid (show lvsP 0 ((pre ++ [x]).map (fun x => x.1.pk)) = lvsP 0 (pre.map (fun x => x.1.pk)) ++ [(x.1.lv : Int)] by rw [SN.out, hfp]; rfl)
      generalize lvsP 0 (List.map (fun x : NodeS w (nodesK u b o 0 0) => x.1.pk) pre) = LP at IR LEN SN2
      clear hfp SN
      gi_upto_region 5 with (fail)
      refine regIn_hid (fun L hL => ?_)
      have HL := Lib.hid hL
      clear hL
      refine regIn_start 13 hmx (by rw [HL.out]; kernel_rfl) (fun ⟨_, _, h⟩ => h) (by rw [HL.out]; kernel_rfl) ?_
      refine reg_do 0 (by decide) (by rw [HL.out]; rfl) (by rw [HL.out]; kernel_rfl) ?_; intro K hK; go_simp; refine hK _ ?_; clear hK K
      refine reg_do 1 (by decide) (by rw [HL.out]; rfl) (by rw [HL.out]; kernel_rfl) ?_; intro K hK; go_simp; refine hK _ ?_; clear hK K
      refine reg_do 2 (by decide) (by rw [HL.out]; rfl) (by rw [HL.out]; kernel_rfl) ?_; intro K hK; go_simp; refine hK _ ?_; clear hK K
      refine reg_do 3 (by decide) (by rw [HL.out]; rfl) (by rw [HL.out]; kernel_rfl) ?_; intro K hK; go_simp; refine hK _ ?_; clear hK K
      refine reg_do 4 (by decide) (by rw [HL.out]; rfl) (by rw [HL.out]; kernel_rfl) ?_; intro K hK; go_simp; refine hK _ ?_; clear hK K
      refine reg_do 5 (by decide) (by rw [HL.out]; rfl) (by rw [HL.out]; kernel_rfl) ?_; intro K hK; go_simp; refine hK _ ?_; clear hK K
      refine reg_do 6 (by decide) (by rw [HL.out]; rfl) (by rw [HL.out]; kernel_rfl) ?_; intro K hK; go_simp; refine hK _ ?_; clear hK K
      refine reg_do 7 (by decide) (by rw [HL.out]; rfl) (by rw [HL.out]; kernel_rfl) ?_; intro K hK; go_simp; refine hK _ ?_; clear hK K
      refine reg_do 8 (by decide) (by rw [HL.out]; rfl) (by rw [HL.out]; kernel_rfl) ?_; intro K hK; go_simp; refine hK _ ?_; clear hK K
      refine reg_do 9 (by decide) (by rw [HL.out]; rfl) (by rw [HL.out]; kernel_rfl) ?_; intro K hK; go_simp; refine hK _ ?_; clear hK K
      refine reg_do 10 (by decide) (by rw [HL.out]; rfl) (by rw [HL.out]; kernel_rfl) ?_; intro K hK; go_simp; refine hK _ ?_; clear hK K
      refine reg_do 11 (by decide) (by rw [HL.out]; rfl) (by rw [HL.out]; kernel_rfl) ?_; intro K hK; go_simp; refine hK _ ?_; clear hK K
      refine reg_do 12 (by decide) (by rw [HL.out]; rfl) (by rw [HL.out]; kernel_rfl) ?_; intro K hK; go_simp; refine hK _ ?_; clear hK K
      refine reg_end ?_
      refine tailIn_do 13 (by rw [HL.out]; rfl) (by rw [HL.out]; kernel_rfl) ?_; intro K hK; refine ⟨fun _ _ => trivial, ?_⟩; rw [Oper.semAt_eq _ _ _ (fun c h => by cases h)]; go_simp; refine hK _ _ ?_; clear hK K
      refine tailIn_end 14 (by rw [HL.out]; decide) ?_
      clear p0 p1 a0 q1 q2
      have lc : X.drew.cell? ⟨BL, 0, none⟩ = some v := IL.out.cell
      clear a1
      have a1d : X.drew.cell? ⟨Bp, 1, none⟩ = some (.int .i64 x.1.lv) := HPP.out.c.2
      have G1 : Gw X (X.alloc (.cells #[.int .i64 x.1.lv] 2)).drew := ((Gw.refl X).alloc _).drew
      have IR1 := Lib.hid (IR.out.grow G1)
      have IL1 := Lib.hid (show Boxed (X.alloc (.cells #[.int .i64 x.1.lv] 2)).drew BL 22 v from (G1.block _ IL.out.lt).trans IL.out)
      have GG1 := Lib.hid G1
      clear G1
      gi_wp2_with (gi_at_builtin; refine Hid.out ?_)
      refine Lib.hid ?_
      refine wpListIn_append_own _ rfl _ _ 22 rfl w3.heap.size 2 i0 (.int .i64 0) 1 8 Tryd.underlying22 HI.out HZ0.out HZ1.out HZ2.out rfl (by decide) v LP.length (iL LP) rfl IR1.out ⟨X.heap.size, 0, none⟩ 1 1 [.int .i64 x.1.lv] rfl rfl (fun j u h => one_newI (w := X) j u h) (fun u hu => by simp at hu; subst hu; rfl) (by unfold maxLen; have := LEN.out; omega) (by have := LEN.out; omega) (by have := GG1.out.size; omega) ?_
      intro v' w4 hown hgrow _
      have IL4 : Boxed w4 BL 22 v := (hgrow.block _ IL1.out.lt (fun e => IR1.out.notB IL1.out (by decide) e.symm)).trans IL1.out
      have K4 := Lib.hid (show KeepsFrom w3.heap.size X w4 from (keeps_of_gw GG1.out).trans (keeps_of_row IR1.out hgrow))
      have KP4 := Lib.hid (show KeepP w.heap.size X w4 from (KeepP.gw hsz GG1.out).trans (keepP_row IR1.out hgrow HS.out.1 (Nat.le_trans hsz GG1.out.size)))
      have OW := Lib.hid (show IRow w3.heap.size w4 v' (LP ++ [(x.1.lv : Int)]) from IRow.app hown rfl rfl)
      have ILL := Lib.hid IL4
      have HNE := Lib.hid (show ∀ g, v'.ownBlock = some g → g ≠ BL from fun g hg e => by have := (OW.out.at g hg).1; have := HS.out.2.1; omega)
      obtain ⟨a3, c3, hv3⟩ := OW.out.form
      generalize (LP ++ [(x.1.lv : Int)]).length = n3 at hv3
      subst hv3
      have lf := IL4.frozen
      have lc4 := IL4.cell
      clear hown hgrow lc a1d IL4
      gi_wp2
      refine ⟨K4.out.trans ((KeepsOthers.setCell _ _ _).from _), KP4.out.trans (KeepP.set ILL.out HS.out.2.2 (by decide) (by decide) _), ⟨_, ILL.out.set _, ?_⟩, ?_⟩
      · rw [SN2.out]
        exact OW.out.chg ((Chg.of_gw (Gw.refl w4) (fun b => b = BL)).set ⟨BL, 0, none⟩ _ (fun _ => rfl)) (fun g hg => HNE.out g hg)
      · exact (IB.out.trans KP4.out.1).setCell (p := ⟨BL, 0, none⟩) HS.out.2.2 _
  case done =>
    rintro D ys X hD hys ⟨⟨v, iL, iR⟩, iB⟩ hK
    have HKK := Lib.hid hK
    have F := Lib.hid (show lvsP 0 (ys.map (fun x => x.1.pk)) = lvC u.co 0 0 0 by
      have h1 : ys.map (fun x => x.1.pk) = u.co.pl 0 0 := by
        have h2 := congrArg (List.map NodeK.pk) hys
        rw [List.map_map, nodesK_pl] at h2
        exact h2
      rw [h1]; rfl)
    rw [F.out] at iR
    have lc := iL.cell
    have HR := Lib.hid (iR.mono HS.out.1)
    have BB := Lib.hid (iB.trans (belowK_b (w := w) (Nat.le_refl _) X D _ (.deferred none) (by have := HS.out; omega) hK rfl rfl))
    have HRD := Lib.hid (irow_own w.heap.size (fun (_ : Unit) => lvC u.co 0 0 0) v () X _ _ HR.out (grownBy_putObj' X D (.deferred none)) (fun r e => by cases e; exact ⟨_, hK, rfl⟩))
    clear iR iL iB hK hys
    gi_wp2
    refine ⟨by simp, .inl ⟨_, _, rfl, run_takeDeferred HKK.out, ?_⟩⟩
    exact ⟨_, results_tmp rfl _ _ _, v, rfl, HRD.out, BB.out⟩
  case stop =>
    rintro D c pre X hD _ hf hK
    exact hf.elim

end Go.Proofs.YtfbgkbgoooepmaaDoor.Con
