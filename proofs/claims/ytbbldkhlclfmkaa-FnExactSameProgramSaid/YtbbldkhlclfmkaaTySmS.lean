/-
  Contract of SameType in the model. No condition but that both types lie in memory.
-/
import Derived.Test.YtbbldkhlclfmkaaTyEq
import Derived.LoopTactic
import Derived.Deep.QuietTactic
import Derived.BigQuiet
import Derived.StillTailTactics
namespace Go.Proofs.Ytbbldkhlclfmkaa.Con
open Go.RowKit
set_option linter.unusedVariables false

def SameGw (x y : LT) (w : World) (e : Ending) (w' : World) : Prop := ∃ r : Bool, e = .returned (.bool r) ∧ (r = true ↔ x.ty = y.ty) ∧ Gw w w'

theorem sy_ne_k {x y : LT} (h : ¬ x.k = y.k) : ¬ x.ty = y.ty := fun e => by rw [LT.ty_eq, LT.ty_eq y] at e; injection e with e _ _; exact h e
theorem sy_ne_n {x y : LT} (h : ¬ x.n = y.n) : ¬ x.ty = y.ty := fun e => by rw [LT.ty_eq, LT.ty_eq y] at e; injection e with _ e _; exact h e
theorem sy_ne_l {x y : LT} (h : ¬ x.ks.length = y.ks.length) : ¬ x.ty = y.ty := fun e => by rw [LT.ty_eq, LT.ty_eq y] at e; injection e with _ _ e; exact h (map_ty_len e)
theorem sy_ne_kid {x y : LT} (i : Nat) (hx : i < x.ks.length) (hy : i < y.ks.length) (h : ¬ x.ks[i].ty = y.ks[i].ty) : ¬ x.ty = y.ty := fun e => by
  rw [LT.ty_eq, LT.ty_eq y] at e; injection e with _ _ e; exact h (map_ty_get e i hx hy)
theorem sy_eq_of {x y : LT} (h1 : x.k = y.k) (h2 : x.n = y.n) (h3 : x.ks.length = y.ks.length) (h : ∀ i (hx : i < x.ks.length) (hy : i < y.ks.length), x.ks[i].ty = y.ks[i].ty) : x.ty = y.ty := by
  rw [LT.ty_eq, LT.ty_eq y, h1, h2]
  congr 1
  refine List.ext_getElem (by simpa using h3) fun i hi hi' => ?_
  simp only [List.length_map] at hi hi'
  simpa using h i hi hi'

theorem same_false {x y : LT} (h : ¬ x.ty = y.ty) (w : World) (w' : World) (hc : Gw w w') : SameGw x y w (.returned (.bool false)) w' := ⟨false, rfl, by simp [h], hc⟩
theorem same_true {x y : LT} (h : x.ty = y.ty) (w : World) (w' : World) (hc : Gw w w') : SameGw x y w (.returned (.bool true)) w' := ⟨true, rfl, by simp [h], hc⟩

set_option maxRecDepth 100000 in
set_option maxHeartbeats 4000000 in
theorem ss_of (x y : LT) (ih : ∀ (i : Nat) (hx : i < x.ks.length) (hy : i < y.ks.length) (w : World), x.ks[i].Ok w → y.ks[i].Ok w → Calls Try.prog 10 #[x.ks[i].val, y.ks[i].val] w (SameGw x.ks[i] y.ks[i] w))
    (w : World) (hx : x.Ok w) (hy : y.Ok w) : Calls Try.prog 10 #[x.val, y.val] w (SameGw x y w) := by
  have g1 : Gw w ((w.alloc (.cells #[.int .i64 x.k, .string x.n, .slice x.a x.ks.length x.cap] 29)).alloc (.cells #[.int .i64 y.k, .string y.n, .slice y.a y.ks.length y.cap] 29)) := ((Gw.refl w).alloc _).alloc _
  have G1 := Lib.hid g1
  clear g1
  by_cases h1 : x.k = y.k
  · by_cases h2 : x.n = y.n
    · by_cases h3 : x.ks.length = y.ks.length
      · have hl : x.ks.length ≤ 9223372036854775807 := Nat.le_trans hx.kids.1 hx.kids.2.1
        have hr1 := hx.kids.2.2
        have hr2 := hy.kids.2.2
        obtain ⟨n, hn⟩ : ∃ n, y.ks.length = n := ⟨_, rfl⟩
        rw [hn] at h3
        have H1 := Lib.hid h1
        have H2 := Lib.hid h2
        have H3 := Lib.hid h3
        have H4 := Lib.hid hn
        show Calls Try.prog 10 #[.agg #[.int .i64 x.k, .string x.n, .slice x.a x.ks.length x.cap], .agg #[.int .i64 y.k, .string y.n, .slice y.a y.ks.length y.cap]] w (SameGw x y w)
        rw [h1, h2, h3, hn]
        have hb0 : ((w.alloc (.cells #[.int .i64 y.k, .string y.n, .slice x.a n x.cap] 29)).alloc (.cells #[.int .i64 y.k, .string y.n, .slice y.a n y.cap] 29)).heap[w.heap.size]? = some (.cells #[.int .i64 y.k, .string y.n, .slice x.a n x.cap] 29 (0, 0)) := by
          rw [Below.heap_alloc _ _ _ (by simp)]
          exact heap_alloc_new w _
        have hb1 : ((w.alloc (.cells #[.int .i64 y.k, .string y.n, .slice x.a n x.cap] 29)).alloc (.cells #[.int .i64 y.k, .string y.n, .slice y.a n y.cap] 29)).heap[w.heap.size + 1]? = some (.cells #[.int .i64 y.k, .string y.n, .slice y.a n y.cap] 29 (0, 0)) := heap_alloc2_new w _ _
        have HB0 := Lib.hid hb0
        have HB1 := Lib.hid hb1
        have gA : Gw w ((w.alloc (.cells #[.int .i64 y.k, .string y.n, .slice x.a n x.cap] 29)).alloc (.cells #[.int .i64 y.k, .string y.n, .slice y.a n y.cap] 29)) := ((Gw.refl w).alloc _).alloc _
        have GA := Lib.hid gA
        clear hb0 hb1 gA h1 h2 G1 hx hy
        go_enter Try.func10, Try.ntmps10
        go_wp2_with fail
        generalize ((w.alloc (.cells #[.int .i64 y.k, .string y.n, .slice x.a n x.cap] 29)).alloc (.cells #[.int .i64 y.k, .string y.n, .slice y.a n y.cap] 29)) = w1 at *
        go_loopw [5] (fun i wr => ∃ j : Nat, j ≤ n ∧ i = .int .i64 j ∧ Gw w1 wr ∧ ∀ i (hx : i < x.ks.length) (hy : i < y.ks.length), i < j → x.ks[i].ty = y.ks[i].ty) (fun i _ => n - (intOf i).toNat)
        case atStart => exact ⟨0, by omega, rfl, Gw.refl _, fun i _ _ h => absurd h (by omega)⟩
        case round =>
          obtain ⟨j, hj, rfl, hg, hall⟩ := hrel
          have HALL := Lib.hid hall
          have B0 : wr.heap[w.heap.size]? = some (.cells #[.int .i64 y.k, .string y.n, .slice x.a n x.cap] 29 (0, 0)) := (hg.block _ (Array.getElem?_eq_some_iff.1 HB0.out).1).trans HB0.out
          have B1 : wr.heap[w.heap.size + 1]? = some (.cells #[.int .i64 y.k, .string y.n, .slice y.a n y.cap] 29 (0, 0)) := (hg.block _ (Array.getElem?_eq_some_iff.1 HB1.out).1).trans HB1.out
          have x2 : wr.cell? ⟨w.heap.size, 2, none⟩ = some (.slice x.a n x.cap) := cell_of_row _ _ 2 _ _ _ B0
          have y2 : wr.cell? ⟨w.heap.size + 1, 2, none⟩ = some (.slice y.a n y.cap) := cell_of_row _ _ 2 _ _ _ B1
          have HG := Lib.hid (GA.out.trans hg)
          have HG1 := Lib.hid hg
          clear B0 B1 hall
          by_cases hlt : j < n
          · obtain ⟨b1, o1, e1, r1⟩ := hr1.resolve_left (fun e => by rw [e] at h3; simp at h3; omega)
            obtain ⟨b2, o2, e2, r2⟩ := hr2.resolve_left (fun e => by rw [e] at hn; simp at hn; omega)
            rw [e1] at x2
            rw [e2] at y2
            have hjx : j < x.ks.length := by omega
            have hjy : j < y.ks.length := by omega
            obtain ⟨c0, c1, c2, hk⟩ := rowOk_get (r1.grow HG.out) j hjx
            obtain ⟨d0, d1, d2, hl2⟩ := rowOk_get (r2.grow HG.out) j hjy
            have q0 : (0 : Int) ≤ j := by omega
            have q1 : (j : Int) < n := by omega
            have hk' : x.ks[j].Ok wr.drew := hk.drew
            have hl' : y.ks[j].Ok wr.drew := hl2.drew
            have hg' : Gw w1 wr.drew := HG1.out.drew
            have HK := Lib.hid hk'
            have HL := Lib.hid hl'
            have HGD := Lib.hid hg'
            clear hr1 hr2 e1 e2 r1 r2 hk hl2 hk' hl' hg' hg
            go_wp2_with fail
            go_still_tail 10, (by kernel_rfl)
            change wpList _ _ _ _ _ wr.drew
            clear x2 y2 c0 c1 c2 d0 d1 d2 HG HG1
            generalize wr.drew = w3 at *
            go_wp2_with fail
            refine (ih j hjx hjy w3 HK.out HL.out).mono ?_
            rintro e w4 ⟨r, rfl, hr, hg4⟩
            have HG4 := Lib.hid (HGD.out.trans hg4)
            clear hg4
            cases r with
            | false =>
              have hne : ¬ x.ks[j].ty = y.ks[j].ty := fun e => by have := hr.2 e; cases this
              have HNE := Lib.hid hne
              clear hr hne
              go_wp2_with fail
              go_ret
              exact same_false (sy_ne_kid j hjx hjy HNE.out) _ _ (GA.out.trans HG4.out)
            | true =>
              have HTY := Lib.hid (hr.1 rfl)
              clear hr
              go_wp2_with fail
              go_roundw
              case rel =>
                refine ⟨j + 1, by omega, by go_num, HG4.out, fun i hx hy hi => ?_⟩
                by_cases e : i = j
                · subst e; exact HTY.out
                · exact HALL.out i hx hy (by omega)
              case measure => simp [intOf]; omega
          · obtain rfl : j = n := by omega
            go_wp2_with fail
            go_ret
            have h3' := H3.out
            have h4' := H4.out
            exact same_true (sy_eq_of H1.out H2.out (by omega) fun i hx hy => HALL.out i hx hy (by omega)) _ _ HG.out
      · have hd2 : ((x.ks.length : Int) == (y.ks.length : Int)) = false := by simp; omega
        have hd3 : ((x.ks.length : Int) != (y.ks.length : Int)) = true := by simp; omega
        have hne := sy_ne_l h3
        have HNE := Lib.hid hne
        show Calls Try.prog 10 #[.agg #[.int .i64 x.k, .string x.n, .slice x.a x.ks.length x.cap], .agg #[.int .i64 y.k, .string y.n, .slice y.a y.ks.length y.cap]] w (SameGw x y w)
        rw [h1, h2]
        clear h3 hne h1 h2
        have g2 : ∀ v v' : Value, ∀ vs vs' : Array Value, Gw w ((w.alloc (.cells vs 29)).alloc (.cells vs' 29)) := fun _ _ _ _ => ((Gw.refl w).alloc _).alloc _
        have G2 := Lib.hid g2
        clear g2
        go_enter Try.func10, Try.ntmps10
        go_wp2_with fail
        go_ret
        exact same_false HNE.out _ _ (((Gw.refl w).alloc _).alloc _)
    · have hd4 : (x.n.toList == y.n.toList) = false := by
        simp only [beq_eq_false_iff_ne, ne_eq]
        exact fun e => h2 (by rw [ByteArray.toList_eq, ByteArray.toList_eq] at e; exact ByteArray.ext (Array.ext' e))
      have HNE := Lib.hid (sy_ne_n h2)
      show Calls Try.prog 10 #[.agg #[.int .i64 x.k, .string x.n, .slice x.a x.ks.length x.cap], .agg #[.int .i64 y.k, .string y.n, .slice y.a y.ks.length y.cap]] w (SameGw x y w)
      rw [h1]
      clear h1 h2
      go_enter Try.func10, Try.ntmps10
      go_wp2_with fail
      go_ret
      exact same_false HNE.out _ _ (((Gw.refl w).alloc _).alloc _)
  · have hd2 : (x.k == y.k) = false := by simpa using h1
    have hd3 : (x.k != y.k) = true := by simpa using h1
    have HNE := Lib.hid (sy_ne_k h1)
    clear h1
    go_enter Try.func10, Try.ntmps10
    go_wp2_with fail
    go_ret
    exact same_false HNE.out _ _ (((Gw.refl w).alloc _).alloc _)

theorem spec_same (x : LT) : ∀ (y : LT) (w : World), x.Ok w → y.Ok w → Calls Try.prog 10 #[x.val, y.val] w (SameGw x y w) := by
  refine LT.ind (P := fun x => ∀ (y : LT) (w : World), x.Ok w → y.Ok w → Calls Try.prog 10 #[x.val, y.val] w (SameGw x y w)) (fun k n a c ks ih y w hx hy => ?_) x
  exact ss_of (.mk k n a c ks) y (fun i h1 h2 w1 o1 o2 => ih _ (List.getElem_mem h1) _ w1 o1 o2) w hx hy

end Go.Proofs.Ytbbldkhlclfmkaa.Con
