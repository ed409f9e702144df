/-
  The library's slices.All over terms, ranged over: what its closure hands to a loop's body, one kid after the other. Condition: the slice of terms lies in memory.
-/
import Derived.RangeFuncNested
import Derived.RangeFuncBound
import Derived.RangeFuncCalls
import Derived.RangeFuncLeaves
import Derived.Shelf.Abstract
import Derived.Shelf.RegionOpen
import Derived.WalkKit
import Derived.OwnWalkIn
import Derived.TacticsInMore
import Derived.LoopNIn
import Derived.LoopIn
import Derived.Test.YtkfplnnncfkjfaaDoorBx
namespace Go.Proofs.YtkfplnnncfkjfaaDoor.Con
open Go.RowKit
set_option linter.unusedVariables false
attribute [local go_sem] Oper.semAt_some

theorem keeps_of_gw {B : Nat} {W W' : World} (h : Gw W W') : KeepsFrom B W W' :=
  ⟨h.size, fun k o _ hk _ => (h.block k (Array.getElem?_eq_some_iff.1 hk).1).trans hk⟩

/-- The places of a row, as the loop meets them. -/
def ups {α : Type} (xs : List α) (k : Nat) : List (Fin xs.length) := (List.finRange xs.length).take k
theorem ups_succ {α : Type} (xs : List α) {k : Nat} (hk : k < xs.length) : ups xs (k + 1) = ups xs k ++ [⟨k, hk⟩] := by
  unfold ups
  rw [List.take_add_one, List.getElem?_eq_getElem (by simpa using hk)]
  simp
theorem ups_all {α : Type} (xs : List α) : ups xs xs.length = List.finRange xs.length := List.take_of_length_le (by simp)
theorem ups_len {α : Type} (xs : List α) {k : Nat} (hk : k ≤ xs.length) : (ups xs k).length = k := by
  unfold ups
  simp [hk]

set_option maxRecDepth 100000 in
set_option maxHeartbeats 4000000 in
theorem allT_in (n : Nat) (hn : 1 ≤ n) (l Bs : Nat) (a : Option Addr) (cap : Nat) (xs : List LM) (w0 : World) (hT : tmSl w0 a cap xs) (J Jx : List (Fin xs.length) → World → Prop) (W : World) (hW : Below w0.heap.size w0 W) (hJ : AbidesFrom W.heap.size J)
    (hY : ∀ pre (x : Fin xs.length) W1, J pre W1 → pre.length < xs.length → YieldAt Fence.wide (n - 1) Tryd.prog l #[.int .i64 (x.val : Int), (xs[x.val]).val] W1 fun e W' =>
      (e = .returned (.bool true) ∧ J (pre ++ [x]) W' ∧ Below w0.heap.size W1 W') ∨ (e = .returned (.bool false) ∧ Jx (pre ++ [x]) W'))
    (hBs : W.cell? ⟨Bs, 0, none⟩ = some (.slice a xs.length cap)) (h0 : J [] W) :
    CallsIn Fence.wide n Tryd.prog 128 #[.func (.yield l) #[] #[], .pointer (some ⟨Bs, 0, none⟩)] W fun e W' => (∃ v, e = .returned v) ∧
      ((∃ ys, ys = List.finRange xs.length ∧ J ys W') ∨ (∃ pre, True ∧ Jx pre W')) := by
  have hlen : xs.length ≤ 9223372036854775807 := Nat.le_trans hT.1 hT.2.1
  have HT := Lib.hid hT
  have HJ := Lib.hid hJ
  have HY := Lib.hid hY
  have HW := Lib.hid hW
  clear hT hJ hY hW
  refine callsIn_of_wp Tryd.func128 rfl trivial ?_ rfl
  simp only [Tryd.ntmps128, List.size_toArray, List.length_cons, List.length_nil, Nat.reduceAdd, Nat.reduceSub, Array.replicate_succ, Array.replicate_zero, List.push_toArray, List.append_toArray, List.nil_append, List.cons_append]
  gi_wp2
  gi_loopw [7] (fun i wr => ∃ k : Nat, k ≤ xs.length ∧ i = .int .i64 k ∧ J (ups xs k) wr ∧ Below w0.heap.size w0 wr ∧ W.heap.size ≤ wr.heap.size)
    (fun i _ => xs.length - (intOf i).toNat)
  case atStart => exact ⟨0, Nat.zero_le _, rfl, by simpa [ups] using h0, HW.out, Nat.le_refl _⟩
  case round =>
    obtain ⟨k, hk, rfl, hJs, hb, hs⟩ := hrel
    have HB := Lib.hid hb
    have HS := Lib.hid hs
    by_cases hlt : k < xs.length
    · obtain ⟨bk, ok, ha, hkid⟩ := tmAt.kid (gSl.grow tmLen tmGr HT.out hb) k hlt
      obtain ⟨c0, c1, c2, c3, c4, c5, c6, c7⟩ := hkid.c
      have r0 : (0 : Int) ≤ k := by omega
      have r1 : (k : Int) < xs.length := by omega
      have hJ2 := HJ.out (ups xs k) wr (wr.alloc (.cells #[.int .i64 xs[k].k, .int .i64 xs[k].m, .string xs[k].n, .int .i64 xs[k].t.k, .string xs[k].t.n, .slice xs[k].t.a xs[k].t.ks.length xs[k].t.cap, .slice xs[k].na xs[k].ns.length xs[k].nc, .slice xs[k].a xs[k].ks.length xs[k].cap] 50)) none hJs (World.grownBy_alloc wr _ none) (fun r e => by cases e)
      obtain ⟨fn, tmps, assign, body, hy, hR⟩ := HY.out (ups xs k) ⟨k, hlt⟩ _ hJ2 (by rw [ups_len xs hk]; exact hlt)
      dsimp only at hy
      have HB2 := Lib.hid (HB.out.alloc HB.out.size (.cells #[.int .i64 xs[k].k, .int .i64 xs[k].m, .string xs[k].n, .int .i64 xs[k].t.k, .string xs[k].t.n, .slice xs[k].t.a xs[k].t.ks.length xs[k].t.cap, .slice xs[k].na xs[k].ns.length xs[k].nc, .slice xs[k].a xs[k].ks.length xs[k].cap] 50))
      have HU := Lib.hid (ups_succ xs hlt)
      have HRR := Lib.hid hR
      subst ha
      clear hkid hJ2 hJs hb hs hR
      gi_wp2
      refine HRR.out.mono ?_
      rintro e W3 (⟨rfl, hJ3, hk3⟩ | ⟨rfl, hJx3⟩)
      · gi_wp2
        go_roundw
        case rel => exact ⟨k + 1, by omega, by go_num, by rw [HU.out]; exact hJ3, HB2.out.trans hk3, Nat.le_trans (Nat.le_trans HS.out (by simp)) hk3.size⟩
        case measure => simp [intOf]; omega
      · gi_wp2
        refine bodyPost_ret (results_none rfl _ _ _) rfl ?_
        exact ⟨⟨_, rfl⟩, .inr ⟨_, trivial, hJx3⟩⟩
    · obtain rfl : k = xs.length := by omega
      gi_wp2
      go_end0
      exact ⟨⟨_, rfl⟩, .inl ⟨_, rfl, by rw [← ups_all]; exact hJs⟩⟩

theorem allT_stops (n : Nat) (hn : 1 ≤ n) (Bs : Nat) (a : Option Addr) (cap : Nat) (xs : List LM) (w0 w : World) (hBs : Bs < w.heap.size) (hc : w.cell? ⟨Bs, 0, none⟩ = some (.slice a xs.length cap)) (hT : tmSl w0 a cap xs) (hb : Below w0.heap.size w0 w) :
    SeqStopsK Fence.wide n Tryd.prog 128 #[.pointer (some ⟨Bs, 0, none⟩)] (fun x : Fin xs.length => #[Value.int .i64 (x.val : Int), (xs[x.val]).val]) (Below w0.heap.size)
      (fun ys => ys = List.finRange xs.length) (fun _ => True) xs.length w := fun l J Jx W hW hJ hJx hY h0 =>
  allT_in n hn l Bs a cap xs w0 hT J Jx W (hb.trans (hW.mono hb.size)) hJ hY ((hW.cell (p := ⟨Bs, 0, none⟩) hBs).trans hc) h0

theorem impl_allT (a : Option Addr) (len cap : Nat) (w : World) : Calls Tryd.prog 105 #[.slice a len cap] w fun e w' =>
    e = .returned (.func (.func 128) #[] #[.pointer (some ⟨w.heap.size, 0, none⟩)]) ∧ w' = w.alloc (.cells #[.slice a len cap] 48) := by
  go_enter Tryd.func105, Tryd.ntmps105
  go_wp2_with fail
  go_ret
  exact ⟨rfl, rfl⟩

end Go.Proofs.YtkfplnnncfkjfaaDoor.Con
