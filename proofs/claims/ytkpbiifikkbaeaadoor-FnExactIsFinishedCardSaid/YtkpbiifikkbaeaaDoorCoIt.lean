/-
  The nodes of a core term with their places, in the order of a walk; contracts of bindsIn, oneIf and ofKid of the program. No condition but that the core term lies in memory.
-/
import Derived.Test.YtkpbiifikkbaeaaDoorCoVal
import Derived.Outline
import Derived.LoopTactic
import Derived.Lib.Hide
import Derived.StillTailTactics
import Derived.Deep.Cut
namespace Go.Proofs.YtkpbiifikkbaeaaDoor.Con
open Go.RowKit
set_option linter.unusedVariables false

structure NodeK where
  b : Nat
  o : Nat
  u : LK
  bd : Nat
  lv : Nat

def bndK (k : Int) (i : Nat) : Nat := if k = 4 ∨ (k = 7 ∧ i = 1) then 1 else 0
def bxK (k : Int) : Nat := if k = 6 then 1 else 0
theorem bndK_le (k : Int) (i : Nat) : bndK k i ≤ 1 := by unfold bndK; split <;> omega
theorem bxK_le (k : Int) : bxK k ≤ 1 := by unfold bxK; split <;> omega
def blkOf : Option Addr → Nat | some x => x.block | none => 0
def offOf : Option Addr → Nat | some x => x.off | none => 0

def nodesK : LK → Nat → Nat → Nat → Nat → List NodeK
  | .mk k v da dc ds a cap ks, b, o, bd, lv => ⟨b, o, .mk k v da dc ds a cap ks, bd, lv⟩ :: nk (blkOf a) (offOf a) k bd (lv + bxK k) 0 ks
where nk (bk ok : Nat) (k : Int) (bd lv : Nat) : Nat → List LK → List NodeK
  | _, [] => []
  | i, t :: ts => nodesK t bk (ok + i * 4) (bd + bndK k i) lv ++ nk bk ok k bd lv (i + 1) ts

/-- The nodes of the first j kids. -/
def kidsK (u : LK) (bd lv j : Nat) : List NodeK := (List.range j).flatMap fun i => nodesK (u.ks.getD i default) (blkOf u.a) (offOf u.a + i * 4) (bd + bndK u.k i) (lv + bxK u.k)
theorem nk_range (bk ok : Nat) (k : Int) (bd lv : Nat) : ∀ (ts : List LK) (i : Nat), nodesK.nk bk ok k bd lv i ts = (List.range ts.length).flatMap fun j => nodesK (ts.getD j default) bk (ok + (i + j) * 4) (bd + bndK k (i + j)) lv
  | [], i => rfl
  | t :: ts, i => by
    rw [nodesK.nk, nk_range bk ok k bd lv ts (i + 1), List.length_cons, List.range_succ_eq_map, List.flatMap_cons, List.flatMap_map]
    simp only [List.getD_cons_zero, List.getD_cons_succ, Nat.add_zero]
    congr 1
    refine congrArg (fun f => List.flatMap f (List.range ts.length)) (funext fun j => ?_)
    rw [show i + 1 + j = i + (j + 1) by omega]
theorem nodesK_eq (u : LK) (b o bd lv : Nat) : nodesK u b o bd lv = ⟨b, o, u, bd, lv⟩ :: kidsK u bd lv u.ks.length := by
  obtain ⟨k, v, da, dc, ds, a, cap, ks⟩ := u
  rw [nodesK, nk_range]
  simp only [Nat.zero_add]
  rfl
theorem kidsK_zero (u : LK) (bd lv : Nat) : kidsK u bd lv 0 = [] := rfl
theorem mem_kidsK {u : LK} {bd lv j : Nat} {x : NodeK} : x ∈ kidsK u bd lv j ↔ ∃ i, i < j ∧ x ∈ nodesK (u.ks.getD i default) (blkOf u.a) (offOf u.a + i * 4) (bd + bndK u.k i) (lv + bxK u.k) := by
  unfold kidsK
  simp [List.mem_flatMap]
theorem kidsK_succ (u : LK) (bd lv j : Nat) (hj : j < u.ks.length) : kidsK u bd lv (j + 1) = kidsK u bd lv j ++ nodesK u.ks[j] (blkOf u.a) (offOf u.a + j * 4) (bd + bndK u.k j) (lv + bxK u.k) := by
  unfold kidsK
  rw [List.range_succ, List.flatMap_append, List.flatMap_singleton]
  rw [List.getD, List.getElem?_eq_getElem hj]; rfl

theorem nodesK_len (u : LK) : ∀ (b o bd lv : Nat), (nodesK u b o bd lv).length = u.co.nn := by
  refine LK.ind (P := fun u => ∀ (b o bd lv : Nat), (nodesK u b o bd lv).length = u.co.nn) (fun k v da dc ds a cap ks ih b o bd lv => ?_) u
  have key : ∀ (bk ok : Nat) (bd lv : Nat) (ts : List LK) (i : Nat), (∀ t ∈ ts, ∀ (b o bd lv : Nat), (nodesK t b o bd lv).length = t.co.nn) → (nodesK.nk bk ok k bd lv i ts).length = cnns (ts.map LK.co) := by
    intro bk ok bd lv ts
    induction ts with
    | nil => intro i _; rfl
    | cons t ts iht =>
      intro i h
      rw [nodesK.nk, List.length_append, h t (by simp), iht (i + 1) (fun x hx => h x (by simp [hx]))]
      rfl
  rw [nodesK, List.length_cons, key _ _ _ _ ks 0 ih, Co.nn_eq, LK.co_ks]
  simp only [LK.ks]
  omega
theorem kidsK_len (u : LK) (bd lv j : Nat) (hj : j ≤ u.ks.length) : (kidsK u bd lv j).length = cnns (u.co.ks.take j) := by
  induction j with
  | zero => rfl
  | succ j ih =>
    have hl : j < u.ks.length := by omega
    rw [kidsK_succ u bd lv j hl, List.length_append, ih (by omega), nodesK_len, cnns_take _ j (by rw [u.co_len]; exact hl), u.co_kid j hl]

theorem bindsIn_of (u : LK) (w : World) (b o j : Nat) (hj : j ≤ 9223372036854775807) (h : coAt w b o u) : Calls Tryd.prog 127 #[.pointer (some ⟨b, o, none⟩), .int .i64 j] w fun e w' => e = .returned (.bool (decide (bndK u.k j = 1))) ∧ w' = w := by
  obtain ⟨p0, p1, p2, p3⟩ := h.c
  clear h
  by_cases h4 : u.k = 4
  · have F := Lib.hid (show decide (bndK u.k j = 1) = true by unfold bndK; rw [if_pos (.inl h4)]; rfl)
    have q : (u.k == 4) = true := by simpa using h4
    clear h4
    go_enter Tryd.func127, Tryd.ntmps127
    go_wp2_with fail
    go_ret
    exact ⟨ret_b F.out.symm, rfl⟩
  have q4 : (u.k == 4) = false := by simpa using h4
  by_cases h7 : u.k = 7
  · have q7 : (u.k == 7) = true := by simpa using h7
    by_cases h1 : j = 1
    · subst h1
      have F := Lib.hid (show decide (bndK u.k 1 = 1) = true by unfold bndK; rw [if_pos (.inr ⟨h7, rfl⟩)]; rfl)
      clear h4 h7
      go_enter Tryd.func127, Tryd.ntmps127
      go_wp2_with fail
      go_ret
      exact ⟨ret_b F.out.symm, rfl⟩
    · have F := Lib.hid (show decide (bndK u.k j = 1) = false by unfold bndK; rw [if_neg (by omega)]; rfl)
      have q1 : ((j : Int) == 1) = false := by simp; omega
      clear h4 h7 h1
      go_enter Tryd.func127, Tryd.ntmps127
      go_wp2_with fail
      go_ret
      exact ⟨ret_b F.out.symm, rfl⟩
  · have q7 : (u.k == 7) = false := by simpa using h7
    have F := Lib.hid (show decide (bndK u.k j = 1) = false by unfold bndK; rw [if_neg (by omega)]; rfl)
    clear h4 h7
    go_enter Tryd.func127, Tryd.ntmps127
    go_wp2_with fail
    go_ret
    exact ⟨ret_b F.out.symm, rfl⟩

theorem oneIf_of (c : Bool) (n : Nat) (hn : n = if c = true then 1 else 0) (w : World) : Calls Tryd.prog 126 #[.bool c] w fun e w' => e = .returned (.int .i64 (n : Int)) ∧ w' = w := by
  subst hn
  cases c <;> (
    go_enter Tryd.func126, Tryd.ntmps126
    go_wp2_with fail
    go_ret
    exact ⟨rfl, rfl⟩)

/-- A block holds a place. -/
def BoxP (W : World) (b : Nat) (bd lv : Nat) : Prop := W.heap[b]? = some (.cells #[.int .i64 bd, .int .i64 lv] 146 (0, 0))
theorem BoxP.lt {W : World} {b bd lv : Nat} (h : BoxP W b bd lv) : b < W.heap.size := (Array.getElem?_eq_some_iff.1 h).1
theorem BoxP.c {W : World} {b bd lv : Nat} (h : BoxP W b bd lv) : W.cell? ⟨b, 0, none⟩ = some (.int .i64 bd) ∧ W.cell? ⟨b, 1, none⟩ = some (.int .i64 lv) := ⟨cell_of_row _ _ 0 _ _ _ h, cell_of_row _ _ 1 _ _ _ h⟩
theorem BoxP.grow {W W' : World} {b bd lv : Nat} (h : BoxP W b bd lv) (g : Gw W W') : BoxP W' b bd lv := (g.block b h.lt).trans h

set_option maxRecDepth 100000 in
set_option maxHeartbeats 1000000 in
theorem impl_ofKid (u : LK) (w : World) (b o j bd lv : Nat) (hj : j ≤ 9223372036854775807) (h1 : bd ≤ 1000000) (h2 : lv ≤ 1000000) (h : coAt w b o u) :
    Calls Tryd.prog 124 #[.agg #[.int .i64 bd, .int .i64 lv], .pointer (some ⟨b, o, none⟩), .int .i64 j] w fun e w' => e = .returned (.agg #[.int .i64 ((bd + bndK u.k j : Nat) : Int), .int .i64 ((lv + bxK u.k : Nat) : Int)]) ∧ Gw w w' := by
  have A := Lib.hid h
  have B1 := bndK_le u.k j
  have B2 := bxK_le u.k
  obtain ⟨p, hp⟩ : ∃ p, p = bndK u.k j := ⟨_, rfl⟩
  obtain ⟨q, hq⟩ : ∃ q, q = bxK u.k := ⟨_, rfl⟩
  rw [← hp] at B1 ⊢
  rw [← hq] at B2 ⊢
  have HP := Lib.hid hp
  have HQ := Lib.hid hq
  have E1 := Lib.hid (show ((bd + p : Nat) : Int) = (bd : Int) + p by omega)
  have E2 := Lib.hid (show ((lv + q : Nat) : Int) = (lv : Int) + q by omega)
  have G0 := ((Gw.refl w).alloc (.cells #[.int .i64 bd, .int .i64 lv] 146)).alloc (.cells #[.int .i64 0, .int .i64 0] 146)
  have P0 : BoxP ((w.alloc (.cells #[.int .i64 bd, .int .i64 lv] 146)).alloc (.cells #[.int .i64 0, .int .i64 0] 146)) w.heap.size bd lv := by
    unfold BoxP
    rw [Below.heap_alloc _ _ _ (by simp)]
    exact heap_alloc_new w _
  have R0 : ((w.alloc (.cells #[.int .i64 bd, .int .i64 lv] 146)).alloc (.cells #[.int .i64 0, .int .i64 0] 146)).heap[w.heap.size + 1]? = some (.cells #[.int .i64 0, .int .i64 0] 146 (0, 0)) := kheap_at _ _ _ _ rfl (by simp)
  clear hp hq h
  go_enter Tryd.func124, Tryd.ntmps124
  go_upto_region 1 with (fail)
  generalize (w.alloc (.cells #[.int .i64 bd, .int .i64 lv] 146)).alloc (.cells #[.int .i64 0, .int .i64 0] 146) = W at *
  have A2 := Lib.hid (A.out.grow G0)
  obtain ⟨a0, a1⟩ := P0.c
  obtain ⟨p0, p1, p2, p3⟩ := A2.out.c
  have r0 : W.cell? ⟨w.heap.size + 1, 0, none⟩ = some (.int .i64 0) := cell_of_row _ _ 0 _ _ _ R0
  have r1 : W.cell? ⟨w.heap.size + 1, 1, none⟩ = some (.int .i64 0) := cell_of_row _ _ 1 _ _ _ R0
  have f0 : W.frozen? ⟨w.heap.size + 1, 0, none⟩ = false := by simp [World.frozen?, R0]
  have f1 : W.frozen? ⟨w.heap.size + 1, 1, none⟩ = false := by simp [World.frozen?, R0]
  have KB := Lib.hid (bindsIn_of u W.drew b o j hj (A2.out.grow (Gw.refl W).drew))
  have KP := Lib.hid (oneIf_of (decide (bndK u.k j = 1)) p (by rw [HP.out]; have := bndK_le u.k j; by_cases h : bndK u.k j = 1 <;> simp [h]; omega) W.drew)
  have KQ := Lib.hid (oneIf_of (u.k == 6) q (by rw [HQ.out]; unfold bxK; by_cases h : u.k = 6 <;> simp [h]) W.drew)
  have wr1 : IntKind.i64.wrap ((bd : Int) + p) = (bd : Int) + p := by unfold IntKind.wrap; simp [IntKind.signed, IntKind.bits]; omega
  have wr2 : IntKind.i64.wrap ((lv : Int) + q) = (lv : Int) + q := by unfold IntKind.wrap; simp [IntKind.signed, IntKind.bits]; omega
  refine wp_region_still_tail 17 (by kernel_rfl) (by kernel_rfl) ?_
  simp only [List.take_succ_cons, List.take_zero, List.drop_succ_cons, List.drop_zero]
  iterate 4 still_step
  still_call KB.out
  still_call KP.out
  iterate 8 still_step
  still_call KQ.out
  iterate 2 still_step
  refine wpStill_nil ?_
  change wpList _ _ _ _ _ W.drew
  clear a0 a1 p0 p1 p2 p3
  go_wp2_with fail
  have BF : ((W.setCell ⟨w.heap.size + 1, 0, none⟩ (.int .i64 ((bd : Int) + p))).setCell ⟨w.heap.size + 1, 1, none⟩ (.int .i64 ((lv : Int) + q))).drew.heap[w.heap.size + 1]? = some (.cells #[.int .i64 ((bd : Int) + p), .int .i64 ((lv : Int) + q)] 146 (0, 0)) := kset_at (kset_at R0)
  have GF : Gw w ((W.setCell ⟨w.heap.size + 1, 0, none⟩ (.int .i64 ((bd : Int) + p))).setCell ⟨w.heap.size + 1, 1, none⟩ (.int .i64 ((lv : Int) + q))).drew := ((Below.setCell G0 (by simp) _).setCell (by simp) _).drew
  clear r0 r1 f0 f1 R0 P0 A2 KB KP KQ
  generalize ((W.setCell ⟨w.heap.size + 1, 0, none⟩ (.int .i64 ((bd : Int) + p))).setCell ⟨w.heap.size + 1, 1, none⟩ (.int .i64 ((lv : Int) + q))).drew = W2 at *
  have e0 : W2.cell? ⟨w.heap.size + 1, 0, none⟩ = some (.int .i64 ((bd : Int) + p)) := cell_of_row _ _ 0 _ _ _ BF
  have e1 : W2.cell? ⟨w.heap.size + 1, 1, none⟩ = some (.int .i64 ((lv : Int) + q)) := cell_of_row _ _ 1 _ _ _ BF
  exact bodyPost_ret (v := .agg #[.int .i64 ((bd : Int) + p), .int .i64 ((lv : Int) + q)]) (by simp [results, Tryd.results124, go_sem, e0, e1]) rfl ⟨by rw [E1.out, E2.out], GF⟩

end Go.Proofs.YtkpbiifikkbaeaaDoor.Con
