/-
  Contracts of the program's termComparer and SameTerm. Condition: both terms lie in blocks of cells.
-/
import Derived.Test.YtpafjhnamdeagaaCmpTm
import Derived.Laws.EntriesVeiled
namespace Go.Proofs.Ytpafjhnamdeagaa.Con.KTerm
open Go.RowKit Go.Proofs.Ytpafjhnamdeagaa.Con
set_option linter.unusedVariables false

def TtPost (CS : Nat) (w : World) (e : Ending) (w' : World) : Prop := ∃ M CK CN CM CF, e = .returned (.func (.func 92) #[] #[.pointer (some ⟨CK, 0, none⟩), .pointer (some ⟨CN, 0, none⟩), .pointer (some ⟨CM, 0, none⟩), .pointer (some ⟨CF, 0, none⟩)]) ∧
  (w'.heap[CK]? = some (.cells #[.func (.func 63) #[] #[]] 104 (0, 0)) ∧ w'.heap[CN]? = some (.cells #[.func (.func 61) #[] #[.pointer (some ⟨CS, 0, none⟩)]] 30 (0, 0)) ∧
  w'.heap[CM]? = some (.cells #[.map (some M)] 136 (0, 0)) ∧ w'.heap[CF]? = some (.cells #[.func (.func 92) #[] #[.pointer (some ⟨CK, 0, none⟩), .pointer (some ⟨CN, 0, none⟩), .pointer (some ⟨CM, 0, none⟩), .pointer (some ⟨CF, 0, none⟩)]] 30 (0, 0))) ∧ Mp w' M (fun _ => False) ∧ Gw w w' ∧ w.heap.size ≤ M

set_option maxRecDepth 100000 in
theorem impl_tree (CS : Nat) (w : World) : Calls Try.prog 60 #[.func (.func 61) #[] #[.pointer (some ⟨CS, 0, none⟩)], .func (.func 63) #[] #[]] w (TtPost CS w) := by
  have hmm := @run_makeMap Try.prog
  have gW : Gw w (((((w.alloc (.cells #[.func (.func 61) #[] #[.pointer (some ⟨CS, 0, none⟩)]] 30)).alloc (.cells #[.func (.func 63) #[] #[]] 104)).alloc (.map #[] 0)).alloc (.cells #[.map (some (w.heap.size + 1 + 1))] 136)).alloc (.cells #[.nilFunc] 30)) := (((((Gw.refl w).alloc _).alloc _).alloc _).alloc _).alloc _
  have e0 : (((((w.alloc (.cells #[.func (.func 61) #[] #[.pointer (some ⟨CS, 0, none⟩)]] 30)).alloc (.cells #[.func (.func 63) #[] #[]] 104)).alloc (.map #[] 0)).alloc (.cells #[.map (some (w.heap.size + 1 + 1))] 136)).alloc (.cells #[.nilFunc] 30)).heap[w.heap.size]? = some (.cells #[.func (.func 61) #[] #[.pointer (some ⟨CS, 0, none⟩)]] 30 (0, 0)) := by
    rw [Below.heap_alloc _ _ _ (by simp <;> omega), Below.heap_alloc _ _ _ (by simp <;> omega), Below.heap_alloc _ _ _ (by simp <;> omega), Below.heap_alloc _ _ _ (by simp)]
    exact heap_alloc_new _ _
  have e1 : (((((w.alloc (.cells #[.func (.func 61) #[] #[.pointer (some ⟨CS, 0, none⟩)]] 30)).alloc (.cells #[.func (.func 63) #[] #[]] 104)).alloc (.map #[] 0)).alloc (.cells #[.map (some (w.heap.size + 1 + 1))] 136)).alloc (.cells #[.nilFunc] 30)).heap[w.heap.size + 1]? = some (.cells #[.func (.func 63) #[] #[]] 104 (0, 0)) := by
    rw [Below.heap_alloc _ _ _ (by simp <;> omega), Below.heap_alloc _ _ _ (by simp <;> omega), Below.heap_alloc _ _ _ (by simp)]
    have := heap_alloc_new (w.alloc (.cells #[.func (.func 61) #[] #[.pointer (some ⟨CS, 0, none⟩)]] 30)) (.cells #[.func (.func 63) #[] #[]] 104)
    rwa [World.size_alloc] at this
  have e2 : (((((w.alloc (.cells #[.func (.func 61) #[] #[.pointer (some ⟨CS, 0, none⟩)]] 30)).alloc (.cells #[.func (.func 63) #[] #[]] 104)).alloc (.map #[] 0)).alloc (.cells #[.map (some (w.heap.size + 1 + 1))] 136)).alloc (.cells #[.nilFunc] 30)).heap[w.heap.size + 1 + 1]? = some (.map #[] 0) := by
    rw [Below.heap_alloc _ _ _ (by simp <;> omega), Below.heap_alloc _ _ _ (by simp)]
    have := heap_alloc_new ((w.alloc (.cells #[.func (.func 61) #[] #[.pointer (some ⟨CS, 0, none⟩)]] 30)).alloc (.cells #[.func (.func 63) #[] #[]] 104)) (.map #[] 0)
    rwa [World.size_alloc, World.size_alloc] at this
  have e3 : (((((w.alloc (.cells #[.func (.func 61) #[] #[.pointer (some ⟨CS, 0, none⟩)]] 30)).alloc (.cells #[.func (.func 63) #[] #[]] 104)).alloc (.map #[] 0)).alloc (.cells #[.map (some (w.heap.size + 1 + 1))] 136)).alloc (.cells #[.nilFunc] 30)).heap[w.heap.size + 1 + 1 + 1]? = some (.cells #[.map (some (w.heap.size + 1 + 1))] 136 (0, 0)) := by
    rw [Below.heap_alloc _ _ _ (by simp)]
    have := heap_alloc_new (((w.alloc (.cells #[.func (.func 61) #[] #[.pointer (some ⟨CS, 0, none⟩)]] 30)).alloc (.cells #[.func (.func 63) #[] #[]] 104)).alloc (.map #[] 0)) (.cells #[.map (some (w.heap.size + 1 + 1))] 136)
    rwa [World.size_alloc, World.size_alloc, World.size_alloc] at this
  have e4 : (((((w.alloc (.cells #[.func (.func 61) #[] #[.pointer (some ⟨CS, 0, none⟩)]] 30)).alloc (.cells #[.func (.func 63) #[] #[]] 104)).alloc (.map #[] 0)).alloc (.cells #[.map (some (w.heap.size + 1 + 1))] 136)).alloc (.cells #[.nilFunc] 30)).heap[w.heap.size + 1 + 1 + 1 + 1]? = some (.cells #[.nilFunc] 30 (0, 0)) := by
    have := heap_alloc_new ((((w.alloc (.cells #[.func (.func 61) #[] #[.pointer (some ⟨CS, 0, none⟩)]] 30)).alloc (.cells #[.func (.func 63) #[] #[]] 104)).alloc (.map #[] 0)).alloc (.cells #[.map (some (w.heap.size + 1 + 1))] 136)) (.cells #[.nilFunc] 30)
    rwa [World.size_alloc, World.size_alloc, World.size_alloc, World.size_alloc] at this
  go_enter Try.func60, Try.ntmps60
  go_upto_region 3 with (fail)
  generalize (((((w.alloc (.cells #[.func (.func 61) #[] #[.pointer (some ⟨CS, 0, none⟩)]] 30)).alloc (.cells #[.func (.func 63) #[] #[]] 104)).alloc (.map #[] 0)).alloc (.cells #[.map (some (w.heap.size + 1 + 1))] 136)).alloc (.cells #[.nilFunc] 30)) = W at *
  have x4 : W.cell? ⟨w.heap.size + 1 + 1 + 1 + 1, 0, none⟩ = some .nilFunc := cell_of_row _ _ 0 _ _ _ e4
  have z4 : W.frozen? ⟨w.heap.size + 1 + 1 + 1 + 1, 0, none⟩ = false := by simp [World.frozen?, e4]
  have s0 : (W.setCell ⟨w.heap.size + 1 + 1 + 1 + 1, 0, none⟩ (.func (.func 92) #[] #[.pointer (some ⟨w.heap.size + 1, 0, none⟩), .pointer (some ⟨w.heap.size, 0, none⟩), .pointer (some ⟨w.heap.size + 1 + 1 + 1, 0, none⟩), .pointer (some ⟨w.heap.size + 1 + 1 + 1 + 1, 0, none⟩)])).heap[w.heap.size]? = _ := (Below.heap_setCell _ _ _ _ (by simp <;> omega)).trans e0
  have s1 : (W.setCell ⟨w.heap.size + 1 + 1 + 1 + 1, 0, none⟩ (.func (.func 92) #[] #[.pointer (some ⟨w.heap.size + 1, 0, none⟩), .pointer (some ⟨w.heap.size, 0, none⟩), .pointer (some ⟨w.heap.size + 1 + 1 + 1, 0, none⟩), .pointer (some ⟨w.heap.size + 1 + 1 + 1 + 1, 0, none⟩)])).heap[w.heap.size + 1]? = _ := (Below.heap_setCell _ _ _ _ (by simp <;> omega)).trans e1
  have s2 : (W.setCell ⟨w.heap.size + 1 + 1 + 1 + 1, 0, none⟩ (.func (.func 92) #[] #[.pointer (some ⟨w.heap.size + 1, 0, none⟩), .pointer (some ⟨w.heap.size, 0, none⟩), .pointer (some ⟨w.heap.size + 1 + 1 + 1, 0, none⟩), .pointer (some ⟨w.heap.size + 1 + 1 + 1 + 1, 0, none⟩)])).heap[w.heap.size + 1 + 1]? = _ := (Below.heap_setCell _ _ _ _ (by simp <;> omega)).trans e2
  have s3 : (W.setCell ⟨w.heap.size + 1 + 1 + 1 + 1, 0, none⟩ (.func (.func 92) #[] #[.pointer (some ⟨w.heap.size + 1, 0, none⟩), .pointer (some ⟨w.heap.size, 0, none⟩), .pointer (some ⟨w.heap.size + 1 + 1 + 1, 0, none⟩), .pointer (some ⟨w.heap.size + 1 + 1 + 1 + 1, 0, none⟩)])).heap[w.heap.size + 1 + 1 + 1]? = _ := (Below.heap_setCell _ _ _ _ (by simp <;> omega)).trans e3
  have s4 : (W.setCell ⟨w.heap.size + 1 + 1 + 1 + 1, 0, none⟩ (.func (.func 92) #[] #[.pointer (some ⟨w.heap.size + 1, 0, none⟩), .pointer (some ⟨w.heap.size, 0, none⟩), .pointer (some ⟨w.heap.size + 1 + 1 + 1, 0, none⟩), .pointer (some ⟨w.heap.size + 1 + 1 + 1 + 1, 0, none⟩)])).heap[w.heap.size + 1 + 1 + 1 + 1]? = some (.cells #[(.func (.func 92) #[] #[.pointer (some ⟨w.heap.size + 1, 0, none⟩), .pointer (some ⟨w.heap.size, 0, none⟩), .pointer (some ⟨w.heap.size + 1 + 1 + 1, 0, none⟩), .pointer (some ⟨w.heap.size + 1 + 1 + 1 + 1, 0, none⟩)])] 30 (0, 0)) := by
    simp [World.setCell, Array.getElem?_modify, e4]
  have F := Lib.hid (show TtPost CS w (.returned (.func (.func 92) #[] #[.pointer (some ⟨w.heap.size + 1, 0, none⟩), .pointer (some ⟨w.heap.size, 0, none⟩), .pointer (some ⟨w.heap.size + 1 + 1 + 1, 0, none⟩), .pointer (some ⟨w.heap.size + 1 + 1 + 1 + 1, 0, none⟩)])) (W.setCell ⟨w.heap.size + 1 + 1 + 1 + 1, 0, none⟩ (.func (.func 92) #[] #[.pointer (some ⟨w.heap.size + 1, 0, none⟩), .pointer (some ⟨w.heap.size, 0, none⟩), .pointer (some ⟨w.heap.size + 1 + 1 + 1, 0, none⟩), .pointer (some ⟨w.heap.size + 1 + 1 + 1 + 1, 0, none⟩)])) from ⟨_, _, _, _, _, rfl, ⟨s1, s0, s3, s4⟩, ⟨_, _, s2, fun e he => by simp at he⟩, Below.setCell gW (by simp <;> omega) _, by omega⟩)
  clear gW e0 e1 e2 e3 e4 s0 s1 s2 s3 s4
  go_wp2_with fail
  go_ret
  exact F.out

def TmPost (w : World) (e : Ending) (w' : World) : Prop := ∃ k : Bk, e = .returned (.func (.func 92) #[] #[.pointer (some ⟨k.CK, 0, none⟩), .pointer (some ⟨k.CN, 0, none⟩), .pointer (some ⟨k.CM, 0, none⟩), .pointer (some ⟨k.CF, 0, none⟩)]) ∧ Env k w' (fun _ => False) ∧ Gw w w' ∧ w.heap.size ≤ k.M

theorem impl_tmc (w : World) (Mt TK TN TM TF : Nat) (hc : KType.Caps w Mt TK TN TM TF) (hm : KType.Mp w Mt (fun _ => False)) : Calls Try.prog 29 #[.func (.func 94) #[] #[.pointer (some ⟨TK, 0, none⟩), .pointer (some ⟨TN, 0, none⟩), .pointer (some ⟨TM, 0, none⟩), .pointer (some ⟨TF, 0, none⟩)]] w fun e w' => ∃ k : Bk, e = .returned (.func (.func 92) #[] #[.pointer (some ⟨k.CK, 0, none⟩), .pointer (some ⟨k.CN, 0, none⟩), .pointer (some ⟨k.CM, 0, none⟩), .pointer (some ⟨k.CF, 0, none⟩)]) ∧ Env k w' (fun _ => False) ∧ Gw w w' ∧ w.heap.size ≤ k.M ∧ k.Mt = Mt ∧ k.TK = TK ∧ k.TN = TN ∧ k.TM = TM ∧ k.TF = TF := by
  have gA := (Gw.refl w).alloc (.cells #[.func (.func 94) #[] #[.pointer (some ⟨TK, 0, none⟩), .pointer (some ⟨TN, 0, none⟩), .pointer (some ⟨TM, 0, none⟩), .pointer (some ⟨TF, 0, none⟩)]] 68)
  have hS := heap_alloc_new w (.cells #[.func (.func 94) #[] #[.pointer (some ⟨TK, 0, none⟩), .pointer (some ⟨TN, 0, none⟩), .pointer (some ⟨TM, 0, none⟩), .pointer (some ⟨TF, 0, none⟩)]] 68)
  have KEY := Lib.hid (impl_tree w.heap.size (w.alloc (.cells #[.func (.func 94) #[] #[.pointer (some ⟨TK, 0, none⟩), .pointer (some ⟨TN, 0, none⟩), .pointer (some ⟨TM, 0, none⟩), .pointer (some ⟨TF, 0, none⟩)]] 68)))
  have HS := Lib.hid hS
  have GA := Lib.hid gA
  have HC := Lib.hid (hc.keep (KType.free_gw gA))
  have HM := Lib.hid (hm.gw gA)
  clear hc hm gA hS
  go_enter Try.func29, Try.ntmps29
  go_wp2_with fail
  refine KEY.out.mono ?_
  rintro e w1 ⟨M, CK, CN, CM, CF, rfl, hcells, hmp, g1, hM⟩
  have F := Lib.hid (show Env ⟨M, Mt, CK, CN, CM, CF, w.heap.size, TK, TN, TM, TF⟩ w1 (fun _ => False) from
    ⟨⟨hcells.1, hcells.2.1, hcells.2.2.1, hcells.2.2.2, (g1.block _ (Array.getElem?_eq_some_iff.1 HS.out).1).trans HS.out⟩, HC.out.keep (KType.free_gw g1), hmp, HM.out.gw g1⟩)
  have G := Lib.hid (GA.out.trans g1)
  have HMM := Lib.hid (show w.heap.size ≤ M from Nat.le_trans GA.out.size hM)
  clear hcells hmp g1 hM
  go_wp2_with fail
  go_ret
  exact ⟨⟨M, Mt, CK, CN, CM, CF, w.heap.size, TK, TN, TM, TF⟩, rfl, F.out, G.out, HMM.out, rfl, rfl, rfl, rfl, rfl⟩

theorem FOk.new {B : Nat} {w : World} {t : LM} (h : t.New B w) : FOk w t := ⟨h.1, fun c hc => (h.2.2 c hc).2⟩

set_option maxRecDepth 100000 in
set_option maxHeartbeats 1000000 in
theorem impl_same (t u : LM) (B B' : Nat) (w : World) (ht : t.New B w) (hu : u.New B' w) : Calls Try.prog 9 #[t.val, u.val] w (SameM t u w) := by
  have gA : Gw w ((w.alloc (.cells #[.int .i64 t.k, .int .i64 t.m, .string t.n, .int .i64 t.t.k, .string t.t.n, .slice t.t.a t.t.ks.length t.t.cap, .slice t.na t.ns.length t.nc, .slice t.a t.ks.length t.cap] 36)).alloc (.cells #[.int .i64 u.k, .int .i64 u.m, .string u.n, .int .i64 u.t.k, .string u.t.n, .slice u.t.a u.t.ks.length u.t.cap, .slice u.na u.ns.length u.nc, .slice u.a u.ks.length u.cap] 36)) := ((Gw.refl w).alloc _).alloc _
  have b1 := (BoxM.new w t 36).grow ((Gw.refl _).alloc (.cells #[.int .i64 u.k, .int .i64 u.m, .string u.n, .int .i64 u.t.k, .string u.t.n, .slice u.t.a u.t.ks.length u.t.cap, .slice u.na u.ns.length u.nc, .slice u.a u.ks.length u.cap] 36))
  have b2 := BoxM.new (w.alloc (.cells #[.int .i64 t.k, .int .i64 t.m, .string t.n, .int .i64 t.t.k, .string t.t.n, .slice t.t.a t.t.ks.length t.t.cap, .slice t.na t.ns.length t.nc, .slice t.a t.ks.length t.cap] 36)) u 36
  rw [World.size_alloc] at b2
  have hk := free_gw gA
  have FX := Lib.hid ((FOk.new ht).keep hk)
  have FY := Lib.hid ((FOk.new hu).keep hk)
  have GA := Lib.hid gA
  clear ht hu hk gA
  go_enter Try.func9, Try.ntmps9
  go_upto_region 1 with (fail)
  generalize ((w.alloc (.cells #[.int .i64 t.k, .int .i64 t.m, .string t.n, .int .i64 t.t.k, .string t.t.n, .slice t.t.a t.t.ks.length t.t.cap, .slice t.na t.ns.length t.nc, .slice t.a t.ks.length t.cap] 36)).alloc (.cells #[.int .i64 u.k, .int .i64 u.m, .string u.n, .int .i64 u.t.k, .string u.t.n, .slice u.t.a u.t.ks.length u.t.cap, .slice u.na u.ns.length u.nc, .slice u.a u.ks.length u.cap] 36)) = W1 at *
  have l1 := b1.lt
  have l2 := b2.lt
  obtain ⟨p0, p1, p2, p3, p4, p5, p6, p7⟩ := b1.c
  obtain ⟨q0, q1, q2, q3, q4, q5, q6, q7⟩ := b2.c
  go_region_held3 (fun W => W.cell? ⟨w.heap.size, 0, none⟩ = some (.int .i64 t.k) ∧ W.cell? ⟨w.heap.size, 1, none⟩ = some (.int .i64 t.m) ∧ W.cell? ⟨w.heap.size, 2, none⟩ = some (.string t.n) ∧ W.cell? ⟨w.heap.size, 3, none⟩ = some (.int .i64 t.t.k) ∧ W.cell? ⟨w.heap.size, 4, none⟩ = some (.string t.t.n) ∧ W.cell? ⟨w.heap.size, 5, none⟩ = some (.slice t.t.a t.t.ks.length t.t.cap) ∧ W.cell? ⟨w.heap.size, 6, none⟩ = some (.slice t.na t.ns.length t.nc) ∧ W.cell? ⟨w.heap.size, 7, none⟩ = some (.slice t.a t.ks.length t.cap) ∧ W.cell? ⟨w.heap.size + 1, 0, none⟩ = some (.int .i64 u.k) ∧ W.cell? ⟨w.heap.size + 1, 1, none⟩ = some (.int .i64 u.m) ∧ W.cell? ⟨w.heap.size + 1, 2, none⟩ = some (.string u.n) ∧ W.cell? ⟨w.heap.size + 1, 3, none⟩ = some (.int .i64 u.t.k) ∧ W.cell? ⟨w.heap.size + 1, 4, none⟩ = some (.string u.t.n) ∧ W.cell? ⟨w.heap.size + 1, 5, none⟩ = some (.slice u.t.a u.t.ks.length u.t.cap) ∧ W.cell? ⟨w.heap.size + 1, 6, none⟩ = some (.slice u.na u.ns.length u.nc) ∧ W.cell? ⟨w.heap.size + 1, 7, none⟩ = some (.slice u.a u.ks.length u.cap))
    (first | exact ⟨p0, p1, p2, p3, p4, p5, p6, p7, q0, q1, q2, q3, q4, q5, q6, q7⟩ | exact ⟨(k2 _ _ l1).trans p0, (k2 _ _ l1).trans p1, (k2 _ _ l1).trans p2, (k2 _ _ l1).trans p3, (k2 _ _ l1).trans p4, (k2 _ _ l1).trans p5, (k2 _ _ l1).trans p6, (k2 _ _ l1).trans p7, (k2 _ _ l2).trans q0, (k2 _ _ l2).trans q1, (k2 _ _ l2).trans q2, (k2 _ _ l2).trans q3, (k2 _ _ l2).trans q4, (k2 _ _ l2).trans q5, (k2 _ _ l2).trans q6, (k2 _ _ l2).trans q7⟩ | exact ⟨(k3 _ _ l1).trans p0, (k3 _ _ l1).trans p1, (k3 _ _ l1).trans p2, (k3 _ _ l1).trans p3, (k3 _ _ l1).trans p4, (k3 _ _ l1).trans p5, (k3 _ _ l1).trans p6, (k3 _ _ l1).trans p7, (k3 _ _ l2).trans q0, (k3 _ _ l2).trans q1, (k3 _ _ l2).trans q2, (k3 _ _ l2).trans q3, (k3 _ _ l2).trans q4, (k3 _ _ l2).trans q5, (k3 _ _ l2).trans q6, (k3 _ _ l2).trans q7⟩ | exact ⟨(k4 _ _ l1).trans p0, (k4 _ _ l1).trans p1, (k4 _ _ l1).trans p2, (k4 _ _ l1).trans p3, (k4 _ _ l1).trans p4, (k4 _ _ l1).trans p5, (k4 _ _ l1).trans p6, (k4 _ _ l1).trans p7, (k4 _ _ l2).trans q0, (k4 _ _ l2).trans q1, (k4 _ _ l2).trans q2, (k4 _ _ l2).trans q3, (k4 _ _ l2).trans q4, (k4 _ _ l2).trans q5, (k4 _ _ l2).trans q6, (k4 _ _ l2).trans q7⟩)
    (first
      | (go_at_call 30; refine (KType.impl_tc _).mono ?_; rintro e w2 ⟨Mt, TK, TN, TM, TF, rfl, hcap, hmp, g2, hMt⟩; have k2 : ∀ b o, b < W1.heap.size → w2.cell? ⟨b, o, none⟩ = W1.cell? ⟨b, o, none⟩ := fun b o h => (bcell g2).1 b o h)
      | (go_at_call 29; refine (impl_tmc _ Mt TK TN TM TF (by exact hcap) (by exact hmp)).mono ?_; rintro e w3 ⟨k, rfl, henv, g3, hM, hkMt, _⟩; have k3 : ∀ b o, b < W1.heap.size → w3.cell? ⟨b, o, none⟩ = W1.cell? ⟨b, o, none⟩ := fun b o h => ((bcell g3).1 b o (Nat.lt_of_lt_of_le h g2.size)).trans (k2 b o h))
      | (go_at_call 92; refine (cmp_all t u _ k (fun _ => False) (by exact FX.out.keep (free_gw (((Gw.refl W1).drew.trans g2).trans g3))) (by exact FY.out.keep (free_gw (((Gw.refl W1).drew.trans g2).trans g3))) henv (by obtain ⟨es, cl, hx, _⟩ := hmp; have := (Array.getElem?_eq_some_iff.1 hx).1; rw [hkMt]; omega) (fun v hv => hv.elim)).mono ?_; rintro e w4 ⟨r, rfl, hr, hc, _⟩; have k4 : ∀ b o, b < W1.heap.size → w4.cell? ⟨b, o, none⟩ = W1.cell? ⟨b, o, none⟩ := fun b o h => (World.cell?_of_block (a := ⟨b, o, none⟩) (hc.2.2.2.2 b (Nat.lt_of_lt_of_le (Nat.lt_of_lt_of_le h g2.size) g3.size) (fun e => by have h5 : W1.heap.size ≤ w2.heap.size := g2.size; have h6 : W1.heap.size ≤ Mt := hMt; have h7 : b < W1.heap.size := h; rcases e with e | e <;> omega))).trans (k3 b o h)))
  have HR := Lib.hid hr
  have hG : Gw W1 w4 := Below.trans (((Gw.refl W1).drew.trans g2).trans g3) (hc.gw (Nat.le_trans g2.size g3.size) (fun b hb e => by have h5 : W1.heap.size ≤ w2.heap.size := g2.size; have h6 : W1.heap.size ≤ Mt := hMt; have h7 : b < W1.heap.size := hb; rcases e with e | e <;> omega))
  have HG := Lib.hid (GA.out.trans hG)
  clear hr hc hG k2 k3 k4 hcap hmp henv
  go_wp2_with fail
  go_ret
  exact ⟨r, rfl, HR.out, HG.out⟩

end Go.Proofs.Ytpafjhnamdeagaa.Con.KTerm
