/-
  Contract of SameType in the program. Condition: both types lie in blocks of cells.
-/
import Derived.Test.YtdlbhjkkgiaidaaTySame
import Derived.Test.YtdlbhjkkgiaidaaTySmS
import Derived.Carry
namespace Go.Proofs.Ytdlbhjkkgiaidaa.Con
open Go.RowKit
set_option linter.unusedVariables false

theorem sm_all (x : LT) : SmC x := by
  refine LT.ind (P := SmC) (fun k n a c ks ih => ?_) x
  exact sm_of (.mk k n a c ks) ih

theorem at_box {w : World} {b : Nat} {t : LT} (h : Box w b t) (hn : ∀ c ∈ t.bl, Free w c) (ho : t.Ok w) : At w b 0 t := by
  obtain ⟨c0, c1, c2⟩ := h.c
  obtain ⟨e, h⟩ := h
  exact ⟨c0, c1, c2, ho, ⟨_, _, h⟩, hn⟩

set_option maxRecDepth 100000 in
theorem impl_same (t u : LT) (B B' : Nat) (w : World) (ht : t.New B w) (hu : u.New B' w) : Calls Try.prog 21 #[t.val, u.val] w (SameGw t u w) := by
  have hmm := @run_makeMap Try.prog
  have b0 := ((((Box.new w t 29).grow ((Gw.refl _).alloc (.cells #[.int .i64 u.k, .string u.n, .slice u.a u.ks.length u.cap] 29))).grow ((Gw.refl _).alloc (.map #[] 0))).grow ((Gw.refl _).alloc (.cells #[.map (some (w.heap.size + 1 + 1))] 76))).grow ((Gw.refl _).alloc (.cells #[.func (.func 58) #[] #[.pointer (some ⟨w.heap.size + 1 + 1 + 1, 0, none⟩), .pointer (some ⟨w.heap.size + 1 + 1 + 1 + 1, 0, none⟩)]] 77))
  have b1 := (((Box.new (w.alloc (.cells #[.int .i64 t.k, .string t.n, .slice t.a t.ks.length t.cap] 29)) u 29).grow ((Gw.refl _).alloc (.map #[] 0))).grow ((Gw.refl _).alloc (.cells #[.map (some (w.heap.size + 1 + 1))] 76))).grow ((Gw.refl _).alloc (.cells #[.func (.func 58) #[] #[.pointer (some ⟨w.heap.size + 1 + 1 + 1, 0, none⟩), .pointer (some ⟨w.heap.size + 1 + 1 + 1 + 1, 0, none⟩)]] 77))
  have g5 : Gw w (((((w.alloc (.cells #[.int .i64 t.k, .string t.n, .slice t.a t.ks.length t.cap] 29)).alloc (.cells #[.int .i64 u.k, .string u.n, .slice u.a u.ks.length u.cap] 29)).alloc (.map #[] 0)).alloc (.cells #[.map (some (w.heap.size + 1 + 1))] 76)).alloc (.cells #[.func (.func 58) #[] #[.pointer (some ⟨w.heap.size + 1 + 1 + 1, 0, none⟩), .pointer (some ⟨w.heap.size + 1 + 1 + 1 + 1, 0, none⟩)]] 77)) := (((((Gw.refl w).alloc _).alloc _).alloc _).alloc _).alloc _
  have m2 : (((((w.alloc (.cells #[.int .i64 t.k, .string t.n, .slice t.a t.ks.length t.cap] 29)).alloc (.cells #[.int .i64 u.k, .string u.n, .slice u.a u.ks.length u.cap] 29)).alloc (.map #[] 0)).alloc (.cells #[.map (some (w.heap.size + 1 + 1))] 76)).alloc (.cells #[.func (.func 58) #[] #[.pointer (some ⟨w.heap.size + 1 + 1 + 1, 0, none⟩), .pointer (some ⟨w.heap.size + 1 + 1 + 1 + 1, 0, none⟩)]] 77)).heap[w.heap.size + 1 + 1]? = some (.map #[] 0) := by
    rw [Below.heap_alloc _ _ _ (by simp), Below.heap_alloc _ _ _ (by simp)]
    exact heap_alloc_new' _ _ (by simp)
  have m3 : (((((w.alloc (.cells #[.int .i64 t.k, .string t.n, .slice t.a t.ks.length t.cap] 29)).alloc (.cells #[.int .i64 u.k, .string u.n, .slice u.a u.ks.length u.cap] 29)).alloc (.map #[] 0)).alloc (.cells #[.map (some (w.heap.size + 1 + 1))] 76)).alloc (.cells #[.func (.func 58) #[] #[.pointer (some ⟨w.heap.size + 1 + 1 + 1, 0, none⟩), .pointer (some ⟨w.heap.size + 1 + 1 + 1 + 1, 0, none⟩)]] 77)).heap[w.heap.size + 1 + 1 + 1]? = some (.cells #[.map (some (w.heap.size + 1 + 1))] 76 (0, 0)) := by
    rw [Below.heap_alloc _ _ _ (by simp)]
    exact heap_alloc_new' _ _ (by simp)
  have m4 : (((((w.alloc (.cells #[.int .i64 t.k, .string t.n, .slice t.a t.ks.length t.cap] 29)).alloc (.cells #[.int .i64 u.k, .string u.n, .slice u.a u.ks.length u.cap] 29)).alloc (.map #[] 0)).alloc (.cells #[.map (some (w.heap.size + 1 + 1))] 76)).alloc (.cells #[.func (.func 58) #[] #[.pointer (some ⟨w.heap.size + 1 + 1 + 1, 0, none⟩), .pointer (some ⟨w.heap.size + 1 + 1 + 1 + 1, 0, none⟩)]] 77)).heap[w.heap.size + 1 + 1 + 1 + 1]? = some (.cells #[.func (.func 58) #[] #[.pointer (some ⟨w.heap.size + 1 + 1 + 1, 0, none⟩), .pointer (some ⟨w.heap.size + 1 + 1 + 1 + 1, 0, none⟩)]] 77 (0, 0)) :=
    heap_alloc_new' _ _ (by simp)
  have A0 := at_box b0 (fun c hc => (ht.2.2 c hc).2.grow g5) (ht.1.grow g5)
  have A1 := at_box b1 (fun c hc => (hu.2.2 c hc).2.grow g5) (hu.1.grow g5)
  have key := sm_all t u _ w.heap.size 0 (w.alloc (.cells #[.int .i64 t.k, .string t.n, .slice t.a t.ks.length t.cap] 29)).heap.size 0 (w.heap.size + 1 + 1) (w.heap.size + 1 + 1 + 1) (w.heap.size + 1 + 1 + 1 + 1) (fun _ => False) A0 A1 ⟨m3, m4⟩ ⟨_, _, m2, fun e he => by simp at he⟩ (fun v hv => hv.elim)
  rw [World.size_alloc] at key
  have KEY := Lib.hid key
  have G5 := Lib.hid g5
  clear b0 b1 g5 m2 m3 m4 A0 A1 key ht hu
  go_enter Try.func21, Try.ntmps21
  go_wp2_with fail
  refine KEY.out.mono ?_
  rintro e w1 ⟨r, rfl, hr, hc, _⟩
  have HR := Lib.hid hr
  have HG : Gw w w1 := Below.trans G5.out (hc.gw G5.out.size (fun b hb e => by omega))
  clear hr hc KEY
  go_wp2_with fail
  go_ret
  exact ⟨r, rfl, HR.out, HG⟩

end Go.Proofs.Ytdlbhjkkgiaidaa.Con
