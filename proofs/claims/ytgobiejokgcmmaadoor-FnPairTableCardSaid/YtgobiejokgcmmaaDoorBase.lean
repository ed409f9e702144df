/-
  Lemmas of no one program: what stands below the old end of memory is as it was ('Gw'); a law's row from its walk ('post_law'); the arguments and the named variables read behind the call as they read before. No condition.
-/
import Derived.Test.YtgobiejokgcmmaaDoorRows
import Derived.WalkKit
import Derived.ProofKit
import Derived.OpenShut
import Derived.OpenVars
import Derived.Handy
import Derived.Lib.Hide
import Derived.Deep.QuietTactic
namespace Go.Proofs.YtgobiejokgcmmaaDoor.Con
open Go.RowKit Go.ChangeShapes Go.WideShapes Go.ChangeAt

/-- Below the old end of memory nothing has turned. -/
def Gw (w w' : World) : Prop := Below w.heap.size w w'
theorem Gw.refl (w : World) : Gw w w := Below.refl _ _
theorem Gw.alloc {w w' : World} (h : Gw w w') (o : Obj) : Gw w (w'.alloc o) := Below.alloc h h.size _
theorem Gw.drew {w w' : World} (h : Gw w w') : Gw w w'.drew := Below.drew h
theorem Gw.drewN {w w' : World} (h : Gw w w') (n : Nat) : Gw w (w'.drewN n) := ⟨h.os, h.tape, h.output, h.size, h.block⟩
theorem Gw.trans {a b c : World} (h : Gw a b) (k : Gw b c) : Gw a c := Below.trans h (Below.mono k h.size)
theorem Gw.iter {w w' : World} (h : Gw w w') (s : ByteArray) (pos : Nat) : Gw w (w'.iter s pos) := h.alloc _
theorem Gw.cell {w w' : World} (h : Gw w w') {a : Addr} {v : Value} (hc : w.cell? a = some v) (hb : a.block < w.heap.size) : w'.cell? a = some v := by
  rw [Below.cell h hb]; exact hc

/-- A closed fact: each parameter's type can be read and is a row of the table. -/
def rowedAll (P : Program) (ts : List TypeId) : Bool := ts.all fun t => P.readableRec t && decide (t < P.types.size)

theorem trodAll_below {H : Type} {enc : TypeId × Value → H} {P : Program} (hl : laidOutB P = true) {W W' : World} (hb : Below W.heap.size W W') :
    ∀ {ts : List TypeId} {vs : List Value} {ds : List (DataW H)} {ps : List MemPlace}, rowedAll P ts = true → (∀ x ∈ ps, x.block < W.heap.size) →
      DataW.TrodAll enc P W 0 (fun _ => true) true ts vs ds ps → DataW.TrodAll enc P W' 0 (fun b => decide (b < W.heap.size)) true ts vs ds ps
  | [], [], [], _, _, _, h => h
  | [], [], _ :: _, _, _, _, h => h.elim
  | [], _ :: _, _, _, _, _, h => h.elim
  | _ :: _, [], _, _, _, _, h => h.elim
  | _ :: _, _ :: _, [], _, _, _, h => h.elim
  | t :: ts, v :: vs, d :: ds, ps, hr, hlt, h => by
    obtain ⟨p, q, h1, h2, e⟩ := h
    simp only [rowedAll, List.all_cons, Bool.and_eq_true, decide_eq_true_eq] at hr
    have hp : ∀ x ∈ p, x.block < W.heap.size := fun x hx => hlt x (by rw [e]; simp [hx])
    have hq : ∀ x ∈ q, x.block < W.heap.size := fun x hx => hlt x (by rw [e]; simp [hx])
    exact ⟨p, q, Below.trod hl hr.1.1 hr.1.2 h1 hb hp, trodAll_below hl hb (by simpa [rowedAll] using hr.2) hq h2, e⟩

/-- A law's post out of what its walk gives. -/
theorem post_law {H : Type} {enc : TypeId × Value → H} {P : Program} {f : Func} {s : ChangeSpec} {bt : TypeId} {W W' : World} {args : Array Value} {ds gs : List (DataW H)} {before : List MemPlace}
    (hl : laidOutB P = true) (hp : rowedAll P f.params.toList = true) (hv : varsRowed P s.vars = true) (hr : f.resultTypes = #[bt]) (hu : P.underlying bt = some .bool)
    (hW : DataW.Whole enc P f.params.toList s.vars false W args.toList ds gs before) (hb : Gw W W')
    (hs : s.fn H (ds ++ gs) = { results := [.lit (.bool true)], args := ds, vars := gs }) :
    s.post enc P f false true false false W args (.bool true) W' := by
  have hlt : ∀ x ∈ before, x.block < W.heap.size := fun x hx => hW.lt x hx
  have hW' := hW
  obtain ⟨p, q, hA, hV, rfl, _, _⟩ := hW
  refine ⟨ds, gs, p ++ q, [], p, q, hW', ?_, ?_, ?_, Below.frame hb _, fun h => by cases h⟩
  · rw [hs, hr]
    exact trodAll_mk1 (shut_bool hu true)
  · rw [hs]
    exact trodAll_below hl hb hp (fun x hx => hlt x (List.mem_append_left _ hx)) hA
  · rw [hs]
    exact Below.trodVars hl hb hv hV

theorem ret_b {a b : Bool} (h : a = b) : Ending.returned (.bool a) = .returned (.bool b) := by rw [h]

theorem ret_int {k : IntKind} {a b : Int} (h : a = b) : Ending.returned (.int k a) = Ending.returned (.int k b) := by rw [h]

def inV (n lo hi : Int) : Bool := decide (lo ≤ n ∧ n ≤ hi)

theorem specIn (n lo hi : Int) (w : World) : Calls Tryd.prog 31 #[.int .i64 n, .int .i64 lo, .int .i64 hi] w fun e w' => e = .returned (.bool (inV n lo hi)) ∧ w = w' := by
  by_cases a : lo ≤ n <;> by_cases b : n ≤ hi <;> (
    go_enter Tryd.func31, Tryd.ntmps31
    go_wp2
    go_ret
    exact ⟨ret_b (by unfold inV; simp; omega), rfl⟩)

def IntGw (n : Int) (w : World) (e : Ending) (w' : World) : Prop := e = .returned (.int .i64 n) ∧ Gw w w'

def BoolGw (b : Bool) (w : World) (e : Ending) (w' : World) : Prop := e = .returned (.bool b) ∧ Gw w w'

def TrueGw (w : World) (e : Ending) (w' : World) : Prop := e = .returned (.bool true) ∧ Gw w w'

end Go.Proofs.YtgobiejokgcmmaaDoor.Con
