/-
  The node of a type and its parts: impl.typeNodeOf and the methods parts of the four makes of nodes. No condition but that the type lies in memory.
-/
import Derived.Test.YtbbldkhlclfmkaaTyNode
namespace Go.Proofs.Ytbbldkhlclfmkaa.Con
open Go.RowKit
set_option linter.unusedVariables false

/-- The cells of a row of types. -/
def cellsL (ks : List LT) : List Value := ks.flatMap fun t => [.int .i64 t.k, .string t.n, .slice t.a t.ks.length t.cap]

/-- The node at the top of a type, as a value behind the interface. -/
def nodeV (t : LT) : Value :=
  if t.k = 1 then .iface 162 (.agg #[]) else if t.k = 2 then .iface 164 (.agg #[.string t.n])
  else if t.k = 3 then .iface 130 (.agg (cellsL t.ks).toArray) else .iface 133 (.agg (cellsL t.ks).toArray)

theorem head_cases {k : Int} {n : ByteArray} {m : Nat} (h : headB k n m = true) :
    (k = 1 ∧ n.toList.isEmpty = true ∧ m = 0) ∨ (k = 2 ∧ dataB n = true ∧ m = 0) ∨ (k = 3 ∧ n.toList.isEmpty = true ∧ m = 2) ∨ (k = 4 ∧ n.toList.isEmpty = true ∧ m = 1) := by
  unfold headB at h
  simp only [Bool.or_eq_true, Bool.and_eq_true, beq_iff_eq, and_assoc] at h
  rcases h with ((h | h) | h) | h
  · exact .inl h
  · exact .inr (.inl h)
  · exact .inr (.inr (.inl h))
  · exact .inr (.inr (.inr h))

theorem impl_node (t : LT) (w : World) (h : t.Ok w) (hh : headB t.k t.n t.ks.length = true) : Calls Try.prog 85 #[t.val] w (NodeGw (nodeV t) w) := by
  have hn : t.n.size ≤ 9223372036854775807 := h.nm
  have hk := h.kids
  obtain ⟨k, n, a, c, ks⟩ := t
  simp only [LT.k, LT.n, LT.ks, LT.a, LT.cap] at hn hk hh
  rcases head_cases hh with ⟨rfl, he, hm⟩ | ⟨rfl, he, hm⟩ | ⟨rfl, he, hm⟩ | ⟨rfl, he, hm⟩
  · match ks, hm with
    | [], _ => exact node_int n a c he w
  · match ks, hm with
    | [], _ => exact node_dat n hn a c he w
  · match ks, hm with
    | [x, y], _ =>
      obtain ⟨b, o, rfl, hr⟩ := hk.2.2.resolve_left (by simp)
      obtain ⟨c0, c1, c2, _⟩ := rowOk_get hr 0 (by simp)
      obtain ⟨d0, d1, d2, _⟩ := rowOk_get hr 1 (by simp)
      exact node_fun n b o c x y he w (by simpa using c0) (by simpa using c1) (by simpa using c2) (by simpa using d0) (by simpa using d1) (by simpa using d2)
  · match ks, hm with
    | [x], _ =>
      obtain ⟨b, o, rfl, hr⟩ := hk.2.2.resolve_left (by simp)
      obtain ⟨c0, c1, c2, _⟩ := rowOk_get hr 0 (by simp)
      exact node_bang n b o c x he w (by simpa using c0) (by simpa using c1) (by simpa using c2)

theorem impl_node_nil (t : LT) (w : World) (h : t.Ok w) (hh : headB t.k t.n t.ks.length = false) : Calls Try.prog 85 #[t.val] w (NodeGw .nilIface w) := by
  have hn : t.n.size ≤ 9223372036854775807 := h.nm
  have hl : t.ks.length ≤ 9223372036854775807 := Nat.le_trans h.kids.1 h.kids.2.1
  obtain ⟨k, n, a, c, ks⟩ := t
  simp only [LT.k, LT.n, LT.ks] at hn hl hh
  by_cases h1 : k = 1
  · subst h1
    cases he : n.toList.isEmpty with
    | false => exact node_int_name n a _ c he w
    | true =>
      have hm : ¬ ks.length = 0 := fun e => by rw [e] at hh; simp [headB, he] at hh
      exact node_int_len n a _ c hl he (by simpa using hm) (by simpa using hm) w
  by_cases h2 : k = 2
  · subst h2
    cases he : dataB n with
    | false => exact node_dat_name n hn a _ c he w
    | true =>
      have hm : ¬ ks.length = 0 := fun e => by rw [e] at hh; simp [headB, he] at hh
      exact node_dat_len n hn a _ c hl he (by simpa using hm) (by simpa using hm) w
  by_cases h3 : k = 3
  · subst h3
    cases he : n.toList.isEmpty with
    | false => exact node_fun_name n a _ c he w
    | true =>
      have hm : ¬ ks.length = 2 := fun e => by rw [e] at hh; simp [headB, he] at hh
      exact node_fun_len n a _ c hl he (by simp; omega) (by simpa using hm) w
  by_cases h4 : k = 4
  · subst h4
    cases he : n.toList.isEmpty with
    | false => exact node_bang_name n a _ c he w
    | true =>
      have hm : ¬ ks.length = 1 := fun e => by rw [e] at hh; simp [headB, he] at hh
      exact node_bang_len n a _ c hl he (by simp; omega) (by simpa using hm) w
  · exact node_kind k n a _ c (by simpa using h1) (by simpa using h2) (by simpa using h3) (by simpa using h4) w

def PartsPost (ks : List LT) (w : World) (e : Ending) (w' : World) : Prop := ∃ a cap, e = .returned (.slice a ks.length cap) ∧ slOk w' a cap ks ∧ (∀ x, a = some x → w.heap.size ≤ x.block) ∧ Gw w w'

theorem parts_int (w : World) : Calls Try.prog 157 #[.agg #[]] w (PartsPost [] w) := by
  go_enter Try.func157, Try.ntmps157
  go_wp2_with fail
  go_ret
  exact ⟨none, 0, rfl, ⟨Nat.le_refl _, Nat.zero_le _, .inl rfl⟩, (fun _ h => by cases h), (Gw.refl w).alloc _⟩

theorem parts_dat (n : ByteArray) (w : World) : Calls Try.prog 158 #[.agg #[.string n]] w (PartsPost [] w) := by
  go_enter Try.func158, Try.ntmps158
  go_wp2_with fail
  go_ret
  exact ⟨none, 0, rfl, ⟨Nat.le_refl _, Nat.zero_le _, .inl rfl⟩, (fun _ h => by cases h), (Gw.refl w).alloc _⟩

theorem parts_bang (x : LT) (w : World) (hx : x.Ok w) : Calls Try.prog 156 #[.agg #[.int .i64 x.k, .string x.n, .slice x.a x.ks.length x.cap]] w (PartsPost [x] w) := by
  go_enter Try.func156, Try.ntmps156
  go_wp2_with fail
  go_ret
  have hg : Gw w ((w.alloc (.cells #[.int .i64 x.k, .string x.n, .slice x.a x.ks.length x.cap] 133)).alloc (.cells #[.int .i64 x.k, .string x.n, .slice x.a x.ks.length x.cap] 29)) := ((Gw.refl w).alloc _).alloc _
  have hb := heap_alloc_new (w.alloc (.cells #[.int .i64 x.k, .string x.n, .slice x.a x.ks.length x.cap] 133)) (.cells #[.int .i64 x.k, .string x.n, .slice x.a x.ks.length x.cap] 29)
  have hs : (w.alloc (.cells #[.int .i64 x.k, .string x.n, .slice x.a x.ks.length x.cap] 133)).heap.size = w.heap.size + 1 := by simp
  rw [hs] at hb
  refine ⟨_, _, rfl, ⟨Nat.le_refl _, by simp [maxLen], .inr ⟨_, 0, rfl, rowOk_mk fun i hi => ?_⟩⟩, (fun x h => by injection h with h; subst h; exact Nat.le_succ _), hg⟩
  obtain rfl : i = 0 := by simp at hi; omega
  exact ⟨cell_of_row _ _ 0 _ _ _ hb, cell_of_row _ _ 1 _ _ _ hb, cell_of_row _ _ 2 _ _ _ hb, hx.grow hg⟩

theorem parts_fun (x y : LT) (w : World) (hx : x.Ok w) (hy : y.Ok w) : Calls Try.prog 155 #[.agg #[.int .i64 x.k, .string x.n, .slice x.a x.ks.length x.cap, .int .i64 y.k, .string y.n, .slice y.a y.ks.length y.cap]] w (PartsPost [x, y] w) := by
  go_enter Try.func155, Try.ntmps155
  go_wp2_with fail
  go_ret
  have hg : Gw w ((w.alloc (.cells #[.int .i64 x.k, .string x.n, .slice x.a x.ks.length x.cap, .int .i64 y.k, .string y.n, .slice y.a y.ks.length y.cap] 130)).alloc (.cells #[.int .i64 x.k, .string x.n, .slice x.a x.ks.length x.cap, .int .i64 y.k, .string y.n, .slice y.a y.ks.length y.cap] 29)) := ((Gw.refl w).alloc _).alloc _
  have hb := heap_alloc_new (w.alloc (.cells #[.int .i64 x.k, .string x.n, .slice x.a x.ks.length x.cap, .int .i64 y.k, .string y.n, .slice y.a y.ks.length y.cap] 130)) (.cells #[.int .i64 x.k, .string x.n, .slice x.a x.ks.length x.cap, .int .i64 y.k, .string y.n, .slice y.a y.ks.length y.cap] 29)
  have hs : (w.alloc (.cells #[.int .i64 x.k, .string x.n, .slice x.a x.ks.length x.cap, .int .i64 y.k, .string y.n, .slice y.a y.ks.length y.cap] 130)).heap.size = w.heap.size + 1 := by simp
  rw [hs] at hb
  refine ⟨_, _, rfl, ⟨Nat.le_refl _, by simp [maxLen], .inr ⟨_, 0, rfl, rowOk_mk fun i hi => ?_⟩⟩, (fun x h => by injection h with h; subst h; exact Nat.le_succ _), hg⟩
  by_cases h0 : i = 0
  · subst h0
    exact ⟨cell_of_row _ _ 0 _ _ _ hb, cell_of_row _ _ 1 _ _ _ hb, cell_of_row _ _ 2 _ _ _ hb, hx.grow hg⟩
  · obtain rfl : i = 1 := by simp at hi; omega
    exact ⟨cell_of_row _ _ 3 _ _ _ hb, cell_of_row _ _ 4 _ _ _ hb, cell_of_row _ _ 5 _ _ _ hb, hy.grow hg⟩

end Go.Proofs.Ytbbldkhlclfmkaa.Con
