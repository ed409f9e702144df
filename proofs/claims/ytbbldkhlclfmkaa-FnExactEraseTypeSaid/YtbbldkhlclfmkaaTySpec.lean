/-
  When a type is valid and how many nodes it has, as a function on types without addresses. No program in it, no condition.
  Contracts of the model's functions on one type: l02Nodes, ValidType, TypeSize. No condition but that the type lies in memory.
-/
import Derived.Test.YtbbldkhlclfmkaaTyNew
import Derived.Test.YtbbldkhlclfmkaaName
import Derived.Test.YtbbldkhlclfmkaaTyTo
import Derived.Outline
import Derived.LoopTactic
import Derived.Lib.Hide
namespace Go.Proofs.Ytbbldkhlclfmkaa.Con
open Go.RowKit

/-- Is the text the name of a data type? -/
def dataB (n : ByteArray) : Bool := upperB n && !(n.toList == [73, 110, 116])

/-- Has a node the form that its number requires? m: how many kids it has. -/
def headB (k : Int) (n : ByteArray) (m : Nat) : Bool :=
  (k == 1 && n.toList.isEmpty && m == 0) || (k == 2 && dataB n && m == 0) || (k == 3 && n.toList.isEmpty && m == 2) || (k == 4 && n.toList.isEmpty && m == 1)

/-- The number of nodes of a type of a valid form and of depth d at most. -/
def Ty.nd : Ty → Nat → Option Nat
  | .mk _ _ _, 0 => none
  | .mk k n ks, d + 1 => if headB k n ks.length then (ndl ks d).map (· + 1) else none
where ndl : List Ty → Nat → Option Nat
  | [], _ => some 0
  | t :: ts, d => match t.nd d, ndl ts d with | some a, some b => some (a + b) | _, _ => none

abbrev ndl (ks : List Ty) (d : Nat) : Option Nat := Ty.nd.ndl ks d

theorem nd_succ (k : Int) (n : ByteArray) (ks : List Ty) (d : Nat) : (Ty.mk k n ks).nd (d + 1) = if headB k n ks.length then (ndl ks d).map (· + 1) else none := by rw [Ty.nd]
theorem nd_zero (t : Ty) : t.nd 0 = none := by
  obtain ⟨k, n, ks⟩ := t
  rw [Ty.nd]
theorem ndl_cons (t : Ty) (ts : List Ty) (d : Nat) : ndl (t :: ts) d = match t.nd d, ndl ts d with | some a, some b => some (a + b) | _, _ => none := by simp only [ndl, Ty.nd.ndl]

theorem ndl_append (xs ys : List Ty) (d : Nat) : ndl (xs ++ ys) d = match ndl xs d, ndl ys d with | some a, some b => some (a + b) | _, _ => none := by
  induction xs with
  | nil => simp only [List.nil_append, ndl, Ty.nd.ndl]; cases Ty.nd.ndl ys d <;> simp
  | cons t ts ih =>
    rw [List.cons_append, ndl_cons, ndl_cons, ih]
    cases t.nd d <;> cases ndl ts d <;> cases ndl ys d <;> simp [Nat.add_assoc]

theorem ndl_take (ks : List Ty) (d i : Nat) (hi : i < ks.length) : ndl (ks.take (i + 1)) d = match ndl (ks.take i) d, ks[i].nd d with | some a, some b => some (a + b) | _, _ => none := by
  rw [List.take_succ_eq_append_getElem hi, ndl_append, ndl_cons]
  have : ndl [] d = some 0 := by simp [ndl, Ty.nd.ndl]
  rw [this]
  cases ks[i].nd d <;> cases ndl (ks.take i) d <;> simp

theorem ndl_none {ks : List Ty} {d : Nat} {t : Ty} (h : t ∈ ks) (hn : t.nd d = none) : ndl ks d = none := by
  induction ks with
  | nil => cases h
  | cons u us ih =>
    rw [ndl_cons]
    rcases List.mem_cons.1 h with rfl | h
    · simp [hn]
    · rw [ih h]; cases u.nd d <;> simp

theorem headB_len {k : Int} {n : ByteArray} {m : Nat} (h : headB k n m = true) : m ≤ 2 := by
  unfold headB at h
  simp only [Bool.or_eq_true, Bool.and_eq_true, beq_iff_eq] at h
  omega

mutual
theorem nd_le : ∀ (t : Ty) (d m : Nat), t.nd d = some m → 1 ≤ m ∧ m < 2 ^ d
  | .mk k n ks, 0, m, h => by rw [nd_zero] at h; cases h
  | .mk k n ks, d + 1, m, h => by
    rw [nd_succ] at h
    split at h
    · rename_i hh
      have hl := headB_len hh
      obtain ⟨s, hs, rfl⟩ := Option.map_eq_some_iff.1 h
      have := ndl_le ks d s hs
      have e : 2 ^ (d + 1) = 2 * 2 ^ d := by rw [Nat.pow_succ]; omega
      have p : 0 < 2 ^ d := Nat.two_pow_pos d
      have : s ≤ ks.length * (2 ^ d - 1) := by omega
      have : ks.length * (2 ^ d - 1) ≤ 2 * (2 ^ d - 1) := Nat.mul_le_mul_right _ hl
      omega
    · cases h
theorem ndl_le : ∀ (ks : List Ty) (d s : Nat), ndl ks d = some s → s ≤ ks.length * (2 ^ d - 1)
  | [], d, s, h => by simp [ndl, Ty.nd.ndl] at h; omega
  | t :: ts, d, s, h => by
    rw [ndl_cons] at h
    cases h1 : t.nd d with
    | none => rw [h1] at h; simp at h
    | some a =>
      cases h2 : ndl ts d with
      | none => rw [h1, h2] at h; simp at h
      | some b =>
        rw [h1, h2] at h
        simp at h
        have := nd_le t d a h1
        have := ndl_le ts d b h2
        have e : (ts.length + 1) * (2 ^ d - 1) = ts.length * (2 ^ d - 1) + (2 ^ d - 1) := by rw [Nat.add_mul, Nat.one_mul]
        rw [List.length_cons, e]
        omega
end

/-- As Go counts: -1 for none. -/
def ndI (t : Ty) (d : Nat) : Int := match t.nd d with | some m => m | none => -1

theorem ndI_some {t : Ty} {d m : Nat} (h : t.nd d = some m) : ndI t d = m := by unfold ndI; rw [h]
theorem ndI_none {t : Ty} {d : Nat} (h : t.nd d = none) : ndI t d = -1 := by unfold ndI; rw [h]

theorem nd_small {t : Ty} {d m : Nat} (hd : d ≤ 6) (h : t.nd d = some m) : 1 ≤ m ∧ m ≤ 63 := by
  have := nd_le t d m h
  have : 2 ^ d ≤ 2 ^ 6 := Nat.pow_le_pow_right (by omega) hd
  omega

theorem ndl_small {ks : List Ty} {d s : Nat} (hd : d ≤ 6) (hl : ks.length ≤ 2) (h : ndl ks d = some s) : s ≤ 126 := by
  have h1 := ndl_le ks d s h
  have h2 : 2 ^ d ≤ 2 ^ 6 := Nat.pow_le_pow_right (by omega) hd
  have h3 : ks.length * (2 ^ d - 1) ≤ 2 * 63 := Nat.mul_le_mul hl (by omega)
  omega

/-- Is the type valid? -/
def validB (t : Ty) : Bool := match t.nd 6 with | some m => decide (m ≤ 16) | none => false
/-- Its size, 0 for an invalid one. -/
def sizeN (t : Ty) : Nat := match t.nd 6 with | some m => if m ≤ 16 then m else 0 | none => 0

end Go.Proofs.Ytbbldkhlclfmkaa.Con

namespace Go.Proofs.Ytbbldkhlclfmkaa.Con
open Go.RowKit
set_option linter.unusedVariables false

theorem spec_nodes_zero (t : LT) (w : World) : Calls Try.prog 83 #[t.val, .int .i64 0] w (IntGw (-1) w) := by
  go_enter Try.func83, Try.ntmps83
  go_wp2_with fail
  go_ret
  exact ⟨rfl, (Gw.refl w).alloc _⟩

/-- A number that is no kind. -/
theorem spec_nodes_kind (k : Int) (n : ByteArray) (s : Value) (hs : ∃ a l c, s = .slice a l c) (d : Int) (hd : 1 ≤ d) (h1 : (k == 1) = false) (h2 : (k == 2) = false) (h3 : (k == 3) = false) (h4 : (k == 4) = false) (w : World) :
    Calls Try.prog 83 #[.agg #[.int .i64 k, .string n, s], .int .i64 d] w (IntGw (-1) w) := by
  obtain ⟨a, l, c, rfl⟩ := hs
  go_enter Try.func83, Try.ntmps83
  go_wp2_with fail
  go_ret
  exact ⟨rfl, (Gw.refl w).alloc _⟩

/-- A data type's node with a name that is none. -/
theorem spec_nodes_data (n : ByteArray) (hn : n.size ≤ 9223372036854775807) (a : Option Addr) (l c : Nat) (d : Int) (hd : 1 ≤ d) (hb : dataB n = false) (w : World) :
    Calls Try.prog 83 #[.agg #[.int .i64 2, .string n, .slice a l c], .int .i64 d] w (IntGw (-1) w) := by
  cases hu : upperB n with
  | false =>
    have HB := Lib.hid hb
    clear hb
    go_enter Try.func83, Try.ntmps83
    go_wp2_with fail
    refine (spec_upper _ hn _).mono ?_
    rw [hu]
    rintro e w1 ⟨rfl, hg⟩
    go_wp2_with fail
    go_ret
    exact ⟨rfl, ((Gw.refl w).alloc _).trans hg⟩
  | true =>
    have hi : (n.toList == [73, 110, 116]) = true := by unfold dataB at hb; rw [hu] at hb; simpa using hb
    have HB := Lib.hid hb
    clear hb
    go_enter Try.func83, Try.ntmps83
    go_wp2_with fail
    refine (spec_upper _ hn _).mono ?_
    rw [hu]
    rintro e w1 ⟨rfl, hg⟩
    obtain ⟨hc, hf⟩ := bcell hg
    go_wp2_with fail
    go_ret
    exact ⟨rfl, ((Gw.refl w).alloc _).trans hg⟩

def ndS (o : Option Nat) : Int := match o with | some s => s + 1 | none => -1

theorem spec_nodes_loopfacts {ks : List LT} {j : Nat} {d s : Nat} (hj : j < ks.length) (h : ndl ((ks.take j).map LT.ty) d = some s) :
    (∀ m, (ks[j]).ty.nd d = some m → ndl ((ks.take (j + 1)).map LT.ty) d = some (s + m)) ∧ ((ks[j]).ty.nd d = none → ndl (ks.map LT.ty) d = none) := by
  have hj' : j < (ks.map LT.ty).length := by simpa using hj
  have e : (ks.map LT.ty)[j] = ks[j].ty := by simp
  have h1 := ndl_take (ks.map LT.ty) d j hj'
  rw [e, ← List.map_take, ← List.map_take, h] at h1
  exact ⟨fun m hm => by rw [h1, hm], fun hm => ndl_none (t := ks[j].ty) (List.mem_map.2 ⟨_, List.getElem_mem hj, rfl⟩) hm⟩

theorem spec_nodes_int_len (n : ByteArray) (hn : n.size ≤ 9223372036854775807) (a : Option Addr) (l c : Nat) (hl : l ≤ 9223372036854775807) (d : Int) (hd : 1 ≤ d) (hm : ((l : Int) == 0) = false) (hm0 : ¬ l = 0) (w : World) :
    Calls Try.prog 83 #[.agg #[.int .i64 1, .string n, .slice a l c], .int .i64 d] w (IntGw (-1) w) := by
  go_enter Try.func83, Try.ntmps83
  go_wp2_with fail
  go_ret
  exact ⟨rfl, (Gw.refl w).alloc _⟩

theorem spec_nodes_int_name (n : ByteArray) (a : Option Addr) (c : Nat) (d : Int) (hd : 1 ≤ d) (hm : n.toList.isEmpty = false) (w : World) :
    Calls Try.prog 83 #[.agg #[.int .i64 1, .string n, .slice a 0 c], .int .i64 d] w (IntGw (-1) w) := by
  go_enter Try.func83, Try.ntmps83
  go_wp2_with fail
  go_ret
  exact ⟨rfl, (Gw.refl w).alloc _⟩

theorem spec_nodes_int (n : ByteArray) (hm : n.toList.isEmpty = true) (a : Option Addr) (c : Nat) (ks : List LT) (hl : ks.length = 0) (d : Nat) (hd : d ≤ 5)
    (ih : ∀ u ∈ ks, ∀ (w : World), u.Ok w → Calls Try.prog 83 #[u.val, .int .i64 d] w (IntGw (ndI u.ty d) w)) (w : World) (hk : slOk w a c ks) :
    Calls Try.prog 83 #[.agg #[.int .i64 1, .string n, .slice a 0 c], .int .i64 (d + 1)] w (IntGw (ndS (ndl (ks.map LT.ty) d)) w) := by
  have hrow := hk.2.2
  clear hk
  have HL := Lib.hid hl
  clear hl
  go_enter Try.func83, Try.ntmps83
  go_wp2_with fail
  go_loopw [6, 7, 8] (fun m i _ wr => ∃ j s : Nat, j ≤ ks.length ∧ i = .int .i64 j ∧ ndl ((ks.take j).map LT.ty) d = some s ∧ m = .int .i64 (s + 1) ∧ Gw (w.alloc (.cells #[.int .i64 1, .string n, .slice a 0 c] 29)) wr) (fun _ i _ _ => ks.length - (intOf i).toNat)
  case atStart => exact ⟨0, 0, by omega, rfl, by simp [ndl, Ty.nd.ndl], rfl, Gw.refl _⟩
  case round =>
    obtain ⟨j, s, hj, rfl, hs, rfl, hg⟩ := hrel
    have hlen := HL.out
    obtain ⟨hc, hf⟩ := bcell hg
    have hs1 := ndl_small (ks := (ks.take j).map LT.ty) (d := d) (by omega) (by simp; omega) hs
    have HS := Lib.hid hs
    clear hs
    by_cases hlt : j < ks.length
    · exact absurd hlt (by omega)
    · obtain rfl : j = ks.length := by omega
      have hj2 : ¬ ((ks.length : Int) < 0) := by omega
      clear hlen
      go_wp2_with fail
      go_ret
      exact ⟨ret_int (by have := HS.out; rw [List.take_length] at this; rw [this]; rfl), ((Gw.refl w).alloc _).trans hg⟩

theorem spec_nodes_dat_len (n : ByteArray) (hn : n.size ≤ 9223372036854775807) (a : Option Addr) (l c : Nat) (hl : l ≤ 9223372036854775807) (d : Int) (hd : 1 ≤ d) (hu : upperB n = true) (hi : (n.toList == [73, 110, 116]) = false) (hm : ((l : Int) == 0) = false) (hm0 : ¬ l = 0) (w : World) :
    Calls Try.prog 83 #[.agg #[.int .i64 2, .string n, .slice a l c], .int .i64 d] w (IntGw (-1) w) := by
  go_enter Try.func83, Try.ntmps83
  go_wp2_with fail
  refine (spec_upper _ hn _).mono ?_
  rw [hu]
  rintro e w1 ⟨rfl, hg⟩
  obtain ⟨hc, hf⟩ := bcell hg
  go_wp2_with fail
  go_ret
  exact ⟨rfl, ((Gw.refl w).alloc _).trans hg⟩

theorem spec_nodes_dat (n : ByteArray) (hn : n.size ≤ 9223372036854775807) (hu : upperB n = true) (hi : (n.toList == [73, 110, 116]) = false) (a : Option Addr) (c : Nat) (ks : List LT) (hl : ks.length = 0) (d : Nat) (hd : d ≤ 5)
    (ih : ∀ u ∈ ks, ∀ (w : World), u.Ok w → Calls Try.prog 83 #[u.val, .int .i64 d] w (IntGw (ndI u.ty d) w)) (w : World) (hk : slOk w a c ks) :
    Calls Try.prog 83 #[.agg #[.int .i64 2, .string n, .slice a 0 c], .int .i64 (d + 1)] w (IntGw (ndS (ndl (ks.map LT.ty) d)) w) := by
  have hrow := hk.2.2
  clear hk
  have HL := Lib.hid hl
  clear hl
  go_enter Try.func83, Try.ntmps83
  go_wp2_with fail
  refine (spec_upper _ hn _).mono ?_
  rw [hu]
  rintro e w1 ⟨rfl, hg⟩
  obtain ⟨hc, hf⟩ := bcell hg
  go_wp2_with fail
  go_loopw [6, 7, 8] (fun m i _ wr => ∃ j s : Nat, j ≤ ks.length ∧ i = .int .i64 j ∧ ndl ((ks.take j).map LT.ty) d = some s ∧ m = .int .i64 (s + 1) ∧ Gw (w.alloc (.cells #[.int .i64 2, .string n, .slice a 0 c] 29)) wr) (fun _ i _ _ => ks.length - (intOf i).toNat)
  case atStart => exact ⟨0, 0, by omega, rfl, by simp [ndl, Ty.nd.ndl], rfl, hg⟩
  case round =>
    obtain ⟨j, s, hj, rfl, hs, rfl, hg⟩ := hrel
    have hlen := HL.out
    obtain ⟨hc, hf⟩ := bcell hg
    have hs1 := ndl_small (ks := (ks.take j).map LT.ty) (d := d) (by omega) (by simp; omega) hs
    have HS := Lib.hid hs
    clear hs
    by_cases hlt : j < ks.length
    · exact absurd hlt (by omega)
    · obtain rfl : j = ks.length := by omega
      have hj2 : ¬ ((ks.length : Int) < 0) := by omega
      clear hlen
      go_wp2_with fail
      go_ret
      exact ⟨ret_int (by have := HS.out; rw [List.take_length] at this; rw [this]; rfl), ((Gw.refl w).alloc _).trans hg⟩

theorem spec_nodes_fun_len (n : ByteArray) (hn : n.size ≤ 9223372036854775807) (a : Option Addr) (l c : Nat) (hl : l ≤ 9223372036854775807) (d : Int) (hd : 1 ≤ d) (hm : ((l : Int) == 2) = false) (hm0 : ¬ (l : Int) = 2) (w : World) :
    Calls Try.prog 83 #[.agg #[.int .i64 3, .string n, .slice a l c], .int .i64 d] w (IntGw (-1) w) := by
  go_enter Try.func83, Try.ntmps83
  go_wp2_with fail
  go_ret
  exact ⟨rfl, (Gw.refl w).alloc _⟩

theorem spec_nodes_fun_name (n : ByteArray) (a : Option Addr) (c : Nat) (d : Int) (hd : 1 ≤ d) (hm : n.toList.isEmpty = false) (w : World) :
    Calls Try.prog 83 #[.agg #[.int .i64 3, .string n, .slice a 2 c], .int .i64 d] w (IntGw (-1) w) := by
  go_enter Try.func83, Try.ntmps83
  go_wp2_with fail
  go_ret
  exact ⟨rfl, (Gw.refl w).alloc _⟩

theorem spec_nodes_fun (n : ByteArray) (hm : n.toList.isEmpty = true) (a : Option Addr) (c : Nat) (ks : List LT) (hl : ks.length = 2) (d : Nat) (hd : d ≤ 5)
    (ih : ∀ u ∈ ks, ∀ (w : World), u.Ok w → Calls Try.prog 83 #[u.val, .int .i64 d] w (IntGw (ndI u.ty d) w)) (w : World) (hk : slOk w a c ks) :
    Calls Try.prog 83 #[.agg #[.int .i64 3, .string n, .slice a 2 c], .int .i64 (d + 1)] w (IntGw (ndS (ndl (ks.map LT.ty) d)) w) := by
  have hrow := hk.2.2
  clear hk
  have HL := Lib.hid hl
  clear hl
  go_enter Try.func83, Try.ntmps83
  go_wp2_with fail
  go_loopw [6, 7, 8] (fun m i _ wr => ∃ j s : Nat, j ≤ ks.length ∧ i = .int .i64 j ∧ ndl ((ks.take j).map LT.ty) d = some s ∧ m = .int .i64 (s + 1) ∧ Gw (w.alloc (.cells #[.int .i64 3, .string n, .slice a 2 c] 29)) wr) (fun _ i _ _ => ks.length - (intOf i).toNat)
  case atStart => exact ⟨0, 0, by omega, rfl, by simp [ndl, Ty.nd.ndl], rfl, Gw.refl _⟩
  case round =>
    obtain ⟨j, s, hj, rfl, hs, rfl, hg⟩ := hrel
    have hlen := HL.out
    obtain ⟨hc, hf⟩ := bcell hg
    have hs1 := ndl_small (ks := (ks.take j).map LT.ty) (d := d) (by omega) (by simp; omega) hs
    have HS := Lib.hid hs
    clear hs
    by_cases hlt : j < ks.length
    · obtain ⟨b, o, rfl, hr⟩ := hrow.resolve_left (fun e => by subst e; simp at hlt)
      obtain ⟨c0, c1, c2, hok⟩ := rowOk_get ((hr.grow ((Below.refl _ _).alloc (Nat.le_refl _) _)).grow hg) j hlt
      have lf := Lib.hid (spec_nodes_loopfacts hlt HS.out)
      have hj2 : (j : Int) < 2 := by omega
      clear hlen hrow
      cases hnd : (ks[j]).ty.nd d with
      | some m =>
        have hm := nd_small (by omega) hnd
        have hi' := ndI_some hnd
        have HI := Lib.hid hi'
        have HN := Lib.hid hnd
        clear hi' hnd
        go_wp2_with fail
        refine (ih ks[j] (List.getElem_mem hlt) _ hok).mono ?_
        rw [HI.out]
        rintro e w1 ⟨rfl, hg1⟩
        have hg2 := hg.trans hg1
        clear c0 c1 c2 hc hf
        go_wp2_with fail
        go_roundw
        case rel => exact ⟨j + 1, s + m, by omega, by go_num, lf.out.1 m HN.out, by congr 1; omega, hg2⟩
        case measure => simp [intOf]; omega
      | none =>
        have hi' := ndI_none hnd
        have HI := Lib.hid hi'
        have HN := Lib.hid hnd
        clear hi' hnd
        go_wp2_with fail
        refine (ih ks[j] (List.getElem_mem hlt) _ hok).mono ?_
        rw [HI.out]
        rintro e w1 ⟨rfl, hg1⟩
        have hg2 := hg.trans hg1
        clear c0 c1 c2 hc hf
        go_wp2_with fail
        go_ret
        exact ⟨ret_int (by rw [lf.out.2 HN.out]; rfl), ((Gw.refl w).alloc _).trans hg2⟩
    · obtain rfl : j = ks.length := by omega
      have hj2 : ¬ ((ks.length : Int) < 2) := by omega
      clear hlen
      go_wp2_with fail
      go_ret
      exact ⟨ret_int (by have := HS.out; rw [List.take_length] at this; rw [this]; rfl), ((Gw.refl w).alloc _).trans hg⟩

theorem spec_nodes_bang_len (n : ByteArray) (hn : n.size ≤ 9223372036854775807) (a : Option Addr) (l c : Nat) (hl : l ≤ 9223372036854775807) (d : Int) (hd : 1 ≤ d) (hm : ((l : Int) == 1) = false) (hm0 : ¬ (l : Int) = 1) (w : World) :
    Calls Try.prog 83 #[.agg #[.int .i64 4, .string n, .slice a l c], .int .i64 d] w (IntGw (-1) w) := by
  go_enter Try.func83, Try.ntmps83
  go_wp2_with fail
  go_ret
  exact ⟨rfl, (Gw.refl w).alloc _⟩

theorem spec_nodes_bang_name (n : ByteArray) (a : Option Addr) (c : Nat) (d : Int) (hd : 1 ≤ d) (hm : n.toList.isEmpty = false) (w : World) :
    Calls Try.prog 83 #[.agg #[.int .i64 4, .string n, .slice a 1 c], .int .i64 d] w (IntGw (-1) w) := by
  go_enter Try.func83, Try.ntmps83
  go_wp2_with fail
  go_ret
  exact ⟨rfl, (Gw.refl w).alloc _⟩

theorem spec_nodes_bang (n : ByteArray) (hm : n.toList.isEmpty = true) (a : Option Addr) (c : Nat) (ks : List LT) (hl : ks.length = 1) (d : Nat) (hd : d ≤ 5)
    (ih : ∀ u ∈ ks, ∀ (w : World), u.Ok w → Calls Try.prog 83 #[u.val, .int .i64 d] w (IntGw (ndI u.ty d) w)) (w : World) (hk : slOk w a c ks) :
    Calls Try.prog 83 #[.agg #[.int .i64 4, .string n, .slice a 1 c], .int .i64 (d + 1)] w (IntGw (ndS (ndl (ks.map LT.ty) d)) w) := by
  have hrow := hk.2.2
  clear hk
  have HL := Lib.hid hl
  clear hl
  go_enter Try.func83, Try.ntmps83
  go_wp2_with fail
  go_loopw [6, 7, 8] (fun m i _ wr => ∃ j s : Nat, j ≤ ks.length ∧ i = .int .i64 j ∧ ndl ((ks.take j).map LT.ty) d = some s ∧ m = .int .i64 (s + 1) ∧ Gw (w.alloc (.cells #[.int .i64 4, .string n, .slice a 1 c] 29)) wr) (fun _ i _ _ => ks.length - (intOf i).toNat)
  case atStart => exact ⟨0, 0, by omega, rfl, by simp [ndl, Ty.nd.ndl], rfl, Gw.refl _⟩
  case round =>
    obtain ⟨j, s, hj, rfl, hs, rfl, hg⟩ := hrel
    have hlen := HL.out
    obtain ⟨hc, hf⟩ := bcell hg
    have hs1 := ndl_small (ks := (ks.take j).map LT.ty) (d := d) (by omega) (by simp; omega) hs
    have HS := Lib.hid hs
    clear hs
    by_cases hlt : j < ks.length
    · obtain ⟨b, o, rfl, hr⟩ := hrow.resolve_left (fun e => by subst e; simp at hlt)
      obtain ⟨c0, c1, c2, hok⟩ := rowOk_get ((hr.grow ((Below.refl _ _).alloc (Nat.le_refl _) _)).grow hg) j hlt
      have lf := Lib.hid (spec_nodes_loopfacts hlt HS.out)
      have hj2 : (j : Int) < 1 := by omega
      clear hlen hrow
      cases hnd : (ks[j]).ty.nd d with
      | some m =>
        have hm := nd_small (by omega) hnd
        have hi' := ndI_some hnd
        have HI := Lib.hid hi'
        have HN := Lib.hid hnd
        clear hi' hnd
        go_wp2_with fail
        refine (ih ks[j] (List.getElem_mem hlt) _ hok).mono ?_
        rw [HI.out]
        rintro e w1 ⟨rfl, hg1⟩
        have hg2 := hg.trans hg1
        clear c0 c1 c2 hc hf
        go_wp2_with fail
        go_roundw
        case rel => exact ⟨j + 1, s + m, by omega, by go_num, lf.out.1 m HN.out, by congr 1; omega, hg2⟩
        case measure => simp [intOf]; omega
      | none =>
        have hi' := ndI_none hnd
        have HI := Lib.hid hi'
        have HN := Lib.hid hnd
        clear hi' hnd
        go_wp2_with fail
        refine (ih ks[j] (List.getElem_mem hlt) _ hok).mono ?_
        rw [HI.out]
        rintro e w1 ⟨rfl, hg1⟩
        have hg2 := hg.trans hg1
        clear c0 c1 c2 hc hf
        go_wp2_with fail
        go_ret
        exact ⟨ret_int (by rw [lf.out.2 HN.out]; rfl), ((Gw.refl w).alloc _).trans hg2⟩
    · obtain rfl : j = ks.length := by omega
      have hj2 : ¬ ((ks.length : Int) < 1) := by omega
      clear hlen
      go_wp2_with fail
      go_ret
      exact ⟨ret_int (by have := HS.out; rw [List.take_length] at this; rw [this]; rfl), ((Gw.refl w).alloc _).trans hg⟩

theorem ndI_head {k : Int} {n : ByteArray} {ks : List Ty} {d : Nat} (h : headB k n ks.length = true) : ndI (.mk k n ks) (d + 1) = ndS (ndl ks d) := by
  unfold ndI ndS; rw [nd_succ, h]; cases ndl ks d <;> simp
theorem ndI_nohead {k : Int} {n : ByteArray} {ks : List Ty} {d : Nat} (h : headB k n ks.length = false) : ndI (.mk k n ks) (d + 1) = -1 := by
  unfold ndI; rw [nd_succ, h]; simp

theorem spec_nodes (t : LT) : ∀ (d : Nat) (w : World), d ≤ 6 → t.Ok w → Calls Try.prog 83 #[t.val, .int .i64 d] w (IntGw (ndI t.ty d) w) := by
  refine LT.ind (P := fun t => ∀ (d : Nat) (w : World), d ≤ 6 → t.Ok w → Calls Try.prog 83 #[t.val, .int .i64 d] w (IntGw (ndI t.ty d) w)) (fun k n a c ks ih d w hd h => ?_) t
  have hn : n.size ≤ 9223372036854775807 := h.nm
  have hl : ks.length ≤ 9223372036854775807 := Nat.le_trans h.kids.1 h.kids.2.1
  cases d with
  | zero =>
    rw [show ndI (LT.mk k n a c ks).ty 0 = -1 from ndI_none (nd_zero _)]
    exact spec_nodes_zero _ w
  | succ d =>
    have ih' : ∀ u ∈ ks, ∀ (w : World), u.Ok w → Calls Try.prog 83 #[u.val, .int .i64 d] w (IntGw (ndI u.ty d) w) := fun u hu w1 h1 => ih u hu d w1 (by omega) h1
    have ety : (LT.mk k n a c ks).ty = .mk k n (ks.map LT.ty) := LT.ty_eq _
    have el : (ks.map LT.ty).length = ks.length := List.length_map _
    have hsl : slOk w a c ks := h.kids
    rw [ety, show ((d + 1 : Nat) : Int) = (d : Int) + 1 from by omega]
    show Calls Try.prog 83 #[.agg #[.int .i64 k, .string n, .slice a ks.length c], .int .i64 ((d : Int) + 1)] w _
    by_cases h1 : k = 1
    · subst h1
      by_cases hm : ks.length = 0
      · cases he : n.toList.isEmpty with
        | true =>
          rw [ndI_head (by rw [el, hm]; unfold headB; simp [he]), hm]
          exact spec_nodes_int n he a c ks hm d (by omega) ih' w hsl
        | false =>
          rw [ndI_nohead (by rw [el, hm]; unfold headB; simp [he]), hm]
          exact spec_nodes_int_name n a c _ (by omega) he w
      · rw [ndI_nohead (by rw [el]; unfold headB; simp [hm])]
        exact spec_nodes_int_len n hn a _ c hl _ (by omega) (by simpa using hm) hm w
    by_cases h2 : k = 2
    · subst h2
      cases hb : dataB n with
      | false =>
        rw [ndI_nohead (by unfold headB; simp [hb])]
        exact spec_nodes_data n hn a _ c _ (by omega) hb w
      | true =>
        have hu : upperB n = true := by unfold dataB at hb; simp at hb; exact hb.1
        have hi : (n.toList == [73, 110, 116]) = false := by unfold dataB at hb; simp at hb; simpa using hb.2
        by_cases hm : ks.length = 0
        · rw [ndI_head (by rw [el, hm]; unfold headB; simp [hb]), hm]
          exact spec_nodes_dat n hn hu hi a c ks hm d (by omega) ih' w hsl
        · rw [ndI_nohead (by rw [el]; unfold headB; simp [hm])]
          exact spec_nodes_dat_len n hn a _ c hl _ (by omega) hu hi (by simpa using hm) hm w
    by_cases h3 : k = 3
    · subst h3
      by_cases hm : ks.length = 2
      · cases he : n.toList.isEmpty with
        | true =>
          rw [ndI_head (by rw [el, hm]; unfold headB; simp [he]), hm]
          exact spec_nodes_fun n he a c ks hm d (by omega) ih' w hsl
        | false =>
          rw [ndI_nohead (by rw [el, hm]; unfold headB; simp [he]), hm]
          exact spec_nodes_fun_name n a c _ (by omega) he w
      · rw [ndI_nohead (by rw [el]; unfold headB; simp [hm])]
        exact spec_nodes_fun_len n hn a _ c hl _ (by omega) (by simp; omega) (by omega) w
    by_cases h4 : k = 4
    · subst h4
      by_cases hm : ks.length = 1
      · cases he : n.toList.isEmpty with
        | true =>
          rw [ndI_head (by rw [el, hm]; unfold headB; simp [he]), hm]
          exact spec_nodes_bang n he a c ks hm d (by omega) ih' w hsl
        | false =>
          rw [ndI_nohead (by rw [el, hm]; unfold headB; simp [he]), hm]
          exact spec_nodes_bang_name n a c _ (by omega) he w
      · rw [ndI_nohead (by rw [el]; unfold headB; simp [hm])]
        exact spec_nodes_bang_len n hn a _ c hl _ (by omega) (by simp; omega) (by omega) w
    · rw [ndI_nohead (by unfold headB; simp [h1, h2, h3, h4])]
      exact spec_nodes_kind k n _ ⟨_, _, _, rfl⟩ _ (by omega) (by simpa using h1) (by simpa using h2) (by simpa using h3) (by simpa using h4) w

theorem spec_in (n : Int) (h0 : -1 ≤ n) (h1 : n ≤ 63) (w : World) : Calls Try.prog 82 #[.int .i64 n, .int .i64 1, .int .i64 16] w fun e w' => e = .returned (.bool (decide (1 ≤ n) && decide (n ≤ 16))) ∧ w = w' := by
  by_cases hn : 1 ≤ n
  · have h : decide (1 ≤ n) = true := by simpa using hn
    go_enter Try.func82, Try.ntmps82
    go_wp2_with fail
    go_ret
    exact ⟨by simp [hn], rfl⟩
  · have h : decide (1 ≤ n) = false := by simpa using hn
    go_enter Try.func82, Try.ntmps82
    go_wp2_with fail
    go_ret
    exact ⟨by simp, rfl⟩

theorem ndI_bd (t : Ty) : -1 ≤ ndI t 6 ∧ ndI t 6 ≤ 63 := by
  unfold ndI
  cases h : t.nd 6 with
  | none => simp
  | some m => have := nd_small (Nat.le_refl 6) h; simp; omega

theorem valid_ndI (t : Ty) : (decide (1 ≤ ndI t 6) && decide (ndI t 6 ≤ 16)) = validB t := by
  unfold ndI validB
  cases h : t.nd 6 with
  | none => simp
  | some m =>
    have := nd_small (Nat.le_refl 6) h
    rw [Bool.eq_iff_iff]
    simp
    omega

theorem spec_valid (t : LT) (w : World) (h : t.Ok w) : Calls Try.prog 42 #[t.val] w (BoolGw (validB t.ty) w) := by
  have hv := Lib.hid (valid_ndI t.ty)
  obtain ⟨b0, b1⟩ := ndI_bd t.ty
  have key := spec_nodes t 6 (w.alloc (.cells #[.int .i64 t.k, .string t.n, .slice t.a t.ks.length t.cap] 29)) (by omega) (h.grow ((Below.refl _ _).alloc (Nat.le_refl _) _))
  go_enter Try.func42, Try.ntmps42
  go_wp2_with fail
  refine key.mono ?_
  rintro e w1 ⟨rfl, hg⟩
  go_wp2_with fail
  refine (spec_in _ b0 b1 _).mono ?_
  rintro e w2 ⟨rfl, rfl⟩
  go_wp2_with fail
  go_ret
  exact ⟨ret_b hv.out, ((Gw.refl w).alloc _).trans hg⟩

theorem size_ndI (t : Ty) (h : validB t = true) : ndI t 6 = sizeN t := by
  unfold ndI sizeN validB at *
  cases h' : t.nd 6 with
  | none => rw [h'] at h; cases h
  | some m => rw [h'] at h; simp at h; simp [h]

theorem size_zero (t : Ty) (h : validB t = false) : sizeN t = 0 := by
  unfold sizeN validB at *
  cases h' : t.nd 6 with
  | none => simp
  | some m => rw [h'] at h; simp at h; simp; omega

end Go.Proofs.Ytbbldkhlclfmkaa.Con
