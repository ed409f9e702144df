/-
  The text of a valid type, and the contracts of the model's l02Text, l02Closed and TypeText. No condition but that the type lies in memory.
-/
import Derived.Test.YtbbldkhlclfmkaaTyValid
import Derived.Deep.RegionHeld3
namespace Go.Proofs.Ytbbldkhlclfmkaa.Con
open Go.RowKit
set_option linter.unusedVariables false

def Ty.kd : Ty → Int | .mk k _ _ => k
def clo (k : Int) (s : List UInt8) : List UInt8 := if k = 3 then 40 :: (s ++ [41]) else s
def formT (k : Int) (n : ByteArray) (kd : List Int) (ts : List (List UInt8)) : List UInt8 :=
  if k = 1 then [73, 110, 116] else if k = 2 then n.data.toList else if k = 3 then clo (kd.getD 0 0) (ts.getD 0 []) ++ [32, 45, 62, 32] ++ ts.getD 1 [] else 33 :: clo (kd.getD 0 0) (ts.getD 0 [])

/-- The text of a type. -/
def Ty.txt : Ty → List UInt8
  | .mk k n ks => formT k n (ks.map Ty.kd) (txts ks)
where txts : List Ty → List (List UInt8)
  | [] => []
  | t :: ts => t.txt :: txts ts

theorem txts_eq (ks : List Ty) : Ty.txt.txts ks = ks.map Ty.txt := by
  induction ks with
  | nil => rfl
  | cons t ts ih => simp only [Ty.txt.txts, List.map_cons, ih]

theorem txt_eq (k : Int) (n : ByteArray) (ks : List Ty) : (Ty.mk k n ks).txt = formT k n (ks.map Ty.kd) (ks.map Ty.txt) := by rw [Ty.txt, txts_eq]

/-- A type of a valid form, m nodes. -/
def Wf (t : Ty) (m : Nat) : Prop := ∃ d, d ≤ 6 ∧ t.nd d = some m

theorem Wf.of_valid {t : Ty} (h : validB t = true) : ∃ m, Wf t m ∧ m ≤ 16 := by
  unfold validB at h
  cases h' : t.nd 6 with
  | none => rw [h'] at h; cases h
  | some m => rw [h'] at h; exact ⟨m, ⟨6, Nat.le_refl _, h'⟩, by simpa using h⟩

theorem wf_all {ks : List Ty} {d s : Nat} (hd : d ≤ 6) (h : ndl ks d = some s) : ∀ u ∈ ks, ∃ m, Wf u m ∧ m ≤ s := by
  intro u hu
  induction ks generalizing s with
  | nil => cases hu
  | cons t ts ih =>
    rw [ndl_cons] at h
    cases h1 : t.nd d with
    | none => rw [h1] at h; simp at h
    | some a =>
      cases h2 : ndl ts d with
      | none => rw [h1, h2] at h; simp at h
      | some b =>
        rw [h1, h2] at h
        simp at h
        rcases List.mem_cons.1 hu with rfl | hu
        · exact ⟨a, ⟨d, hd, h1⟩, by omega⟩
        · obtain ⟨m, hm, hl⟩ := ih h2 hu
          exact ⟨m, hm, by omega⟩

theorem Wf.head {k : Int} {n : ByteArray} {ks : List Ty} {m : Nat} (h : Wf (.mk k n ks) m) : headB k n ks.length = true ∧ ∃ d s, d ≤ 5 ∧ ndl ks d = some s ∧ m = s + 1 := by
  obtain ⟨d, hd, h⟩ := h
  cases d with
  | zero => rw [nd_zero] at h; cases h
  | succ d =>
    rw [nd_succ] at h
    cases hh : headB k n ks.length with
    | false => rw [hh] at h; cases h
    | true =>
      rw [hh] at h
      obtain ⟨s, hs, rfl⟩ := Option.map_eq_some_iff.1 h
      exact ⟨rfl, d, s, by omega, hs, rfl⟩

theorem dataB_size {n : ByteArray} (h : dataB n = true) : n.size ≤ 12 := by
  have hu : upperB n = true := by unfold dataB at h; simp at h; exact h.1
  have hn : nameB n = true := by unfold upperB at hu; simp at hu; exact hu.1
  obtain ⟨o1, o2, _⟩ := name_out n hn
  omega

theorem clo_len (k : Int) (s : List UInt8) : (clo k s).length ≤ s.length + 2 := by unfold clo; split <;> simp

theorem ndl_two {x y : Ty} {d s : Nat} (h : ndl [x, y] d = some s) : ∃ a b, x.nd d = some a ∧ y.nd d = some b ∧ s = a + b := by
  rw [ndl_cons] at h
  cases h1 : x.nd d with
  | none => rw [h1] at h; simp at h
  | some a =>
    rw [h1, ndl_cons] at h
    cases h2 : y.nd d with
    | none => rw [h2] at h; simp at h
    | some b =>
      rw [h2] at h
      simp [ndl, Ty.nd.ndl] at h
      exact ⟨a, b, rfl, rfl, h.symm⟩

theorem ndl_one {x : Ty} {d s : Nat} (h : ndl [x] d = some s) : x.nd d = some s := by
  rw [ndl_cons] at h
  cases h1 : x.nd d with
  | none => rw [h1] at h; simp at h
  | some a =>
    rw [h1] at h
    simp [ndl, Ty.nd.ndl] at h
    rw [h]

/-- The four makes of a valid node. -/
theorem Wf.cases {k : Int} {n : ByteArray} {ks : List Ty} {m : Nat} (h : Wf (.mk k n ks) m) :
    (k = 1 ∧ n.toList.isEmpty = true ∧ ks = []) ∨ (k = 2 ∧ dataB n = true ∧ ks = []) ∨ (k = 3 ∧ n.toList.isEmpty = true ∧ ∃ x y a b, ks = [x, y] ∧ Wf x a ∧ Wf y b ∧ m = a + b + 1) ∨ (k = 4 ∧ n.toList.isEmpty = true ∧ ∃ x a, ks = [x] ∧ Wf x a ∧ m = a + 1) := by
  obtain ⟨hh, d, s, hd, hs, rfl⟩ := h.head
  rcases head_cases hh with ⟨rfl, he, hm⟩ | ⟨rfl, he, hm⟩ | ⟨rfl, he, hm⟩ | ⟨rfl, he, hm⟩
  · exact .inl ⟨rfl, he, List.eq_nil_of_length_eq_zero hm⟩
  · exact .inr (.inl ⟨rfl, he, List.eq_nil_of_length_eq_zero hm⟩)
  · match ks, hm with
    | [x, y], _ =>
      obtain ⟨a, b, h1, h2, rfl⟩ := ndl_two hs
      exact .inr (.inr (.inl ⟨rfl, he, x, y, a, b, rfl, ⟨d, by omega, h1⟩, ⟨d, by omega, h2⟩, rfl⟩))
  · match ks, hm with
    | [x], _ => exact .inr (.inr (.inr ⟨rfl, he, x, s, rfl, ⟨d, by omega, ndl_one hs⟩, rfl⟩))

theorem txt_le : ∀ (m : Nat) (t : Ty), Wf t m → t.txt.length ≤ 20 * m := by
  intro m
  induction m using Nat.strongRecOn with
  | _ m ih =>
  intro t h
  obtain ⟨k, n, ks⟩ := t
  rw [txt_eq]
  have hm : 1 ≤ m := by
    obtain ⟨d, hd, h⟩ := h
    exact (nd_small hd h).1
  rcases h.cases with ⟨rfl, he, rfl⟩ | ⟨rfl, he, rfl⟩ | ⟨rfl, he, x, y, a, b, rfl, h1, h2, rfl⟩ | ⟨rfl, he, x, a, rfl, h1, rfl⟩
  · simp [formT]; omega
  · have := dataB_size he
    have hs : n.data.toList.length = n.size := by rw [Array.length_toList]; rfl
    simp [formT]
    have : n.data.size = n.size := rfl
    omega
  · have e1 := ih a (by omega) x h1
    have e2 := ih b (by omega) y h2
    have e3 := clo_len (x.kd) x.txt
    simp [formT]
    omega
  · have e1 := ih a (by omega) x h1
    have e3 := clo_len (x.kd) x.txt
    simp [formT]
    omega

/-- A text as Go's string. -/
abbrev str (l : List UInt8) : ByteArray := ⟨l.toArray⟩
theorem str_size (l : List UInt8) : (str l).size = l.length := by show l.toArray.size = _; simp
theorem str_add (a b : List UInt8) : str a ++ str b = str (a ++ b) := by
  apply ByteArray.ext
  rw [ByteArray.data_append]
  simp

def StrGw (l : List UInt8) (w : World) (e : Ending) (w' : World) : Prop := e = .returned (.string (str l)) ∧ Gw w w'

theorem ret_str {a : ByteArray} {l : List UInt8} (h : a = str l) : Ending.returned (.string a) = .returned (.string (str l)) := by rw [h]

theorem run_add_str (a b : ByteArray) (h : a.size + b.size ≤ 9223372036854775807) (W : World) : (binOp .add 9 (.string a) (.string b)).run Try.prog W = .ok (.string (a ++ b)) W := by
  have := run_string_add_sum (P := Try.prog) W a b h
  simp [binOp, this]

theorem Wf.le {t : Ty} {m : Nat} (h : Wf t m) : 1 ≤ m ∧ m ≤ 63 := by
  obtain ⟨d, hd, h⟩ := h
  exact nd_small hd h

theorem LT.ty_k (t : LT) : t.ty.kd = t.k := by rw [LT.ty_eq]; rfl

/-- TypeText: the text of a valid type, no text for an invalid one. -/
def textOf (t : Ty) : List UInt8 := if validB t then t.txt else []

end Go.Proofs.Ytbbldkhlclfmkaa.Con
