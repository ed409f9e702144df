/-
  The text of a valid type, and the contracts of the model's l02Text, l02Closed and TypeText. No condition but that the type lies in memory.
-/
import Derived.Test.YtbjedfbpikfflaaGreatDoorTyValid
import Derived.Deep.RegionHeld3
namespace Go.Proofs.YtbjedfbpikfflaaGreatDoor.Con
open Go.RowKit
set_option linter.unusedVariables false

def Ty.kd : Ty → Int | .mk k _ _ => k
def clo (k : Int) (s : List UInt8) : List UInt8 := if k = 3 then 40 :: (s ++ [41]) else s
def formT (k : Int) (n : ByteArray) (kd : List Int) (ts : List (List UInt8)) : List UInt8 :=
  if k = 1 then [73, 110, 116] else if k = 2 then n.data.toList else if k = 3 then clo (kd.getD 0 0) (ts.getD 0 []) ++ [32, 45, 62, 32] ++ ts.getD 1 [] else 33 :: clo (kd.getD 0 0) (ts.getD 0 [])

/-- The text of a type. -/
def Ty.txt : Ty → List UInt8
  | .mk k n ks => formT k n (ks.map Ty.kd) (txts ks)
where txts : List Ty → List (List UInt8)
  | [] => []
  | t :: ts => t.txt :: txts ts

theorem txts_eq (ks : List Ty) : Ty.txt.txts ks = ks.map Ty.txt := by
  induction ks with
  | nil => rfl
  | cons t ts ih => simp only [Ty.txt.txts, List.map_cons, ih]

theorem txt_eq (k : Int) (n : ByteArray) (ks : List Ty) : (Ty.mk k n ks).txt = formT k n (ks.map Ty.kd) (ks.map Ty.txt) := by rw [Ty.txt, txts_eq]

/-- A type of a valid form, m nodes. -/
def Wf (t : Ty) (m : Nat) : Prop := ∃ d, d ≤ 6 ∧ t.nd d = some m

theorem Wf.of_valid {t : Ty} (h : validB t = true) : ∃ m, Wf t m ∧ m ≤ 16 := by
  unfold validB at h
  cases h' : t.nd 6 with
  | none => rw [h'] at h; cases h
  | some m => rw [h'] at h; exact ⟨m, ⟨6, Nat.le_refl _, h'⟩, by simpa using h⟩

theorem wf_all {ks : List Ty} {d s : Nat} (hd : d ≤ 6) (h : ndl ks d = some s) : ∀ u ∈ ks, ∃ m, Wf u m ∧ m ≤ s := by
  intro u hu
  induction ks generalizing s with
  | nil => cases hu
  | cons t ts ih =>
    rw [ndl_cons] at h
    cases h1 : t.nd d with
    | none => rw [h1] at h; simp at h
    | some a =>
      cases h2 : ndl ts d with
      | none => rw [h1, h2] at h; simp at h
      | some b =>
        rw [h1, h2] at h
        simp at h
        rcases List.mem_cons.1 hu with rfl | hu
        · exact ⟨a, ⟨d, hd, h1⟩, by omega⟩
        · obtain ⟨m, hm, hl⟩ := ih h2 hu
          exact ⟨m, hm, by omega⟩

theorem Wf.head {k : Int} {n : ByteArray} {ks : List Ty} {m : Nat} (h : Wf (.mk k n ks) m) : headB k n ks.length = true ∧ ∃ d s, d ≤ 5 ∧ ndl ks d = some s ∧ m = s + 1 := by
  obtain ⟨d, hd, h⟩ := h
  cases d with
  | zero => rw [nd_zero] at h; cases h
  | succ d =>
    rw [nd_succ] at h
    cases hh : headB k n ks.length with
    | false => rw [hh] at h; cases h
    | true =>
      rw [hh] at h
      obtain ⟨s, hs, rfl⟩ := Option.map_eq_some_iff.1 h
      exact ⟨rfl, d, s, by omega, hs, rfl⟩

theorem dataB_size {n : ByteArray} (h : dataB n = true) : n.size ≤ 12 := by
  have hu : upperB n = true := by unfold dataB at h; simp at h; exact h.1
  have hn : nameB n = true := by unfold upperB at hu; simp at hu; exact hu.1
  obtain ⟨o1, o2, _⟩ := name_out n hn
  omega

theorem clo_len (k : Int) (s : List UInt8) : (clo k s).length ≤ s.length + 2 := by unfold clo; split <;> simp

theorem ndl_two {x y : Ty} {d s : Nat} (h : ndl [x, y] d = some s) : ∃ a b, x.nd d = some a ∧ y.nd d = some b ∧ s = a + b := by
  rw [ndl_cons] at h
  cases h1 : x.nd d with
  | none => rw [h1] at h; simp at h
  | some a =>
    rw [h1, ndl_cons] at h
    cases h2 : y.nd d with
    | none => rw [h2] at h; simp at h
    | some b =>
      rw [h2] at h
      simp [ndl, Ty.nd.ndl] at h
      exact ⟨a, b, rfl, rfl, h.symm⟩

theorem ndl_one {x : Ty} {d s : Nat} (h : ndl [x] d = some s) : x.nd d = some s := by
  rw [ndl_cons] at h
  cases h1 : x.nd d with
  | none => rw [h1] at h; simp at h
  | some a =>
    rw [h1] at h
    simp [ndl, Ty.nd.ndl] at h
    rw [h]

/-- The four makes of a valid node. -/
theorem Wf.cases {k : Int} {n : ByteArray} {ks : List Ty} {m : Nat} (h : Wf (.mk k n ks) m) :
    (k = 1 ∧ n.toList.isEmpty = true ∧ ks = []) ∨ (k = 2 ∧ dataB n = true ∧ ks = []) ∨ (k = 3 ∧ n.toList.isEmpty = true ∧ ∃ x y a b, ks = [x, y] ∧ Wf x a ∧ Wf y b ∧ m = a + b + 1) ∨ (k = 4 ∧ n.toList.isEmpty = true ∧ ∃ x a, ks = [x] ∧ Wf x a ∧ m = a + 1) := by
  obtain ⟨hh, d, s, hd, hs, rfl⟩ := h.head
  rcases head_cases hh with ⟨rfl, he, hm⟩ | ⟨rfl, he, hm⟩ | ⟨rfl, he, hm⟩ | ⟨rfl, he, hm⟩
  · exact .inl ⟨rfl, he, List.eq_nil_of_length_eq_zero hm⟩
  · exact .inr (.inl ⟨rfl, he, List.eq_nil_of_length_eq_zero hm⟩)
  · match ks, hm with
    | [x, y], _ =>
      obtain ⟨a, b, h1, h2, rfl⟩ := ndl_two hs
      exact .inr (.inr (.inl ⟨rfl, he, x, y, a, b, rfl, ⟨d, by omega, h1⟩, ⟨d, by omega, h2⟩, rfl⟩))
  · match ks, hm with
    | [x], _ => exact .inr (.inr (.inr ⟨rfl, he, x, s, rfl, ⟨d, by omega, ndl_one hs⟩, rfl⟩))

theorem txt_le : ∀ (m : Nat) (t : Ty), Wf t m → t.txt.length ≤ 20 * m := by
  intro m
  induction m using Nat.strongRecOn with
  | _ m ih =>
  intro t h
  obtain ⟨k, n, ks⟩ := t
  rw [txt_eq]
  have hm : 1 ≤ m := by
    obtain ⟨d, hd, h⟩ := h
    exact (nd_small hd h).1
  rcases h.cases with ⟨rfl, he, rfl⟩ | ⟨rfl, he, rfl⟩ | ⟨rfl, he, x, y, a, b, rfl, h1, h2, rfl⟩ | ⟨rfl, he, x, a, rfl, h1, rfl⟩
  · simp [formT]; omega
  · have := dataB_size he
    have hs : n.data.toList.length = n.size := by rw [Array.length_toList]; rfl
    simp [formT]
    have : n.data.size = n.size := rfl
    omega
  · have e1 := ih a (by omega) x h1
    have e2 := ih b (by omega) y h2
    have e3 := clo_len (x.kd) x.txt
    simp [formT]
    omega
  · have e1 := ih a (by omega) x h1
    have e3 := clo_len (x.kd) x.txt
    simp [formT]
    omega

/-- A text as Go's string. -/
abbrev str (l : List UInt8) : ByteArray := ⟨l.toArray⟩
theorem str_size (l : List UInt8) : (str l).size = l.length := by show l.toArray.size = _; simp
theorem str_add (a b : List UInt8) : str a ++ str b = str (a ++ b) := by
  apply ByteArray.ext
  rw [ByteArray.data_append]
  simp

def StrGw (l : List UInt8) (w : World) (e : Ending) (w' : World) : Prop := e = .returned (.string (str l)) ∧ Gw w w'

theorem ret_str {a : ByteArray} {l : List UInt8} (h : a = str l) : Ending.returned (.string a) = .returned (.string (str l)) := by rw [h]

theorem run_add_str (a b : ByteArray) (h : a.size + b.size ≤ 9223372036854775807) (W : World) : (binOp .add 9 (.string a) (.string b)).run Tryz.prog W = .ok (.string (a ++ b)) W := by
  have := run_string_add_sum (P := Tryz.prog) W a b h
  simp [binOp, this]

theorem spec_closed_of (t : LT) (m : Nat) (hw : Wf t.ty m) (hm : m ≤ 63) (key : ∀ (w : World), t.Ok w → Calls Tryz.prog 60 #[t.val] w (StrGw t.ty.txt w)) (w : World) (h : t.Ok w) :
    Calls Tryz.prog 75 #[t.val] w (StrGw (clo t.k t.ty.txt) w) := by
  have h1 := h.grow ((Below.refl w.heap.size w).alloc (Nat.le_refl _) (.cells #[.int .i64 t.k, .string t.n, .slice t.a t.ks.length t.cap] 33))
  have hl := txt_le m _ hw
  have hs : t.ty.txt.length ≤ 1260 := by omega
  by_cases hk : t.k = 3
  · have hkb : (t.k == 3) = true := by simpa using hk
    have HC := Lib.hid (show clo t.k t.ty.txt = [40] ++ t.ty.txt ++ [41] from by unfold clo; rw [if_pos hk]; rfl)
    clear hk hl
    go_enter Tryz.func75, Tryz.ntmps75
    go_wp2_with fail
    refine (key _ h1).mono ?_
    rintro e w1 ⟨rfl, hg⟩
    go_wp2_with fail
    go_ret
    exact ⟨ret_str (by rw [HC.out, ← str_add, ← str_add]), ((Gw.refl w).alloc _).trans hg⟩
  · have hkb : (t.k == 3) = false := by simpa using hk
    have HC := Lib.hid (show clo t.k t.ty.txt = t.ty.txt from by unfold clo; rw [if_neg hk])
    clear hk hl
    go_enter Tryz.func75, Tryz.ntmps75
    go_wp2_with fail
    refine (key _ h1).mono ?_
    rintro e w1 ⟨rfl, hg⟩
    go_wp2_with fail
    go_ret
    exact ⟨ret_str (by rw [HC.out]), ((Gw.refl w).alloc _).trans hg⟩

theorem spec_text_int (n : ByteArray) (a : Option Addr) (l c : Nat) (w : World) : Calls Tryz.prog 60 #[.agg #[.int .i64 1, .string n, .slice a l c]] w (StrGw [73, 110, 116] w) := by
  go_enter Tryz.func60, Tryz.ntmps60
  go_wp2_with fail
  go_ret
  exact ⟨rfl, (Gw.refl w).alloc _⟩

theorem spec_text_dat (n : ByteArray) (a : Option Addr) (l c : Nat) (w : World) : Calls Tryz.prog 60 #[.agg #[.int .i64 2, .string n, .slice a l c]] w (StrGw n.data.toList w) := by
  go_enter Tryz.func60, Tryz.ntmps60
  go_wp2_with fail
  go_ret
  exact ⟨ret_str (by simp), (Gw.refl w).alloc _⟩

theorem spec_text_bang (n : ByteArray) (b o c : Nat) (x : LT) (m : Nat) (hm : m ≤ 63) (hw : Wf x.ty m) (w : World) (hok : x.Ok w) (c0 : w.cell? ⟨b, o, none⟩ = some (.int .i64 x.k)) (c1 : w.cell? ⟨b, o + 1, none⟩ = some (.string x.n)) (c2 : w.cell? ⟨b, o + 2, none⟩ = some (.slice x.a x.ks.length x.cap))
    (key : ∀ (w : World), x.Ok w → Calls Tryz.prog 60 #[x.val] w (StrGw x.ty.txt w)) :
    Calls Tryz.prog 60 #[.agg #[.int .i64 4, .string n, .slice (some ⟨b, o, none⟩) 1 c]] w (StrGw (33 :: clo x.k x.ty.txt) w) := by
  have hb0 : b < w.heap.size := cell_lt c0
  have hl := txt_le m _ hw
  have hl2 := clo_len x.k x.ty.txt
  have hs : (clo x.k x.ty.txt).length ≤ 1262 := by omega
  clear hl hl2
  have hok1 := hok.grow ((Below.refl w.heap.size w).alloc (Nat.le_refl _) (.cells #[.int .i64 4, .string n, .slice (some ⟨b, o, none⟩) 1 c] 33))
  go_enter Tryz.func60, Tryz.ntmps60
  go_wp2_with fail
  refine (spec_closed_of x m hw hm key _ hok1).mono ?_
  rintro e w1 ⟨rfl, hg⟩
  go_wp2_with fail
  go_ret
  exact ⟨ret_str (str_add [33] _), ((Gw.refl w).alloc _).trans hg⟩

theorem spec_text_fun (n : ByteArray) (b o c : Nat) (x y : LT) (m m' : Nat) (hm : m ≤ 63) (hm' : m' ≤ 63) (hw : Wf x.ty m) (hw' : Wf y.ty m') (w : World) (hok : x.Ok w) (hoky : y.Ok w)
    (c0 : w.cell? ⟨b, o, none⟩ = some (.int .i64 x.k)) (c1 : w.cell? ⟨b, o + 1, none⟩ = some (.string x.n)) (c2 : w.cell? ⟨b, o + 2, none⟩ = some (.slice x.a x.ks.length x.cap))
    (d0 : w.cell? ⟨b, o + 3, none⟩ = some (.int .i64 y.k)) (d1 : w.cell? ⟨b, o + 3 + 1, none⟩ = some (.string y.n)) (d2 : w.cell? ⟨b, o + 3 + 2, none⟩ = some (.slice y.a y.ks.length y.cap))
    (key : ∀ (w : World), x.Ok w → Calls Tryz.prog 60 #[x.val] w (StrGw x.ty.txt w)) (key' : ∀ (w : World), y.Ok w → Calls Tryz.prog 60 #[y.val] w (StrGw y.ty.txt w)) :
    Calls Tryz.prog 60 #[.agg #[.int .i64 3, .string n, .slice (some ⟨b, o, none⟩) 2 c]] w (StrGw (clo x.k x.ty.txt ++ [32, 45, 62, 32] ++ y.ty.txt) w) := by
  have hb0 : b < w.heap.size := cell_lt c0
  have hl := txt_le m _ hw
  have hly := txt_le m' _ hw'
  have hl2 := clo_len x.k x.ty.txt
  have hs : (clo x.k x.ty.txt).length ≤ 1262 := by omega
  have hs' : y.ty.txt.length ≤ 1260 := by omega
  clear hl hl2 hly
  obtain ⟨X, hX⟩ : ∃ X, X = Obj.cells #[.int .i64 3, .string n, .slice (some ⟨b, o, none⟩) 2 c] 33 := ⟨_, rfl⟩
  have g1 : Gw w (w.alloc X) := (Gw.refl w).alloc _
  have hok1 := (hok.grow g1).drew
  have hoky1 := (hoky.grow g1).drew
  have HK := Lib.hid key
  have HK' := Lib.hid key'
  have p : (w.alloc X).cell? ⟨w.heap.size, 2, none⟩ = some (.slice (some ⟨b, o, none⟩) 2 c) := by rw [hX]; exact cell_of_row _ _ 2 _ _ _ (heap_alloc_new w _)
  have e0 := (World.cell?_alloc_lt w X ⟨b, o, none⟩ hb0).trans c0
  have e1 := (World.cell?_alloc_lt w X ⟨b, o + 1, none⟩ hb0).trans c1
  have e2 := (World.cell?_alloc_lt w X ⟨b, o + 2, none⟩ hb0).trans c2
  have e3 := (World.cell?_alloc_lt w X ⟨b, o + 3, none⟩ hb0).trans d0
  have e4 := (World.cell?_alloc_lt w X ⟨b, o + 3 + 1, none⟩ hb0).trans d1
  have e5 := (World.cell?_alloc_lt w X ⟨b, o + 3 + 2, none⟩ hb0).trans d2
  have hszX : (w.alloc X).heap.size = w.heap.size + 1 := by simp
  have HSX := Lib.hid hszX
  have hadd1 : ∀ W : World, (binOp .add 9 (.string (str (clo x.k x.ty.txt))) (.string ⟨#[32, 45, 62, 32]⟩)).run Tryz.prog W = .ok (.string (str (clo x.k x.ty.txt) ++ ⟨#[32, 45, 62, 32]⟩)) W := fun W => run_add_str _ _ (by rw [str_size]; show (clo x.k x.ty.txt).length + 4 ≤ _; omega) W
  have hadd2 : ∀ W : World, (binOp .add 9 (.string (str (clo x.k x.ty.txt) ++ ⟨#[32, 45, 62, 32]⟩)) (.string (str y.ty.txt))).run Tryz.prog W = .ok (.string (str (clo x.k x.ty.txt) ++ ⟨#[32, 45, 62, 32]⟩ ++ str y.ty.txt)) W := fun W => run_add_str _ _ (by rw [ByteArray.size_append, str_size, str_size]; show (clo x.k x.ty.txt).length + 4 + y.ty.txt.length ≤ _; omega) W
  have hq1 : ¬ 9223372036854775807 < (clo x.k x.ty.txt).length + 4 := by omega
  have hq2 : ¬ 9223372036854775807 < (clo x.k x.ty.txt).length + 4 + y.ty.txt.length := by omega
  clear hadd1 hadd2
  clear key key' c0 c1 c2 d0 d1 d2 hszX
  go_enter Tryz.func60, Tryz.ntmps60
  go_wp2_with fail
  rw [← hX]
  have HX := Lib.hid hX
  clear hX
  generalize hW : w.alloc X = Wb at *
  have hB : b < Wb.heap.size := by have := HSX.out; omega
  have hS : w.heap.size < Wb.heap.size := by have := HSX.out; omega
  clear hW
  go_region_held3 (fun W => W.cell? ⟨w.heap.size, 2, none⟩ = some (.slice (some ⟨b, o, none⟩) 2 c) ∧ W.cell? ⟨b, o, none⟩ = some (.int .i64 x.k) ∧ W.cell? ⟨b, o + 1, none⟩ = some (.string x.n) ∧ W.cell? ⟨b, o + 2, none⟩ = some (.slice x.a x.ks.length x.cap) ∧ W.cell? ⟨b, o + 3, none⟩ = some (.int .i64 y.k) ∧ W.cell? ⟨b, o + 3 + 1, none⟩ = some (.string y.n) ∧ W.cell? ⟨b, o + 3 + 2, none⟩ = some (.slice y.a y.ks.length y.cap))
    (first | exact ⟨p, e0, e1, e2, e3, e4, e5⟩ | exact ⟨(k1 _ _ hS).trans p, (k1 _ _ hB).trans e0, (k1 _ _ hB).trans e1, (k1 _ _ hB).trans e2, (k1 _ _ hB).trans e3, (k1 _ _ hB).trans e4, (k1 _ _ hB).trans e5⟩ | exact ⟨(k2 _ _ hS).trans p, (k2 _ _ hB).trans e0, (k2 _ _ hB).trans e1, (k2 _ _ hB).trans e2, (k2 _ _ hB).trans e3, (k2 _ _ hB).trans e4, (k2 _ _ hB).trans e5⟩)
    (first
      | (go_at_call 75; refine (spec_closed_of x m hw hm HK.out _ (by exact hok1)).mono ?_; rintro e w1 ⟨rfl, hg1⟩; have k1 : ∀ b o, b < Wb.heap.size → w1.cell? ⟨b, o, none⟩ = Wb.cell? ⟨b, o, none⟩ := fun b o h => (bcell hg1).1 b o h)
      | (go_at_call 60; refine (HK'.out _ (by exact hoky1.grow hg1)).mono ?_; rintro e w2 ⟨rfl, hg2⟩; have k2 : ∀ b o, b < Wb.heap.size → w2.cell? ⟨b, o, none⟩ = Wb.cell? ⟨b, o, none⟩ := fun b o h => ((bcell hg2).1 b o (Nat.lt_of_lt_of_le h hg1.size)).trans (k1 b o h)))
  go_wp2_with fail
  go_ret
  exact ⟨ret_str (by rw [← str_add, ← str_add]), (g1.drew.trans hg1).trans hg2⟩

theorem Wf.le {t : Ty} {m : Nat} (h : Wf t m) : 1 ≤ m ∧ m ≤ 63 := by
  obtain ⟨d, hd, h⟩ := h
  exact nd_small hd h

theorem LT.ty_k (t : LT) : t.ty.kd = t.k := by rw [LT.ty_eq]; rfl

theorem spec_text (t : LT) : ∀ (m : Nat) (w : World), Wf t.ty m → t.Ok w → Calls Tryz.prog 60 #[t.val] w (StrGw t.ty.txt w) := by
  refine LT.ind (P := fun t => ∀ (m : Nat) (w : World), Wf t.ty m → t.Ok w → Calls Tryz.prog 60 #[t.val] w (StrGw t.ty.txt w)) (fun k n a c ks ih m w hw h => ?_) t
  have ety : (LT.mk k n a c ks).ty = .mk k n (ks.map LT.ty) := LT.ty_eq _
  rw [ety] at hw ⊢
  have hsl : slOk w a c ks := h.kids
  rcases hw.cases with ⟨rfl, he, hk⟩ | ⟨rfl, he, hk⟩ | ⟨rfl, he, x, y, p, q, hk, h1, h2, rfl⟩ | ⟨rfl, he, x, p, hk, h1, rfl⟩
  · rw [txt_eq]
    exact spec_text_int n a _ c w
  · rw [txt_eq]
    exact spec_text_dat n a _ c w
  · match ks, hk with
    | [x', y'], hk =>
      simp at hk
      obtain ⟨rfl, rfl⟩ := hk
      obtain ⟨b, o, rfl, hr⟩ := hsl.2.2.resolve_left (by simp)
      obtain ⟨c0, c1, c2, hx⟩ := rowOk_get hr 0 (by simp)
      obtain ⟨d0, d1, d2, hy⟩ := rowOk_get hr 1 (by simp)
      rw [txt_eq]
      have := spec_text_fun n b o c x' y' p q h1.le.2 h2.le.2 h1 h2 w hx hy (by simpa using c0) (by simpa using c1) (by simpa using c2) (by simpa using d0) (by simpa using d1) (by simpa using d2) (fun w1 hw1 => ih x' (by simp) p w1 h1 hw1) (fun w1 hw1 => ih y' (by simp) q w1 h2 hw1)
      rw [← LT.ty_k] at this
      exact this
  · match ks, hk with
    | [x'], hk =>
      simp at hk
      subst hk
      obtain ⟨b, o, rfl, hr⟩ := hsl.2.2.resolve_left (by simp)
      obtain ⟨c0, c1, c2, hx⟩ := rowOk_get hr 0 (by simp)
      rw [txt_eq]
      have := spec_text_bang n b o c x' p h1.le.2 h1 w hx (by simpa using c0) (by simpa using c1) (by simpa using c2) (fun w1 hw1 => ih x' (by simp) p w1 h1 hw1)
      rw [← LT.ty_k] at this
      exact this

/-- TypeText: the text of a valid type, no text for an invalid one. -/
def textOf (t : Ty) : List UInt8 := if validB t then t.txt else []

theorem spec_typeText (t : LT) (w : World) (h : t.Ok w) : Calls Tryz.prog 38 #[t.val] w (StrGw (textOf t.ty) w) := by
  have h1 := h.grow ((Below.refl w.heap.size w).alloc (Nat.le_refl _) (.cells #[.int .i64 t.k, .string t.n, .slice t.a t.ks.length t.cap] 33))
  have key := spec_valid t _ h1
  cases hv : validB t.ty with
  | false =>
    rw [hv] at key
    have HT := Lib.hid (show textOf t.ty = [] from by unfold textOf; rw [hv]; rfl)
    clear hv
    go_enter Tryz.func38, Tryz.ntmps38
    go_wp2_with fail
    refine key.mono ?_
    rintro e w1 ⟨rfl, hg⟩
    go_wp2_with fail
    go_ret
    exact ⟨ret_str (by rw [HT.out]), ((Gw.refl w).alloc _).trans hg⟩
  | true =>
    rw [hv] at key
    obtain ⟨m, hw, _⟩ := Wf.of_valid hv
    have HT := Lib.hid (show textOf t.ty = t.ty.txt from by unfold textOf; rw [hv]; rfl)
    clear hv
    go_enter Tryz.func38, Tryz.ntmps38
    go_wp2_with fail
    refine key.mono ?_
    rintro e w1 ⟨rfl, hg⟩
    obtain ⟨hc, hf⟩ := bcell hg
    go_wp2_with fail
    refine (spec_text t m _ hw (h1.grow hg)).mono ?_
    rintro e w2 ⟨rfl, hg2⟩
    go_wp2_with fail
    go_ret
    exact ⟨ret_str (by rw [HT.out]), (((Gw.refl w).alloc _).trans hg).trans hg2⟩

end Go.Proofs.YtbjedfbpikfflaaGreatDoor.Con
