/-
  The canonical text of a term, as a plain function on terms without addresses, and how long it is. No program in it, no condition.
-/
import Derived.Test.YtbjedfbpikfflaaGreatDoorTmVal
import Derived.Test.YtbjedfbpikfflaaGreatDoorTyTxt
import Derived.Test.YtbjedfbpikfflaaGreatDoorTab
import Derived.Test.YtbjedfbpikfflaaGreatDoorVal
namespace Go.Proofs.YtbjedfbpikfflaaGreatDoor.Con
open Go.RowKit
set_option linter.unusedVariables false

/-- How tightly a node holds together. -/
def lvM (k m : Int) : Int := if k = 4 ∨ k = 7 ∨ k = 11 then 0 else if k = 3 then (if m = 5 ∨ m = 6 then 1 else if m = 1 ∨ m = 2 then 2 else 3) else if k = 5 then 4 else 5
def wrP (L lv : Int) (s : List UInt8) : List UInt8 := if lv < L then 40 :: (s ++ [41]) else s
/-- Texts with a separator between them. -/
def joinP (sep : List UInt8) : List (List UInt8) → List UInt8
  | [] => []
  | x :: r => x ++ r.flatMap fun y => sep ++ y
def brP (xs : List (List UInt8)) : List UInt8 := if xs = [] then [] else [91] ++ joinP [44, 32] xs ++ [93]
def kidL (ks : List (Int × List UInt8)) (i : Nat) : Int := (ks.getD i (5, [])).1
def kidT (ks : List (Int × List UInt8)) (i : Nat) : List UInt8 := (ks.getD i (5, [])).2
theorem kidT0 (x : Int × List UInt8) (r : List (Int × List UInt8)) : kidT (x :: r) 0 = x.2 := rfl
theorem kidT1 (x y : Int × List UInt8) (r : List (Int × List UInt8)) : kidT (x :: y :: r) 1 = y.2 := rfl
theorem kidT2 (x y z : Int × List UInt8) (r : List (Int × List UInt8)) : kidT (x :: y :: z :: r) 2 = z.2 := rfl
theorem kidL0 (x : Int × List UInt8) (r : List (Int × List UInt8)) : kidL (x :: r) 0 = x.1 := rfl
theorem kidL1 (x y : Int × List UInt8) (r : List (Int × List UInt8)) : kidL (x :: y :: r) 1 = y.1 := rfl
def numP (m : Int) : List UInt8 := if m < 0 then [40] ++ decV m ++ [41] else decV m
def lftP (m : Int) : Int := if lvM 3 m = 1 then 2 else lvM 3 m
/-- The text of a node, given its kids' levels and texts. -/
def formP (k m : Int) (n : ByteArray) (t : Ty) (ns : List ByteArray) (ks : List (Int × List UInt8)) : List UInt8 :=
  if k = 2 then numP m
  else if k = 3 then wrP (lftP m) (kidL ks 0) (kidT ks 0) ++ [32] ++ (opTextV m).data.toList ++ [32] ++ wrP (lvM 3 m + 1) (kidL ks 1) (kidT ks 1)
  else if k = 4 then [92] ++ n.data.toList ++ [58] ++ textOf t ++ [46, 32] ++ kidT ks 0
  else if k = 5 then wrP 4 (kidL ks 0) (kidT ks 0) ++ [32] ++ wrP 5 (kidL ks 1) (kidT ks 1)
  else if k = 6 then [33] ++ wrP 5 (kidL ks 0) (kidT ks 0)
  else if k = 7 then [108, 101, 116, 32] ++ n.data.toList ++ [32, 61, 32] ++ kidT ks 0 ++ [32, 105, 110, 32] ++ kidT ks 1
  else if k = 8 then n.data.toList ++ brP (ks.map (·.2))
  else if k = 9 then [109, 97, 116, 99, 104, 32] ++ kidT ks 0 ++ [32, 123, 32] ++ joinP [59, 32] ((ks.drop 1).map (·.2)) ++ [32, 125]
  else if k = 10 then n.data.toList ++ brP (ns.map (·.data.toList)) ++ [32, 45, 62, 32] ++ kidT ks 0
  else if k = 11 then [105, 102, 32] ++ kidT ks 0 ++ [32, 116, 104, 101, 110, 32] ++ kidT ks 1 ++ [32, 101, 108, 115, 101, 32] ++ kidT ks 2
  else n.data.toList

def Tm.txt : Tm → List UInt8
  | .mk k m n t ns ks => formP k m n t ns (txs ks)
where txs : List Tm → List (Int × List UInt8)
  | [] => []
  | u :: us => (lvM u.k u.m, u.txt) :: txs us
theorem txs_eq (ks : List Tm) : Tm.txt.txs ks = ks.map fun u => (lvM u.k u.m, u.txt) := by
  induction ks with
  | nil => rfl
  | cons t ts ih => simp only [Tm.txt.txs, List.map_cons]; rw [ih]
theorem tm_txt (t : Tm) : t.txt = formP t.k t.m t.n t.t t.ns (t.ks.map fun u => (lvM u.k u.m, u.txt)) := by cases t; rw [Tm.txt, txs_eq]; rfl

theorem lv_nonneg (k m : Int) : 0 ≤ lvM k m ∧ lvM k m ≤ 5 := by unfold lvM; (repeat' split) <;> omega
theorem wr_zero (k m : Int) (s : List UInt8) : wrP 0 (lvM k m) s = s := by unfold wrP; rw [if_neg (by have := lv_nonneg k m; omega)]
theorem wr_len (L lv : Int) (s : List UInt8) : (wrP L lv s).length ≤ s.length + 2 := by unfold wrP; split <;> simp

/-- The shapes of a node that fits its kind. -/
theorem ok_cases {t : Tm} {c : Bool} (h : t.ok c = true) :
    (t.k = 1 ∧ t.ks = [] ∧ lowerB t.n = true) ∨ (t.k = 2 ∧ t.ks = [] ∧ -2147483648 ≤ t.m ∧ t.m ≤ 2147483647) ∨
    (t.k = 3 ∧ 1 ≤ t.m ∧ t.m ≤ 6 ∧ ∃ x y, t.ks = [x, y] ∧ x.ok false = true ∧ y.ok false = true) ∨
    (t.k = 4 ∧ lowerB t.n = true ∧ validB t.t = true ∧ ∃ x, t.ks = [x] ∧ x.ok false = true) ∨
    (t.k = 5 ∧ ∃ x y, t.ks = [x, y] ∧ x.ok false = true ∧ y.ok false = true) ∨
    (t.k = 6 ∧ ∃ x, t.ks = [x] ∧ x.ok false = true) ∨
    (t.k = 7 ∧ lowerB t.n = true ∧ ∃ x y, t.ks = [x, y] ∧ x.ok false = true ∧ y.ok false = true) ∨
    (t.k = 8 ∧ upperB t.n = true ∧ t.ks.length ≤ 3 ∧ ∀ u ∈ t.ks, u.ok false = true) ∨
    (t.k = 9 ∧ ∃ x r, t.ks = x :: r ∧ x.ok false = true ∧ 1 ≤ r.length ∧ r.length ≤ 4 ∧ ∀ u ∈ r, u.ok true = true) ∨
    (t.k = 10 ∧ upperB t.n = true ∧ t.ns.length ≤ 3 ∧ (∀ s ∈ t.ns, lowerB s = true) ∧ ∃ x, t.ks = [x] ∧ x.ok false = true) ∨
    (t.k = 11 ∧ ∃ x y z, t.ks = [x, y, z] ∧ x.ok false = true ∧ y.ok false = true ∧ z.ok false = true) := by
  rw [ok_eq, Bool.and_eq_true, Bool.and_eq_true] at h
  obtain ⟨_, hh, hk⟩ := h
  have hk := (oks_iff _ _).1 hk
  obtain ⟨k, m, n, ty, ns, ks⟩ := t
  simp only [Tm.k, Tm.m, Tm.n, Tm.t, Tm.ns, Tm.ks] at hh hk ⊢
  unfold headM at hh
  rw [Bool.and_eq_true] at hh
  obtain ⟨hl, hf⟩ := hh
  unfold fldM at hf
  simp only [Bool.and_eq_true] at hf
  obtain ⟨hn, ht, hs, hm⟩ := hf
  unfold inI at hl
  rw [Bool.and_eq_true, decide_eq_true_eq, decide_eq_true_eq] at hl
  obtain ⟨l1, l2⟩ := hl
  have hr : 1 ≤ k ∧ k ≤ 11 := by
    by_cases h1 : 1 ≤ k ∧ k ≤ 11
    · exact h1
    · exfalso
      unfold kidsHi at l2
      rw [if_neg (by omega), if_neg (by omega), if_neg (by omega), if_neg (by omega), if_neg (by omega)] at l2
      omega
  have two : ks.length = 2 → ∀ q : Bool, (∀ i (hi : i < ks.length), ks[i].ok false = true) → ∃ x y, ks = [x, y] ∧ x.ok false = true ∧ y.ok false = true := fun h2 _ hq => by
    match ks, h2 with
    | [x, y], _ => exact ⟨x, y, rfl, hq 0 (by simp), hq 1 (by simp)⟩
  have one : ks.length = 1 → (∀ i (hi : i < ks.length), ks[i].ok false = true) → ∃ x, ks = [x] ∧ x.ok false = true := fun h2 hq => by
    match ks, h2 with
    | [x], _ => exact ⟨x, rfl, hq 0 (by simp)⟩
  have three : ks.length = 3 → (∀ i (hi : i < ks.length), ks[i].ok false = true) → ∃ x y z, ks = [x, y, z] ∧ x.ok false = true ∧ y.ok false = true ∧ z.ok false = true := fun h2 hq => by
    match ks, h2 with
    | [x, y, z], _ => exact ⟨x, y, z, rfl, hq 0 (by simp), hq 1 (by simp), hq 2 (by simp)⟩
  have fl : k ≠ 9 → ∀ i (hi : i < ks.length), ks[i].ok false = true := fun h9 i hi => by
    have := hk i hi
    rw [show flg k i = false from by unfold flg; simp [h9]] at this
    exact this
  obtain rfl | rfl | rfl | rfl | rfl | rfl | rfl | rfl | rfl | rfl | rfl : k = 1 ∨ k = 2 ∨ k = 3 ∨ k = 4 ∨ k = 5 ∨ k = 6 ∨ k = 7 ∨ k = 8 ∨ k = 9 ∨ k = 10 ∨ k = 11 := by omega
  · exact .inl ⟨rfl, List.eq_nil_of_length_eq_zero (by have l3 : (ks.length : Int) ≤ 0 := l2; omega), by simpa [nameM] using hn⟩
  · exact .inr (.inl ⟨rfl, List.eq_nil_of_length_eq_zero (by have l3 : (ks.length : Int) ≤ 0 := l2; omega), by simpa [numM, inI] using hm⟩)
  · have hm2 : 1 ≤ m ∧ m ≤ 6 := by simpa [numM, inI] using hm
    exact .inr (.inr (.inl ⟨rfl, hm2.1, hm2.2, two (by simp [kidsHi] at l2; simp [kidsLo] at l1; omega) true (fl (by decide))⟩))
  · exact .inr (.inr (.inr (.inl ⟨rfl, by simpa [nameM] using hn, by simpa [typeM] using ht, one (by simp [kidsHi] at l2; simp [kidsLo] at l1; omega) (fl (by decide))⟩)))
  · exact .inr (.inr (.inr (.inr (.inl ⟨rfl, two (by simp [kidsHi] at l2; simp [kidsLo] at l1; omega) true (fl (by decide))⟩))))
  · exact .inr (.inr (.inr (.inr (.inr (.inl ⟨rfl, one (by simp [kidsHi] at l2; simp [kidsLo] at l1; omega) (fl (by decide))⟩)))))
  · exact .inr (.inr (.inr (.inr (.inr (.inr (.inl ⟨rfl, by simpa [nameM] using hn, two (by simp [kidsHi] at l2; simp [kidsLo] at l1; omega) true (fl (by decide))⟩))))))
  · refine .inr (.inr (.inr (.inr (.inr (.inr (.inr (.inl ⟨rfl, by simpa [nameM] using hn, by simp [kidsHi] at l2; omega, fun u hu => ?_⟩)))))))
    obtain ⟨i, hi, rfl⟩ := List.mem_iff_getElem.1 hu
    exact fl (by decide) i hi
  · refine .inr (.inr (.inr (.inr (.inr (.inr (.inr (.inr (.inl ⟨rfl, ?_⟩))))))))
    have l3 : 2 ≤ ks.length ∧ ks.length ≤ 5 := by simp [kidsHi] at l2; simp [kidsLo] at l1; omega
    cases ks with
    | nil => simp at l3
    | cons x r =>
      refine ⟨x, r, rfl, hk 0 (by simp), by simp at l3; omega, by simp at l3; omega, fun u hu => ?_⟩
      obtain ⟨i, hi, rfl⟩ := List.mem_iff_getElem.1 hu
      exact hk (i + 1) (by simp; exact hi)
  · have hs2 : ns.length ≤ 3 ∧ distB ns = true := by simpa [namesM] using hs
    refine .inr (.inr (.inr (.inr (.inr (.inr (.inr (.inr (.inr (.inl ⟨rfl, by simpa [nameM] using hn, hs2.1, fun s hs => ?_, one (by simp [kidsHi] at l2; simp [kidsLo] at l1; omega) (fl (by decide))⟩)))))))))
    obtain ⟨i, hi, rfl⟩ := List.mem_iff_getElem.1 hs
    have := List.all_eq_true.1 hs2.2 i (by simpa using hi)
    rw [dsB_eq hi, Bool.and_eq_true] at this
    exact this.1
  · refine .inr (.inr (.inr (.inr (.inr (.inr (.inr (.inr (.inr (.inr ⟨rfl, ?_⟩)))))))))
    exact three (by simp [kidsHi] at l2; simp [kidsLo] at l1; omega) (fl (by decide))

theorem low_size {s : ByteArray} (h : lowerB s = true) : 1 ≤ s.size ∧ s.size ≤ 12 := by
  unfold lowerB at h
  rw [Bool.and_eq_true] at h
  have := name_out s h.1
  omega
theorem upp_size {s : ByteArray} (h : upperB s = true) : 1 ≤ s.size ∧ s.size ≤ 12 := by
  unfold upperB at h
  rw [Bool.and_eq_true] at h
  have := name_out s h.1
  omega
theorem data_len (s : ByteArray) : s.data.toList.length = s.size := Array.length_toList
theorem opText_len (m : Int) : (opTextV m).data.toList.length ≤ 1 := by
  unfold opTextV
  split
  · have : m.toNat < 7 ∨ 7 ≤ m.toNat := by omega
    unfold opAt opsL
    rcases this with h | h
    · obtain e | e | e | e | e | e | e : m.toNat = 0 ∨ m.toNat = 1 ∨ m.toNat = 2 ∨ m.toNat = 3 ∨ m.toNat = 4 ∨ m.toNat = 5 ∨ m.toNat = 6 := by omega
      all_goals rw [e]; simp
    · simp [List.getD, List.getElem?_eq_none (show ([[], [43], [45], [42], [47], [60], [61]] : List (List UInt8)).length ≤ m.toNat from h)]
  · simp
theorem numP_len {m : Int} (h : -2147483648 ≤ m ∧ m ≤ 2147483647) : (numP m).length ≤ 13 := by
  have := decV_len (m := m) h
  unfold numP
  split
  · simp; omega
  · omega
theorem textOf_len (t : Ty) : (textOf t).length ≤ 320 := by
  unfold textOf
  cases h : validB t with
  | false => simp
  | true =>
    obtain ⟨m, hw, hm⟩ := Wf.of_valid h
    have := txt_le m t hw
    simp
    omega
/-- The lengths of texts, and 2 for each. -/
def lens (xs : List (List UInt8)) : Nat := (xs.map fun x => x.length + 2).sum
theorem flat_len (sep : List UInt8) (h : sep.length = 2) : ∀ r : List (List UInt8), (r.flatMap fun y => sep ++ y).length = lens r
  | [] => rfl
  | y :: r => by
    rw [List.flatMap_cons, List.length_append, List.length_append, flat_len sep h r, h]
    simp [lens]
    omega
theorem join_len (sep : List UInt8) (h : sep.length = 2) (xs : List (List UInt8)) : (joinP sep xs).length ≤ lens xs := by
  cases xs with
  | nil => simp [joinP]
  | cons x r =>
    unfold joinP
    rw [List.length_append, flat_len sep h r]
    simp [lens]
theorem br_len (xs : List (List UInt8)) : (brP xs).length ≤ lens xs + 2 := by
  unfold brP
  split
  · simp
  · have := join_len [44, 32] rfl xs
    simp
    omega
theorem lens_nns : ∀ (ks : List Tm), (∀ u ∈ ks, u.txt.length ≤ 400 * u.nn) → lens (ks.map Tm.txt) ≤ 400 * nns ks + 2 * ks.length
  | [], _ => by simp [lens]
  | t :: ts, h => by
    have h1 := h t (by simp)
    have h2 := lens_nns ts fun u hu => h u (by simp [hu])
    simp only [lens, List.map_cons, List.sum_cons, nns, Tm.nn.nns, List.length_cons] at h2 ⊢
    omega
theorem lens_names : ∀ (ns : List ByteArray), (∀ s ∈ ns, lowerB s = true) → lens (ns.map (·.data.toList)) ≤ 14 * ns.length
  | [], _ => by simp [lens]
  | s :: ss, h => by
    have h1 := low_size (h s (by simp))
    have h2 := lens_names ss fun u hu => h u (by simp [hu])
    have h3 := data_len s
    simp only [lens, List.map_cons, List.sum_cons, List.length_cons] at h2 ⊢
    omega

theorem Tm.ind {P : Tm → Prop} (h : ∀ k m n t ns ks, (∀ u ∈ ks, P u) → P (.mk k m n t ns ks)) : ∀ u, P u := fun u =>
  Tm.rec (motive_1 := P) (motive_2 := fun ks => ∀ u ∈ ks, P u) (fun k m n t ns ks ih => h k m n t ns ks ih) (fun _ h => by cases h)
    (fun t ts ht hts u hu => by
      rcases List.mem_cons.1 hu with rfl | hu
      · exact ht
      · exact hts u hu) u

theorem txs2 (ks : List Tm) : (ks.map fun u => (lvM u.k u.m, u.txt)).map (·.2) = ks.map Tm.txt := by rw [List.map_map]; rfl
theorem nns1 (x : Tm) : nns [x] = x.nn + 0 := rfl
theorem nns2 (x y : Tm) : nns [x, y] = x.nn + (y.nn + 0) := rfl
theorem nns3 (x y z : Tm) : nns [x, y, z] = x.nn + (y.nn + (z.nn + 0)) := rfl
theorem nns_cons (x : Tm) (r : List Tm) : nns (x :: r) = x.nn + nns r := rfl
/-- The forms of nodes. -/
theorem form_var (m : Int) (n : ByteArray) (t : Ty) (ns : List ByteArray) (ks : List (Int × List UInt8)) : formP 1 m n t ns ks = n.data.toList := rfl
theorem form_num (m : Int) (n : ByteArray) (t : Ty) (ns : List ByteArray) (ks : List (Int × List UInt8)) : formP 2 m n t ns ks = numP m := rfl
theorem form_op (m : Int) (n : ByteArray) (t : Ty) (ns : List ByteArray) (x y : Int × List UInt8) : formP 3 m n t ns [x, y] = wrP (lftP m) x.1 x.2 ++ [32] ++ (opTextV m).data.toList ++ [32] ++ wrP (lvM 3 m + 1) y.1 y.2 := rfl
theorem form_lam (m : Int) (n : ByteArray) (t : Ty) (ns : List ByteArray) (x : Int × List UInt8) : formP 4 m n t ns [x] = [92] ++ n.data.toList ++ [58] ++ textOf t ++ [46, 32] ++ x.2 := rfl
theorem form_app (m : Int) (n : ByteArray) (t : Ty) (ns : List ByteArray) (x y : Int × List UInt8) : formP 5 m n t ns [x, y] = wrP 4 x.1 x.2 ++ [32] ++ wrP 5 y.1 y.2 := rfl
theorem form_box (m : Int) (n : ByteArray) (t : Ty) (ns : List ByteArray) (x : Int × List UInt8) : formP 6 m n t ns [x] = [33] ++ wrP 5 x.1 x.2 := rfl
theorem form_let (m : Int) (n : ByteArray) (t : Ty) (ns : List ByteArray) (x y : Int × List UInt8) : formP 7 m n t ns [x, y] = [108, 101, 116, 32] ++ n.data.toList ++ [32, 61, 32] ++ x.2 ++ [32, 105, 110, 32] ++ y.2 := rfl
theorem form_con (m : Int) (n : ByteArray) (t : Ty) (ns : List ByteArray) (ks : List (Int × List UInt8)) : formP 8 m n t ns ks = n.data.toList ++ brP (ks.map (·.2)) := rfl
theorem form_match (m : Int) (n : ByteArray) (t : Ty) (ns : List ByteArray) (x : Int × List UInt8) (r : List (Int × List UInt8)) : formP 9 m n t ns (x :: r) = [109, 97, 116, 99, 104, 32] ++ x.2 ++ [32, 123, 32] ++ joinP [59, 32] (r.map (·.2)) ++ [32, 125] := rfl
theorem form_case (m : Int) (n : ByteArray) (t : Ty) (ns : List ByteArray) (x : Int × List UInt8) : formP 10 m n t ns [x] = n.data.toList ++ brP (ns.map (·.data.toList)) ++ [32, 45, 62, 32] ++ x.2 := rfl
theorem form_if (m : Int) (n : ByteArray) (t : Ty) (ns : List ByteArray) (x y z : Int × List UInt8) : formP 11 m n t ns [x, y, z] = [105, 102, 32] ++ x.2 ++ [32, 116, 104, 101, 110, 32] ++ y.2 ++ [32, 101, 108, 115, 101, 32] ++ z.2 := rfl

theorem txt_len : ∀ (t : Tm) (c : Bool), t.ok c = true → t.txt.length ≤ 400 * t.nn := by
  refine Tm.ind (P := fun t => ∀ c : Bool, t.ok c = true → t.txt.length ≤ 400 * t.nn) fun k m n ty ns ks ih c h => ?_
  have hc := ok_cases h
  rw [tm_txt, nn_eq]
  simp only [Tm.k, Tm.m, Tm.n, Tm.t, Tm.ns, Tm.ks] at hc
  show (formP k m n ty ns (ks.map fun u => (lvM u.k u.m, u.txt))).length ≤ 400 * (1 + nns ks)
  have hw := wr_len
  rcases hc with ⟨rfl, rfl, hn⟩ | ⟨rfl, rfl, hm⟩ | ⟨rfl, _, _, x, y, rfl, hx, hy⟩ | ⟨rfl, hn, _, x, rfl, hx⟩ | ⟨rfl, x, y, rfl, hx, hy⟩ | ⟨rfl, x, rfl, hx⟩ | ⟨rfl, hn, x, y, rfl, hx, hy⟩ | ⟨rfl, hn, hl, hx⟩ | ⟨rfl, x, r, rfl, hx, h1, h2, hr⟩ | ⟨rfl, hn, h2, hs, x, rfl, hx⟩ | ⟨rfl, x, y, z, rfl, hx, hy, hz⟩
  · have := (low_size hn).2
    have := data_len n
    rw [form_var]
    omega
  · have := numP_len hm
    rw [form_num]
    omega
  · have a := ih x (by simp) _ hx
    have b := ih y (by simp) _ hy
    have h1 := hw (lftP m) (lvM x.k x.m) x.txt
    have h2 := hw (lvM 3 m + 1) (lvM y.k y.m) y.txt
    have h3 := opText_len m
    rw [List.map_cons, List.map_cons, List.map_nil, form_op, nns2]
    simp only [List.length_append, List.length_cons, List.length_nil]
    omega
  · have a := ih x (by simp) _ hx
    have := (low_size hn).2
    have := data_len n
    have := textOf_len ty
    rw [List.map_cons, List.map_nil, form_lam, nns1]
    simp only [List.length_append, List.length_cons, List.length_nil]
    omega
  · have a := ih x (by simp) _ hx
    have b := ih y (by simp) _ hy
    have h1 := hw 4 (lvM x.k x.m) x.txt
    have h2 := hw 5 (lvM y.k y.m) y.txt
    rw [List.map_cons, List.map_cons, List.map_nil, form_app, nns2]
    simp only [List.length_append, List.length_cons, List.length_nil]
    omega
  · have a := ih x (by simp) _ hx
    have h1 := hw 5 (lvM x.k x.m) x.txt
    rw [List.map_cons, List.map_nil, form_box, nns1]
    simp only [List.length_append, List.length_cons, List.length_nil]
    omega
  · have a := ih x (by simp) _ hx
    have b := ih y (by simp) _ hy
    have := (low_size hn).2
    have := data_len n
    rw [List.map_cons, List.map_cons, List.map_nil, form_let, nns2]
    simp only [List.length_append, List.length_cons, List.length_nil]
    omega
  · have a := lens_nns ks fun u hu => ih u hu _ (hx u hu)
    have := (upp_size hn).2
    have := data_len n
    have h1 := br_len (ks.map Tm.txt)
    rw [form_con, txs2]
    simp only [List.length_append]
    omega
  · have a := lens_nns r fun u hu => ih u (by simp [hu]) _ (hr u hu)
    have b := ih x (by simp) _ hx
    have h1 := join_len [59, 32] rfl (r.map Tm.txt)
    rw [List.map_cons, form_match, txs2, nns_cons]
    simp only [List.length_append, List.length_cons, List.length_nil]
    omega
  · have a := lens_names ns hs
    have b := ih x (by simp) _ hx
    have := (upp_size hn).2
    have := data_len n
    have h1 := br_len (ns.map (·.data.toList))
    rw [List.map_cons, List.map_nil, form_case, nns1]
    simp only [List.length_append, List.length_cons, List.length_nil]
    omega
  · have a := ih x (by simp) _ hx
    have b := ih y (by simp) _ hy
    have d := ih z (by simp) _ hz
    rw [List.map_cons, List.map_cons, List.map_cons, List.map_nil, form_if, nns3]
    simp only [List.length_append, List.length_cons, List.length_nil]
    omega

end Go.Proofs.YtbjedfbpikfflaaGreatDoor.Con
