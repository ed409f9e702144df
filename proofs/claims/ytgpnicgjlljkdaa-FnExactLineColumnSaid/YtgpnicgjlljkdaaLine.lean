/-
  Lines and columns of a text: plain functions on lists of bytes, and the contracts of the two functions LineColumn. No condition.
-/
import Derived.Test.YtgpnicgjlljkdaaVal
import Derived.PlainAid
import Derived.Test.YtgpnicgjlljkdaaShelf
namespace Go.Proofs.Ytgpnicgjlljkdaa.Con
open Go.RowKit Go.PlainAid

def lnV (p : List UInt8) : Int := 1 + (Lib.countByte p 10 : Nat)
def colV (p : List UInt8) : Int := (p.length : Int) - Lib.lastIndex p [10]

theorem lnV_nil : lnV [] = 1 := rfl
theorem colV_nil : colV [] = 1 := rfl

theorem occ_left (p : List UInt8) (c : UInt8) (j : Nat) (h : j < p.length) : Lib.occAt (p ++ [c]) [10] j = Lib.occAt p [10] j := by
  unfold Lib.occAt
  rw [List.drop_append_of_le_length (by omega), List.drop_eq_getElem_cons h]
  rfl

theorem lastOcc_left (p : List UInt8) (c : UInt8) : ∀ k, k ≤ p.length → Lib.lastOcc (p ++ [c]) [10] k = Lib.lastOcc p [10] k
  | 0, _ => rfl
  | k + 1, h => by
    unfold Lib.lastOcc
    rw [occ_left p c k (by omega), lastOcc_left p c k (by omega)]

theorem lastIndex_occ (p : List UInt8) : Lib.lastIndex p [10] = Lib.lastOcc p [10] p.length := by
  unfold Lib.lastIndex
  cases p with
  | nil => rfl
  | cons a l => rw [if_pos (by simp)]; simp

theorem last_snoc (p : List UInt8) (c : UInt8) : Lib.lastIndex (p ++ [c]) [10] = if c = 10 then (p.length : Int) else Lib.lastIndex p [10] := by
  rw [lastIndex_occ, lastIndex_occ, List.length_append, List.length_singleton]
  have e : Lib.occAt (p ++ [c]) [10] p.length = (10 == c) := by
    unfold Lib.occAt
    rw [List.drop_left]
    simp [List.isPrefixOf]
  by_cases h : c = 10
  · rw [if_pos h, Lib.lastOcc_hit _ _ _ (by rw [e, h]; rfl)]
  · rw [if_neg h, Lib.lastOcc_miss _ _ _ (by rw [e]; simpa using fun h2 => h h2.symm), lastOcc_left p c _ (Nat.le_refl _)]

theorem lnV_snoc (p : List UInt8) (c : UInt8) : lnV (p ++ [c]) = if c = 10 then lnV p + 1 else lnV p := by
  unfold lnV Lib.countByte
  rw [List.count_append]
  by_cases h : c = 10
  · rw [if_pos h, h]
    simp
    omega
  · rw [if_neg h, List.count_singleton]
    simp [h]

theorem colV_snoc (p : List UInt8) (c : UInt8) : colV (p ++ [c]) = if c = 10 then 1 else colV p + 1 := by
  unfold colV
  rw [last_snoc, List.length_append, List.length_singleton]
  by_cases h : c = 10
  · rw [if_pos h, if_pos h]
    omega
  · rw [if_neg h, if_neg h]
    omega

theorem lnV_pos (p : List UInt8) : 1 ≤ lnV p ∧ lnV p ≤ 1 + p.length := by
  unfold lnV Lib.countByte
  have := List.count_le_length (a := (10 : UInt8)) (l := p)
  omega

theorem lastOcc_bd (p : List UInt8) : ∀ k, -1 ≤ Lib.lastOcc p [10] k ∧ Lib.lastOcc p [10] k < k
  | 0 => by unfold Lib.lastOcc; omega
  | k + 1 => by
    have := lastOcc_bd p k
    unfold Lib.lastOcc
    split <;> omega

theorem last_bd (p : List UInt8) : -1 ≤ Lib.lastIndex p [10] ∧ Lib.lastIndex p [10] ≤ p.length := by
  rw [lastIndex_occ]
  have := lastOcc_bd p p.length
  omega

theorem colV_pos (p : List UInt8) : 0 ≤ colV p ∧ colV p ≤ 1 + p.length := by
  have := last_bd p
  unfold colV
  omega

/-- The line and the column of an offset. -/
def lcV (s : ByteArray) (n : Int) : Int × Int := if 0 ≤ n ∧ n ≤ s.size then (lnV (s.data.toList.take n.toNat), colV (s.data.toList.take n.toNat)) else (0, 0)
def lcE (s : ByteArray) (n : Int) : Ending := .returned (.tuple #[.int .i64 (lcV s n).1, .int .i64 (lcV s n).2])
theorem lcE_out {s : ByteArray} {n : Int} (h : ¬ (0 ≤ n ∧ n ≤ s.size)) : Ending.returned (.tuple #[.int .i64 0, .int .i64 0]) = lcE s n := by unfold lcE lcV; rw [if_neg h]
theorem lcE_in {s : ByteArray} {m : Nat} {a b : Int} (h : m ≤ s.size) (ha : a = lnV (s.data.toList.take m)) (hb : b = colV (s.data.toList.take m)) : Ending.returned (.tuple #[.int .i64 a, .int .i64 b]) = lcE s m := by
  unfold lcE lcV
  rw [if_pos (by omega), ha, hb]
  simp

theorem line_bd (s : ByteArray) (k : Nat) (h : k ≤ s.size) (hs : s.size ≤ 4294967295) : 1 ≤ lnV (s.data.toList.take k) ∧ lnV (s.data.toList.take k) ≤ 4294967296 ∧ 0 ≤ colV (s.data.toList.take k) ∧ colV (s.data.toList.take k) ≤ 4294967296 := by
  have h1 := lnV_pos (s.data.toList.take k)
  have h2 := colV_pos (s.data.toList.take k)
  have h3 : (s.data.toList.take k).length ≤ k := List.length_take_le _ _
  omega

set_option maxHeartbeats 1000000 in
theorem spec_line (s : ByteArray) (hs : s.size ≤ 4294967295) (n : Int) (w : World) : Calls Try.prog 4 #[.string s, .int .i64 n] w fun e w' => e = lcE s n ∧ w = w' := by
  have hb := get_bt s
  have b0 := bt_nonneg s
  have b1 := bt_le s
  cases hin : inV n 0 s.size with
  | false =>
    have F := Lib.hid (lcE_out (s := s) (n := n) (of_decide_eq_false hin))
    go_enter Try.func4, Try.ntmps4
    go_wp2_with (go_at_call 6; refine (spec_in _ _ _ _).mono ?_; rintro e w' ⟨rfl, rfl⟩)
    go_ret2
    exact ⟨F.out, rfl⟩
  | true =>
    obtain ⟨h0, h1⟩ : 0 ≤ n ∧ n ≤ s.size := of_decide_eq_true hin
    obtain ⟨m, rfl⟩ : ∃ m : Nat, n = m := ⟨n.toNat, by omega⟩
    have hm : m ≤ s.size := by omega
    go_enter Try.func4, Try.ntmps4
    go_wp2_with (go_at_call 6; refine (spec_in _ _ _ _).mono ?_; rintro e w' ⟨rfl, rfl⟩)
    go_loop [6, 7, 8] (fun a b i => ∃ (k : Nat) (x y : Int), k ≤ m ∧ i = .int .i64 k ∧ a = .int .i64 x ∧ b = .int .i64 y ∧ x = lnV (s.data.toList.take k) ∧ y = colV (s.data.toList.take k)) (fun _ _ i => m - (intOf i).toNat)
    case atStart => exact ⟨0, 1, 1, by omega, rfl, rfl, rfl, rfl, rfl⟩
    case round =>
      obtain ⟨k, x, y, hk, rfl, rfl, rfl, hx, hy⟩ := hrel
      obtain ⟨q0, q1, q2, q3⟩ := line_bd s k (by omega) hs
      rw [← hx] at q0 q1
      rw [← hy] at q2 q3
      have HX := Lib.hid hx
      have HY := Lib.hid hy
      clear hx hy
      by_cases hlt : k < m
      · have hkl : k < s.data.toList.length := by rw [Array.length_toList]; exact Nat.lt_of_lt_of_le hlt hm
        have hbd := Lib.hid (bt_data s k hkl)
        have htk := Lib.hid (List.take_succ_eq_append_getElem hkl)
        by_cases hc : bt s k = 10
        · have hc2 : (bt s k == 10) = true := by simpa using hc
          have HC := Lib.hid hc
          clear hc
          have hc10 : (s.data.toList[k]'hkl) = 10 := UInt8.toNat_inj.1 (by have := hbd.out.symm.trans HC.out; exact_mod_cast this)
          have H1 := Lib.hid (lnV_snoc (s.data.toList.take k) (s.data.toList[k]'hkl))
          have H2 := Lib.hid (colV_snoc (s.data.toList.take k) (s.data.toList[k]'hkl))
          have H3 := Lib.hid hc10
          clear hc10
          go_wp2_with fail
          go_round
          case rel => exact ⟨k + 1, _, _, by omega, by go_num, rfl, rfl, by rw [htk.out, H1.out, if_pos H3.out, ← HX.out], by rw [htk.out, H2.out, if_pos H3.out]⟩
          case measure => simp [intOf]; omega
        · have hc2 : (bt s k == 10) = false := by simpa using hc
          have HC := Lib.hid hc
          clear hc
          have hc10 : ¬ (s.data.toList[k]'hkl) = 10 := fun h => HC.out (by rw [hbd.out, h]; rfl)
          have H1 := Lib.hid (lnV_snoc (s.data.toList.take k) (s.data.toList[k]'hkl))
          have H2 := Lib.hid (colV_snoc (s.data.toList.take k) (s.data.toList[k]'hkl))
          have H3 := Lib.hid hc10
          clear hc10
          go_wp2_with fail
          go_round
          case rel => exact ⟨k + 1, _, _, by omega, by go_num, rfl, rfl, by rw [htk.out, H1.out, if_neg H3.out, ← HX.out], by rw [htk.out, H2.out, if_neg H3.out, ← HY.out]⟩
          case measure => simp [intOf]; omega
      · have hkm : k = m := by omega
        subst hkm
        go_wp2_with fail
        go_ret2
        exact ⟨lcE_in hm HX.out HY.out, rfl⟩

theorem impl_line (s : ByteArray) (hs : s.size ≤ 4294967295) (n : Int) (w : World) : Calls Try.prog 5 #[.string s, .int .i64 n] w fun e w' => e = lcE s n ∧ w = w' := by
  by_cases h0 : n < 0
  · have F := Lib.hid (lcE_out (s := s) (n := n) (by omega))
    go_enter Try.func5, Try.ntmps5
    go_wp2_with fail
    go_ret2
    exact ⟨F.out, rfl⟩
  by_cases h1 : n > s.size
  · have F := Lib.hid (lcE_out (s := s) (n := n) (by omega))
    go_enter Try.func5, Try.ntmps5
    go_wp2_with fail
    go_ret2
    exact ⟨F.out, rfl⟩
  obtain ⟨m, rfl⟩ : ∃ m : Nat, n = m := ⟨n.toNat, by omega⟩
  have hm : m ≤ s.size := by omega
  obtain ⟨q0, q1, q2, q3⟩ := line_bd s m hm hs
  have hx : (s.extract 0 m).data.toList = s.data.toList.take m := by rw [Lib.extract_data]; simp
  have hsz : (s.extract 0 m).size = m := by rw [ByteArray.size_extract]; omega
  have hln : 1 + ((Lib.countByte (s.extract 0 m).data.toList 10 : Nat) : Int) = lnV (s.data.toList.take m) := by rw [hx]; rfl
  have hco : (m : Int) - Lib.lastIndex (s.extract 0 m).data.toList [10] = colV (s.data.toList.take m) := by
    rw [hx]
    unfold colV
    rw [List.length_take, Array.length_toList]
    congr 1
    have : s.data.size = s.size := rfl
    omega
  have hlb := last_bd (s.data.toList.take m)
  rw [← hx] at hlb
  obtain ⟨l0, l1⟩ := hlb
  have l2 : ((s.extract 0 m).data.toList.length : Int) ≤ 4294967295 := by rw [hx, List.length_take]; omega
  rw [← hln] at q1
  rw [← hco] at q3
  have HL := Lib.hid hln
  have HC := Lib.hid hco
  have HS := Lib.hid hsz
  clear hln hco hx q0 q2 hsz
  go_enter Try.func5, Try.ntmps5
  go_wp2_with fail
  refine (Try.strings_Count_one _ 10 _).mono ?_
  generalize Lib.countByte (s.extract 0 m).data.toList 10 = C at *
  rintro e w' ⟨rfl, rfl⟩
  go_wp2_with fail
  refine (Try.strings_LastIndex (s.extract 0 m) ⟨#[10]⟩ (by rw [HS.out]; omega) _).mono ?_
  change ∀ e w', _ → _
  rw [show (⟨#[10]⟩ : ByteArray).data.toList = [10] from rfl]
  generalize Lib.lastIndex (s.extract 0 m).data.toList [10] = L at *
  rintro e w' ⟨rfl, rfl⟩
  go_wp2_with fail
  go_ret2
  exact ⟨lcE_in hm HL.out HC.out, rfl⟩

end Go.Proofs.Ytgpnicgjlljkdaa.Con
