/-
  Contracts of the two functions ReadDecimal: what they answer is said by 'RV'; what was in memory stays as it was. Condition (of the program's alone): strconv's two errors read as interface values.
-/
import Derived.Test.YtgpnicgjlljkdaaDoorVal
import Derived.Test.YtgpnicgjlljkdaaDoorName
import Derived.Test.YtgpnicgjlljkdaaDoorTab
import Derived.Test.YtgpnicgjlljkdaaDoorDecI
import Derived.Test.YtgpnicgjlljkdaaDoorDecS
namespace Go.Proofs.YtgpnicgjlljkdaaDoor.Con
open Go.RowKit Go.PlainAid

def valS (l : List UInt8) : Nat := match l with | [] => 0 | c :: r => if c = 45 then valA 0 r else valA 0 (c :: r)
theorem valS_cons (c : UInt8) (r : List UInt8) : valS (c :: r) = if c = 45 then valA 0 r else valA 0 (c :: r) := rfl
theorem valS_one (c : UInt8) : valS [c] = if c = 45 then 0 else c.toNat - 48 := by
  rw [valS_cons, valA_cons, valA_nil, valA_nil, Nat.zero_mul, Nat.zero_add]
theorem valS_snoc (l : List UInt8) (c : UInt8) (h : l ≠ []) : valS (l ++ [c]) = valS l * 10 + (c.toNat - 48) := by
  cases l with
  | nil => exact absurd rfl h
  | cons d r =>
    rw [List.cons_append, valS_cons, valS_cons]
    by_cases hd : d = 45
    · rw [if_pos hd, if_pos hd, valA_snoc]
    · rw [if_neg hd, if_neg hd, ← List.cons_append, valA_snoc]
/-- The number that the loop has found, with its sign. -/
def sgnV (l : List UInt8) : Int := match l with | [] => 0 | c :: r => if c = 45 then -((valS (c :: r) : Nat) : Int) else (valS (c :: r) : Nat)
theorem sgnV_cons (c : UInt8) (r : List UInt8) : sgnV (c :: r) = if c = 45 then -((valS (c :: r) : Nat) : Int) else (valS (c :: r) : Nat) := rfl
theorem sgn_dec {m : Int} (l : List UInt8) (h : decV m = l) : sgnV l = m := by
  subst h
  unfold decV
  by_cases hn : m < 0
  · rw [if_pos hn, sgnV_cons, if_pos rfl, valS_cons, if_pos rfl, decN_val]
    omega
  · rw [if_neg hn]
    have hv := decN_val m.natAbs
    have hd := decN_dig m.natAbs
    cases e : decN m.natAbs with
    | nil => exact absurd e (decN_ne _)
    | cons c r =>
      rw [e] at hv hd
      have hc : 48 ≤ c.toNat ∧ c.toNat ≤ 57 := hd c (by simp)
      have h45 : ¬ c = 45 := by rintro rfl; exact absurd hc.1 (by decide)
      rw [sgnV_cons, if_neg h45, valS_cons, if_neg h45, hv]
      omega
theorem RV_yes {l : List UInt8} (h : in32 (sgnV l)) (e : decV (sgnV l) = l) : RV l (sgnV l) true := Or.inl ⟨rfl, h, e⟩
theorem RV_no {l : List UInt8} (h : ¬ in32 (sgnV l) ∨ decV (sgnV l) ≠ l) : RV l 0 false := Or.inr ⟨rfl, rfl, fun m hm hd => by
  have e := sgn_dec l hd
  rw [e] at h
  rcases h with h | h
  · exact h hm
  · exact h hd⟩
theorem RV_len {l : List UInt8} (h : l.length < 1 ∨ 11 < l.length) : RV l 0 false := Or.inr ⟨rfl, rfl, fun m hm hd => by
  have := decV_len hm
  rw [hd] at this
  omega⟩
theorem RV_byte {l : List UInt8} (k : Nat) (hk : k < l.length) (h0 : ¬ (k = 0 ∧ l[k] = 45)) (h : ¬ isD l[k]) : RV l 0 false := Or.inr ⟨rfl, rfl, fun m _ hd => by
  subst hd
  by_cases hn : m < 0
  · have e : decV m = 45 :: decN m.natAbs := by unfold decV; rw [if_pos hn]
    cases k with
    | zero => exact h0 ⟨rfl, by simp [e]⟩
    | succ k =>
      have hk2 : k < (decN m.natAbs).length := by rw [e] at hk; simpa using hk
      have hx : (decV m)[k + 1] = (decN m.natAbs)[k] := by simp [e]
      rw [hx] at h
      exact h (decN_dig _ _ (List.getElem_mem _))
  · have e : decV m = decN m.natAbs := by unfold decV; rw [if_neg hn]
    have hx : (decV m)[k] ∈ decN m.natAbs := by rw [← e]; exact List.getElem_mem _
    exact h (decN_dig _ _ hx)⟩

/-- A number and a truth value are returned, as RV says. -/
def Reads (l : List UInt8) (e : Ending) : Prop := ∃ n ok, RV l n ok ∧ e = .returned (.tuple #[.int .i64 n, .bool ok])
theorem Reads.mk {l : List UInt8} {n : Int} {ok : Bool} (h : RV l n ok) : Reads l (.returned (.tuple #[.int .i64 n, .bool ok])) := ⟨n, ok, h, rfl⟩

theorem pow_le11 {k : Nat} (h : k ≤ 11) : 10 ^ k ≤ 100000000000 := Nat.le_trans (Nat.pow_le_pow_right (by omega) h) (by decide)

set_option maxHeartbeats 2000000 in
theorem spec_read (s : ByteArray) (hs : s.size ≤ 9223372036854775807) (w : World) : Calls Tryd.prog 17 #[.string s] w fun e w' => Reads s.data.toList e ∧ Gw w w' := by
  have hb := get_bt s
  have b0 := bt_nonneg s
  have b1 := bt_le s
  have hlen : s.data.toList.length = s.size := Array.length_toList
  by_cases z : s.size < 1
  · have R := Lib.hid (RV_len (l := s.data.toList) (Or.inl (by omega)))
    clear hlen
    go_enter Tryd.func17, Tryd.ntmps17
    go_wp2_with fail
    go_ret2
    exact ⟨Reads.mk R.out, Gw.refl _⟩
  by_cases z2 : 11 < s.size
  · have R := Lib.hid (RV_len (l := s.data.toList) (Or.inr (by omega)))
    clear hlen
    go_enter Tryd.func17, Tryd.ntmps17
    go_wp2_with fail
    go_ret2
    exact ⟨Reads.mk R.out, Gw.refl _⟩
  have HL := Lib.hid hlen
  clear hlen
  go_enter Tryd.func17, Tryd.ntmps17
  go_wp2_with fail
  go_loop [4, 5] (fun n i => ∃ k v : Nat, k ≤ s.size ∧ i = .int .i64 k ∧ n = .int .i64 v ∧ v = valS (s.data.toList.take k) ∧ v < 10 ^ k) (fun _ i => s.size - (intOf i).toNat)
  case atStart => exact ⟨0, 0, by omega, rfl, rfl, rfl, by simp⟩
  case round =>
    obtain ⟨k, v, hk, rfl, rfl, hv0, hv1⟩ := hrel
    have hv := Lib.hid hv0
    clear hv0
    have hp := pow_le11 (k := k) (by omega)
    have hv2 : v < 100000000000 := by omega
    have HV := Lib.hid hv1
    clear hv1 hp
    by_cases hlt : k < s.size
    · have hkl : k < s.data.toList.length := by rw [HL.out]; exact hlt
      have hbd := Lib.hid (bt_data s k hkl)
      have c0 := b0 k
      have c1 := b1 k
      have htk := Lib.hid (List.take_succ_eq_append_getElem hkl)
      by_cases h45 : k = 0 ∧ bt s 0 = 45
      · obtain ⟨rfl, hm⟩ := h45
        have hm2 : (bt s 0 == 45) = true := by simpa using hm
        have HM := Lib.hid hm
        clear hm
        go_wp2_with fail
        go_round
        case rel => exact ⟨1, v, by omega, by first | rfl | go_num, rfl, by
          have hc : (s.data.toList[0]'hkl) = 45 := UInt8.toNat_inj.1 (by have := hbd.out.symm.trans HM.out; exact_mod_cast this)
          rw [htk.out, List.take_zero, List.nil_append, valS_one, hc, if_pos rfl]
          have := HV.out
          simpa using this, by have := HV.out; omega⟩
        case measure => simp [intOf]; omega
      · have hv3 : k = 0 → v = 0 := fun h => by subst h; have := HV.out; simpa using this
        cases hd : digB (bt s k) with
        | false =>
          have R := Lib.hid (RV_byte (l := s.data.toList) k hkl (fun h => h45 ⟨h.1, by have := h.1; subst this; rw [hbd.out, h.2]; rfl⟩) (fun h => by
            unfold digB at hd
            have h2 := of_decide_eq_false hd
            rw [hbd.out] at h2
            unfold isD at h
            omega))
          by_cases hk0 : k = 0
          · subst hk0
            have h46 : (bt s 0 == 45) = false := by simpa using h45
            clear h45
            go_wp2_with (go_at_call 33; refine (spec_digit _ c0 c1 _).mono ?_; rintro e w' ⟨rfl, rfl⟩)
            go_ret2
            exact ⟨Reads.mk R.out, Gw.refl _⟩
          · have hk1 : ((k : Int) == 0) = false := by simpa using hk0
            clear h45
            go_wp2_with (go_at_call 33; refine (spec_digit _ c0 c1 _).mono ?_; rintro e w' ⟨rfl, rfl⟩)
            go_ret2
            exact ⟨Reads.mk R.out, Gw.refl _⟩
        | true =>
          have hdd : 48 ≤ bt s k ∧ bt s k ≤ 57 := of_decide_eq_true hd
          obtain ⟨d0, d1⟩ := hdd
          have hvn : (k = 0 ∧ bt s 0 = 45 → False) := h45
          have hnew : v * 10 + ((s.data.toList[k]'hkl).toNat - 48) = valS (s.data.toList.take (k + 1)) := by
            rw [htk.out]
            by_cases hk0 : k = 0
            · subst hk0
              rw [List.take_zero, List.nil_append, valS_one, if_neg (fun h => h45 ⟨rfl, by rw [hbd.out, h]; rfl⟩), hv3 rfl]
              omega
            · rw [valS_snoc _ _ (fun h => by
                have h3 : (s.data.toList.take k).length = k := by rw [List.length_take]; omega
                rw [h] at h3
                exact hk0 h3.symm), ← hv.out]
          have hcd : ((s.data.toList[k]'hkl).toNat : Int) = bt s k := hbd.out.symm
          have HC := Lib.hid hcd
          have HNEW := Lib.hid hnew
          have hbnd : v * 10 + ((s.data.toList[k]'hkl).toNat - 48) < 10 ^ (k + 1) := by
            have := HV.out
            rw [Nat.pow_succ]
            omega
          have HB := Lib.hid hbnd
          have hslot : (v : Int) * 10 + (bt s k - 48) = ((v * 10 + ((s.data.toList[k]'hkl).toNat - 48) : Nat) : Int) := by omega
          have HSL := Lib.hid hslot
          clear hcd hnew hbnd hslot hvn hv3
          by_cases hk0 : k = 0
          · subst hk0
            have h46 : (bt s 0 == 45) = false := by simpa using h45
            clear h45
            go_wp2_with (go_at_call 33; refine (spec_digit _ c0 c1 _).mono ?_; rintro e w' ⟨rfl, rfl⟩)
            go_round
            case rel => exact ⟨1, _, by omega, by first | rfl | go_num, congrArg (Value.int .i64) HSL.out, HNEW.out, HB.out⟩
            case measure => simp [intOf]; omega
          · have hk1 : ((k : Int) == 0) = false := by simpa using hk0
            clear h45
            go_wp2_with (go_at_call 33; refine (spec_digit _ c0 c1 _).mono ?_; rintro e w' ⟨rfl, rfl⟩)
            go_round
            case rel => exact ⟨k + 1, _, by omega, by go_num, congrArg (Value.int .i64) HSL.out, HNEW.out, HB.out⟩
            case measure => simp [intOf]; omega
    · have hkk : k = s.size := by omega
      subst hkk
      have hfull : s.data.toList.take s.size = s.data.toList := by rw [← HL.out, List.take_length]
      have hv3 : v = valS s.data.toList := by rw [← hfull]; exact hv.out
      have hk0 : 0 < s.data.toList.length := by rw [HL.out]; omega
      have hbd := bt_data s 0 hk0
      have c0 := b0 0
      have c1 := b1 0
      by_cases h45 : bt s 0 = 45
      · have h46 : (bt s 0 == 45) = true := by simpa using h45
        have HN0 : sgnV s.data.toList = -(v : Int) := by
          cases e : s.data.toList with
          | nil => rw [e] at hk0; simp at hk0
          | cons c r =>
            have hc : c = 45 := UInt8.toNat_inj.1 (by simp only [e, List.getElem_cons_zero] at hbd; have := hbd.symm.trans h45; exact_mod_cast this)
            rw [sgnV_cons, if_pos hc, hv3, e]
        have HN1 := Lib.hid HN0
        clear HN0 hv3 hfull hbd h45
        go_wp2_with fail
        generalize hN : -(v : Int) = N at HN1 ⊢
        have HN := HN1
        have HNV := Lib.hid hN
        clear hN HN1
        have hd := spec_decimal N
        cases hin : inV N (-2147483648) 2147483647 with
        | false =>
          have R := Lib.hid (RV_no (l := s.data.toList) (Or.inl (by rw [HN.out]; exact (of_decide_eq_false hin : ¬ (-2147483648 ≤ N ∧ N ≤ 2147483647)))))
          go_wp2_with (go_at_call 39; refine (spec_in _ _ _ _).mono ?_; rintro e w' ⟨rfl, rfl⟩)
          go_ret2
          exact ⟨Reads.mk R.out, Gw.refl _⟩
        | true =>
          have h32 : -2147483648 ≤ N ∧ N ≤ 2147483647 := of_decide_eq_true hin
          obtain ⟨n1, n2⟩ := h32
          go_wp2_with (go_at_call 39; refine (spec_in _ _ _ _).mono ?_; rintro e w' ⟨rfl, rfl⟩)
          refine (hd (by omega) (by omega) _).mono ?_
          rintro e w1 ⟨rfl, g1⟩
          generalize hS : (⟨(decV N).toArray⟩ : ByteArray) = S
          have hSl : S.toList = decV N := by rw [← hS, ByteArray.toList_eq]
          have HS := Lib.hid hSl
          clear hS hSl hd
          by_cases hq : decV N = s.data.toList
          · have R := Lib.hid (RV_yes (l := s.data.toList) (by rw [HN.out]; exact ⟨n1, n2⟩) (by rw [HN.out]; exact hq))
            rw [HN.out] at R
            have hq2 : (S.toList == s.toList) = true := by rw [HS.out, ByteArray.toList_eq]; simpa using hq
            clear hq
            go_wp2_with fail
            go_ret2
            exact ⟨Reads.mk R.out, g1⟩
          · have R := Lib.hid (RV_no (l := s.data.toList) (Or.inr (by rw [HN.out]; exact hq)))
            have hq2 : (S.toList == s.toList) = false := by rw [HS.out, ByteArray.toList_eq]; simpa using hq
            clear hq
            go_wp2_with fail
            go_ret2
            exact ⟨Reads.mk R.out, g1⟩
      · have h46 : (bt s 0 == 45) = false := by simpa using h45
        have HN0 : sgnV s.data.toList = (v : Int) := by
          cases e : s.data.toList with
          | nil => rw [e] at hk0; simp at hk0
          | cons c r =>
            have hc : ¬ c = 45 := fun h => h45 (by simp only [e, List.getElem_cons_zero] at hbd; rw [hbd, h]; rfl)
            rw [sgnV_cons, if_neg hc, hv3, e]
        have HN1 := Lib.hid HN0
        clear HN0 hv3 hfull hbd h45
        go_wp2_with fail
        generalize hN : (v : Int) = N at HN1 ⊢
        have HN := HN1
        have HNV := Lib.hid hN
        clear hN HN1
        have hd := spec_decimal N
        cases hin : inV N (-2147483648) 2147483647 with
        | false =>
          have R := Lib.hid (RV_no (l := s.data.toList) (Or.inl (by rw [HN.out]; exact (of_decide_eq_false hin : ¬ (-2147483648 ≤ N ∧ N ≤ 2147483647)))))
          go_wp2_with (go_at_call 39; refine (spec_in _ _ _ _).mono ?_; rintro e w' ⟨rfl, rfl⟩)
          go_ret2
          exact ⟨Reads.mk R.out, Gw.refl _⟩
        | true =>
          have h32 : -2147483648 ≤ N ∧ N ≤ 2147483647 := of_decide_eq_true hin
          obtain ⟨n1, n2⟩ := h32
          go_wp2_with (go_at_call 39; refine (spec_in _ _ _ _).mono ?_; rintro e w' ⟨rfl, rfl⟩)
          refine (hd (by omega) (by omega) _).mono ?_
          rintro e w1 ⟨rfl, g1⟩
          generalize hS : (⟨(decV N).toArray⟩ : ByteArray) = S
          have hSl : S.toList = decV N := by rw [← hS, ByteArray.toList_eq]
          have HS := Lib.hid hSl
          clear hS hSl hd
          by_cases hq : decV N = s.data.toList
          · have R := Lib.hid (RV_yes (l := s.data.toList) (by rw [HN.out]; exact ⟨n1, n2⟩) (by rw [HN.out]; exact hq))
            rw [HN.out] at R
            have hq2 : (S.toList == s.toList) = true := by rw [HS.out, ByteArray.toList_eq]; simpa using hq
            clear hq
            go_wp2_with fail
            go_ret2
            exact ⟨Reads.mk R.out, g1⟩
          · have R := Lib.hid (RV_no (l := s.data.toList) (Or.inr (by rw [HN.out]; exact hq)))
            have hq2 : (S.toList == s.toList) = false := by rw [HS.out, ByteArray.toList_eq]; simpa using hq
            clear hq
            go_wp2_with fail
            go_ret2
            exact ⟨Reads.mk R.out, g1⟩

end Go.Proofs.YtgpnicgjlljkdaaDoor.Con
