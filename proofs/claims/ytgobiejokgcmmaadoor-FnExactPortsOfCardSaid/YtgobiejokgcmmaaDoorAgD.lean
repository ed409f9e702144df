/-
  Contracts of KindName, KindNamed, ClassName, PortsOf and Growth (the model's and the program's). Condition: the program's tables read as its text lays them.
-/
import Derived.Test.YtgobiejokgcmmaaDoorAgI
namespace Go.Proofs.YtgobiejokgcmmaaDoor.Con
open Go.RowKit
set_option linter.unusedVariables false

theorem kinds10 (w : World) : Calls Tryd.prog 29 #[] w fun e w' =>
    e = .returned (.slice (some ⟨w.heap.size, 0, none⟩) 12 12) ∧ (∀ i, i < 12 → w'.cell? ⟨w.heap.size, i, none⟩ = some (.string (kindAt i))) ∧ Gw w w' := by
  have K : ∀ P : Ending → World → Prop, P (.returned (.slice (some ⟨w.heap.size, 0, none⟩) 12 12)) (w.alloc (.cells #[.string (kindAt 0), .string (kindAt 1), .string (kindAt 2), .string (kindAt 3), .string (kindAt 4), .string (kindAt 5), .string (kindAt 6), .string (kindAt 7), .string (kindAt 8), .string (kindAt 9), .string (kindAt 10), .string (kindAt 11)] 9)) →
      Calls Tryd.prog 29 #[] w P := by
    intro P h
    go_enter Tryd.func29, Tryd.ntmps29
    go_wp2
    exact h
  refine K _ ⟨rfl, fun i hi => ?_, (Gw.refl _).alloc _⟩
  obtain rfl | rfl | rfl | rfl | rfl | rfl | rfl | rfl | rfl | rfl | rfl | rfl : i = 0 ∨ i = 1 ∨ i = 2 ∨ i = 3 ∨ i = 4 ∨ i = 5 ∨ i = 6 ∨ i = 7 ∨ i = 8 ∨ i = 9 ∨ i = 10 ∨ i = 11 := by omega
  all_goals go_cell

theorem classes10 (w : World) : Calls Tryd.prog 32 #[] w fun e w' =>
    e = .returned (.slice (some ⟨w.heap.size, 0, none⟩) 8 8) ∧ (∀ i, i < 8 → w'.cell? ⟨w.heap.size, i, none⟩ = some (.string (classAt i))) ∧ Gw w w' := by
  have K : ∀ P : Ending → World → Prop, P (.returned (.slice (some ⟨w.heap.size, 0, none⟩) 8 8)) (w.alloc (.cells #[.string (classAt 0), .string (classAt 1), .string (classAt 2), .string (classAt 3), .string (classAt 4), .string (classAt 5), .string (classAt 6), .string (classAt 7)] 9)) →
      Calls Tryd.prog 32 #[] w P := by
    intro P h
    go_enter Tryd.func32, Tryd.ntmps32
    go_wp2
    exact h
  refine K _ ⟨rfl, fun i hi => ?_, (Gw.refl _).alloc _⟩
  obtain rfl | rfl | rfl | rfl | rfl | rfl | rfl | rfl : i = 0 ∨ i = 1 ∨ i = 2 ∨ i = 3 ∨ i = 4 ∨ i = 5 ∨ i = 6 ∨ i = 7 := by omega
  all_goals go_cell

theorem spec_kname (n : Int) (w : World) : Calls Tryd.prog 11 #[.int .i64 n] w fun e w' => e = .returned (.string (kindTextV n)) ∧ Gw w w' := by
  by_cases hn : 1 ≤ n ∧ n ≤ 12
  · obtain ⟨k, rfl⟩ : ∃ k : Nat, n = (k : Int) + 1 := ⟨(n - 1).toNat, by omega⟩
    have hk : k < 12 := by omega
    have d : inV ((k : Int) + 1) 1 12 = true := decide_eq_true hn
    have F := Lib.hid (show kindAt k = kindTextV ((k : Int) + 1) from by unfold kindTextV; rw [if_pos hn]; congr 1; omega)
    clear hn
    go_enter Tryd.func11, Tryd.ntmps11
    go_wp2_with (first | (go_at_call 28; refine (spec_kind10 _ _).mono ?_; rintro e w' ⟨rfl, rfl⟩) | (go_at_call 29; refine (kinds10 _).mono ?_; rintro e w' ⟨rfl, hc0, hg0⟩; have hc := hc0 k hk; clear hc0))
    go_ret
    exact ⟨ret_s F.out, by assumption⟩
  · have d : inV n 1 12 = false := decide_eq_false hn
    have F := Lib.hid (show ⟨#[]⟩ = kindTextV n from by unfold kindTextV; rw [if_neg hn])
    clear hn
    go_enter Tryd.func11, Tryd.ntmps11
    go_wp2_with ((go_at_call 28; refine (spec_kind10 _ _).mono ?_; rintro e w' ⟨rfl, rfl⟩))
    go_ret
    exact ⟨ret_s F.out, Gw.refl _⟩

theorem spec_cname (n : Int) (w : World) : Calls Tryd.prog 15 #[.int .i64 n] w fun e w' => e = .returned (.string (classTextV n)) ∧ Gw w w' := by
  by_cases hn : 1 ≤ n ∧ n ≤ 8
  · obtain ⟨k, rfl⟩ : ∃ k : Nat, n = (k : Int) + 1 := ⟨(n - 1).toNat, by omega⟩
    have hk : k < 8 := by omega
    have d : inV ((k : Int) + 1) 1 8 = true := decide_eq_true hn
    have F := Lib.hid (show classAt k = classTextV ((k : Int) + 1) from by unfold classTextV; rw [if_pos hn]; congr 1; omega)
    clear hn
    go_enter Tryd.func15, Tryd.ntmps15
    go_wp2_with (first | (go_at_call 31; refine (specIn _ _ _ _).mono ?_; rintro e w' ⟨rfl, rfl⟩) | (go_at_call 32; refine (classes10 _).mono ?_; rintro e w' ⟨rfl, hc0, hg0⟩; have hc := hc0 k hk; clear hc0))
    go_ret
    exact ⟨ret_s F.out, by assumption⟩
  · have d : inV n 1 8 = false := decide_eq_false hn
    have F := Lib.hid (show ⟨#[]⟩ = classTextV n from by unfold classTextV; rw [if_neg hn])
    clear hn
    go_enter Tryd.func15, Tryd.ntmps15
    go_wp2_with ((go_at_call 31; refine (specIn _ _ _ _).mono ?_; rintro e w' ⟨rfl, rfl⟩))
    go_ret
    exact ⟨ret_s F.out, Gw.refl _⟩

/-- The program's table of kinds. -/
def formsL : List (List UInt8 × Int) := [([], 0), ([114, 111, 111, 116], 1), ([108, 97, 109], 3), ([97, 112, 112], 3), ([102, 97, 110], 3), ([101, 114, 97], 1), ([110, 117, 109], 1), ([111, 112], 3), ([111, 112, 49], 2), ([99, 111, 110], 1), ([109, 97, 116], 2), ([115, 119, 105], 2), ([114, 101, 102], 1)]
def portAt (k : Nat) : Int := (formsL.getD k ([], 0)).2
/-- The table of kinds lies in block g. -/
def KndAt (g : Nat) (w : World) : Prop := g < w.heap.size ∧ ∀ k : Nat, k < 12 → w.cell? ⟨g, (k + 1) * 2, none⟩ = some (.string (kindAt k)) ∧ w.cell? ⟨g, (k + 1) * 2 + 1, none⟩ = some (.int .i64 (portAt (k + 1)))
theorem KndAt.grow {g : Nat} {w w' : World} (h : KndAt g w) (gr : Gw w w') : KndAt g w' :=
  ⟨Nat.lt_of_lt_of_le h.1 gr.size, fun k hk => ⟨gr.cell (h.2 k hk).1 h.1, gr.cell (h.2 k hk).2 h.1⟩⟩
theorem knd_of {P : Program} {W : World} {name : String} {g t e n es ei : Nat} {f0 f1 : Field} (hG : P.globalNamed name = some g) (hT : (P.globals[g]?).map (·.type) = some t)
    (hU : P.underlying t = some (.array n e)) (hE : P.underlying e = some (.struct #[f0, f1])) (t0 : f0.type = es) (t1 : f1.type = ei) (o0 : f0.offset = 0) (o1 : f1.offset = 1)
    (us : P.underlying es = some .string) (ui : P.underlying ei = some (.int .i64)) (ks : P.cellsOf es = 1) (ki : P.cellsOf ei = 1) (hC : P.cellsOf e = 2)
    (h : laidMet P [(name, .agg (formsL.map fun r => .agg [.lit (.string r.1), .lit (.int .i64 r.2)]))] W) : KndAt g W := by
  have hc := sntab_cell hG hT hU hE t0 t1 o0 o1 us ui ks ki hC formsL h
  refine ⟨hc.1, fun k hk => ?_⟩
  have hl : k + 1 < formsL.length := by simp [formsL]; omega
  have h1 := hc.2 (k + 1) formsL[k + 1] (List.getElem?_eq_getElem hl)
  have e2 : portAt (k + 1) = formsL[k + 1].2 := by unfold portAt; rw [List.getD, List.getElem?_eq_getElem hl]; rfl
  have e1 : kindAt k = ⟨formsL[k + 1].1.toArray⟩ := by
    have : ∀ (k : Fin 12), (kindsL.getD k.val []) = (formsL.getD (k.val + 1) ([], 0)).1 := by decide +kernel
    have h2 := this ⟨k, hk⟩
    simp only at h2
    unfold kindAt
    rw [h2, List.getD, List.getElem?_eq_getElem hl]
    rfl
  rw [e1, e2]
  exact h1

theorem impl_kname (n : Int) (w : World) (hT : KndAt 0 w) : Calls Tryd.prog 12 #[.int .i64 n] w fun e w' => e = .returned (.string (kindTextV n)) ∧ w = w' := by
  by_cases hn : 1 ≤ n ∧ n ≤ 12
  · obtain ⟨k, rfl⟩ : ∃ k : Nat, n = ((k + 1 : Nat) : Int) := ⟨(n - 1).toNat, by omega⟩
    have hk : k < 12 := by omega
    have hc := (hT.2 k hk).1
    have d : inV ((k + 1 : Nat) : Int) 1 12 = true := decide_eq_true hn
    have F := Lib.hid (show kindAt k = kindTextV ((k + 1 : Nat) : Int) from by unfold kindTextV; rw [if_pos hn]; congr 1; omega)
    clear hn hT
    have hm : k + 1 < 13 := by omega
    clear hk
    generalize kindAt k = V at hc F
    generalize k + 1 = m at hc d F hm
    go_enter Tryd.func12, Tryd.ntmps12
    go_wp2_with (go_at_call 30; refine (impl_has 8190 _ (by decide) (by decide) _).mono ?_; rintro e w' ⟨rfl, rfl⟩; rw [bit_all12])
    go_ret
    exact ⟨ret_s F.out, rfl⟩
  · have d : inV n 1 12 = false := decide_eq_false hn
    have F := Lib.hid (show ⟨#[]⟩ = kindTextV n from by unfold kindTextV; rw [if_neg hn])
    clear hn hT
    go_enter Tryd.func12, Tryd.ntmps12
    go_wp2_with (go_at_call 30; refine (impl_has 8190 _ (by decide) (by decide) _).mono ?_; rintro e w' ⟨rfl, rfl⟩; rw [bit_all12])
    go_ret
    exact ⟨ret_s F.out, rfl⟩

theorem impl_ix10 (k n : Int) (w : World) : Calls Tryd.prog 33 #[.int .i64 k, .int .i64 n] w fun e w' => e = .returned (.bool (inV k 0 (n - 1))) ∧ w = w' := by
  by_cases a : 0 ≤ k <;> by_cases b : k < n <;> (
    go_enter Tryd.func33, Tryd.ntmps33
    go_wp2
    go_ret
    exact ⟨ret_b (by unfold inV; simp; omega), rfl⟩)

def clsL : List (List UInt8) := [] :: classesL
def clsAt (i : Nat) : ByteArray := ⟨(clsL.getD i []).toArray⟩
theorem cls_text (k : Nat) (h : k < 9) : clsAt k = classTextV (k : Int) := by
  unfold clsAt classTextV
  by_cases h0 : k = 0
  · subst h0; rfl
  · obtain ⟨m, rfl⟩ : ∃ m, k = m + 1 := ⟨k - 1, by omega⟩
    rw [if_pos (by omega), show (((m + 1 : Nat) : Int) - 1).toNat = m by omega]
    rfl

theorem impl_cname (n : Int) (w : World) (hT : ∀ i, i < 9 → w.cell? ⟨1, i, none⟩ = some (.string (clsAt i))) : Calls Tryd.prog 16 #[.int .i64 n] w fun e w' => e = .returned (.string (classTextV n)) ∧ w = w' := by
  by_cases hn : 0 ≤ n ∧ n ≤ 8
  · obtain ⟨k, rfl⟩ : ∃ k : Nat, n = k := ⟨n.toNat, by omega⟩
    have hk : k < 9 := by omega
    have hc := hT k hk
    have d : inV (k : Int) 0 8 = true := decide_eq_true hn
    have F := Lib.hid (cls_text k hk)
    clear hn hT
    generalize clsAt k = V at hc F
    go_enter Tryd.func16, Tryd.ntmps16
    go_wp2_with (go_at_call 33; refine (impl_ix10 _ _ _).mono ?_; rintro e w' ⟨rfl, rfl⟩)
    go_ret
    exact ⟨ret_s F.out, rfl⟩
  · have d : inV n 0 8 = false := decide_eq_false hn
    have F := Lib.hid (show ⟨#[]⟩ = classTextV n from by unfold classTextV; rw [if_neg (by omega)])
    clear hn hT
    go_enter Tryd.func16, Tryd.ntmps16
    go_wp2_with (go_at_call 33; refine (impl_ix10 _ _ _).mono ?_; rintro e w' ⟨rfl, rfl⟩)
    go_ret
    exact ⟨ret_s F.out, rfl⟩

set_option maxHeartbeats 400000 in
theorem spec_knamed (s : ByteArray) (w : World) : Calls Tryd.prog 13 #[.string s] w fun e w' => e = .returned (.int .i64 (kindOfV s.toList)) ∧ Gw w w' := by
  go_enter Tryd.func13, Tryd.ntmps13
  go_wp2_with (go_at_call 29; refine (kinds10 _).mono ?_; rintro e w' ⟨rfl, hc0, hg0⟩; have HC := Lib.hid hc0; have HG := Lib.hid hg0; clear hc0 hg0)
  go_loop [4] (fun i => ∃ k : Nat, k ≤ 12 ∧ i = .int .i64 k ∧ (∀ j, j < k → (kindAt j).toList ≠ s.toList)) (fun i => 12 - (intOf i).toNat)
  case atStart => exact ⟨0, by omega, rfl, fun j hj => by omega⟩
  case round =>
    obtain ⟨k, hk, rfl, hno0⟩ := hrel
    have hno := Lib.hid hno0
    clear hno0
    by_cases hlt : k < 12
    · have hc := HC.out k hlt
      by_cases hq : (kindAt k).toList = s.toList
      · have F := Lib.hid (show (k : Int) + 1 = kindOfV s.toList from by rw [kindOf_at _ k hlt hq])
        have hq' : ((kindAt k).toList == s.toList) = true := by simpa using hq
        clear hq
        go_wp2
        go_ret
        exact ⟨ret_i F.out, HG.out⟩
      · have hq' : ((kindAt k).toList == s.toList) = false := by simpa using hq
        have hq2 := Lib.hid hq
        clear hq
        go_wp2
        go_round
        case rel => exact ⟨k + 1, by omega, by go_num, fun j h1 => if h : j = k then h ▸ hq2.out else hno.out j (by omega)⟩
        case measure => simp [intOf]; omega
    · have F := Lib.hid (kindOf_none _ fun j h2 => hno.out j (by omega)).symm
      go_wp2
      go_ret
      exact ⟨ret_i F.out, HG.out⟩

set_option maxHeartbeats 400000 in
theorem impl_knamed (s : ByteArray) (w : World) (hT0 : KndAt 0 w) : Calls Tryd.prog 14 #[.string s] w fun e w' => e = .returned (.int .i64 (kindOfV s.toList)) ∧ w = w' := by
  have hT := Lib.hid hT0
  clear hT0
  go_enter Tryd.func14, Tryd.ntmps14
  go_wp2_with fail
  go_loop [3] (fun i => ∃ k : Nat, 1 ≤ k ∧ k ≤ 13 ∧ i = .int .i64 k ∧ (∀ j, j + 1 < k → (kindAt j).toList ≠ s.toList)) (fun i => 13 - (intOf i).toNat)
  case atStart => exact ⟨1, by omega, by omega, rfl, fun j hj => by omega⟩
  case round =>
    obtain ⟨k, hk1, hk, rfl, hno0⟩ := hrel
    have hno := Lib.hid hno0
    clear hno0
    by_cases hlt : k < 13
    · have hc := (hT.out.2 (k - 1) (by omega)).1
      rw [show k - 1 + 1 = k by omega] at hc
      by_cases hq : (kindAt (k - 1)).toList = s.toList
      · have F := Lib.hid (show (k : Int) = kindOfV s.toList from by rw [kindOf_at _ (k - 1) (by omega) hq]; omega)
        have hq' : ((kindAt (k - 1)).toList == s.toList) = true := by simpa using hq
        clear hq
        generalize kindAt (k - 1) = V at hc hq'
        go_wp2
        go_ret
        exact ⟨ret_i F.out, rfl⟩
      · have hq' : ((kindAt (k - 1)).toList == s.toList) = false := by simpa using hq
        have hno2 := Lib.hid (show ∀ j, j + 1 < k + 1 → (kindAt j).toList ≠ s.toList from fun j h1 => if h : j = k - 1 then h ▸ hq else hno.out j (by omega))
        clear hq hno
        generalize kindAt (k - 1) = V at hc hq'
        go_wp2
        go_round
        case rel => exact ⟨k + 1, by omega, by omega, by go_num, hno2.out⟩
        case measure => simp [intOf]; omega
    · have F := Lib.hid (kindOf_none _ fun j h2 => hno.out j (by omega)).symm
      go_wp2
      go_ret
      exact ⟨ret_i F.out, rfl⟩

theorem spec_ports (k f : Int) (w : World) : Calls Tryd.prog 17 #[.int .i64 k, .int .i64 f] w fun e w' => e = .returned (.int .i64 (portsV k f)) ∧ w = w' := by
  by_cases e9 : k = 9
  · subst e9
    by_cases hf : inV f 0 3 = true
    · have F := Lib.hid (show 1 + f = portsV 9 f from by unfold portsV; rw [if_pos rfl, if_pos hf])
      have hb : 0 ≤ f ∧ f ≤ 3 := of_decide_eq_true hf
      obtain ⟨b0, b1⟩ := hb
      go_enter Tryd.func17, Tryd.ntmps17
      go_wp2_with (go_at_call 31; refine (specIn _ _ _ _).mono ?_; rintro e w' ⟨rfl, rfl⟩)
      go_ret
      exact ⟨ret_i F.out, rfl⟩
    · have hf2 : inV f 0 3 = false := by simpa using hf
      have F := Lib.hid (show 0 = portsV 9 f from by unfold portsV; rw [if_pos rfl, if_neg hf])
      clear hf
      go_enter Tryd.func17, Tryd.ntmps17
      go_wp2_with (go_at_call 31; refine (specIn _ _ _ _).mono ?_; rintro e w' ⟨rfl, rfl⟩)
      go_ret
      exact ⟨ret_i F.out, rfl⟩
  by_cases h0 : f = 0
  · subst h0
    by_cases e1 : k = 1
    · subst e1
      have F := Lib.hid (show 1 = portsV 1 0 from rfl)
      clear e9
      go_enter Tryd.func17, Tryd.ntmps17
      go_wp2
      go_ret
      exact ⟨ret_i F.out, rfl⟩
    by_cases e5 : k = 5
    · subst e5
      have F := Lib.hid (show 1 = portsV 5 0 from rfl)
      clear e9
      go_enter Tryd.func17, Tryd.ntmps17
      go_wp2
      go_ret
      exact ⟨ret_i F.out, rfl⟩
    by_cases e6 : k = 6
    · subst e6
      have F := Lib.hid (show 1 = portsV 6 0 from rfl)
      clear e9
      go_enter Tryd.func17, Tryd.ntmps17
      go_wp2
      go_ret
      exact ⟨ret_i F.out, rfl⟩
    by_cases e12 : k = 12
    · subst e12
      have F := Lib.hid (show 1 = portsV 12 0 from rfl)
      clear e9
      go_enter Tryd.func17, Tryd.ntmps17
      go_wp2
      go_ret
      exact ⟨ret_i F.out, rfl⟩
    by_cases e8 : k = 8
    · subst e8
      have F := Lib.hid (show 2 = portsV 8 0 from rfl)
      clear e9
      go_enter Tryd.func17, Tryd.ntmps17
      go_wp2
      go_ret
      exact ⟨ret_i F.out, rfl⟩
    by_cases e10 : k = 10
    · subst e10
      have F := Lib.hid (show 2 = portsV 10 0 from rfl)
      clear e9
      go_enter Tryd.func17, Tryd.ntmps17
      go_wp2
      go_ret
      exact ⟨ret_i F.out, rfl⟩
    by_cases e11 : k = 11
    · subst e11
      have F := Lib.hid (show 2 = portsV 11 0 from rfl)
      clear e9
      go_enter Tryd.func17, Tryd.ntmps17
      go_wp2
      go_ret
      exact ⟨ret_i F.out, rfl⟩
    by_cases e2 : k = 2
    · subst e2
      have F := Lib.hid (show 3 = portsV 2 0 from rfl)
      clear e9
      go_enter Tryd.func17, Tryd.ntmps17
      go_wp2
      go_ret
      exact ⟨ret_i F.out, rfl⟩
    by_cases e3 : k = 3
    · subst e3
      have F := Lib.hid (show 3 = portsV 3 0 from rfl)
      clear e9
      go_enter Tryd.func17, Tryd.ntmps17
      go_wp2
      go_ret
      exact ⟨ret_i F.out, rfl⟩
    by_cases e4 : k = 4
    · subst e4
      have F := Lib.hid (show 3 = portsV 4 0 from rfl)
      clear e9
      go_enter Tryd.func17, Tryd.ntmps17
      go_wp2
      go_ret
      exact ⟨ret_i F.out, rfl⟩
    by_cases e7 : k = 7
    · subst e7
      have F := Lib.hid (show 3 = portsV 7 0 from rfl)
      clear e9
      go_enter Tryd.func17, Tryd.ntmps17
      go_wp2
      go_ret
      exact ⟨ret_i F.out, rfl⟩
    have F := Lib.hid (show 0 = portsV k 0 from by unfold portsV; rw [if_neg e9, if_pos rfl, if_neg (by omega), if_neg (by omega), if_neg (by omega)])
    have b9 : (k == 9) = false := by simpa using e9
    have b1 : (k == 1) = false := by simpa using e1
    have b5 : (k == 5) = false := by simpa using e5
    have b6 : (k == 6) = false := by simpa using e6
    have b12 : (k == 12) = false := by simpa using e12
    have b8 : (k == 8) = false := by simpa using e8
    have b10 : (k == 10) = false := by simpa using e10
    have b11 : (k == 11) = false := by simpa using e11
    have b2 : (k == 2) = false := by simpa using e2
    have b3 : (k == 3) = false := by simpa using e3
    have b4 : (k == 4) = false := by simpa using e4
    have b7 : (k == 7) = false := by simpa using e7
    clear e9 e1 e5 e6 e12 e8 e10 e11 e2 e3 e4 e7
    go_enter Tryd.func17, Tryd.ntmps17
    go_wp2
    go_ret
    exact ⟨ret_i F.out, rfl⟩
  · have F := Lib.hid (show 0 = portsV k f from by unfold portsV; rw [if_neg e9, if_neg h0])
    have b9 : (k == 9) = false := by simpa using e9
    have b0 : (f == 0) = false := by simpa using h0
    have c0 : (f != 0) = true := by simpa using h0
    clear e9 h0
    go_enter Tryd.func17, Tryd.ntmps17
    go_wp2
    go_ret
    exact ⟨ret_i F.out, rfl⟩

theorem ports_at : ∀ k : Fin 13, 1 ≤ k.val → portsV (k.val : Int) 0 = (if k.val = 9 then 1 else portAt k.val) := by decide +kernel
theorem port_in : ∀ k : Fin 13, 0 ≤ portAt k.val ∧ portAt k.val ≤ 3 := by decide +kernel

theorem ports_none (n f : Int) (hn : ¬ (1 ≤ n ∧ n ≤ 12)) : portsV n f = 0 := by
  unfold portsV
  rw [if_neg (by omega : ¬ n = 9)]
  by_cases z : f = 0
  · rw [if_pos z, if_neg (by omega), if_neg (by omega), if_neg (by omega)]
  · rw [if_neg z]

theorem impl_ports (n f : Int) (w : World) (hT : KndAt 0 w) : Calls Tryd.prog 18 #[.int .i64 n, .int .i64 f] w fun e w' => e = .returned (.int .i64 (portsV n f)) ∧ w = w' := by
  by_cases hn : 1 ≤ n ∧ n ≤ 12
  · obtain ⟨k, rfl⟩ : ∃ k : Nat, n = ((k + 1 : Nat) : Int) := ⟨(n - 1).toNat, by omega⟩
    have hk : k < 12 := by omega
    have hc := (hT.2 k hk).2
    have hp := port_in ⟨k + 1, by omega⟩
    have ha := ports_at ⟨k + 1, by omega⟩ (by simp)
    simp only at hp ha
    have d : inV ((k + 1 : Nat) : Int) 1 12 = true := decide_eq_true hn
    have hm : k + 1 < 13 := by omega
    clear hn hT hk
    by_cases h9 : k + 1 = 9
    · rw [if_pos h9] at ha
      have hpa : portAt (k + 1) = 1 := by rw [h9]; rfl
      rw [hpa] at hc
      have b9 : (((k + 1 : Nat) : Int) == 9) = true := by simp; omega
      have hv : portsV ((k + 1 : Nat) : Int) f = if inV f 0 3 = true then 1 + f else 0 := by unfold portsV; rw [if_pos (by omega)]
      clear ha hp hpa
      by_cases f0 : 0 ≤ f
      · by_cases f3 : f ≤ 3
        · have F := Lib.hid (show 1 + f = portsV ((k + 1 : Nat) : Int) f from by rw [hv, if_pos (show inV f 0 3 = true from decide_eq_true ⟨f0, f3⟩)])
          clear hv h9
          generalize k + 1 = m at hc d F hm b9
          go_enter Tryd.func18, Tryd.ntmps18
          go_wp2_with (go_at_call 30; refine (impl_has 8190 _ (by decide) (by decide) _).mono ?_; rintro e w' ⟨rfl, rfl⟩; rw [bit_all12])
          go_ret
          exact ⟨ret_i F.out, rfl⟩
        · have F := Lib.hid (show 0 = portsV ((k + 1 : Nat) : Int) f from by rw [hv, if_neg (by unfold inV; simp; omega)])
          clear hv h9
          generalize k + 1 = m at hc d F hm b9
          go_enter Tryd.func18, Tryd.ntmps18
          go_wp2_with (go_at_call 30; refine (impl_has 8190 _ (by decide) (by decide) _).mono ?_; rintro e w' ⟨rfl, rfl⟩; rw [bit_all12])
          go_ret
          exact ⟨ret_i F.out, rfl⟩
      · have F := Lib.hid (show 0 = portsV ((k + 1 : Nat) : Int) f from by rw [hv, if_neg (by unfold inV; simp; omega)])
        clear hv h9
        generalize k + 1 = m at hc d F hm b9
        go_enter Tryd.func18, Tryd.ntmps18
        go_wp2_with (go_at_call 30; refine (impl_has 8190 _ (by decide) (by decide) _).mono ?_; rintro e w' ⟨rfl, rfl⟩; rw [bit_all12])
        go_ret
        exact ⟨ret_i F.out, rfl⟩
    · rw [if_neg h9] at ha
      have b9 : (((k + 1 : Nat) : Int) == 9) = false := by simp; omega
      have hz : f ≠ 0 → portsV ((k + 1 : Nat) : Int) f = 0 := fun h => by unfold portsV; rw [if_neg (by omega), if_neg h]
      obtain ⟨p0, p3⟩ := hp
      by_cases f0 : 0 ≤ f
      · by_cases f3 : f ≤ 0
        · have F := Lib.hid (show portAt (k + 1) + f = portsV ((k + 1 : Nat) : Int) f from by rw [show f = 0 by omega, ha]; omega)
          clear hz h9 ha
          generalize portAt (k + 1) = p at hc p0 p3 F
          generalize k + 1 = m at hc d F hm b9
          go_enter Tryd.func18, Tryd.ntmps18
          go_wp2_with (go_at_call 30; refine (impl_has 8190 _ (by decide) (by decide) _).mono ?_; rintro e w' ⟨rfl, rfl⟩; rw [bit_all12])
          go_ret
          exact ⟨ret_i F.out, rfl⟩
        · have F := Lib.hid (show 0 = portsV ((k + 1 : Nat) : Int) f from (hz (by omega)).symm)
          clear hz h9 ha
          generalize k + 1 = m at hc d F hm b9
          go_enter Tryd.func18, Tryd.ntmps18
          go_wp2_with (go_at_call 30; refine (impl_has 8190 _ (by decide) (by decide) _).mono ?_; rintro e w' ⟨rfl, rfl⟩; rw [bit_all12])
          go_ret
          exact ⟨ret_i F.out, rfl⟩
      · have F := Lib.hid (show 0 = portsV ((k + 1 : Nat) : Int) f from (hz (by omega)).symm)
        clear hz h9 ha
        generalize k + 1 = m at hc d F hm b9
        go_enter Tryd.func18, Tryd.ntmps18
        go_wp2_with (go_at_call 30; refine (impl_has 8190 _ (by decide) (by decide) _).mono ?_; rintro e w' ⟨rfl, rfl⟩; rw [bit_all12])
        go_ret
        exact ⟨ret_i F.out, rfl⟩
  · have d : inV n 1 12 = false := decide_eq_false hn
    have F := Lib.hid (show 0 = portsV n f from (ports_none n f hn).symm)
    have b9 : (n == 9) = false := by simp; omega
    clear hn hT
    go_enter Tryd.func18, Tryd.ntmps18
    go_wp2_with (go_at_call 30; refine (impl_has 8190 _ (by decide) (by decide) _).mono ?_; rintro e w' ⟨rfl, rfl⟩; rw [bit_all12])
    go_ret
    exact ⟨ret_i F.out, rfl⟩

end Go.Proofs.YtgobiejokgcmmaaDoor.Con
