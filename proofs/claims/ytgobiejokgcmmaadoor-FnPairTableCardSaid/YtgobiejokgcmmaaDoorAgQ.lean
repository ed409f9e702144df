/-
  Contracts of PairClass and FirstOfPair (the model's and the program's). Condition: the program's table of pairs reads as its text lays it.
-/
import Derived.Test.YtgobiejokgcmmaaDoorAgP
import Derived.Deep.RegionHeld
import Derived.Deep.Cut
namespace Go.Proofs.YtgobiejokgcmmaaDoor.Con
open Go.RowKit
set_option linter.unusedVariables false

/-- The table of pairs lies in block g. -/
def PrAt (g : Nat) (w : World) : Prop := g < w.heap.size ∧ ∀ c k : Nat, c < 8 → k < 13 → w.cell? ⟨g, c * 13 + k, none⟩ = some (.int .u16 (pairsAt c k))
theorem PrAt.grow {g : Nat} {w w' : World} (h : PrAt g w) (gr : Gw w w') : PrAt g w' := ⟨Nat.lt_of_lt_of_le h.1 gr.size, fun c k hc hk => gr.cell (h.2 c k hc hk) h.1⟩
theorem prAt_of {P : Program} {W : World} {name : String} {g t e e2 n : Nat} (hG : P.globalNamed name = some g) (hT : (P.globals[g]?).map (·.type) = some t)
    (hU : P.underlying t = some (.array n e)) (hE : P.underlying e = some (.array 13 e2)) (hE2 : P.underlying e2 = some (.int .u16)) (hC2 : P.cellsOf e2 = 1) (hC : P.cellsOf e = 13)
    (h : laidMet P [(name, .agg (pairsL.map fun r => .agg (r.map fun x => .lit (.int .u16 x))))] W) : PrAt g W := by
  have hc := arrtab_cell hG hT hU hE hE2 hC2 hC pairsL h
  refine ⟨hc.1, fun c k h1 h2 => hc.2 c k _ ?_⟩
  have : ∀ (c : Fin 8) (k : Fin 13), (pairsL.getD c.val [])[k.val]? = some (pairsAt c.val k.val) := by decide +kernel
  exact this ⟨c, h1⟩ ⟨k, h2⟩

theorem spec_pair (ka la kb lb : Int) (w : World) : Calls Tryd.prog 19 #[.int .i64 ka, .int .i64 la, .int .i64 kb, .int .i64 lb] w fun e w' => e = .returned (.int .i64 (pairV ka la kb lb)) ∧ w = w' := by
  by_cases ho : okPV ka la = true ∧ okPV kb lb = true
  · have d : (okPV ka la && okPV kb lb) = true := by rw [ho.1, ho.2]; rfl
    by_cases h1 : ruleV ka la kb lb = 0
    · have f1 : (ruleV ka la kb lb == 0) = true := by simpa using h1
      by_cases h2 : ruleV kb lb ka la = 0
      · have f2 : (ruleV kb lb ka la == 0) = true := by simpa using h2
        have F := Lib.hid (show 8 = pairV ka la kb lb from by unfold pairV; rw [if_pos ho, if_pos h1, if_pos h2])
        clear ho h1 h2
        go_enter Tryd.func19, Tryd.ntmps19
        go_wp2_with (first | (go_at_call 34; refine (spec_okpair _ _ _ _ _).mono ?_; rintro e w' ⟨rfl, rfl⟩) | (go_at_call 35; refine (spec_rule _ _ _ _ _).mono ?_; rintro e w' ⟨rfl, rfl⟩))
        go_ret
        exact ⟨ret_i F.out, rfl⟩
      · have f2 : (ruleV kb lb ka la == 0) = false := by simpa using h2
        have F := Lib.hid (show ruleV kb lb ka la = pairV ka la kb lb from by unfold pairV; rw [if_pos ho, if_pos h1, if_neg h2])
        clear ho h1 h2
        go_enter Tryd.func19, Tryd.ntmps19
        go_wp2_with (first | (go_at_call 34; refine (spec_okpair _ _ _ _ _).mono ?_; rintro e w' ⟨rfl, rfl⟩) | (go_at_call 35; refine (spec_rule _ _ _ _ _).mono ?_; rintro e w' ⟨rfl, rfl⟩))
        go_ret
        exact ⟨ret_i F.out, rfl⟩
    · have f1 : (ruleV ka la kb lb == 0) = false := by simpa using h1
      have F := Lib.hid (show ruleV ka la kb lb = pairV ka la kb lb from by unfold pairV; rw [if_pos ho, if_neg h1])
      clear ho h1
      go_enter Tryd.func19, Tryd.ntmps19
      go_wp2_with (first | (go_at_call 34; refine (spec_okpair _ _ _ _ _).mono ?_; rintro e w' ⟨rfl, rfl⟩) | (go_at_call 35; refine (spec_rule _ _ _ _ _).mono ?_; rintro e w' ⟨rfl, rfl⟩))
      go_ret
      exact ⟨ret_i F.out, rfl⟩
  · have d : (okPV ka la && okPV kb lb) = false := by simpa using ho
    have F := Lib.hid (show 0 = pairV ka la kb lb from by unfold pairV; rw [if_neg ho])
    clear ho
    go_enter Tryd.func19, Tryd.ntmps19
    go_wp2_with (go_at_call 34; refine (spec_okpair _ _ _ _ _).mono ?_; rintro e w' ⟨rfl, rfl⟩)
    go_ret
    exact ⟨ret_i F.out, rfl⟩

theorem spec_first (ka la kb lb : Int) (w : World) : Calls Tryd.prog 21 #[.int .i64 ka, .int .i64 la, .int .i64 kb, .int .i64 lb] w fun e w' => e = .returned (.int .i64 (firstV ka la kb lb)) ∧ w = w' := by
  by_cases ho : okPV ka la = true ∧ okPV kb lb = true
  · have d : (okPV ka la && okPV kb lb) = true := by rw [ho.1, ho.2]; rfl
    by_cases h1 : ruleV ka la kb lb = 0
    · have f1 : (ruleV ka la kb lb != 0) = false := by simpa using h1
      by_cases h2 : ruleV kb lb ka la = 0
      · have f2 : (ruleV kb lb ka la != 0) = false := by simpa using h2
        have F := Lib.hid (show 0 = firstV ka la kb lb from by unfold firstV; rw [if_pos ho, if_pos h1, if_pos h2])
        clear ho h1 h2
        go_enter Tryd.func21, Tryd.ntmps21
        go_wp2_with (first | (go_at_call 34; refine (spec_okpair _ _ _ _ _).mono ?_; rintro e w' ⟨rfl, rfl⟩) | (go_at_call 35; refine (spec_rule _ _ _ _ _).mono ?_; rintro e w' ⟨rfl, rfl⟩))
        go_ret
        exact ⟨ret_i F.out, rfl⟩
      · have f2 : (ruleV kb lb ka la != 0) = true := by simpa using h2
        have F := Lib.hid (show 2 = firstV ka la kb lb from by unfold firstV; rw [if_pos ho, if_pos h1, if_neg h2])
        clear ho h1 h2
        go_enter Tryd.func21, Tryd.ntmps21
        go_wp2_with (first | (go_at_call 34; refine (spec_okpair _ _ _ _ _).mono ?_; rintro e w' ⟨rfl, rfl⟩) | (go_at_call 35; refine (spec_rule _ _ _ _ _).mono ?_; rintro e w' ⟨rfl, rfl⟩))
        go_ret
        exact ⟨ret_i F.out, rfl⟩
    · have f1 : (ruleV ka la kb lb != 0) = true := by simpa using h1
      have F := Lib.hid (show 1 = firstV ka la kb lb from by unfold firstV; rw [if_pos ho, if_neg h1])
      clear ho h1
      go_enter Tryd.func21, Tryd.ntmps21
      go_wp2_with (first | (go_at_call 34; refine (spec_okpair _ _ _ _ _).mono ?_; rintro e w' ⟨rfl, rfl⟩) | (go_at_call 35; refine (spec_rule _ _ _ _ _).mono ?_; rintro e w' ⟨rfl, rfl⟩))
      go_ret
      exact ⟨ret_i F.out, rfl⟩
  · have d : (okPV ka la && okPV kb lb) = false := by simpa using ho
    have F := Lib.hid (show 0 = firstV ka la kb lb from by unfold firstV; rw [if_neg ho])
    clear ho
    go_enter Tryd.func21, Tryd.ntmps21
    go_wp2_with (go_at_call 34; refine (spec_okpair _ _ _ _ _).mono ?_; rintro e w' ⟨rfl, rfl⟩)
    go_ret
    exact ⟨ret_i F.out, rfl⟩

/-- An end of a pair, as the program keeps it. -/
abbrev peV (k l : Int) : Value := .agg #[.int .i64 k, .int .i64 l]

theorem impl_lf (c ka la kb lb : Int) (w : World) : Calls Tryd.prog 51 #[.int .i64 c, peV ka la, peV kb lb] w fun e w' => e = .returned (.bool (lfV c la kb lb)) ∧ Gw w w' := by
  by_cases c1 : c = 1
  · subst c1
    have F := Lib.hid (show (la == lb) = lfV 1 la kb lb from by unfold lfV; rw [if_pos (Or.inl rfl)]; rfl)
    go_enter Tryd.func51, Tryd.ntmps51
    go_wp2_with fail
    go_ret
    exact ⟨ret_b F.out, ((Gw.refl _).alloc _).alloc _⟩
  by_cases c2 : c = 2
  · subst c2
    have F := Lib.hid (show (la == lb) = lfV 2 la kb lb from by unfold lfV; rw [if_pos (Or.inr rfl)]; rfl)
    go_enter Tryd.func51, Tryd.ntmps51
    go_wp2_with fail
    go_ret
    exact ⟨ret_b F.out, ((Gw.refl _).alloc _).alloc _⟩
  by_cases c3 : c = 3
  · subst c3
    have F := Lib.hid (show dupV la kb lb = lfV 3 la kb lb from by unfold lfV; rw [if_neg (by decide), if_pos rfl])
    go_enter Tryd.func51, Tryd.ntmps51
    go_wp2_with (go_at_call 27; refine (impl_dup _ _ _ _).mono ?_; rintro e w' ⟨rfl, rfl⟩)
    go_ret
    exact ⟨ret_b F.out, ((Gw.refl _).alloc _).alloc _⟩
  have F := Lib.hid (show true = lfV c la kb lb from by unfold lfV; rw [if_neg (by omega), if_neg c3])
  have b1 : (c == 1) = false := by simpa using c1
  have b2 : (c == 2) = false := by simpa using c2
  have b3 : (c == 3) = false := by simpa using c3
  clear c1 c2 c3
  go_enter Tryd.func51, Tryd.ntmps51
  go_wp2_with fail
  go_ret
  exact ⟨ret_b F.out, ((Gw.refl _).alloc _).alloc _⟩

theorem impl_pallow (k l : Int) (w : World) : Calls Tryd.prog 43 #[peV k l] w fun e w' => e = .returned (.bool (okPV k l)) ∧ Gw w w' := by
  rw [okP_in]
  cases hk : inV k 2 12
  · have F := Lib.hid (show false = (false && allowV k l) from rfl)
    go_enter Tryd.func43, Tryd.ntmps43
    go_wp2_with (go_at_call 30; refine (impl_has 8188 _ (by decide) (by decide) _).mono ?_; rintro e w' ⟨rfl, rfl⟩; rw [bit_pair])
    go_ret
    exact ⟨ret_b F.out, (Gw.refl _).alloc _⟩
  · have F := Lib.hid (show allowV k l = (true && allowV k l) from rfl)
    go_enter Tryd.func43, Tryd.ntmps43
    go_wp2_with (first | (go_at_call 30; refine (impl_has 8188 _ (by decide) (by decide) _).mono ?_; rintro e w' ⟨rfl, rfl⟩; rw [bit_pair]) | (go_at_call 38; refine (impl_allow _ _ _).mono ?_; rintro e w' ⟨rfl, rfl⟩))
    go_ret
    exact ⟨ret_b F.out, (Gw.refl _).alloc _⟩

/-- The two ends of a pair lie in blocks b and d. -/
def PeAt (b d : Nat) (ka la kb lb : Int) (w : World) : Prop :=
  (w.cell? ⟨b, 0, none⟩ = some (.int .i64 ka) ∧ w.cell? ⟨b, 1, none⟩ = some (.int .i64 la) ∧ b < w.heap.size) ∧ (w.cell? ⟨d, 0, none⟩ = some (.int .i64 kb) ∧ w.cell? ⟨d, 1, none⟩ = some (.int .i64 lb) ∧ d < w.heap.size)
theorem PeAt.grow {b d : Nat} {ka la kb lb : Int} {w w' : World} (h : PeAt b d ka la kb lb w) (g : Gw w w') : PeAt b d ka la kb lb w' :=
  ⟨⟨g.cell h.1.1 h.1.2.2, g.cell h.1.2.1 h.1.2.2, Nat.lt_of_lt_of_le h.1.2.2 g.size⟩, ⟨g.cell h.2.1 h.2.2.2, g.cell h.2.2.1 h.2.2.2, Nat.lt_of_lt_of_le h.2.2.2 g.size⟩⟩
theorem PeAt.swap {b d : Nat} {ka la kb lb : Int} {w : World} (h : PeAt b d ka la kb lb w) : PeAt d b kb lb ka la w := ⟨h.2, h.1⟩
theorem peAt_new (ka la kb lb : Int) (t : TypeId) (w : World) : PeAt w.heap.size (w.heap.size + 1) ka la kb lb ((w.alloc (.cells #[.int .i64 ka, .int .i64 la] t)).alloc (.cells #[.int .i64 kb, .int .i64 lb] t)) := by
  refine ⟨⟨?_, ?_, ?_⟩, ?_, ?_, ?_⟩
  · go_cell
  · go_cell
  · show w.heap.size < ((w.heap.push _).push _).size
    simp only [Array.size_push]
    omega
  · go_cell
  · go_cell
  · show w.heap.size + 1 < ((w.heap.push _).push _).size
    simp only [Array.size_push]
    omega

theorem fit_lf (m n : Nat) (la lb : Int) (c : Nat) {a b : Bool} (h1 : bitV (pairsAt c m) n = a) (h2 : lfV c la n lb = b) : fitV m la n lb c = (a && b) := by
  unfold fitV
  rw [Int.toNat_natCast, h1, h2]

set_option maxRecDepth 100000 in
theorem impl_cio (ka la kb lb : Int) (w : World) (h1 : 2 ≤ ka) (h2 : ka ≤ 12) (h3 : 2 ≤ kb) (h4 : kb ≤ 12) (hT : PrAt 3 w) :
    Calls Tryd.prog 44 #[peV ka la, peV kb lb] w fun e w' => e = .returned (.int .i64 (ruleV ka la kb lb)) ∧ Gw w w' := by
  obtain ⟨m, rfl⟩ : ∃ m : Nat, ka = m := ⟨ka.toNat, by omega⟩
  obtain ⟨n, rfl⟩ : ∃ n : Nat, kb = n := ⟨kb.toNat, by omega⟩
  have HT := Lib.hid hT
  clear hT
  have HP := Lib.hid (peAt_new (m : Int) la (n : Int) lb 48 w)
  go_enter Tryd.func44, Tryd.ntmps44
  go_wp2_with fail
  go_loopw [5] (fun i wr => ∃ c : Nat, 1 ≤ c ∧ c ≤ 8 ∧ i = .int .i64 c ∧ (∀ j, 1 ≤ j → j < c → fitV m la n lb j = false) ∧ Gw w wr ∧ PeAt w.heap.size (w.heap.size + 1) m la n lb wr) (fun i _ => 8 - (intOf i).toNat)
  case atStart => exact ⟨1, by omega, by omega, rfl, fun j hj => by omega, ((Gw.refl _).alloc _).alloc _, HP.out⟩
  case round =>
    obtain ⟨c, c1, c8, rfl, hno0, hg0, hp0⟩ := hrel
    have hno := Lib.hid hno0
    have hg := Lib.hid hg0
    have hp := Lib.hid hp0
    clear hno0 HP
    by_cases hlt : c < 8
    · have pt := (HT.out.grow hg0).2 c m hlt (by omega)
      have lt0 := (HT.out.grow hg0).1
      obtain ⟨⟨p0, p1, lb0⟩, q0, q1, ld0⟩ := hp0
      obtain ⟨v0, v1⟩ := pairs_in c m
      have hfit := fit_lf m n la lb c rfl rfl
      have HF := Lib.hid hfit
      clear hg0 hfit
      generalize hV : pairsAt c m = V at pt v0 v1
      have hV := Lib.hid hV
      generalize hb : w.heap.size = b at p0 p1 lb0 q0 q1 ld0
      have HB := Lib.hid hb
      clear hb
      cases hh : bitV V n
      · have F := Lib.hid (show fitV m la n lb c = false from by rw [HF.out, hV.out, hh]; rfl)
        clear HF
        go_upto_region 4 with (fail)
        refine wp_region_held_drew (S := fun W => W.cell? ⟨b, 0, none⟩ = some (.int .i64 m) ∧ W.cell? ⟨b, 1, none⟩ = some (.int .i64 la) ∧ W.cell? ⟨b + 1, 0, none⟩ = some (.int .i64 n) ∧ W.cell? ⟨b + 1, 1, none⟩ = some (.int .i64 lb) ∧ W.cell? ⟨3, c * 13 + m, none⟩ = some (.int .u16 V)) (by kernel_rfl) ?_ (fun hHeld => ?_)
        · exact ⟨p0, p1, q0, q1, pt⟩
        refine wpAnyH_take (i := 0) (oi := { dst := some 10, op := _, type := _, pos := _, after := _, guard := _ }) (v := .int .i64 c) rfl (by kernel_rfl) (by kernel_rfl) (by kernel_rfl) (fun _ _ _ h => h) (Or.inl ⟨by rfl, ?_⟩) (by assumption) ?_
        · intro w hSw; obtain ⟨p0, p1, q0, q1, pt⟩ := hSw; go_simp
        try simp only [Act.put, List.setIfInBounds_toArray, List.set_cons_zero, List.set_cons_succ]
        refine wpAnyH_take (i := 1) (oi := { dst := some 11, op := _, type := _, pos := _, after := _, guard := _ }) (v := .pointer (some ⟨b, 0, none⟩)) rfl (by kernel_rfl) (by kernel_rfl) (by kernel_rfl) (fun _ _ _ h => h) (Or.inl ⟨by rfl, ?_⟩) (by assumption) ?_
        · intro w hSw; obtain ⟨p0, p1, q0, q1, pt⟩ := hSw; go_simp
        try simp only [Act.put, List.setIfInBounds_toArray, List.set_cons_zero, List.set_cons_succ]
        refine wpAnyH_take (i := 2) (oi := { dst := some 12, op := _, type := _, pos := _, after := _, guard := _ }) (v := .int .i64 m) rfl (by kernel_rfl) (by kernel_rfl) (by kernel_rfl) (fun _ _ _ h => h) (Or.inl ⟨by rfl, ?_⟩) (by assumption) ?_
        · intro w hSw; obtain ⟨p0, p1, q0, q1, pt⟩ := hSw; go_simp
        try simp only [Act.put, List.setIfInBounds_toArray, List.set_cons_zero, List.set_cons_succ]
        refine wpAnyH_take (i := 3) (oi := { dst := some 13, op := _, type := _, pos := _, after := _, guard := _ }) (v := .pointer (some ⟨3, c * 13, none⟩)) rfl (by kernel_rfl) (by kernel_rfl) (by kernel_rfl) (fun _ _ _ h => h) (Or.inl ⟨by rfl, ?_⟩) (by assumption) ?_
        · intro w hSw; obtain ⟨p0, p1, q0, q1, pt⟩ := hSw; go_simp; (intro hz; omega)
        try simp only [Act.put, List.setIfInBounds_toArray, List.set_cons_zero, List.set_cons_succ]
        refine wpAnyH_take (i := 4) (oi := { dst := some 14, op := _, type := _, pos := _, after := _, guard := _ }) (v := .pointer (some ⟨3, c * 13 + m, none⟩)) rfl (by kernel_rfl) (by kernel_rfl) (by kernel_rfl) (fun _ _ _ h => h) (Or.inl ⟨by rfl, ?_⟩) (by assumption) ?_
        · intro w hSw; obtain ⟨p0, p1, q0, q1, pt⟩ := hSw; go_simp; (intro hz; omega)
        try simp only [Act.put, List.setIfInBounds_toArray, List.set_cons_zero, List.set_cons_succ]
        refine wpAnyH_take (i := 5) (oi := { dst := some 15, op := _, type := _, pos := _, after := _, guard := _ }) (v := .int .u16 V) rfl (by kernel_rfl) (by kernel_rfl) (by kernel_rfl) (fun _ _ _ h => h) (Or.inl ⟨by rfl, ?_⟩) (by assumption) ?_
        · intro w hSw; obtain ⟨p0, p1, q0, q1, pt⟩ := hSw; go_simp
        try simp only [Act.put, List.setIfInBounds_toArray, List.set_cons_zero, List.set_cons_succ]
        refine wpAnyH_take (i := 6) (oi := { dst := some 16, op := _, type := _, pos := _, after := _, guard := _ }) (v := .pointer (some ⟨b + 1, 0, none⟩)) rfl (by kernel_rfl) (by kernel_rfl) (by kernel_rfl) (fun _ _ _ h => h) (Or.inl ⟨by rfl, ?_⟩) (by assumption) ?_
        · intro w hSw; obtain ⟨p0, p1, q0, q1, pt⟩ := hSw; go_simp
        try simp only [Act.put, List.setIfInBounds_toArray, List.set_cons_zero, List.set_cons_succ]
        refine wpAnyH_take (i := 7) (oi := { dst := some 17, op := _, type := _, pos := _, after := _, guard := _ }) (v := .int .i64 n) rfl (by kernel_rfl) (by kernel_rfl) (by kernel_rfl) (fun _ _ _ h => h) (Or.inl ⟨by rfl, ?_⟩) (by assumption) ?_
        · intro w hSw; obtain ⟨p0, p1, q0, q1, pt⟩ := hSw; go_simp
        try simp only [Act.put, List.setIfInBounds_toArray, List.set_cons_zero, List.set_cons_succ]
        refine wpAnyH_ready (rs := [8]) (by kernel_rfl) (by simp) ?_
        refine AllReadyH.cons (o := { dst := some 18, op := _, type := _, pos := _, after := _, guard := _ }) rfl (fun K hK => ?_) AllReadyH.nil
        go_simp
        go_at_call 30
        refine (impl_has V n v0 v1 _).mono ?_
        rintro e w2 ⟨rfl, rfl⟩
        rw [hh]
        go_wp2_with fail
        refine hK.out _ _ ⟨p0, p1, q0, q1, pt⟩ (fun hHeld => ?_)
        clear hK K
        try simp only [Act.put, List.setIfInBounds_toArray, List.set_cons_zero, List.set_cons_succ]
        refine wpAnyH_take (i := 9) (oi := { dst := some 19, op := _, type := _, pos := _, after := _, guard := _ }) (v := .bool false) rfl (by kernel_rfl) (by kernel_rfl) (by kernel_rfl) (fun _ _ _ h => h) (Or.inl ⟨by rfl, ?_⟩) (by assumption) ?_
        · intro w hSw; obtain ⟨p0, p1, q0, q1, pt⟩ := hSw; go_simp
        try simp only [Act.put, List.setIfInBounds_toArray, List.set_cons_zero, List.set_cons_succ]
        refine wpAnyH_take (i := 10) (oi := { dst := some 20, op := _, type := _, pos := _, after := _, guard := _ }) (v := undef) rfl (by kernel_rfl) (by kernel_rfl) (by kernel_rfl) (fun _ _ _ h => h) (Or.inr ⟨by rfl, rfl⟩) (by assumption) ?_
        try simp only [Act.put, List.setIfInBounds_toArray, List.set_cons_zero, List.set_cons_succ]
        refine wpAnyH_take (i := 11) (oi := { dst := some 21, op := _, type := _, pos := _, after := _, guard := _ }) (v := undef) rfl (by kernel_rfl) (by kernel_rfl) (by kernel_rfl) (fun _ _ _ h => h) (Or.inr ⟨by rfl, rfl⟩) (by assumption) ?_
        try simp only [Act.put, List.setIfInBounds_toArray, List.set_cons_zero, List.set_cons_succ]
        refine wpAnyH_take (i := 12) (oi := { dst := some 22, op := _, type := _, pos := _, after := _, guard := _ }) (v := undef) rfl (by kernel_rfl) (by kernel_rfl) (by kernel_rfl) (fun _ _ _ h => h) (Or.inr ⟨by rfl, rfl⟩) (by assumption) ?_
        try simp only [Act.put, List.setIfInBounds_toArray, List.set_cons_zero, List.set_cons_succ]
        refine wpAnyH_take (i := 13) (oi := { dst := some 23, op := _, type := _, pos := _, after := _, guard := _ }) (v := undef) rfl (by kernel_rfl) (by kernel_rfl) (by kernel_rfl) (fun _ _ _ h => h) (Or.inr ⟨by rfl, rfl⟩) (by assumption) ?_
        try simp only [Act.put, List.setIfInBounds_toArray, List.set_cons_zero, List.set_cons_succ]
        refine wpAnyH_take (i := 14) (oi := { dst := some 24, op := _, type := _, pos := _, after := _, guard := _ }) (v := .bool false) rfl (by kernel_rfl) (by kernel_rfl) (by kernel_rfl) (fun _ _ _ h => h) (Or.inl ⟨by rfl, ?_⟩) (by assumption) ?_
        · intro w hSw; obtain ⟨p0, p1, q0, q1, pt⟩ := hSw; go_simp
        try simp only [Act.put, List.setIfInBounds_toArray, List.set_cons_zero, List.set_cons_succ]
        refine wpAnyH_done (by kernel_rfl) ?_ _
        go_wp2_with fail
        go_roundw
        case rel => exact ⟨c + 1, by omega, by omega, by go_num, fun j a x => if h : j = c then h ▸ F.out else hno.out j a (by omega), by first | exact hg.out.drew | exact hg.out, (show PeAt b (b + 1) m la n lb wr from HB.out ▸ hp.out).grow (Gw.refl _).drew⟩
        case measure => simp [intOf]; omega
      · cases hf : lfV c la n lb
        · have F := Lib.hid (show fitV m la n lb c = false from by rw [HF.out, hV.out, hh, hf]; rfl)
          clear HF
          go_upto_region 4 with (fail)
          refine wp_region_held_drew (S := fun W => W.cell? ⟨b, 0, none⟩ = some (.int .i64 m) ∧ W.cell? ⟨b, 1, none⟩ = some (.int .i64 la) ∧ W.cell? ⟨b + 1, 0, none⟩ = some (.int .i64 n) ∧ W.cell? ⟨b + 1, 1, none⟩ = some (.int .i64 lb) ∧ W.cell? ⟨3, c * 13 + m, none⟩ = some (.int .u16 V)) (by kernel_rfl) ?_ (fun hHeld => ?_)
          · exact ⟨p0, p1, q0, q1, pt⟩
          refine wpAnyH_take (i := 0) (oi := { dst := some 10, op := _, type := _, pos := _, after := _, guard := _ }) (v := .int .i64 c) rfl (by kernel_rfl) (by kernel_rfl) (by kernel_rfl) (fun _ _ _ h => h) (Or.inl ⟨by rfl, ?_⟩) (by assumption) ?_
          · intro w hSw; obtain ⟨p0, p1, q0, q1, pt⟩ := hSw; go_simp
          try simp only [Act.put, List.setIfInBounds_toArray, List.set_cons_zero, List.set_cons_succ]
          refine wpAnyH_take (i := 1) (oi := { dst := some 11, op := _, type := _, pos := _, after := _, guard := _ }) (v := .pointer (some ⟨b, 0, none⟩)) rfl (by kernel_rfl) (by kernel_rfl) (by kernel_rfl) (fun _ _ _ h => h) (Or.inl ⟨by rfl, ?_⟩) (by assumption) ?_
          · intro w hSw; obtain ⟨p0, p1, q0, q1, pt⟩ := hSw; go_simp
          try simp only [Act.put, List.setIfInBounds_toArray, List.set_cons_zero, List.set_cons_succ]
          refine wpAnyH_take (i := 2) (oi := { dst := some 12, op := _, type := _, pos := _, after := _, guard := _ }) (v := .int .i64 m) rfl (by kernel_rfl) (by kernel_rfl) (by kernel_rfl) (fun _ _ _ h => h) (Or.inl ⟨by rfl, ?_⟩) (by assumption) ?_
          · intro w hSw; obtain ⟨p0, p1, q0, q1, pt⟩ := hSw; go_simp
          try simp only [Act.put, List.setIfInBounds_toArray, List.set_cons_zero, List.set_cons_succ]
          refine wpAnyH_take (i := 3) (oi := { dst := some 13, op := _, type := _, pos := _, after := _, guard := _ }) (v := .pointer (some ⟨3, c * 13, none⟩)) rfl (by kernel_rfl) (by kernel_rfl) (by kernel_rfl) (fun _ _ _ h => h) (Or.inl ⟨by rfl, ?_⟩) (by assumption) ?_
          · intro w hSw; obtain ⟨p0, p1, q0, q1, pt⟩ := hSw; go_simp; (intro hz; omega)
          try simp only [Act.put, List.setIfInBounds_toArray, List.set_cons_zero, List.set_cons_succ]
          refine wpAnyH_take (i := 4) (oi := { dst := some 14, op := _, type := _, pos := _, after := _, guard := _ }) (v := .pointer (some ⟨3, c * 13 + m, none⟩)) rfl (by kernel_rfl) (by kernel_rfl) (by kernel_rfl) (fun _ _ _ h => h) (Or.inl ⟨by rfl, ?_⟩) (by assumption) ?_
          · intro w hSw; obtain ⟨p0, p1, q0, q1, pt⟩ := hSw; go_simp; (intro hz; omega)
          try simp only [Act.put, List.setIfInBounds_toArray, List.set_cons_zero, List.set_cons_succ]
          refine wpAnyH_take (i := 5) (oi := { dst := some 15, op := _, type := _, pos := _, after := _, guard := _ }) (v := .int .u16 V) rfl (by kernel_rfl) (by kernel_rfl) (by kernel_rfl) (fun _ _ _ h => h) (Or.inl ⟨by rfl, ?_⟩) (by assumption) ?_
          · intro w hSw; obtain ⟨p0, p1, q0, q1, pt⟩ := hSw; go_simp
          try simp only [Act.put, List.setIfInBounds_toArray, List.set_cons_zero, List.set_cons_succ]
          refine wpAnyH_take (i := 6) (oi := { dst := some 16, op := _, type := _, pos := _, after := _, guard := _ }) (v := .pointer (some ⟨b + 1, 0, none⟩)) rfl (by kernel_rfl) (by kernel_rfl) (by kernel_rfl) (fun _ _ _ h => h) (Or.inl ⟨by rfl, ?_⟩) (by assumption) ?_
          · intro w hSw; obtain ⟨p0, p1, q0, q1, pt⟩ := hSw; go_simp
          try simp only [Act.put, List.setIfInBounds_toArray, List.set_cons_zero, List.set_cons_succ]
          refine wpAnyH_take (i := 7) (oi := { dst := some 17, op := _, type := _, pos := _, after := _, guard := _ }) (v := .int .i64 n) rfl (by kernel_rfl) (by kernel_rfl) (by kernel_rfl) (fun _ _ _ h => h) (Or.inl ⟨by rfl, ?_⟩) (by assumption) ?_
          · intro w hSw; obtain ⟨p0, p1, q0, q1, pt⟩ := hSw; go_simp
          try simp only [Act.put, List.setIfInBounds_toArray, List.set_cons_zero, List.set_cons_succ]
          refine wpAnyH_ready (rs := [8]) (by kernel_rfl) (by simp) ?_
          refine AllReadyH.cons (o := { dst := some 18, op := _, type := _, pos := _, after := _, guard := _ }) rfl (fun K hK => ?_) AllReadyH.nil
          go_simp
          go_at_call 30
          refine (impl_has V n v0 v1 _).mono ?_
          rintro e w2 ⟨rfl, rfl⟩
          rw [hh]
          go_wp2_with fail
          refine hK.out _ _ ⟨p0, p1, q0, q1, pt⟩ (fun hHeld => ?_)
          clear hK K
          try simp only [Act.put, List.setIfInBounds_toArray, List.set_cons_zero, List.set_cons_succ]
          refine wpAnyH_take (i := 9) (oi := { dst := some 19, op := _, type := _, pos := _, after := _, guard := _ }) (v := .bool true) rfl (by kernel_rfl) (by kernel_rfl) (by kernel_rfl) (fun _ _ _ h => h) (Or.inl ⟨by rfl, ?_⟩) (by assumption) ?_
          · intro w hSw; obtain ⟨p0, p1, q0, q1, pt⟩ := hSw; go_simp
          try simp only [Act.put, List.setIfInBounds_toArray, List.set_cons_zero, List.set_cons_succ]
          refine wpAnyH_take (i := 10) (oi := { dst := some 20, op := _, type := _, pos := _, after := _, guard := _ }) (v := .int .i64 c) rfl (by kernel_rfl) (by kernel_rfl) (by kernel_rfl) (fun _ _ _ h => h) (Or.inl ⟨by rfl, ?_⟩) (by assumption) ?_
          · intro w hSw; obtain ⟨p0, p1, q0, q1, pt⟩ := hSw; go_simp
          try simp only [Act.put, List.setIfInBounds_toArray, List.set_cons_zero, List.set_cons_succ]
          refine wpAnyH_take (i := 11) (oi := { dst := some 21, op := _, type := _, pos := _, after := _, guard := _ }) (v := .agg #[.int .i64 m, .int .i64 la]) rfl (by kernel_rfl) (by kernel_rfl) (by kernel_rfl) (fun _ _ _ h => h) (Or.inl ⟨by rfl, ?_⟩) (by assumption) ?_
          · intro w hSw; obtain ⟨p0, p1, q0, q1, pt⟩ := hSw; go_simp
          try simp only [Act.put, List.setIfInBounds_toArray, List.set_cons_zero, List.set_cons_succ]
          refine wpAnyH_take (i := 12) (oi := { dst := some 22, op := _, type := _, pos := _, after := _, guard := _ }) (v := .agg #[.int .i64 n, .int .i64 lb]) rfl (by kernel_rfl) (by kernel_rfl) (by kernel_rfl) (fun _ _ _ h => h) (Or.inl ⟨by rfl, ?_⟩) (by assumption) ?_
          · intro w hSw; obtain ⟨p0, p1, q0, q1, pt⟩ := hSw; go_simp
          try simp only [Act.put, List.setIfInBounds_toArray, List.set_cons_zero, List.set_cons_succ]
          refine wpAnyH_ready (rs := [13]) (by kernel_rfl) (by simp) ?_
          refine AllReadyH.cons (o := { dst := some 23, op := _, type := _, pos := _, after := _, guard := _ }) rfl (fun K hK => ?_) AllReadyH.nil
          go_simp
          go_at_call 51
          refine (impl_lf c m la n lb _).mono ?_
          rintro e w3 ⟨rfl, g3⟩
          rw [hf]
          have g4 : Gw wr w3 := (Gw.refl wr).drew.trans g3
          clear g3
          go_wp2_with fail
          refine hK.out _ _ ⟨g4.cell p0 lb0, g4.cell p1 lb0, g4.cell q0 ld0, g4.cell q1 ld0, g4.cell pt lt0⟩ (fun hHeld => ?_)
          clear hK K
          try simp only [Act.put, List.setIfInBounds_toArray, List.set_cons_zero, List.set_cons_succ]
          refine wpAnyH_take (i := 14) (oi := { dst := some 24, op := _, type := _, pos := _, after := _, guard := _ }) (v := .bool false) rfl (by kernel_rfl) (by kernel_rfl) (by kernel_rfl) (fun _ _ _ h => h) (Or.inl ⟨by rfl, ?_⟩) (by assumption) ?_
          · intro w hSw; obtain ⟨p0, p1, q0, q1, pt⟩ := hSw; go_simp
          try simp only [Act.put, List.setIfInBounds_toArray, List.set_cons_zero, List.set_cons_succ]
          refine wpAnyH_done (by kernel_rfl) ?_ _
          go_wp2_with fail
          go_roundw
          case rel => exact ⟨c + 1, by omega, by omega, by go_num, fun j a x => if h : j = c then h ▸ F.out else hno.out j a (by omega), hg.out.trans g4, (show PeAt b (b + 1) m la n lb wr from HB.out ▸ hp.out).grow g4⟩
          case measure => simp [intOf]; omega
        · have F := Lib.hid (show fitV m la n lb c = true from by rw [HF.out, hV.out, hh, hf]; rfl)
          clear HF
          go_upto_region 4 with (fail)
          refine wp_region_held_drew (S := fun W => W.cell? ⟨b, 0, none⟩ = some (.int .i64 m) ∧ W.cell? ⟨b, 1, none⟩ = some (.int .i64 la) ∧ W.cell? ⟨b + 1, 0, none⟩ = some (.int .i64 n) ∧ W.cell? ⟨b + 1, 1, none⟩ = some (.int .i64 lb) ∧ W.cell? ⟨3, c * 13 + m, none⟩ = some (.int .u16 V)) (by kernel_rfl) ?_ (fun hHeld => ?_)
          · exact ⟨p0, p1, q0, q1, pt⟩
          refine wpAnyH_take (i := 0) (oi := { dst := some 10, op := _, type := _, pos := _, after := _, guard := _ }) (v := .int .i64 c) rfl (by kernel_rfl) (by kernel_rfl) (by kernel_rfl) (fun _ _ _ h => h) (Or.inl ⟨by rfl, ?_⟩) (by assumption) ?_
          · intro w hSw; obtain ⟨p0, p1, q0, q1, pt⟩ := hSw; go_simp
          try simp only [Act.put, List.setIfInBounds_toArray, List.set_cons_zero, List.set_cons_succ]
          refine wpAnyH_take (i := 1) (oi := { dst := some 11, op := _, type := _, pos := _, after := _, guard := _ }) (v := .pointer (some ⟨b, 0, none⟩)) rfl (by kernel_rfl) (by kernel_rfl) (by kernel_rfl) (fun _ _ _ h => h) (Or.inl ⟨by rfl, ?_⟩) (by assumption) ?_
          · intro w hSw; obtain ⟨p0, p1, q0, q1, pt⟩ := hSw; go_simp
          try simp only [Act.put, List.setIfInBounds_toArray, List.set_cons_zero, List.set_cons_succ]
          refine wpAnyH_take (i := 2) (oi := { dst := some 12, op := _, type := _, pos := _, after := _, guard := _ }) (v := .int .i64 m) rfl (by kernel_rfl) (by kernel_rfl) (by kernel_rfl) (fun _ _ _ h => h) (Or.inl ⟨by rfl, ?_⟩) (by assumption) ?_
          · intro w hSw; obtain ⟨p0, p1, q0, q1, pt⟩ := hSw; go_simp
          try simp only [Act.put, List.setIfInBounds_toArray, List.set_cons_zero, List.set_cons_succ]
          refine wpAnyH_take (i := 3) (oi := { dst := some 13, op := _, type := _, pos := _, after := _, guard := _ }) (v := .pointer (some ⟨3, c * 13, none⟩)) rfl (by kernel_rfl) (by kernel_rfl) (by kernel_rfl) (fun _ _ _ h => h) (Or.inl ⟨by rfl, ?_⟩) (by assumption) ?_
          · intro w hSw; obtain ⟨p0, p1, q0, q1, pt⟩ := hSw; go_simp; (intro hz; omega)
          try simp only [Act.put, List.setIfInBounds_toArray, List.set_cons_zero, List.set_cons_succ]
          refine wpAnyH_take (i := 4) (oi := { dst := some 14, op := _, type := _, pos := _, after := _, guard := _ }) (v := .pointer (some ⟨3, c * 13 + m, none⟩)) rfl (by kernel_rfl) (by kernel_rfl) (by kernel_rfl) (fun _ _ _ h => h) (Or.inl ⟨by rfl, ?_⟩) (by assumption) ?_
          · intro w hSw; obtain ⟨p0, p1, q0, q1, pt⟩ := hSw; go_simp; (intro hz; omega)
          try simp only [Act.put, List.setIfInBounds_toArray, List.set_cons_zero, List.set_cons_succ]
          refine wpAnyH_take (i := 5) (oi := { dst := some 15, op := _, type := _, pos := _, after := _, guard := _ }) (v := .int .u16 V) rfl (by kernel_rfl) (by kernel_rfl) (by kernel_rfl) (fun _ _ _ h => h) (Or.inl ⟨by rfl, ?_⟩) (by assumption) ?_
          · intro w hSw; obtain ⟨p0, p1, q0, q1, pt⟩ := hSw; go_simp
          try simp only [Act.put, List.setIfInBounds_toArray, List.set_cons_zero, List.set_cons_succ]
          refine wpAnyH_take (i := 6) (oi := { dst := some 16, op := _, type := _, pos := _, after := _, guard := _ }) (v := .pointer (some ⟨b + 1, 0, none⟩)) rfl (by kernel_rfl) (by kernel_rfl) (by kernel_rfl) (fun _ _ _ h => h) (Or.inl ⟨by rfl, ?_⟩) (by assumption) ?_
          · intro w hSw; obtain ⟨p0, p1, q0, q1, pt⟩ := hSw; go_simp
          try simp only [Act.put, List.setIfInBounds_toArray, List.set_cons_zero, List.set_cons_succ]
          refine wpAnyH_take (i := 7) (oi := { dst := some 17, op := _, type := _, pos := _, after := _, guard := _ }) (v := .int .i64 n) rfl (by kernel_rfl) (by kernel_rfl) (by kernel_rfl) (fun _ _ _ h => h) (Or.inl ⟨by rfl, ?_⟩) (by assumption) ?_
          · intro w hSw; obtain ⟨p0, p1, q0, q1, pt⟩ := hSw; go_simp
          try simp only [Act.put, List.setIfInBounds_toArray, List.set_cons_zero, List.set_cons_succ]
          refine wpAnyH_ready (rs := [8]) (by kernel_rfl) (by simp) ?_
          refine AllReadyH.cons (o := { dst := some 18, op := _, type := _, pos := _, after := _, guard := _ }) rfl (fun K hK => ?_) AllReadyH.nil
          go_simp
          go_at_call 30
          refine (impl_has V n v0 v1 _).mono ?_
          rintro e w2 ⟨rfl, rfl⟩
          rw [hh]
          go_wp2_with fail
          refine hK.out _ _ ⟨p0, p1, q0, q1, pt⟩ (fun hHeld => ?_)
          clear hK K
          try simp only [Act.put, List.setIfInBounds_toArray, List.set_cons_zero, List.set_cons_succ]
          refine wpAnyH_take (i := 9) (oi := { dst := some 19, op := _, type := _, pos := _, after := _, guard := _ }) (v := .bool true) rfl (by kernel_rfl) (by kernel_rfl) (by kernel_rfl) (fun _ _ _ h => h) (Or.inl ⟨by rfl, ?_⟩) (by assumption) ?_
          · intro w hSw; obtain ⟨p0, p1, q0, q1, pt⟩ := hSw; go_simp
          try simp only [Act.put, List.setIfInBounds_toArray, List.set_cons_zero, List.set_cons_succ]
          refine wpAnyH_take (i := 10) (oi := { dst := some 20, op := _, type := _, pos := _, after := _, guard := _ }) (v := .int .i64 c) rfl (by kernel_rfl) (by kernel_rfl) (by kernel_rfl) (fun _ _ _ h => h) (Or.inl ⟨by rfl, ?_⟩) (by assumption) ?_
          · intro w hSw; obtain ⟨p0, p1, q0, q1, pt⟩ := hSw; go_simp
          try simp only [Act.put, List.setIfInBounds_toArray, List.set_cons_zero, List.set_cons_succ]
          refine wpAnyH_take (i := 11) (oi := { dst := some 21, op := _, type := _, pos := _, after := _, guard := _ }) (v := .agg #[.int .i64 m, .int .i64 la]) rfl (by kernel_rfl) (by kernel_rfl) (by kernel_rfl) (fun _ _ _ h => h) (Or.inl ⟨by rfl, ?_⟩) (by assumption) ?_
          · intro w hSw; obtain ⟨p0, p1, q0, q1, pt⟩ := hSw; go_simp
          try simp only [Act.put, List.setIfInBounds_toArray, List.set_cons_zero, List.set_cons_succ]
          refine wpAnyH_take (i := 12) (oi := { dst := some 22, op := _, type := _, pos := _, after := _, guard := _ }) (v := .agg #[.int .i64 n, .int .i64 lb]) rfl (by kernel_rfl) (by kernel_rfl) (by kernel_rfl) (fun _ _ _ h => h) (Or.inl ⟨by rfl, ?_⟩) (by assumption) ?_
          · intro w hSw; obtain ⟨p0, p1, q0, q1, pt⟩ := hSw; go_simp
          try simp only [Act.put, List.setIfInBounds_toArray, List.set_cons_zero, List.set_cons_succ]
          refine wpAnyH_ready (rs := [13]) (by kernel_rfl) (by simp) ?_
          refine AllReadyH.cons (o := { dst := some 23, op := _, type := _, pos := _, after := _, guard := _ }) rfl (fun K hK => ?_) AllReadyH.nil
          go_simp
          go_at_call 51
          refine (impl_lf c m la n lb _).mono ?_
          rintro e w3 ⟨rfl, g3⟩
          rw [hf]
          have g4 : Gw wr w3 := (Gw.refl wr).drew.trans g3
          clear g3
          go_wp2_with fail
          refine hK.out _ _ ⟨g4.cell p0 lb0, g4.cell p1 lb0, g4.cell q0 ld0, g4.cell q1 ld0, g4.cell pt lt0⟩ (fun hHeld => ?_)
          clear hK K
          try simp only [Act.put, List.setIfInBounds_toArray, List.set_cons_zero, List.set_cons_succ]
          refine wpAnyH_take (i := 14) (oi := { dst := some 24, op := _, type := _, pos := _, after := _, guard := _ }) (v := .bool true) rfl (by kernel_rfl) (by kernel_rfl) (by kernel_rfl) (fun _ _ _ h => h) (Or.inl ⟨by rfl, ?_⟩) (by assumption) ?_
          · intro w hSw; obtain ⟨p0, p1, q0, q1, pt⟩ := hSw; go_simp
          try simp only [Act.put, List.setIfInBounds_toArray, List.set_cons_zero, List.set_cons_succ]
          refine wpAnyH_done (by kernel_rfl) ?_ _
          go_wp2_with fail
          go_ret
          exact ⟨ret_i ((fit_iff m la n lb h1 h2 h3 h4 c c1 (by omega)).1 F.out).symm, hg.out.trans g4⟩
    · have F := Lib.hid (rule_none m la n lb h1 h2 h3 h4 fun j a b => hno.out j a (by omega)).symm
      clear hp0
      go_wp2_with fail
      go_ret
      exact ⟨ret_i F.out, hg.out⟩

theorem rule_fn (ka la kb lb : Int) (w : World) (hT : PrAt 3 w) (ha : okPV ka la = true) (hb : okPV kb lb = true) :
    Calls Tryd.prog 44 #[peV ka la, peV kb lb] w fun e w' => e = .returned (.int .i64 (ruleV ka la kb lb)) ∧ Gw w w' := by
  rw [okP_in, Bool.and_eq_true] at ha hb
  have h1 : 2 ≤ ka ∧ ka ≤ 12 := of_decide_eq_true ha.1
  have h2 : 2 ≤ kb ∧ kb ≤ 12 := of_decide_eq_true hb.1
  exact impl_cio ka la kb lb w h1.1 h1.2 h2.1 h2.2 hT

def PairR (ka la kb lb : Int) (e : Ending) : Prop := e = .returned (.tuple #[.int .i64 (pairV ka la kb lb), .int .i64 (firstV ka la kb lb)])
theorem pairR_of {ka la kb lb a b : Int} (h1 : pairV ka la kb lb = a) (h2 : firstV ka la kb lb = b) : PairR ka la kb lb (.returned (.tuple #[.int .i64 a, .int .i64 b])) := by subst h1 h2; rfl

theorem impl_find (ka la kb lb : Int) (w : World) (hT : PrAt 3 w) : Calls Tryd.prog 36 #[peV ka la, peV kb lb] w fun e w' => PairR ka la kb lb e ∧ Gw w w' := by
  have HT := Lib.hid hT
  clear hT
  have HP := peAt_new ka la kb lb 48 w
  have g0 : Gw w ((w.alloc (.cells #[.int .i64 ka, .int .i64 la] 48)).alloc (.cells #[.int .i64 kb, .int .i64 lb] 48)) := ((Gw.refl _).alloc _).alloc _
  cases ha : okPV ka la
  · have F1 := Lib.hid (show pairV ka la kb lb = 0 from by unfold pairV; rw [if_neg (fun z => by rw [ha] at z; exact absurd z.1 (by decide))])
    have F2 := Lib.hid (show firstV ka la kb lb = 0 from by unfold firstV; rw [if_neg (fun z => by rw [ha] at z; exact absurd z.1 (by decide))])
    have HA := Lib.hid ha
    clear ha
    go_enter Tryd.func36, Tryd.ntmps36
    go_wp2_with fail
    refine (impl_pallow _ _ _).mono ?_
    rintro e w1 ⟨rfl, g1⟩
    rw [HA.out]
    go_wp2_with fail
    go_ret2
    exact ⟨pairR_of F1.out F2.out, g0.trans g1⟩
  · have HA := Lib.hid ha
    cases hb : okPV kb lb
    · have F1 := Lib.hid (show pairV ka la kb lb = 0 from by unfold pairV; rw [if_neg (fun z => by rw [hb] at z; exact absurd z.2 (by decide))])
      have F2 := Lib.hid (show firstV ka la kb lb = 0 from by unfold firstV; rw [if_neg (fun z => by rw [hb] at z; exact absurd z.2 (by decide))])
      have HB := Lib.hid hb
      clear ha hb
      go_enter Tryd.func36, Tryd.ntmps36
      go_wp2_with fail
      refine (impl_pallow _ _ _).mono ?_
      rintro e w1 ⟨rfl, g1⟩
      rw [HA.out]
      have hp1 := HP.grow g1
      obtain ⟨⟨p0, p1, lb0⟩, q0, q1, ld0⟩ := hp1
      go_wp2_with fail
      refine (impl_pallow _ _ _).mono ?_
      rintro e w2 ⟨rfl, g2⟩
      rw [HB.out]
      go_wp2_with fail
      go_ret2
      exact ⟨pairR_of F1.out F2.out, g0.trans (g1.trans g2)⟩
    · have HB := Lib.hid hb
      have HO := Lib.hid (show okPV ka la = true ∧ okPV kb lb = true from ⟨ha, hb⟩)
      clear ha hb
      go_enter Tryd.func36, Tryd.ntmps36
      go_wp2_with fail
      refine (impl_pallow _ _ _).mono ?_
      rintro e w1 ⟨rfl, g1⟩
      rw [HA.out]
      have hp1 := HP.grow g1
      have HP1 := Lib.hid hp1
      obtain ⟨⟨p0, p1, lb0⟩, q0, q1, ld0⟩ := hp1
      go_wp2_with fail
      refine (impl_pallow _ _ _).mono ?_
      rintro e w2 ⟨rfl, g2⟩
      rw [HB.out]
      have G2 := Lib.hid (g0.trans (g1.trans g2))
      have hp2 := HP1.out.grow g2
      have HP2 := Lib.hid hp2
      clear HP HP1 g0 g1 g2 p0 p1 lb0 q0 q1 ld0
      obtain ⟨⟨p0, p1, lb0⟩, q0, q1, ld0⟩ := hp2
      go_wp2_with fail
      refine (rule_fn ka la kb lb _ (HT.out.grow G2.out) HO.out.1 HO.out.2).mono ?_
      rintro e w3 ⟨rfl, g3⟩
      have G3 := Lib.hid (G2.out.trans g3)
      have hp3 := HP2.out.grow g3
      clear G2 HP2 g3 p0 p1 lb0 q0 q1 ld0
      obtain ⟨⟨p0, p1, lb0⟩, q0, q1, ld0⟩ := hp3
      by_cases h1 : ruleV ka la kb lb = 0
      · have f1 : (ruleV ka la kb lb != 0) = false := by simpa using h1
        have H1 := Lib.hid h1
        clear h1
        go_wp2_with fail
        refine (rule_fn kb lb ka la _ (HT.out.grow G3.out) HO.out.2 HO.out.1).mono ?_
        rintro e w4 ⟨rfl, g4⟩
        have G4 := Lib.hid (G3.out.trans g4)
        clear G3 g4 p0 p1 lb0 q0 q1 ld0
        by_cases h2 : ruleV kb lb ka la = 0
        · have f2 : (ruleV kb lb ka la != 0) = false := by simpa using h2
          have F1 := Lib.hid (show pairV ka la kb lb = 8 from by unfold pairV; rw [if_pos HO.out, if_pos H1.out, if_pos h2])
          have F2 := Lib.hid (show firstV ka la kb lb = 0 from by unfold firstV; rw [if_pos HO.out, if_pos H1.out, if_pos h2])
          clear h2
          go_wp2_with fail
          go_ret2
          exact ⟨pairR_of F1.out F2.out, G4.out⟩
        · have f2 : (ruleV kb lb ka la != 0) = true := by simpa using h2
          have F1 := Lib.hid (show pairV ka la kb lb = ruleV kb lb ka la from by unfold pairV; rw [if_pos HO.out, if_pos H1.out, if_neg h2])
          have F2 := Lib.hid (show firstV ka la kb lb = 2 from by unfold firstV; rw [if_pos HO.out, if_pos H1.out, if_neg h2])
          clear h2
          go_wp2_with fail
          go_ret2
          exact ⟨pairR_of F1.out F2.out, G4.out⟩
      · have f1 : (ruleV ka la kb lb != 0) = true := by simpa using h1
        have F1 := Lib.hid (show pairV ka la kb lb = ruleV ka la kb lb from by unfold pairV; rw [if_pos HO.out, if_neg h1])
        have F2 := Lib.hid (show firstV ka la kb lb = 1 from by unfold firstV; rw [if_pos HO.out, if_neg h1])
        clear h1
        go_wp2_with fail
        go_ret2
        exact ⟨pairR_of F1.out F2.out, G3.out⟩

theorem impl_pair (ka la kb lb : Int) (w : World) (hT : PrAt 3 w) : Calls Tryd.prog 20 #[.int .i64 ka, .int .i64 la, .int .i64 kb, .int .i64 lb] w fun e w' => e = .returned (.int .i64 (pairV ka la kb lb)) ∧ Gw w w' := by
  have HT := Lib.hid hT
  clear hT
  go_enter Tryd.func20, Tryd.ntmps20
  go_wp2_with fail
  refine (impl_find ka la kb lb _ HT.out).mono ?_
  rintro e w1 ⟨rfl, g1⟩
  go_wp2_with fail
  go_ret
  exact ⟨rfl, g1⟩

theorem impl_first (ka la kb lb : Int) (w : World) (hT : PrAt 3 w) : Calls Tryd.prog 22 #[.int .i64 ka, .int .i64 la, .int .i64 kb, .int .i64 lb] w fun e w' => e = .returned (.int .i64 (firstV ka la kb lb)) ∧ Gw w w' := by
  have HT := Lib.hid hT
  clear hT
  go_enter Tryd.func22, Tryd.ntmps22
  go_wp2_with fail
  refine (impl_find ka la kb lb _ HT.out).mono ?_
  rintro e w1 ⟨rfl, g1⟩
  go_wp2_with fail
  go_ret
  exact ⟨rfl, g1⟩

end Go.Proofs.YtgobiejokgcmmaaDoor.Con
