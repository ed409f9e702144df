/-
  Proved: for all bytes the law FnPairTable returns true and leaves its argument and the program's table pairTable as they were. Condition: pairTable reads as the program's text lays it, which the card ties to the text.
-/
import Derived.Test.YtgobiejokgcmmaaDoorAgL
import Derived.Test.YtgobiejokgcmmaaDoorCards
import Derived.Test.YtgobiejokgcmmaaDoorTie
import Derived.LaidMore
import Derived.Lay
import Derived.SevenTiedAt
import Derived.Stop.Joined
namespace Go.Proofs.YtgobiejokgcmmaaDoor.fnPairTable
open Go.ChangeShapes Go.WideShapes Go.ChangeAt Go.RowKit Con
set_option linter.unusedVariables false
theorem own : ownKnob Tryd.prog.godebug = none := by kernel_rfl
theorem laidOut : laidOutB Tryd.prog = true := by kernel_rfl

set_option maxRecDepth 100000 in
set_option maxHeartbeats 4000000 in
theorem walk (w : World) (b0 : Value) (z0 : List Int) (w0 : RdBytes w b0 z0) (hT : laidMetH Tryd.prog Rows.fnPairTableRow.laid w) :
    Calls Tryd.prog 10 #[b0] w fun e w' => e = .returned (.bool true) ∧ Gw w w' := by
  have hP : laidMet Tryd.prog [("loop.example/g01074/impl.pairTable", .agg (pairsL.map fun r => .agg (r.map fun x => .lit (.int .u16 x))))] w := by
    have h2 : laidMetH Tryd.prog Rows.fnPairTableRow.laid w := hT
    rw [MakeChecks.laidMetH_plain _ _ _ (by kernel_rfl)] at h2
    exact h2
  have HK := Lib.hid (show PrAt 3 w from prAt_of (t := 61) (e := 60) (e2 := 40) (n := 8) (by kernel_rfl) (by kernel_rfl) Tryd.underlying61 Tryd.underlying60 Tryd.underlying40 (by kernel_rfl) (by kernel_rfl) hP)
  clear hP hT
  go_enter Tryd.func10, Tryd.ntmps10
  go_wp2_with fail
  refine (big_code _ _ _ w0).mono ?_
  rintro e w' ⟨⟨r, rfl⟩, rfl⟩
  cases r with
  | true =>
    go_wp2_with fail
    go_ret
    exact ⟨rfl, Gw.refl _⟩
  | false =>
    go_wp2_with fail
    refine (draw_pairclass _ _ _ w0).mono ?_
    rintro e w2 ⟨⟨a, x, c, y, rfl⟩, g2⟩
    clear w0
    have G2 := Lib.hid g2
    clear g2
    go_wp2_with fail
    refine (impl_pair a x c y _ (HK.out.grow G2.out)).mono ?_
    rintro e w3 ⟨rfl, g3⟩
    have G3 := Lib.hid (G2.out.trans g3)
    clear g3
    go_wp2_with fail
    refine (impl_first a x c y _ (HK.out.grow G3.out)).mono ?_
    rintro e w4 ⟨rfl, g4⟩
    have G4 := Lib.hid (G3.out.trans g4)
    clear g4
    obtain ⟨q1, q2, q3, f0, f2, k0, k2⟩ := pair_first a x c y
    have SYM := Lib.hid (pair_sym a x c y)
    have Q1 := Lib.hid q1
    have Q2 := Lib.hid q2
    have Q3 := Lib.hid q3
    clear q1 q2 q3
    go_wp2_with fail
    refine (spec_pair a x c y _).mono ?_
    rintro e w5 ⟨rfl, rfl⟩
    go_wp2_with fail
    refine (spec_first a x c y _).mono ?_
    rintro e w5 ⟨rfl, rfl⟩
    go_wp2_with fail
    refine (impl_pair c y a x _ (HK.out.grow G4.out)).mono ?_
    rintro e w5 ⟨rfl, g5⟩
    rw [SYM.out]
    have G5 := Lib.hid (G4.out.trans g5)
    clear g5 SYM G2 G3
    go_wp2_with fail
    refine (impl_first c y a x _ (HK.out.grow G5.out)).mono ?_
    rintro e w6 ⟨rfl, g6⟩
    have G6 := Lib.hid (G5.out.trans g6)
    clear g6 G4 G5
    generalize pairV a x c y = C at *
    generalize firstV a x c y = I at *
    generalize firstV c y a x = J at *
    have hI : I = 0 ∨ I = 1 ∨ I = 2 := by omega
    have hJ : J = 0 ∨ J = 1 ∨ J = 2 := by omega
    have hX := cases8 C I J hI hJ Q1.out Q2.out Q3.out
    clear Q1 Q2 Q3 hI hJ f0 f2 k0 k2
    rcases hX with ⟨rfl, rfl, rfl⟩ | ⟨rfl, rfl, rfl⟩ | ⟨rfl, rfl, rfl⟩ | ⟨rfl, rfl, rfl⟩ | ⟨rfl, rfl, rfl⟩ | ⟨rfl, rfl, rfl⟩ | ⟨rfl, rfl, hC⟩ | ⟨rfl, rfl, hC⟩
    · have Z := True.intro
      go_wp2_with fail
      go_loopw [10] (fun i wr => ∃ k : Nat, k ≤ 9 ∧ i = .int .i64 k ∧ Gw w wr) (fun i _ => 9 - (intOf i).toNat)
      case atStart => exact ⟨0, by omega, rfl, G6.out⟩
      case round =>
        obtain ⟨k, hk, rfl, hg⟩ := hrel
        have HG := Lib.hid hg
        clear hg
        by_cases hlt : k < 9
        · have hk8 : (k : Int) ≤ 8 := by omega
          go_wp2_with fail
          go_loopw [11] (fun i wr => ∃ j : Nat, j ≤ 9 ∧ i = .int .i64 j ∧ Gw w wr) (fun i _ => 9 - (intOf i).toNat)
          case atStart => exact ⟨0, by omega, rfl, HG.out⟩
          case round =>
            obtain ⟨j, hj, rfl, hg⟩ := hrel
            have HJ := Lib.hid hg
            clear hg
            by_cases hjt : j < 9
            · have hj8 : (j : Int) ≤ 8 := by omega
              have V := Lib.hid (fan_pair k j (by omega) (by omega) (by omega) (by omega))
              go_wp2_with fail
              refine (impl_pair 4 k 4 j _ (HK.out.grow HJ.out)).mono ?_
              rintro e w7 ⟨rfl, g7⟩
              have G7 := Lib.hid (HJ.out.trans g7)
              clear g7
              rw [V.out]
              have D0 := Lib.hid (fan_dup k j (by omega) (by omega) (by omega) (by omega))
              rcases Nat.lt_trichotomy k j with hkj | hkj | hkj
              · rw [if_neg (by omega)]
                have D := Lib.hid (show dupV k 4 j = true from by rw [D0.out]; simp; omega)
                have c1 : ((k : Int) == (j : Int)) = false := by simp; omega
                have c2 : ((k : Int) != (j : Int)) = true := by simp; omega
                have c3 : (k : Int) < j := by omega
                clear V D0
                go_wp2_with (go_at_call 27; refine (impl_dup _ _ _ _).mono ?_; rintro e w' ⟨rfl, rfl⟩; rw [D.out])
                go_roundw
                case rel => exact ⟨j + 1, by omega, by go_num, G7.out⟩
                case measure => simp [intOf]; omega
              · subst hkj
                rw [if_pos rfl]
                have D := Lib.hid (show dupV k 4 k = false from by rw [D0.out]; simp)
                clear V D0
                go_wp2_with (go_at_call 27; refine (impl_dup _ _ _ _).mono ?_; rintro e w' ⟨rfl, rfl⟩; rw [D.out])
                go_roundw
                case rel => exact ⟨k + 1, by omega, by go_num, G7.out⟩
                case measure => simp [intOf]; omega
              · rw [if_neg (by omega)]
                have D := Lib.hid (show dupV k 4 j = false from by rw [D0.out]; simp; omega)
                have c1 : ((k : Int) == (j : Int)) = false := by simp; omega
                have c2 : ((k : Int) != (j : Int)) = true := by simp; omega
                have c3 : ¬ (k : Int) < j := by omega
                clear V D0
                go_wp2_with (go_at_call 27; refine (impl_dup _ _ _ _).mono ?_; rintro e w' ⟨rfl, rfl⟩; rw [D.out])
                go_roundw
                case rel => exact ⟨j + 1, by omega, by go_num, G7.out⟩
                case measure => simp [intOf]; omega
            · go_wp2_with fail
              go_roundw
              case rel => exact ⟨k + 1, by omega, by go_num, HJ.out⟩
              case measure => simp [intOf]; omega
        · go_wp2_with fail
          go_ret
          exact ⟨rfl, HG.out⟩
    · have Z := True.intro
      go_wp2_with fail
      go_loopw [10] (fun i wr => ∃ k : Nat, k ≤ 9 ∧ i = .int .i64 k ∧ Gw w wr) (fun i _ => 9 - (intOf i).toNat)
      case atStart => exact ⟨0, by omega, rfl, G6.out⟩
      case round =>
        obtain ⟨k, hk, rfl, hg⟩ := hrel
        have HG := Lib.hid hg
        clear hg
        by_cases hlt : k < 9
        · have hk8 : (k : Int) ≤ 8 := by omega
          go_wp2_with fail
          go_loopw [11] (fun i wr => ∃ j : Nat, j ≤ 9 ∧ i = .int .i64 j ∧ Gw w wr) (fun i _ => 9 - (intOf i).toNat)
          case atStart => exact ⟨0, by omega, rfl, HG.out⟩
          case round =>
            obtain ⟨j, hj, rfl, hg⟩ := hrel
            have HJ := Lib.hid hg
            clear hg
            by_cases hjt : j < 9
            · have hj8 : (j : Int) ≤ 8 := by omega
              have V := Lib.hid (fan_pair k j (by omega) (by omega) (by omega) (by omega))
              go_wp2_with fail
              refine (impl_pair 4 k 4 j _ (HK.out.grow HJ.out)).mono ?_
              rintro e w7 ⟨rfl, g7⟩
              have G7 := Lib.hid (HJ.out.trans g7)
              clear g7
              rw [V.out]
              have D0 := Lib.hid (fan_dup k j (by omega) (by omega) (by omega) (by omega))
              rcases Nat.lt_trichotomy k j with hkj | hkj | hkj
              · rw [if_neg (by omega)]
                have D := Lib.hid (show dupV k 4 j = true from by rw [D0.out]; simp; omega)
                have c1 : ((k : Int) == (j : Int)) = false := by simp; omega
                have c2 : ((k : Int) != (j : Int)) = true := by simp; omega
                have c3 : (k : Int) < j := by omega
                clear V D0
                go_wp2_with (go_at_call 27; refine (impl_dup _ _ _ _).mono ?_; rintro e w' ⟨rfl, rfl⟩; rw [D.out])
                go_roundw
                case rel => exact ⟨j + 1, by omega, by go_num, G7.out⟩
                case measure => simp [intOf]; omega
              · subst hkj
                rw [if_pos rfl]
                have D := Lib.hid (show dupV k 4 k = false from by rw [D0.out]; simp)
                clear V D0
                go_wp2_with (go_at_call 27; refine (impl_dup _ _ _ _).mono ?_; rintro e w' ⟨rfl, rfl⟩; rw [D.out])
                go_roundw
                case rel => exact ⟨k + 1, by omega, by go_num, G7.out⟩
                case measure => simp [intOf]; omega
              · rw [if_neg (by omega)]
                have D := Lib.hid (show dupV k 4 j = false from by rw [D0.out]; simp; omega)
                have c1 : ((k : Int) == (j : Int)) = false := by simp; omega
                have c2 : ((k : Int) != (j : Int)) = true := by simp; omega
                have c3 : ¬ (k : Int) < j := by omega
                clear V D0
                go_wp2_with (go_at_call 27; refine (impl_dup _ _ _ _).mono ?_; rintro e w' ⟨rfl, rfl⟩; rw [D.out])
                go_roundw
                case rel => exact ⟨j + 1, by omega, by go_num, G7.out⟩
                case measure => simp [intOf]; omega
            · go_wp2_with fail
              go_roundw
              case rel => exact ⟨k + 1, by omega, by go_num, HJ.out⟩
              case measure => simp [intOf]; omega
        · go_wp2_with fail
          go_ret
          exact ⟨rfl, HG.out⟩
    · have Z := True.intro
      go_wp2_with fail
      go_loopw [10] (fun i wr => ∃ k : Nat, k ≤ 9 ∧ i = .int .i64 k ∧ Gw w wr) (fun i _ => 9 - (intOf i).toNat)
      case atStart => exact ⟨0, by omega, rfl, G6.out⟩
      case round =>
        obtain ⟨k, hk, rfl, hg⟩ := hrel
        have HG := Lib.hid hg
        clear hg
        by_cases hlt : k < 9
        · have hk8 : (k : Int) ≤ 8 := by omega
          go_wp2_with fail
          go_loopw [11] (fun i wr => ∃ j : Nat, j ≤ 9 ∧ i = .int .i64 j ∧ Gw w wr) (fun i _ => 9 - (intOf i).toNat)
          case atStart => exact ⟨0, by omega, rfl, HG.out⟩
          case round =>
            obtain ⟨j, hj, rfl, hg⟩ := hrel
            have HJ := Lib.hid hg
            clear hg
            by_cases hjt : j < 9
            · have hj8 : (j : Int) ≤ 8 := by omega
              have V := Lib.hid (fan_pair k j (by omega) (by omega) (by omega) (by omega))
              go_wp2_with fail
              refine (impl_pair 4 k 4 j _ (HK.out.grow HJ.out)).mono ?_
              rintro e w7 ⟨rfl, g7⟩
              have G7 := Lib.hid (HJ.out.trans g7)
              clear g7
              rw [V.out]
              have D0 := Lib.hid (fan_dup k j (by omega) (by omega) (by omega) (by omega))
              rcases Nat.lt_trichotomy k j with hkj | hkj | hkj
              · rw [if_neg (by omega)]
                have D := Lib.hid (show dupV k 4 j = true from by rw [D0.out]; simp; omega)
                have c1 : ((k : Int) == (j : Int)) = false := by simp; omega
                have c2 : ((k : Int) != (j : Int)) = true := by simp; omega
                have c3 : (k : Int) < j := by omega
                clear V D0
                go_wp2_with (go_at_call 27; refine (impl_dup _ _ _ _).mono ?_; rintro e w' ⟨rfl, rfl⟩; rw [D.out])
                go_roundw
                case rel => exact ⟨j + 1, by omega, by go_num, G7.out⟩
                case measure => simp [intOf]; omega
              · subst hkj
                rw [if_pos rfl]
                have D := Lib.hid (show dupV k 4 k = false from by rw [D0.out]; simp)
                clear V D0
                go_wp2_with (go_at_call 27; refine (impl_dup _ _ _ _).mono ?_; rintro e w' ⟨rfl, rfl⟩; rw [D.out])
                go_roundw
                case rel => exact ⟨k + 1, by omega, by go_num, G7.out⟩
                case measure => simp [intOf]; omega
              · rw [if_neg (by omega)]
                have D := Lib.hid (show dupV k 4 j = false from by rw [D0.out]; simp; omega)
                have c1 : ((k : Int) == (j : Int)) = false := by simp; omega
                have c2 : ((k : Int) != (j : Int)) = true := by simp; omega
                have c3 : ¬ (k : Int) < j := by omega
                clear V D0
                go_wp2_with (go_at_call 27; refine (impl_dup _ _ _ _).mono ?_; rintro e w' ⟨rfl, rfl⟩; rw [D.out])
                go_roundw
                case rel => exact ⟨j + 1, by omega, by go_num, G7.out⟩
                case measure => simp [intOf]; omega
            · go_wp2_with fail
              go_roundw
              case rel => exact ⟨k + 1, by omega, by go_num, HJ.out⟩
              case measure => simp [intOf]; omega
        · go_wp2_with fail
          go_ret
          exact ⟨rfl, HG.out⟩
    · have Z := True.intro
      go_wp2_with fail
      go_loopw [10] (fun i wr => ∃ k : Nat, k ≤ 9 ∧ i = .int .i64 k ∧ Gw w wr) (fun i _ => 9 - (intOf i).toNat)
      case atStart => exact ⟨0, by omega, rfl, G6.out⟩
      case round =>
        obtain ⟨k, hk, rfl, hg⟩ := hrel
        have HG := Lib.hid hg
        clear hg
        by_cases hlt : k < 9
        · have hk8 : (k : Int) ≤ 8 := by omega
          go_wp2_with fail
          go_loopw [11] (fun i wr => ∃ j : Nat, j ≤ 9 ∧ i = .int .i64 j ∧ Gw w wr) (fun i _ => 9 - (intOf i).toNat)
          case atStart => exact ⟨0, by omega, rfl, HG.out⟩
          case round =>
            obtain ⟨j, hj, rfl, hg⟩ := hrel
            have HJ := Lib.hid hg
            clear hg
            by_cases hjt : j < 9
            · have hj8 : (j : Int) ≤ 8 := by omega
              have V := Lib.hid (fan_pair k j (by omega) (by omega) (by omega) (by omega))
              go_wp2_with fail
              refine (impl_pair 4 k 4 j _ (HK.out.grow HJ.out)).mono ?_
              rintro e w7 ⟨rfl, g7⟩
              have G7 := Lib.hid (HJ.out.trans g7)
              clear g7
              rw [V.out]
              have D0 := Lib.hid (fan_dup k j (by omega) (by omega) (by omega) (by omega))
              rcases Nat.lt_trichotomy k j with hkj | hkj | hkj
              · rw [if_neg (by omega)]
                have D := Lib.hid (show dupV k 4 j = true from by rw [D0.out]; simp; omega)
                have c1 : ((k : Int) == (j : Int)) = false := by simp; omega
                have c2 : ((k : Int) != (j : Int)) = true := by simp; omega
                have c3 : (k : Int) < j := by omega
                clear V D0
                go_wp2_with (go_at_call 27; refine (impl_dup _ _ _ _).mono ?_; rintro e w' ⟨rfl, rfl⟩; rw [D.out])
                go_roundw
                case rel => exact ⟨j + 1, by omega, by go_num, G7.out⟩
                case measure => simp [intOf]; omega
              · subst hkj
                rw [if_pos rfl]
                have D := Lib.hid (show dupV k 4 k = false from by rw [D0.out]; simp)
                clear V D0
                go_wp2_with (go_at_call 27; refine (impl_dup _ _ _ _).mono ?_; rintro e w' ⟨rfl, rfl⟩; rw [D.out])
                go_roundw
                case rel => exact ⟨k + 1, by omega, by go_num, G7.out⟩
                case measure => simp [intOf]; omega
              · rw [if_neg (by omega)]
                have D := Lib.hid (show dupV k 4 j = false from by rw [D0.out]; simp; omega)
                have c1 : ((k : Int) == (j : Int)) = false := by simp; omega
                have c2 : ((k : Int) != (j : Int)) = true := by simp; omega
                have c3 : ¬ (k : Int) < j := by omega
                clear V D0
                go_wp2_with (go_at_call 27; refine (impl_dup _ _ _ _).mono ?_; rintro e w' ⟨rfl, rfl⟩; rw [D.out])
                go_roundw
                case rel => exact ⟨j + 1, by omega, by go_num, G7.out⟩
                case measure => simp [intOf]; omega
            · go_wp2_with fail
              go_roundw
              case rel => exact ⟨k + 1, by omega, by go_num, HJ.out⟩
              case measure => simp [intOf]; omega
        · go_wp2_with fail
          go_ret
          exact ⟨rfl, HG.out⟩
    · have Z := True.intro
      go_wp2_with fail
      go_loopw [10] (fun i wr => ∃ k : Nat, k ≤ 9 ∧ i = .int .i64 k ∧ Gw w wr) (fun i _ => 9 - (intOf i).toNat)
      case atStart => exact ⟨0, by omega, rfl, G6.out⟩
      case round =>
        obtain ⟨k, hk, rfl, hg⟩ := hrel
        have HG := Lib.hid hg
        clear hg
        by_cases hlt : k < 9
        · have hk8 : (k : Int) ≤ 8 := by omega
          go_wp2_with fail
          go_loopw [11] (fun i wr => ∃ j : Nat, j ≤ 9 ∧ i = .int .i64 j ∧ Gw w wr) (fun i _ => 9 - (intOf i).toNat)
          case atStart => exact ⟨0, by omega, rfl, HG.out⟩
          case round =>
            obtain ⟨j, hj, rfl, hg⟩ := hrel
            have HJ := Lib.hid hg
            clear hg
            by_cases hjt : j < 9
            · have hj8 : (j : Int) ≤ 8 := by omega
              have V := Lib.hid (fan_pair k j (by omega) (by omega) (by omega) (by omega))
              go_wp2_with fail
              refine (impl_pair 4 k 4 j _ (HK.out.grow HJ.out)).mono ?_
              rintro e w7 ⟨rfl, g7⟩
              have G7 := Lib.hid (HJ.out.trans g7)
              clear g7
              rw [V.out]
              have D0 := Lib.hid (fan_dup k j (by omega) (by omega) (by omega) (by omega))
              rcases Nat.lt_trichotomy k j with hkj | hkj | hkj
              · rw [if_neg (by omega)]
                have D := Lib.hid (show dupV k 4 j = true from by rw [D0.out]; simp; omega)
                have c1 : ((k : Int) == (j : Int)) = false := by simp; omega
                have c2 : ((k : Int) != (j : Int)) = true := by simp; omega
                have c3 : (k : Int) < j := by omega
                clear V D0
                go_wp2_with (go_at_call 27; refine (impl_dup _ _ _ _).mono ?_; rintro e w' ⟨rfl, rfl⟩; rw [D.out])
                go_roundw
                case rel => exact ⟨j + 1, by omega, by go_num, G7.out⟩
                case measure => simp [intOf]; omega
              · subst hkj
                rw [if_pos rfl]
                have D := Lib.hid (show dupV k 4 k = false from by rw [D0.out]; simp)
                clear V D0
                go_wp2_with (go_at_call 27; refine (impl_dup _ _ _ _).mono ?_; rintro e w' ⟨rfl, rfl⟩; rw [D.out])
                go_roundw
                case rel => exact ⟨k + 1, by omega, by go_num, G7.out⟩
                case measure => simp [intOf]; omega
              · rw [if_neg (by omega)]
                have D := Lib.hid (show dupV k 4 j = false from by rw [D0.out]; simp; omega)
                have c1 : ((k : Int) == (j : Int)) = false := by simp; omega
                have c2 : ((k : Int) != (j : Int)) = true := by simp; omega
                have c3 : ¬ (k : Int) < j := by omega
                clear V D0
                go_wp2_with (go_at_call 27; refine (impl_dup _ _ _ _).mono ?_; rintro e w' ⟨rfl, rfl⟩; rw [D.out])
                go_roundw
                case rel => exact ⟨j + 1, by omega, by go_num, G7.out⟩
                case measure => simp [intOf]; omega
            · go_wp2_with fail
              go_roundw
              case rel => exact ⟨k + 1, by omega, by go_num, HJ.out⟩
              case measure => simp [intOf]; omega
        · go_wp2_with fail
          go_ret
          exact ⟨rfl, HG.out⟩
    · have Z := True.intro
      go_wp2_with fail
      go_loopw [10] (fun i wr => ∃ k : Nat, k ≤ 9 ∧ i = .int .i64 k ∧ Gw w wr) (fun i _ => 9 - (intOf i).toNat)
      case atStart => exact ⟨0, by omega, rfl, G6.out⟩
      case round =>
        obtain ⟨k, hk, rfl, hg⟩ := hrel
        have HG := Lib.hid hg
        clear hg
        by_cases hlt : k < 9
        · have hk8 : (k : Int) ≤ 8 := by omega
          go_wp2_with fail
          go_loopw [11] (fun i wr => ∃ j : Nat, j ≤ 9 ∧ i = .int .i64 j ∧ Gw w wr) (fun i _ => 9 - (intOf i).toNat)
          case atStart => exact ⟨0, by omega, rfl, HG.out⟩
          case round =>
            obtain ⟨j, hj, rfl, hg⟩ := hrel
            have HJ := Lib.hid hg
            clear hg
            by_cases hjt : j < 9
            · have hj8 : (j : Int) ≤ 8 := by omega
              have V := Lib.hid (fan_pair k j (by omega) (by omega) (by omega) (by omega))
              go_wp2_with fail
              refine (impl_pair 4 k 4 j _ (HK.out.grow HJ.out)).mono ?_
              rintro e w7 ⟨rfl, g7⟩
              have G7 := Lib.hid (HJ.out.trans g7)
              clear g7
              rw [V.out]
              have D0 := Lib.hid (fan_dup k j (by omega) (by omega) (by omega) (by omega))
              rcases Nat.lt_trichotomy k j with hkj | hkj | hkj
              · rw [if_neg (by omega)]
                have D := Lib.hid (show dupV k 4 j = true from by rw [D0.out]; simp; omega)
                have c1 : ((k : Int) == (j : Int)) = false := by simp; omega
                have c2 : ((k : Int) != (j : Int)) = true := by simp; omega
                have c3 : (k : Int) < j := by omega
                clear V D0
                go_wp2_with (go_at_call 27; refine (impl_dup _ _ _ _).mono ?_; rintro e w' ⟨rfl, rfl⟩; rw [D.out])
                go_roundw
                case rel => exact ⟨j + 1, by omega, by go_num, G7.out⟩
                case measure => simp [intOf]; omega
              · subst hkj
                rw [if_pos rfl]
                have D := Lib.hid (show dupV k 4 k = false from by rw [D0.out]; simp)
                clear V D0
                go_wp2_with (go_at_call 27; refine (impl_dup _ _ _ _).mono ?_; rintro e w' ⟨rfl, rfl⟩; rw [D.out])
                go_roundw
                case rel => exact ⟨k + 1, by omega, by go_num, G7.out⟩
                case measure => simp [intOf]; omega
              · rw [if_neg (by omega)]
                have D := Lib.hid (show dupV k 4 j = false from by rw [D0.out]; simp; omega)
                have c1 : ((k : Int) == (j : Int)) = false := by simp; omega
                have c2 : ((k : Int) != (j : Int)) = true := by simp; omega
                have c3 : ¬ (k : Int) < j := by omega
                clear V D0
                go_wp2_with (go_at_call 27; refine (impl_dup _ _ _ _).mono ?_; rintro e w' ⟨rfl, rfl⟩; rw [D.out])
                go_roundw
                case rel => exact ⟨j + 1, by omega, by go_num, G7.out⟩
                case measure => simp [intOf]; omega
            · go_wp2_with fail
              go_roundw
              case rel => exact ⟨k + 1, by omega, by go_num, HJ.out⟩
              case measure => simp [intOf]; omega
        · go_wp2_with fail
          go_ret
          exact ⟨rfl, HG.out⟩
    · have z0 : (C == 0) = false := by simp; omega
      have z8 : (C == 8) = false := by simp; omega
      clear hC
      cases y2 : (C != 2)
      · cases y4 : (C != 4)
        · have Z := True.intro
          go_wp2_with fail
          go_loopw [10] (fun i wr => ∃ k : Nat, k ≤ 9 ∧ i = .int .i64 k ∧ Gw w wr) (fun i _ => 9 - (intOf i).toNat)
          case atStart => exact ⟨0, by omega, rfl, G6.out⟩
          case round =>
            obtain ⟨k, hk, rfl, hg⟩ := hrel
            have HG := Lib.hid hg
            clear hg
            by_cases hlt : k < 9
            · have hk8 : (k : Int) ≤ 8 := by omega
              go_wp2_with fail
              go_loopw [11] (fun i wr => ∃ j : Nat, j ≤ 9 ∧ i = .int .i64 j ∧ Gw w wr) (fun i _ => 9 - (intOf i).toNat)
              case atStart => exact ⟨0, by omega, rfl, HG.out⟩
              case round =>
                obtain ⟨j, hj, rfl, hg⟩ := hrel
                have HJ := Lib.hid hg
                clear hg
                by_cases hjt : j < 9
                · have hj8 : (j : Int) ≤ 8 := by omega
                  have V := Lib.hid (fan_pair k j (by omega) (by omega) (by omega) (by omega))
                  go_wp2_with fail
                  refine (impl_pair 4 k 4 j _ (HK.out.grow HJ.out)).mono ?_
                  rintro e w7 ⟨rfl, g7⟩
                  have G7 := Lib.hid (HJ.out.trans g7)
                  clear g7
                  rw [V.out]
                  have D0 := Lib.hid (fan_dup k j (by omega) (by omega) (by omega) (by omega))
                  rcases Nat.lt_trichotomy k j with hkj | hkj | hkj
                  · rw [if_neg (by omega)]
                    have D := Lib.hid (show dupV k 4 j = true from by rw [D0.out]; simp; omega)
                    have c1 : ((k : Int) == (j : Int)) = false := by simp; omega
                    have c2 : ((k : Int) != (j : Int)) = true := by simp; omega
                    have c3 : (k : Int) < j := by omega
                    clear V D0
                    go_wp2_with (go_at_call 27; refine (impl_dup _ _ _ _).mono ?_; rintro e w' ⟨rfl, rfl⟩; rw [D.out])
                    go_roundw
                    case rel => exact ⟨j + 1, by omega, by go_num, G7.out⟩
                    case measure => simp [intOf]; omega
                  · subst hkj
                    rw [if_pos rfl]
                    have D := Lib.hid (show dupV k 4 k = false from by rw [D0.out]; simp)
                    clear V D0
                    go_wp2_with (go_at_call 27; refine (impl_dup _ _ _ _).mono ?_; rintro e w' ⟨rfl, rfl⟩; rw [D.out])
                    go_roundw
                    case rel => exact ⟨k + 1, by omega, by go_num, G7.out⟩
                    case measure => simp [intOf]; omega
                  · rw [if_neg (by omega)]
                    have D := Lib.hid (show dupV k 4 j = false from by rw [D0.out]; simp; omega)
                    have c1 : ((k : Int) == (j : Int)) = false := by simp; omega
                    have c2 : ((k : Int) != (j : Int)) = true := by simp; omega
                    have c3 : ¬ (k : Int) < j := by omega
                    clear V D0
                    go_wp2_with (go_at_call 27; refine (impl_dup _ _ _ _).mono ?_; rintro e w' ⟨rfl, rfl⟩; rw [D.out])
                    go_roundw
                    case rel => exact ⟨j + 1, by omega, by go_num, G7.out⟩
                    case measure => simp [intOf]; omega
                · go_wp2_with fail
                  go_roundw
                  case rel => exact ⟨k + 1, by omega, by go_num, HJ.out⟩
                  case measure => simp [intOf]; omega
            · go_wp2_with fail
              go_ret
              exact ⟨rfl, HG.out⟩
        · have Z := True.intro
          go_wp2_with fail
          go_loopw [10] (fun i wr => ∃ k : Nat, k ≤ 9 ∧ i = .int .i64 k ∧ Gw w wr) (fun i _ => 9 - (intOf i).toNat)
          case atStart => exact ⟨0, by omega, rfl, G6.out⟩
          case round =>
            obtain ⟨k, hk, rfl, hg⟩ := hrel
            have HG := Lib.hid hg
            clear hg
            by_cases hlt : k < 9
            · have hk8 : (k : Int) ≤ 8 := by omega
              go_wp2_with fail
              go_loopw [11] (fun i wr => ∃ j : Nat, j ≤ 9 ∧ i = .int .i64 j ∧ Gw w wr) (fun i _ => 9 - (intOf i).toNat)
              case atStart => exact ⟨0, by omega, rfl, HG.out⟩
              case round =>
                obtain ⟨j, hj, rfl, hg⟩ := hrel
                have HJ := Lib.hid hg
                clear hg
                by_cases hjt : j < 9
                · have hj8 : (j : Int) ≤ 8 := by omega
                  have V := Lib.hid (fan_pair k j (by omega) (by omega) (by omega) (by omega))
                  go_wp2_with fail
                  refine (impl_pair 4 k 4 j _ (HK.out.grow HJ.out)).mono ?_
                  rintro e w7 ⟨rfl, g7⟩
                  have G7 := Lib.hid (HJ.out.trans g7)
                  clear g7
                  rw [V.out]
                  have D0 := Lib.hid (fan_dup k j (by omega) (by omega) (by omega) (by omega))
                  rcases Nat.lt_trichotomy k j with hkj | hkj | hkj
                  · rw [if_neg (by omega)]
                    have D := Lib.hid (show dupV k 4 j = true from by rw [D0.out]; simp; omega)
                    have c1 : ((k : Int) == (j : Int)) = false := by simp; omega
                    have c2 : ((k : Int) != (j : Int)) = true := by simp; omega
                    have c3 : (k : Int) < j := by omega
                    clear V D0
                    go_wp2_with (go_at_call 27; refine (impl_dup _ _ _ _).mono ?_; rintro e w' ⟨rfl, rfl⟩; rw [D.out])
                    go_roundw
                    case rel => exact ⟨j + 1, by omega, by go_num, G7.out⟩
                    case measure => simp [intOf]; omega
                  · subst hkj
                    rw [if_pos rfl]
                    have D := Lib.hid (show dupV k 4 k = false from by rw [D0.out]; simp)
                    clear V D0
                    go_wp2_with (go_at_call 27; refine (impl_dup _ _ _ _).mono ?_; rintro e w' ⟨rfl, rfl⟩; rw [D.out])
                    go_roundw
                    case rel => exact ⟨k + 1, by omega, by go_num, G7.out⟩
                    case measure => simp [intOf]; omega
                  · rw [if_neg (by omega)]
                    have D := Lib.hid (show dupV k 4 j = false from by rw [D0.out]; simp; omega)
                    have c1 : ((k : Int) == (j : Int)) = false := by simp; omega
                    have c2 : ((k : Int) != (j : Int)) = true := by simp; omega
                    have c3 : ¬ (k : Int) < j := by omega
                    clear V D0
                    go_wp2_with (go_at_call 27; refine (impl_dup _ _ _ _).mono ?_; rintro e w' ⟨rfl, rfl⟩; rw [D.out])
                    go_roundw
                    case rel => exact ⟨j + 1, by omega, by go_num, G7.out⟩
                    case measure => simp [intOf]; omega
                · go_wp2_with fail
                  go_roundw
                  case rel => exact ⟨k + 1, by omega, by go_num, HJ.out⟩
                  case measure => simp [intOf]; omega
            · go_wp2_with fail
              go_ret
              exact ⟨rfl, HG.out⟩
      · cases y4 : (C != 4)
        · have Z := True.intro
          go_wp2_with fail
          go_loopw [10] (fun i wr => ∃ k : Nat, k ≤ 9 ∧ i = .int .i64 k ∧ Gw w wr) (fun i _ => 9 - (intOf i).toNat)
          case atStart => exact ⟨0, by omega, rfl, G6.out⟩
          case round =>
            obtain ⟨k, hk, rfl, hg⟩ := hrel
            have HG := Lib.hid hg
            clear hg
            by_cases hlt : k < 9
            · have hk8 : (k : Int) ≤ 8 := by omega
              go_wp2_with fail
              go_loopw [11] (fun i wr => ∃ j : Nat, j ≤ 9 ∧ i = .int .i64 j ∧ Gw w wr) (fun i _ => 9 - (intOf i).toNat)
              case atStart => exact ⟨0, by omega, rfl, HG.out⟩
              case round =>
                obtain ⟨j, hj, rfl, hg⟩ := hrel
                have HJ := Lib.hid hg
                clear hg
                by_cases hjt : j < 9
                · have hj8 : (j : Int) ≤ 8 := by omega
                  have V := Lib.hid (fan_pair k j (by omega) (by omega) (by omega) (by omega))
                  go_wp2_with fail
                  refine (impl_pair 4 k 4 j _ (HK.out.grow HJ.out)).mono ?_
                  rintro e w7 ⟨rfl, g7⟩
                  have G7 := Lib.hid (HJ.out.trans g7)
                  clear g7
                  rw [V.out]
                  have D0 := Lib.hid (fan_dup k j (by omega) (by omega) (by omega) (by omega))
                  rcases Nat.lt_trichotomy k j with hkj | hkj | hkj
                  · rw [if_neg (by omega)]
                    have D := Lib.hid (show dupV k 4 j = true from by rw [D0.out]; simp; omega)
                    have c1 : ((k : Int) == (j : Int)) = false := by simp; omega
                    have c2 : ((k : Int) != (j : Int)) = true := by simp; omega
                    have c3 : (k : Int) < j := by omega
                    clear V D0
                    go_wp2_with (go_at_call 27; refine (impl_dup _ _ _ _).mono ?_; rintro e w' ⟨rfl, rfl⟩; rw [D.out])
                    go_roundw
                    case rel => exact ⟨j + 1, by omega, by go_num, G7.out⟩
                    case measure => simp [intOf]; omega
                  · subst hkj
                    rw [if_pos rfl]
                    have D := Lib.hid (show dupV k 4 k = false from by rw [D0.out]; simp)
                    clear V D0
                    go_wp2_with (go_at_call 27; refine (impl_dup _ _ _ _).mono ?_; rintro e w' ⟨rfl, rfl⟩; rw [D.out])
                    go_roundw
                    case rel => exact ⟨k + 1, by omega, by go_num, G7.out⟩
                    case measure => simp [intOf]; omega
                  · rw [if_neg (by omega)]
                    have D := Lib.hid (show dupV k 4 j = false from by rw [D0.out]; simp; omega)
                    have c1 : ((k : Int) == (j : Int)) = false := by simp; omega
                    have c2 : ((k : Int) != (j : Int)) = true := by simp; omega
                    have c3 : ¬ (k : Int) < j := by omega
                    clear V D0
                    go_wp2_with (go_at_call 27; refine (impl_dup _ _ _ _).mono ?_; rintro e w' ⟨rfl, rfl⟩; rw [D.out])
                    go_roundw
                    case rel => exact ⟨j + 1, by omega, by go_num, G7.out⟩
                    case measure => simp [intOf]; omega
                · go_wp2_with fail
                  go_roundw
                  case rel => exact ⟨k + 1, by omega, by go_num, HJ.out⟩
                  case measure => simp [intOf]; omega
            · go_wp2_with fail
              go_ret
              exact ⟨rfl, HG.out⟩
        · have Z := True.intro
          go_wp2_with fail
          go_loopw [10] (fun i wr => ∃ k : Nat, k ≤ 9 ∧ i = .int .i64 k ∧ Gw w wr) (fun i _ => 9 - (intOf i).toNat)
          case atStart => exact ⟨0, by omega, rfl, G6.out⟩
          case round =>
            obtain ⟨k, hk, rfl, hg⟩ := hrel
            have HG := Lib.hid hg
            clear hg
            by_cases hlt : k < 9
            · have hk8 : (k : Int) ≤ 8 := by omega
              go_wp2_with fail
              go_loopw [11] (fun i wr => ∃ j : Nat, j ≤ 9 ∧ i = .int .i64 j ∧ Gw w wr) (fun i _ => 9 - (intOf i).toNat)
              case atStart => exact ⟨0, by omega, rfl, HG.out⟩
              case round =>
                obtain ⟨j, hj, rfl, hg⟩ := hrel
                have HJ := Lib.hid hg
                clear hg
                by_cases hjt : j < 9
                · have hj8 : (j : Int) ≤ 8 := by omega
                  have V := Lib.hid (fan_pair k j (by omega) (by omega) (by omega) (by omega))
                  go_wp2_with fail
                  refine (impl_pair 4 k 4 j _ (HK.out.grow HJ.out)).mono ?_
                  rintro e w7 ⟨rfl, g7⟩
                  have G7 := Lib.hid (HJ.out.trans g7)
                  clear g7
                  rw [V.out]
                  have D0 := Lib.hid (fan_dup k j (by omega) (by omega) (by omega) (by omega))
                  rcases Nat.lt_trichotomy k j with hkj | hkj | hkj
                  · rw [if_neg (by omega)]
                    have D := Lib.hid (show dupV k 4 j = true from by rw [D0.out]; simp; omega)
                    have c1 : ((k : Int) == (j : Int)) = false := by simp; omega
                    have c2 : ((k : Int) != (j : Int)) = true := by simp; omega
                    have c3 : (k : Int) < j := by omega
                    clear V D0
                    go_wp2_with (go_at_call 27; refine (impl_dup _ _ _ _).mono ?_; rintro e w' ⟨rfl, rfl⟩; rw [D.out])
                    go_roundw
                    case rel => exact ⟨j + 1, by omega, by go_num, G7.out⟩
                    case measure => simp [intOf]; omega
                  · subst hkj
                    rw [if_pos rfl]
                    have D := Lib.hid (show dupV k 4 k = false from by rw [D0.out]; simp)
                    clear V D0
                    go_wp2_with (go_at_call 27; refine (impl_dup _ _ _ _).mono ?_; rintro e w' ⟨rfl, rfl⟩; rw [D.out])
                    go_roundw
                    case rel => exact ⟨k + 1, by omega, by go_num, G7.out⟩
                    case measure => simp [intOf]; omega
                  · rw [if_neg (by omega)]
                    have D := Lib.hid (show dupV k 4 j = false from by rw [D0.out]; simp; omega)
                    have c1 : ((k : Int) == (j : Int)) = false := by simp; omega
                    have c2 : ((k : Int) != (j : Int)) = true := by simp; omega
                    have c3 : ¬ (k : Int) < j := by omega
                    clear V D0
                    go_wp2_with (go_at_call 27; refine (impl_dup _ _ _ _).mono ?_; rintro e w' ⟨rfl, rfl⟩; rw [D.out])
                    go_roundw
                    case rel => exact ⟨j + 1, by omega, by go_num, G7.out⟩
                    case measure => simp [intOf]; omega
                · go_wp2_with fail
                  go_roundw
                  case rel => exact ⟨k + 1, by omega, by go_num, HJ.out⟩
                  case measure => simp [intOf]; omega
            · go_wp2_with fail
              go_ret
              exact ⟨rfl, HG.out⟩
    · have z0 : (C == 0) = false := by simp; omega
      have z8 : (C == 8) = false := by simp; omega
      clear hC
      cases y2 : (C != 2)
      · cases y4 : (C != 4)
        · have Z := True.intro
          go_wp2_with fail
          go_loopw [10] (fun i wr => ∃ k : Nat, k ≤ 9 ∧ i = .int .i64 k ∧ Gw w wr) (fun i _ => 9 - (intOf i).toNat)
          case atStart => exact ⟨0, by omega, rfl, G6.out⟩
          case round =>
            obtain ⟨k, hk, rfl, hg⟩ := hrel
            have HG := Lib.hid hg
            clear hg
            by_cases hlt : k < 9
            · have hk8 : (k : Int) ≤ 8 := by omega
              go_wp2_with fail
              go_loopw [11] (fun i wr => ∃ j : Nat, j ≤ 9 ∧ i = .int .i64 j ∧ Gw w wr) (fun i _ => 9 - (intOf i).toNat)
              case atStart => exact ⟨0, by omega, rfl, HG.out⟩
              case round =>
                obtain ⟨j, hj, rfl, hg⟩ := hrel
                have HJ := Lib.hid hg
                clear hg
                by_cases hjt : j < 9
                · have hj8 : (j : Int) ≤ 8 := by omega
                  have V := Lib.hid (fan_pair k j (by omega) (by omega) (by omega) (by omega))
                  go_wp2_with fail
                  refine (impl_pair 4 k 4 j _ (HK.out.grow HJ.out)).mono ?_
                  rintro e w7 ⟨rfl, g7⟩
                  have G7 := Lib.hid (HJ.out.trans g7)
                  clear g7
                  rw [V.out]
                  have D0 := Lib.hid (fan_dup k j (by omega) (by omega) (by omega) (by omega))
                  rcases Nat.lt_trichotomy k j with hkj | hkj | hkj
                  · rw [if_neg (by omega)]
                    have D := Lib.hid (show dupV k 4 j = true from by rw [D0.out]; simp; omega)
                    have c1 : ((k : Int) == (j : Int)) = false := by simp; omega
                    have c2 : ((k : Int) != (j : Int)) = true := by simp; omega
                    have c3 : (k : Int) < j := by omega
                    clear V D0
                    go_wp2_with (go_at_call 27; refine (impl_dup _ _ _ _).mono ?_; rintro e w' ⟨rfl, rfl⟩; rw [D.out])
                    go_roundw
                    case rel => exact ⟨j + 1, by omega, by go_num, G7.out⟩
                    case measure => simp [intOf]; omega
                  · subst hkj
                    rw [if_pos rfl]
                    have D := Lib.hid (show dupV k 4 k = false from by rw [D0.out]; simp)
                    clear V D0
                    go_wp2_with (go_at_call 27; refine (impl_dup _ _ _ _).mono ?_; rintro e w' ⟨rfl, rfl⟩; rw [D.out])
                    go_roundw
                    case rel => exact ⟨k + 1, by omega, by go_num, G7.out⟩
                    case measure => simp [intOf]; omega
                  · rw [if_neg (by omega)]
                    have D := Lib.hid (show dupV k 4 j = false from by rw [D0.out]; simp; omega)
                    have c1 : ((k : Int) == (j : Int)) = false := by simp; omega
                    have c2 : ((k : Int) != (j : Int)) = true := by simp; omega
                    have c3 : ¬ (k : Int) < j := by omega
                    clear V D0
                    go_wp2_with (go_at_call 27; refine (impl_dup _ _ _ _).mono ?_; rintro e w' ⟨rfl, rfl⟩; rw [D.out])
                    go_roundw
                    case rel => exact ⟨j + 1, by omega, by go_num, G7.out⟩
                    case measure => simp [intOf]; omega
                · go_wp2_with fail
                  go_roundw
                  case rel => exact ⟨k + 1, by omega, by go_num, HJ.out⟩
                  case measure => simp [intOf]; omega
            · go_wp2_with fail
              go_ret
              exact ⟨rfl, HG.out⟩
        · have Z := True.intro
          go_wp2_with fail
          go_loopw [10] (fun i wr => ∃ k : Nat, k ≤ 9 ∧ i = .int .i64 k ∧ Gw w wr) (fun i _ => 9 - (intOf i).toNat)
          case atStart => exact ⟨0, by omega, rfl, G6.out⟩
          case round =>
            obtain ⟨k, hk, rfl, hg⟩ := hrel
            have HG := Lib.hid hg
            clear hg
            by_cases hlt : k < 9
            · have hk8 : (k : Int) ≤ 8 := by omega
              go_wp2_with fail
              go_loopw [11] (fun i wr => ∃ j : Nat, j ≤ 9 ∧ i = .int .i64 j ∧ Gw w wr) (fun i _ => 9 - (intOf i).toNat)
              case atStart => exact ⟨0, by omega, rfl, HG.out⟩
              case round =>
                obtain ⟨j, hj, rfl, hg⟩ := hrel
                have HJ := Lib.hid hg
                clear hg
                by_cases hjt : j < 9
                · have hj8 : (j : Int) ≤ 8 := by omega
                  have V := Lib.hid (fan_pair k j (by omega) (by omega) (by omega) (by omega))
                  go_wp2_with fail
                  refine (impl_pair 4 k 4 j _ (HK.out.grow HJ.out)).mono ?_
                  rintro e w7 ⟨rfl, g7⟩
                  have G7 := Lib.hid (HJ.out.trans g7)
                  clear g7
                  rw [V.out]
                  have D0 := Lib.hid (fan_dup k j (by omega) (by omega) (by omega) (by omega))
                  rcases Nat.lt_trichotomy k j with hkj | hkj | hkj
                  · rw [if_neg (by omega)]
                    have D := Lib.hid (show dupV k 4 j = true from by rw [D0.out]; simp; omega)
                    have c1 : ((k : Int) == (j : Int)) = false := by simp; omega
                    have c2 : ((k : Int) != (j : Int)) = true := by simp; omega
                    have c3 : (k : Int) < j := by omega
                    clear V D0
                    go_wp2_with (go_at_call 27; refine (impl_dup _ _ _ _).mono ?_; rintro e w' ⟨rfl, rfl⟩; rw [D.out])
                    go_roundw
                    case rel => exact ⟨j + 1, by omega, by go_num, G7.out⟩
                    case measure => simp [intOf]; omega
                  · subst hkj
                    rw [if_pos rfl]
                    have D := Lib.hid (show dupV k 4 k = false from by rw [D0.out]; simp)
                    clear V D0
                    go_wp2_with (go_at_call 27; refine (impl_dup _ _ _ _).mono ?_; rintro e w' ⟨rfl, rfl⟩; rw [D.out])
                    go_roundw
                    case rel => exact ⟨k + 1, by omega, by go_num, G7.out⟩
                    case measure => simp [intOf]; omega
                  · rw [if_neg (by omega)]
                    have D := Lib.hid (show dupV k 4 j = false from by rw [D0.out]; simp; omega)
                    have c1 : ((k : Int) == (j : Int)) = false := by simp; omega
                    have c2 : ((k : Int) != (j : Int)) = true := by simp; omega
                    have c3 : ¬ (k : Int) < j := by omega
                    clear V D0
                    go_wp2_with (go_at_call 27; refine (impl_dup _ _ _ _).mono ?_; rintro e w' ⟨rfl, rfl⟩; rw [D.out])
                    go_roundw
                    case rel => exact ⟨j + 1, by omega, by go_num, G7.out⟩
                    case measure => simp [intOf]; omega
                · go_wp2_with fail
                  go_roundw
                  case rel => exact ⟨k + 1, by omega, by go_num, HJ.out⟩
                  case measure => simp [intOf]; omega
            · go_wp2_with fail
              go_ret
              exact ⟨rfl, HG.out⟩
      · cases y4 : (C != 4)
        · have Z := True.intro
          go_wp2_with fail
          go_loopw [10] (fun i wr => ∃ k : Nat, k ≤ 9 ∧ i = .int .i64 k ∧ Gw w wr) (fun i _ => 9 - (intOf i).toNat)
          case atStart => exact ⟨0, by omega, rfl, G6.out⟩
          case round =>
            obtain ⟨k, hk, rfl, hg⟩ := hrel
            have HG := Lib.hid hg
            clear hg
            by_cases hlt : k < 9
            · have hk8 : (k : Int) ≤ 8 := by omega
              go_wp2_with fail
              go_loopw [11] (fun i wr => ∃ j : Nat, j ≤ 9 ∧ i = .int .i64 j ∧ Gw w wr) (fun i _ => 9 - (intOf i).toNat)
              case atStart => exact ⟨0, by omega, rfl, HG.out⟩
              case round =>
                obtain ⟨j, hj, rfl, hg⟩ := hrel
                have HJ := Lib.hid hg
                clear hg
                by_cases hjt : j < 9
                · have hj8 : (j : Int) ≤ 8 := by omega
                  have V := Lib.hid (fan_pair k j (by omega) (by omega) (by omega) (by omega))
                  go_wp2_with fail
                  refine (impl_pair 4 k 4 j _ (HK.out.grow HJ.out)).mono ?_
                  rintro e w7 ⟨rfl, g7⟩
                  have G7 := Lib.hid (HJ.out.trans g7)
                  clear g7
                  rw [V.out]
                  have D0 := Lib.hid (fan_dup k j (by omega) (by omega) (by omega) (by omega))
                  rcases Nat.lt_trichotomy k j with hkj | hkj | hkj
                  · rw [if_neg (by omega)]
                    have D := Lib.hid (show dupV k 4 j = true from by rw [D0.out]; simp; omega)
                    have c1 : ((k : Int) == (j : Int)) = false := by simp; omega
                    have c2 : ((k : Int) != (j : Int)) = true := by simp; omega
                    have c3 : (k : Int) < j := by omega
                    clear V D0
                    go_wp2_with (go_at_call 27; refine (impl_dup _ _ _ _).mono ?_; rintro e w' ⟨rfl, rfl⟩; rw [D.out])
                    go_roundw
                    case rel => exact ⟨j + 1, by omega, by go_num, G7.out⟩
                    case measure => simp [intOf]; omega
                  · subst hkj
                    rw [if_pos rfl]
                    have D := Lib.hid (show dupV k 4 k = false from by rw [D0.out]; simp)
                    clear V D0
                    go_wp2_with (go_at_call 27; refine (impl_dup _ _ _ _).mono ?_; rintro e w' ⟨rfl, rfl⟩; rw [D.out])
                    go_roundw
                    case rel => exact ⟨k + 1, by omega, by go_num, G7.out⟩
                    case measure => simp [intOf]; omega
                  · rw [if_neg (by omega)]
                    have D := Lib.hid (show dupV k 4 j = false from by rw [D0.out]; simp; omega)
                    have c1 : ((k : Int) == (j : Int)) = false := by simp; omega
                    have c2 : ((k : Int) != (j : Int)) = true := by simp; omega
                    have c3 : ¬ (k : Int) < j := by omega
                    clear V D0
                    go_wp2_with (go_at_call 27; refine (impl_dup _ _ _ _).mono ?_; rintro e w' ⟨rfl, rfl⟩; rw [D.out])
                    go_roundw
                    case rel => exact ⟨j + 1, by omega, by go_num, G7.out⟩
                    case measure => simp [intOf]; omega
                · go_wp2_with fail
                  go_roundw
                  case rel => exact ⟨k + 1, by omega, by go_num, HJ.out⟩
                  case measure => simp [intOf]; omega
            · go_wp2_with fail
              go_ret
              exact ⟨rfl, HG.out⟩
        · have Z := True.intro
          go_wp2_with fail
          go_loopw [10] (fun i wr => ∃ k : Nat, k ≤ 9 ∧ i = .int .i64 k ∧ Gw w wr) (fun i _ => 9 - (intOf i).toNat)
          case atStart => exact ⟨0, by omega, rfl, G6.out⟩
          case round =>
            obtain ⟨k, hk, rfl, hg⟩ := hrel
            have HG := Lib.hid hg
            clear hg
            by_cases hlt : k < 9
            · have hk8 : (k : Int) ≤ 8 := by omega
              go_wp2_with fail
              go_loopw [11] (fun i wr => ∃ j : Nat, j ≤ 9 ∧ i = .int .i64 j ∧ Gw w wr) (fun i _ => 9 - (intOf i).toNat)
              case atStart => exact ⟨0, by omega, rfl, HG.out⟩
              case round =>
                obtain ⟨j, hj, rfl, hg⟩ := hrel
                have HJ := Lib.hid hg
                clear hg
                by_cases hjt : j < 9
                · have hj8 : (j : Int) ≤ 8 := by omega
                  have V := Lib.hid (fan_pair k j (by omega) (by omega) (by omega) (by omega))
                  go_wp2_with fail
                  refine (impl_pair 4 k 4 j _ (HK.out.grow HJ.out)).mono ?_
                  rintro e w7 ⟨rfl, g7⟩
                  have G7 := Lib.hid (HJ.out.trans g7)
                  clear g7
                  rw [V.out]
                  have D0 := Lib.hid (fan_dup k j (by omega) (by omega) (by omega) (by omega))
                  rcases Nat.lt_trichotomy k j with hkj | hkj | hkj
                  · rw [if_neg (by omega)]
                    have D := Lib.hid (show dupV k 4 j = true from by rw [D0.out]; simp; omega)
                    have c1 : ((k : Int) == (j : Int)) = false := by simp; omega
                    have c2 : ((k : Int) != (j : Int)) = true := by simp; omega
                    have c3 : (k : Int) < j := by omega
                    clear V D0
                    go_wp2_with (go_at_call 27; refine (impl_dup _ _ _ _).mono ?_; rintro e w' ⟨rfl, rfl⟩; rw [D.out])
                    go_roundw
                    case rel => exact ⟨j + 1, by omega, by go_num, G7.out⟩
                    case measure => simp [intOf]; omega
                  · subst hkj
                    rw [if_pos rfl]
                    have D := Lib.hid (show dupV k 4 k = false from by rw [D0.out]; simp)
                    clear V D0
                    go_wp2_with (go_at_call 27; refine (impl_dup _ _ _ _).mono ?_; rintro e w' ⟨rfl, rfl⟩; rw [D.out])
                    go_roundw
                    case rel => exact ⟨k + 1, by omega, by go_num, G7.out⟩
                    case measure => simp [intOf]; omega
                  · rw [if_neg (by omega)]
                    have D := Lib.hid (show dupV k 4 j = false from by rw [D0.out]; simp; omega)
                    have c1 : ((k : Int) == (j : Int)) = false := by simp; omega
                    have c2 : ((k : Int) != (j : Int)) = true := by simp; omega
                    have c3 : ¬ (k : Int) < j := by omega
                    clear V D0
                    go_wp2_with (go_at_call 27; refine (impl_dup _ _ _ _).mono ?_; rintro e w' ⟨rfl, rfl⟩; rw [D.out])
                    go_roundw
                    case rel => exact ⟨j + 1, by omega, by go_num, G7.out⟩
                    case measure => simp [intOf]; omega
                · go_wp2_with fail
                  go_roundw
                  case rel => exact ⟨k + 1, by omega, by go_num, HJ.out⟩
                  case measure => simp [intOf]; omega
            · go_wp2_with fail
              go_ret
              exact ⟨rfl, HG.out⟩

set_option maxRecDepth 100000 in
theorem lifted (os : Os) (started : os.Started) (H : Type) (enc : TypeId × Value → H) :
    ReturnsInHanded {} Tryd.checked os 10 .any (fun w args => (Rows.fnPairTableSpec.pre enc Tryd.prog Tryd.f10 Rows.fnPairTableRow.domain false w args ∧ laidMetH Tryd.prog Rows.fnPairTableRow.laid w) ∧ sizedMet enc Tryd.prog Tryd.f10 (OpenSpec.ofChange Rows.fnPairTableSpec) false w args)
      (Rows.fnPairTableSpec.post enc Tryd.prog Tryd.f10 false true false false) := by
  refine returnsInHanded_of_change_and (C := Tryd.checked) (X := fun w _ => laidMetH Tryd.prog Rows.fnPairTableRow.laid w) (fun _ _ _ hh h => h.of_heap hh) own started (by kernel_rfl) Tryd.func10
    (ChangeSpec.witness_shaped (enc := enc) (C := Tryd.checked) (os := os) (X := fun w _ => laidMetH Tryd.prog Rows.fnPairTableRow.laid w) false (World.laidAll Tryd.prog os Rows.fnPairTableRow.laid) #[.slice none 0 0] 8 (World.laidAll_os _ _ _)
      (World.shaped_of_ZipB (by kernel_rfl) (by kernel_rfl)) (by kernel_rfl) (by kernel_rfl) (by kernel_rfl)
      (by rw [MakeChecks.laidMetH_plain _ _ _ (by kernel_rfl)]; exact laidMet_laidAll _ (by kernel_rfl) (by kernel_rfl))) ?_
  intro W base args ds gs before hval0 hW _ _ hT _
  have hval : ∀ (j : Nat) t v, Tryd.f10.params[j]? = some t → args[j]? = some v → Value.okWide Tryd.prog W .any base t v := hval0
  have hW' := hW
  obtain ⟨p, q, hA0, hV0, rfl, hfz, hnd⟩ := hW
  have hA : DataW.TrodAll enc Tryd.prog W 0 (fun _ => true) true Tryd.f10.params.toList args.toList ds p := hA0
  rw [Tryd.params10] at hA hval
  obtain ⟨v0, vs0, d0, ds0, p0, q0, hargs, rfl, rfl, h0, r0⟩ := trodAll_cons hA
  obtain ⟨rfl, rfl, rfl⟩ := trodAll_nil r0
  obtain rfl : args = #[v0] := by cases args; simp_all
  obtain ⟨z0, w0⟩ := rdBytes_of Tryd.underlying32 Tryd.underlying5 (by kernel_rfl) (hval 0 32 v0 rfl rfl) h0
  obtain ⟨g0, rfl⟩ : ∃ g0, gs = [g0] := by
    obtain ⟨g, t, cs, fuel, d, p', rfl, _⟩ := trodVars_one hV0
    exact ⟨d, rfl⟩
  refine (walk W v0 z0 w0 hT).mono fun e W' ⟨he, hg⟩ => ?_
  subst he
  exact ⟨_, rfl, post_law laidOut (by kernel_rfl) (by kernel_rfl) rfl Tryd.underlying4 hW' hg rfl⟩

theorem holds : Rows.FnPairTableSaid :=
  OpenClaim.holds_of_wide 10 Tryd.f10 rfl rfl rfl rfl rfl rfl rfl ⟨rfl, rfl, rfl, rfl, rfl⟩ rfl rfl rfl rfl rfl (by kernel_rfl) Tryd.func10 (by kernel_rfl)
    (of_decide_eq_true (by kernel_rfl)) (by unfold Func.isWrapper; first | (rw [if_pos (by decide +kernel)]; kernel_rfl) | (rw [if_neg (by decide +kernel)]; exact ⟨rfl, rfl⟩))
    (fun os started H enc _ => lifted os started H enc)

/-- The given statement: the tied card. -/
theorem proved : Rows.FnPairTableCardSaid :=
  Claim7.holds_tied_plain_at .later [] [.wider] true Rows.fnPairTableCard.stood.harness Rows.fnPairTableCard.stood.looks holds (fun _ h => by cases h) (by kernel_rfl) (fun _ h => by cases h) fnPairTable_row_tie rfl ⟨rfl, rfl⟩ (by kernel_rfl) rfl
    (fun f fn hf hfn => by
      obtain rfl : f = 10 := Option.some.inj ((show Tryd.prog.funcNamed Rows.fnPairTableRow.func = some 10 by kernel_rfl).symm.trans hf) |>.symm
      obtain rfl : fn = Tryd.f10 := (Option.some.inj (Tryd.func10.symm.trans hfn)).symm
      exact ⟨by kernel_rfl, fun j t ht => by
        rw [Tryd.params10] at ht
        have hm : t ∈ [32] := by simpa using Array.mem_of_getElem? ht
        have hall : ([32].all fun u => !Tryd.prog.wantsStandIn u) = true := by kernel_rfl
        exact (show Tryd.prog.wantsStandIn t = false by simpa using List.all_eq_true.1 hall t hm)⟩)
    (by kernel_rfl)
#print axioms proved
end Go.Proofs.YtgobiejokgcmmaaDoor.fnPairTable
