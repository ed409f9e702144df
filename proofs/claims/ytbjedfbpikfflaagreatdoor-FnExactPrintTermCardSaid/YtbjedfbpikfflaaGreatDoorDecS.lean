/-
  Contract of the model's Decimal: it answers the decimal form; what was in memory stays as it was. No condition.
-/
import Derived.Test.YtbjedfbpikfflaaGreatDoorDec
import Derived.Laws.IdiomStrings
namespace Go.Proofs.YtbjedfbpikfflaaGreatDoor.Con
open Go.RowKit

theorem byteInfoS : (Tryz.prog.info? 5).map (fun i => (i.zero, i.size, i.bytes)) = some (some (.int .u8 0), 1, 1) := by kernel_rfl

theorem byteCells_snoc1 (l : List UInt8) (b : UInt8) : Lib.byteCells l ++ [.int .u8 (b.toNat : Int)] = Lib.byteCells (l ++ [b]) := by rw [Lib.byteCells_append]; rfl
theorem cell_digI (k : Nat) : [Value.int .u8 (48 + (k : Int) % 10)] = Lib.byteCells [UInt8.ofNat (48 + k % 10)] := by
  rw [cell_dig _ (Nat.mod_lt _ (by omega))]
  simp
theorem own_app {w : World} {B e : Nat} {v : Value} {n m : Nat} {xs : List Value} {l : List UInt8} (h : w.ownsRow B e 1 v n xs) (hx : xs = Lib.byteCells l) (hn : n = m) (hm : m = l.length) : w.ownsRow B e 1 v l.length (Lib.byteCells l) := by
  subst hx; subst hn; subst hm; exact h
theorem one_new {w : World} {x : Value} {t : TypeId} (j : Nat) (u : Value) (h : [x][j]? = some u) : (w.alloc (.cells #[x] t)).cell? ((⟨w.heap.size, 0, none⟩ : Addr).add j) = some u := by
  match j, h with
  | 0, h => simp at h; subst h; simp [Addr.add]
  | (j + 1), h => simp at h
theorem addr_j (g j : Nat) : (⟨g, 0, none⟩ : Addr).add j = ⟨g, j, none⟩ := by
  unfold Addr.add
  split
  · next h => subst h; rfl
  · simp
theorem cells_at {w : World} {B e g cap n : Nat} {l : List UInt8} (h : w.ownsRow B e 1 (.slice (some ⟨g, 0, none⟩) n cap) l.length (Lib.byteCells l)) (j : Nat) (hj : j < l.length) : w.cell? ⟨g, j, none⟩ = some (.int .u8 ((l[j]'hj).toNat : Int)) := by
  have := h.cells (g := g) rfl j (.int .u8 ((l[j]'hj).toNat : Int)) (by simp [Lib.byteCells, hj])
  rwa [addr_j] at this
theorem own_slice {w : World} {B e : Nat} {v : Value} {n : Nat} {xs : List Value} (h : w.ownsRow B e 1 v n xs) (hn : 0 < n) : ∃ g cap, v = .slice (some ⟨g, 0, none⟩) n cap ∧ g < w.heap.size ∧ n ≤ cap ∧ cap ≤ maxLen := by
  rcases h.2 with ⟨_, h0⟩ | ⟨g, cap, cur, hv, _, hg, h1, h2, _⟩
  · omega
  · exact ⟨g, cap, hv, (Array.getElem?_eq_some_iff.1 hg).1, h1, h2⟩
theorem drop_rev (l : List UInt8) (k : Nat) (h : k < l.length) : (l.drop k).reverse = (l.drop (k + 1)).reverse ++ [l[k]'h] := by
  rw [List.drop_eq_getElem_cons h, List.reverse_cons]
theorem ret_s2 {a b : ByteArray} (h : a = b) : Ending.returned (.string a) = .returned (.string b) := by rw [h]

set_option maxHeartbeats 1000000 in
set_option maxRecDepth 100000 in
theorem spec_decimal_pos (n : Nat) (h0 : 0 < n) (h2 : n ≤ 9223372036854775807) (w : World) :
    Calls Tryz.prog 36 #[.int .i64 n] w fun e w' => e = .returned (.string ⟨(decV n).toArray⟩) ∧ Gw w w' := by
  obtain ⟨i0, hi, hz0, hz1, hz2⟩ := info_parts byteInfoS
  have hmade := World.ownsRow_made (base := w.heap.size) (e := 5) (size := 1) w #[] 0 (Nat.le_refl _) (Nat.zero_le _) rfl
  have hG : Below w.heap.size w (w.alloc (.cells #[] 5)) := (Below.refl _ _).alloc (Nat.le_refl _) _
  have hlen := revN_len20 (a := n) (by omega)
  have hfin := Lib.hid (show (revN n).reverse = decV n from by rw [← tailV_rev]; unfold tailV; rw [if_neg (by omega), if_neg (by omega)]; rfl)
  have hpos0 : 0 < (revN n).length := by rw [revN_pos (by omega)]; simp
  have hn0 : ((n : Int) == 0) = false := beq_eq_false_iff_ne.2 (by omega)
  have hn1 : decide ((n : Int) < 0) = false := decide_eq_false (by omega)
  go_enter Tryz.func36, Tryz.ntmps36
  go_wp2_with fail
  go_loopw [3, 4] (fun v m wr => ∃ (k : Nat) (acc : List UInt8), m = .int .i64 k ∧ k ≤ n ∧ wr.ownsRow w.heap.size 5 1 v acc.length (Lib.byteCells acc) ∧ acc ++ revN k = revN n ∧ Below w.heap.size w wr) (fun _ m _ => (intOf m).toNat)
  case atStart => exact ⟨n, [], rfl, Nat.le_refl _, hmade, rfl, hG⟩
  case round =>
    obtain ⟨k, acc, rfl, hk, hown, hacc0, hb⟩ := hrel
    clear hmade hG
    by_cases hz : k = 0
    · subst hz
      rw [show ((0 : Nat) : Int) = 0 from rfl]
      rw [revN_zero, List.append_nil] at hacc0
      have hpos : 0 < acc.length := by rw [hacc0]; exact hpos0
      have hal : acc.length ≤ 22 := by rw [hacc0]; omega
      rw [← hacc0] at hfin
      clear hacc0 hlen hpos0
      obtain ⟨wo, rfl⟩ : ∃ wo : World, wo = wr := ⟨_, rfl⟩
      obtain ⟨g, cap, rfl, hgl, hgc, hgm⟩ := own_slice hown hpos
      have hcell := Lib.hid (fun j (hj : j < (acc).length) => cells_at hown j hj)
      have hown0 := Lib.hid hown
      clear hown
      have hmade2 := World.ownsRow_made (base := wo.heap.size) (e := 5) (size := 1) wo #[] 0 (Nat.le_refl _) (Nat.zero_le _) rfl
      have hG2 : Below wo.heap.size wo (wo.alloc (.cells #[] 5)) := (Below.refl _ _).alloc (Nat.le_refl _) _
      unfold maxLen at hgm
      go_wp2_with fail
      go_loopw [6, 7] (fun v i w3 => ∃ k : Nat, k ≤ (acc).length ∧ i = .int .i64 ((k : Int) - 1) ∧ w3.ownsRow wo.heap.size 5 1 v (((acc).drop k).reverse).length (Lib.byteCells (((acc).drop k).reverse)) ∧ Below wo.heap.size wo w3) (fun _ i _ => (intOf i + 1).toNat)
      case atStart => exact ⟨(acc).length, Nat.le_refl _, rfl, by simpa [Lib.byteCells] using hmade2, hG2⟩
      case round =>
        obtain ⟨k, hk, hi0, hown3, hb3⟩ := hrel
        clear hmade2 hG2
        cases k with
        | zero =>
          have hi1 := hi0.trans (show Value.int .i64 (((0 : Nat) : Int) - 1) = .int .i64 (-1) from rfl)
          subst hi1
          rw [List.drop_zero] at hown3
          obtain ⟨S, hS0⟩ : ∃ S : ByteArray, S = ⟨((acc).reverse).toArray⟩ := ⟨_, rfl⟩
          obtain ⟨g2, cap2, rfl, _, hgc2, hgm2⟩ := own_slice hown3 (by rw [List.length_reverse]; exact hpos)
          have hconv : (convert 50 9 (.slice (some ⟨g2, 0, none⟩) (acc).length cap2)).run Tryz.prog wr = .ok (.string S) wr := by
            have h := run_convert_bytes_back (P := Tryz.prog) wr 50 9 5 ⟨g2, 0, none⟩ cap2 (acc).reverse Tryz.underlying50 Tryz.underlying5 Tryz.underlying9 (fun j hj => by rw [addr_j]; exact cells_at hown3 j hj)
            rw [hS0]
            rwa [List.length_reverse] at h
          have hS := Lib.hid (hS0.trans (congrArg (fun l : List UInt8 => (⟨l.toArray⟩ : ByteArray)) hfin.out))
          clear hi0 hown3 hS0
          rw [List.length_reverse]
          go_wp2_with fail
          go_ret
          exact ⟨ret_s2 hS.out, hb.trans (hb3.mono hb.size)⟩
        | succ k =>
          have hi1 := hi0.trans (show Value.int .i64 (((k + 1 : Nat) : Int) - 1) = .int .i64 (k : Int) from by congr 1; omega)
          subst hi1
          have hkl : k < (acc).length := by omega
          have hc : wr.cell? ⟨g, k, none⟩ = some (.int .u8 ((((acc)[k]'hkl).toNat : Nat) : Int)) := (hb3.cell (p := ⟨g, k, none⟩) hgl).trans (hcell.out k hkl)
          have hrev := drop_rev (acc) k hkl
          obtain ⟨c, hcd⟩ : ∃ c : UInt8, c = (acc)[k]'hkl := ⟨_, rfl⟩
          rw [← hcd] at hc hrev
          have hl3 : (((acc).drop (k + 1)).reverse).length + 1 ≤ 23 := by rw [List.length_reverse, List.length_drop]; omega
          have hrev2 := Lib.hid hrev
          have hc0 := UInt8.toNat_lt c
          clear hi0 hrev hcd
          go_wp2_with (at_builtin; refine wpList_append_own _ rfl _ _ 50 rfl (wo.heap.size) 5 i0 (.int .u8 0) 1 1 Tryz.underlying50 hi hz0 hz1 hz2 rfl (by decide) _ _ _ rfl (hown3.alloc _) ⟨wr.heap.size, 0, none⟩ 1 1 [.int .u8 (c.toNat : Int)] rfl rfl one_new (fun u hu => by simp at hu; subst hu; rfl) (by unfold maxLen; omega) (by omega) (by have := hb3.size; simp; omega) ?_)
          intro v' w2 hown' hgrow _
          go_wp2_with fail
          go_roundw
          case rel => exact ⟨k, by omega, by go_num, own_app hown' (by rw [hrev2.out, Lib.byteCells_append]; rfl) rfl (by rw [List.length_reverse, List.length_drop]; omega), (hb3.alloc hb3.size _).grown hgrow (by have := hb3.size; simp; omega) (fun j hj => (hown3.lt j hj).1)⟩
          case measure => first | (simp [intOf]; done) | (simp [intOf]; omega)
    · have hal : acc.length + 1 ≤ 20 := by
        have := congrArg List.length hacc0
        rw [revN_pos hz] at this
        simp at this
        omega
      have hacc := Lib.hid hacc0
      clear hacc0
      have hk0 : ((k : Int) == 0) = false := by simpa using hz
      have h10 : (k : Int) % 10 < 10 := by omega
      have h11 : 0 ≤ (k : Int) % 10 := by omega
      go_wp2_with (at_builtin; refine wpList_append_own _ rfl _ _ 50 rfl (w.heap.size) 5 i0 (.int .u8 0) 1 1 Tryz.underlying50 hi hz0 hz1 hz2 rfl (by decide) _ _ _ rfl (hown.alloc _) ⟨wr.heap.size, 0, none⟩ 1 1 [.int .u8 (48 + (k : Int) % 10)] rfl rfl one_new (fun u hu => by simp at hu; subst hu; rfl) (by unfold maxLen; omega) (by omega) (by have := hb.size; simp; omega) ?_)
      intro v' w2 hown' hgrow _
      go_wp2_with fail
      go_roundw
      case rel => exact ⟨k / 10, acc ++ [UInt8.ofNat (48 + k % 10)], by go_num, by omega, own_app hown' (by rw [cell_digI, Lib.byteCells_append]) rfl (by simp), by rw [List.append_assoc, ← hacc.out, revN_pos hz]; rfl, (hb.alloc hb.size _).grown hgrow (by have := hb.size; simp; omega) (fun j hj => (hown.lt j hj).1)⟩
      case measure => simp [intOf]; omega

set_option maxHeartbeats 1000000 in
set_option maxRecDepth 100000 in
theorem spec_decimal_zero (w : World) :
    Calls Tryz.prog 36 #[.int .i64 0] w fun e w' => e = .returned (.string ⟨(decV 0).toArray⟩) ∧ Gw w w' := by
  obtain ⟨i0, hi, hz0, hz1, hz2⟩ := info_parts byteInfoS
  have hmade := World.ownsRow_made (base := w.heap.size) (e := 5) (size := 1) w #[] 0 (Nat.le_refl _) (Nat.zero_le _) rfl
  have hG : Below w.heap.size w (w.alloc (.cells #[] 5)) := (Below.refl _ _).alloc (Nat.le_refl _) _
  go_enter Tryz.func36, Tryz.ntmps36
  go_wp2_with fail
  go_loopw [3, 4] (fun v m wr => m = .int .i64 0 ∧ wr.ownsRow w.heap.size 5 1 v 0 [] ∧ Below w.heap.size w wr) (fun _ _ _ => 0)
  case atStart => exact ⟨rfl, hmade, hG⟩
  case round =>
    obtain ⟨rfl, hown, hb⟩ := hrel
    clear hmade hG
    go_wp2_with (at_builtin; refine wpList_append_own _ rfl _ _ 50 rfl (w.heap.size) 5 i0 (.int .u8 0) 1 1 Tryz.underlying50 hi hz0 hz1 hz2 rfl (by decide) _ _ _ rfl (hown.alloc _) ⟨wr.heap.size, 0, none⟩ 1 1 [.int .u8 48] rfl rfl one_new (fun u hu => by simp at hu; subst hu; rfl) (by unfold maxLen; omega) (by omega) (by have := hb.size; simp; omega) ?_)
    intro v' w2 hown' hgrow _
    obtain ⟨acc, hacc0⟩ : ∃ acc : List UInt8, acc = [48] := ⟨_, rfl⟩
    have hown2 : w2.ownsRow w.heap.size 5 1 v' acc.length (Lib.byteCells acc) := own_app hown' (by rw [hacc0]; rfl) rfl (by rw [hacc0]; rfl)
    have hb2 : Below w.heap.size w w2 := (hb.alloc hb.size _).grown hgrow (by have := hb.size; simp; omega) (fun j hj => (hown.lt j hj).1)
    have hfin := Lib.hid (show acc.reverse = decV 0 from by rw [hacc0]; rfl)
    have hpos : 0 < acc.length := by rw [hacc0]; simp
    have hal : acc.length ≤ 22 := by rw [hacc0]; simp
    clear hacc0 hown' hgrow hown hb
    obtain ⟨wo, rfl⟩ : ∃ wo : World, wo = w2 := ⟨_, rfl⟩
    obtain ⟨g, cap, rfl, hgl, hgc, hgm⟩ := own_slice hown2 hpos
    have hcell := Lib.hid (fun j (hj : j < (acc).length) => cells_at hown2 j hj)
    have hown0 := Lib.hid hown2
    clear hown2
    have hmade2 := World.ownsRow_made (base := wo.heap.size) (e := 5) (size := 1) wo #[] 0 (Nat.le_refl _) (Nat.zero_le _) rfl
    have hG2 : Below wo.heap.size wo (wo.alloc (.cells #[] 5)) := (Below.refl _ _).alloc (Nat.le_refl _) _
    unfold maxLen at hgm
    go_wp2_with fail
    go_loopw [6, 7] (fun v i w3 => ∃ k : Nat, k ≤ (acc).length ∧ i = .int .i64 ((k : Int) - 1) ∧ w3.ownsRow wo.heap.size 5 1 v (((acc).drop k).reverse).length (Lib.byteCells (((acc).drop k).reverse)) ∧ Below wo.heap.size wo w3) (fun _ i _ => (intOf i + 1).toNat)
    case atStart => exact ⟨(acc).length, Nat.le_refl _, rfl, by simpa [Lib.byteCells] using hmade2, hG2⟩
    case round =>
      obtain ⟨k, hk, hi0, hown3, hb3⟩ := hrel
      clear hmade2 hG2
      cases k with
      | zero =>
        have hi1 := hi0.trans (show Value.int .i64 (((0 : Nat) : Int) - 1) = .int .i64 (-1) from rfl)
        subst hi1
        rw [List.drop_zero] at hown3
        obtain ⟨S, hS0⟩ : ∃ S : ByteArray, S = ⟨((acc).reverse).toArray⟩ := ⟨_, rfl⟩
        obtain ⟨g2, cap2, rfl, _, hgc2, hgm2⟩ := own_slice hown3 (by rw [List.length_reverse]; exact hpos)
        have hconv : (convert 50 9 (.slice (some ⟨g2, 0, none⟩) (acc).length cap2)).run Tryz.prog wr = .ok (.string S) wr := by
          have h := run_convert_bytes_back (P := Tryz.prog) wr 50 9 5 ⟨g2, 0, none⟩ cap2 (acc).reverse Tryz.underlying50 Tryz.underlying5 Tryz.underlying9 (fun j hj => by rw [addr_j]; exact cells_at hown3 j hj)
          rw [hS0]
          rwa [List.length_reverse] at h
        have hS := Lib.hid (hS0.trans (congrArg (fun l : List UInt8 => (⟨l.toArray⟩ : ByteArray)) hfin.out))
        clear hi0 hown3 hS0
        rw [List.length_reverse]
        go_wp2_with fail
        go_ret
        exact ⟨ret_s2 hS.out, hb2.trans (hb3.mono hb2.size)⟩
      | succ k =>
        have hi1 := hi0.trans (show Value.int .i64 (((k + 1 : Nat) : Int) - 1) = .int .i64 (k : Int) from by congr 1; omega)
        subst hi1
        have hkl : k < (acc).length := by omega
        have hc : wr.cell? ⟨g, k, none⟩ = some (.int .u8 ((((acc)[k]'hkl).toNat : Nat) : Int)) := (hb3.cell (p := ⟨g, k, none⟩) hgl).trans (hcell.out k hkl)
        have hrev := drop_rev (acc) k hkl
        obtain ⟨c, hcd⟩ : ∃ c : UInt8, c = (acc)[k]'hkl := ⟨_, rfl⟩
        rw [← hcd] at hc hrev
        have hl3 : (((acc).drop (k + 1)).reverse).length + 1 ≤ 23 := by rw [List.length_reverse, List.length_drop]; omega
        have hrev2 := Lib.hid hrev
        have hc0 := UInt8.toNat_lt c
        clear hi0 hrev hcd
        go_wp2_with (at_builtin; refine wpList_append_own _ rfl _ _ 50 rfl (wo.heap.size) 5 i0 (.int .u8 0) 1 1 Tryz.underlying50 hi hz0 hz1 hz2 rfl (by decide) _ _ _ rfl (hown3.alloc _) ⟨wr.heap.size, 0, none⟩ 1 1 [.int .u8 (c.toNat : Int)] rfl rfl one_new (fun u hu => by simp at hu; subst hu; rfl) (by unfold maxLen; omega) (by omega) (by have := hb3.size; simp; omega) ?_)
        intro v' w2 hown' hgrow _
        go_wp2_with fail
        go_roundw
        case rel => exact ⟨k, by omega, by go_num, own_app hown' (by rw [hrev2.out, Lib.byteCells_append]; rfl) rfl (by rw [List.length_reverse, List.length_drop]; omega), (hb3.alloc hb3.size _).grown hgrow (by have := hb3.size; simp; omega) (fun j hj => (hown3.lt j hj).1)⟩
        case measure => first | (simp [intOf]; done) | (simp [intOf]; omega)
theorem neg_tmod10 (k : Nat) : (-(k : Int)).tmod 10 = -((k : Int) % 10) := by rw [Int.neg_tmod, Int.tmod_eq_emod_of_nonneg (by omega)]
theorem neg_tdiv10 (k : Nat) : (-(k : Int)).tdiv 10 = -((k : Int) / 10) := by rw [Int.neg_tdiv, Int.tdiv_eq_ediv_of_nonneg (by omega)]

set_option maxHeartbeats 1000000 in
set_option maxRecDepth 100000 in
theorem spec_decimal_neg (n : Nat) (h0 : 0 < n) (h2 : n ≤ 9223372036854775808) (w : World) :
    Calls Tryz.prog 36 #[.int .i64 (-(n : Int))] w fun e w' => e = .returned (.string ⟨(decV (-(n : Int))).toArray⟩) ∧ Gw w w' := by
  obtain ⟨i0, hi, hz0, hz1, hz2⟩ := info_parts byteInfoS
  have hmade := World.ownsRow_made (base := w.heap.size) (e := 5) (size := 1) w #[] 0 (Nat.le_refl _) (Nat.zero_le _) rfl
  have hG : Below w.heap.size w (w.alloc (.cells #[] 5)) := (Below.refl _ _).alloc (Nat.le_refl _) _
  have hlen := revN_len20 (a := n) (by omega)
  have hfin0 := Lib.hid (show (revN n ++ [45]).reverse = decV (-(n : Int)) from by rw [← tailV_rev]; unfold tailV; rw [if_neg (by omega), if_pos (by omega), show (-(n : Int)).natAbs = n from by omega])
  have hn0 : (-(n : Int) == 0) = false := beq_eq_false_iff_ne.2 (by omega)
  have hn1 : decide (-(n : Int) < 0) = true := decide_eq_true (by omega)
  go_enter Tryz.func36, Tryz.ntmps36
  go_wp2_with fail
  go_loopw [3, 4] (fun v m wr => ∃ (k : Nat) (acc : List UInt8), m = .int .i64 (-(k : Int)) ∧ k ≤ n ∧ wr.ownsRow w.heap.size 5 1 v acc.length (Lib.byteCells acc) ∧ acc ++ revN k = revN n ∧ Below w.heap.size w wr) (fun _ m _ => (-(intOf m)).toNat)
  case atStart => exact ⟨n, [], rfl, Nat.le_refl _, hmade, rfl, hG⟩
  case round =>
    obtain ⟨k, acc0, rfl, hk, hown, hacc0, hb⟩ := hrel
    clear hmade hG
    by_cases hz : k = 0
    · subst hz
      rw [show (-((0 : Nat) : Int)) = 0 from rfl]
      rw [revN_zero, List.append_nil] at hacc0
      have hal0 : acc0.length ≤ 20 := by rw [hacc0]; exact hlen
      have Hacc := Lib.hid hacc0
      clear hacc0
      go_wp2_with (at_builtin; refine wpList_append_own _ rfl _ _ 50 rfl (w.heap.size) 5 i0 (.int .u8 0) 1 1 Tryz.underlying50 hi hz0 hz1 hz2 rfl (by decide) _ _ _ rfl (hown.alloc _) ⟨wr.heap.size, 0, none⟩ 1 1 [.int .u8 45] rfl rfl one_new (fun u hu => by simp at hu; subst hu; rfl) (by unfold maxLen; omega) (by omega) (by have := hb.size; simp; omega) ?_)
      intro v' w2 hown' hgrow _
      obtain ⟨acc, hacc⟩ : ∃ acc : List UInt8, acc = acc0 ++ [45] := ⟨_, rfl⟩
      have hown2 : w2.ownsRow w.heap.size 5 1 v' acc.length (Lib.byteCells acc) := own_app hown' (by rw [hacc, Lib.byteCells_append]; rfl) rfl (by rw [hacc]; simp)
      have hb2 : Below w.heap.size w w2 := (hb.alloc hb.size _).grown hgrow (by have := hb.size; simp; omega) (fun j hj => (hown.lt j hj).1)
      have hfin := Lib.hid (show acc.reverse = decV (-(n : Int)) from by rw [hacc, Hacc.out]; exact hfin0.out)
      have hpos : 0 < acc.length := by rw [hacc]; simp
      have hal : acc.length ≤ 22 := by rw [hacc]; simp; omega
      clear hacc Hacc hown' hgrow hown hb hlen hfin0 hal0
      obtain ⟨wo, rfl⟩ : ∃ wo : World, wo = w2 := ⟨_, rfl⟩
      obtain ⟨g, cap, rfl, hgl, hgc, hgm⟩ := own_slice hown2 hpos
      have hcell := Lib.hid (fun j (hj : j < (acc).length) => cells_at hown2 j hj)
      have hown0 := Lib.hid hown2
      clear hown2
      have hmade2 := World.ownsRow_made (base := wo.heap.size) (e := 5) (size := 1) wo #[] 0 (Nat.le_refl _) (Nat.zero_le _) rfl
      have hG2 : Below wo.heap.size wo (wo.alloc (.cells #[] 5)) := (Below.refl _ _).alloc (Nat.le_refl _) _
      unfold maxLen at hgm
      go_wp2_with fail
      go_loopw [6, 7] (fun v i w3 => ∃ k : Nat, k ≤ (acc).length ∧ i = .int .i64 ((k : Int) - 1) ∧ w3.ownsRow wo.heap.size 5 1 v (((acc).drop k).reverse).length (Lib.byteCells (((acc).drop k).reverse)) ∧ Below wo.heap.size wo w3) (fun _ i _ => (intOf i + 1).toNat)
      case atStart => exact ⟨(acc).length, Nat.le_refl _, rfl, by simpa [Lib.byteCells] using hmade2, hG2⟩
      case round =>
        obtain ⟨k, hk, hi0, hown3, hb3⟩ := hrel
        clear hmade2 hG2
        cases k with
        | zero =>
          have hi1 := hi0.trans (show Value.int .i64 (((0 : Nat) : Int) - 1) = .int .i64 (-1) from rfl)
          subst hi1
          rw [List.drop_zero] at hown3
          obtain ⟨S, hS0⟩ : ∃ S : ByteArray, S = ⟨((acc).reverse).toArray⟩ := ⟨_, rfl⟩
          obtain ⟨g2, cap2, rfl, _, hgc2, hgm2⟩ := own_slice hown3 (by rw [List.length_reverse]; exact hpos)
          have hconv : (convert 50 9 (.slice (some ⟨g2, 0, none⟩) (acc).length cap2)).run Tryz.prog wr = .ok (.string S) wr := by
            have h := run_convert_bytes_back (P := Tryz.prog) wr 50 9 5 ⟨g2, 0, none⟩ cap2 (acc).reverse Tryz.underlying50 Tryz.underlying5 Tryz.underlying9 (fun j hj => by rw [addr_j]; exact cells_at hown3 j hj)
            rw [hS0]
            rwa [List.length_reverse] at h
          have hS := Lib.hid (hS0.trans (congrArg (fun l : List UInt8 => (⟨l.toArray⟩ : ByteArray)) hfin.out))
          clear hi0 hown3 hS0
          rw [List.length_reverse]
          go_wp2_with fail
          go_ret
          exact ⟨ret_s2 hS.out, hb2.trans (hb3.mono hb2.size)⟩
        | succ k =>
          have hi1 := hi0.trans (show Value.int .i64 (((k + 1 : Nat) : Int) - 1) = .int .i64 (k : Int) from by congr 1; omega)
          subst hi1
          have hkl : k < (acc).length := by omega
          have hc : wr.cell? ⟨g, k, none⟩ = some (.int .u8 ((((acc)[k]'hkl).toNat : Nat) : Int)) := (hb3.cell (p := ⟨g, k, none⟩) hgl).trans (hcell.out k hkl)
          have hrev := drop_rev (acc) k hkl
          obtain ⟨c, hcd⟩ : ∃ c : UInt8, c = (acc)[k]'hkl := ⟨_, rfl⟩
          rw [← hcd] at hc hrev
          have hl3 : (((acc).drop (k + 1)).reverse).length + 1 ≤ 23 := by rw [List.length_reverse, List.length_drop]; omega
          have hrev2 := Lib.hid hrev
          have hc0 := UInt8.toNat_lt c
          clear hi0 hrev hcd
          go_wp2_with (at_builtin; refine wpList_append_own _ rfl _ _ 50 rfl (wo.heap.size) 5 i0 (.int .u8 0) 1 1 Tryz.underlying50 hi hz0 hz1 hz2 rfl (by decide) _ _ _ rfl (hown3.alloc _) ⟨wr.heap.size, 0, none⟩ 1 1 [.int .u8 (c.toNat : Int)] rfl rfl one_new (fun u hu => by simp at hu; subst hu; rfl) (by unfold maxLen; omega) (by omega) (by have := hb3.size; simp; omega) ?_)
          intro v' w2 hown' hgrow _
          go_wp2_with fail
          go_roundw
          case rel => exact ⟨k, by omega, by go_num, own_app hown' (by rw [hrev2.out, Lib.byteCells_append]; rfl) rfl (by rw [List.length_reverse, List.length_drop]; omega), (hb3.alloc hb3.size _).grown hgrow (by have := hb3.size; simp; omega) (fun j hj => (hown3.lt j hj).1)⟩
          case measure => first | (simp [intOf]; done) | (simp [intOf]; omega)
    · have hal : acc0.length + 1 ≤ 20 := by
        have := congrArg List.length hacc0
        rw [revN_pos hz] at this
        simp at this
        omega
      have hacc := Lib.hid hacc0
      clear hacc0
      have hk0 : (-(k : Int) == 0) = false := beq_eq_false_iff_ne.2 (by omega)
      have h10 : (k : Int) % 10 < 10 := by omega
      have h11 : 0 ≤ (k : Int) % 10 := by omega
      have e1 := neg_tmod10 k
      have e2 := neg_tdiv10 k
      by_cases hr : k % 10 = 0
      · have hr2 : (k : Int) % 10 = 0 := by omega
        go_wp2_with (at_builtin; refine wpList_append_own _ rfl _ _ 50 rfl (w.heap.size) 5 i0 (.int .u8 0) 1 1 Tryz.underlying50 hi hz0 hz1 hz2 rfl (by decide) _ _ _ rfl (hown.alloc _) ⟨wr.heap.size, 0, none⟩ 1 1 [.int .u8 48] rfl rfl one_new (fun u hu => by simp at hu; subst hu; rfl) (by unfold maxLen; omega) (by omega) (by have := hb.size; simp; omega) ?_)
        intro v' w2 hown' hgrow _
        go_wp2_with fail
        go_roundw
        case rel => exact ⟨k / 10, acc0 ++ [UInt8.ofNat (48 + k % 10)], by go_num, by omega, own_app hown' (by rw [Lib.byteCells_append, ← cell_digI, hr2]; rfl) rfl (by simp), by rw [List.append_assoc, ← hacc.out, revN_pos hz]; rfl, (hb.alloc hb.size _).grown hgrow (by have := hb.size; simp; omega) (fun j hj => (hown.lt j hj).1)⟩
        case measure => simp [intOf]; omega
      · have hr2 : 0 < (k : Int) % 10 := by omega
        go_wp2_with (at_builtin; refine wpList_append_own _ rfl _ _ 50 rfl (w.heap.size) 5 i0 (.int .u8 0) 1 1 Tryz.underlying50 hi hz0 hz1 hz2 rfl (by decide) _ _ _ rfl (hown.alloc _) ⟨wr.heap.size, 0, none⟩ 1 1 [.int .u8 (48 + (k : Int) % 10)] rfl rfl one_new (fun u hu => by simp at hu; subst hu; rfl) (by unfold maxLen; omega) (by omega) (by have := hb.size; simp; omega) ?_)
        intro v' w2 hown' hgrow _
        go_wp2_with fail
        go_roundw
        case rel => exact ⟨k / 10, acc0 ++ [UInt8.ofNat (48 + k % 10)], by go_num, by omega, own_app hown' (by rw [cell_digI, Lib.byteCells_append]) rfl (by simp), by rw [List.append_assoc, ← hacc.out, revN_pos hz]; rfl, (hb.alloc hb.size _).grown hgrow (by have := hb.size; simp; omega) (fun j hj => (hown.lt j hj).1)⟩
        case measure => simp [intOf]; omega

theorem spec_decimal (n : Int) (h1 : -9223372036854775808 ≤ n) (h2 : n ≤ 9223372036854775807) (w : World) :
    Calls Tryz.prog 36 #[.int .i64 n] w fun e w' => e = .returned (.string ⟨(decV n).toArray⟩) ∧ Gw w w' := by
  by_cases h0 : n = 0
  · subst h0; exact spec_decimal_zero w
  by_cases hn : n < 0
  · obtain ⟨k, rfl⟩ : ∃ k : Nat, n = -(k : Int) := ⟨n.natAbs, by omega⟩
    exact spec_decimal_neg k (by omega) (by omega) w
  · obtain ⟨k, rfl⟩ : ∃ k : Nat, n = (k : Int) := ⟨n.natAbs, by omega⟩
    exact spec_decimal_pos k (by omega) (by omega) w

end Go.Proofs.YtbjedfbpikfflaaGreatDoor.Con
