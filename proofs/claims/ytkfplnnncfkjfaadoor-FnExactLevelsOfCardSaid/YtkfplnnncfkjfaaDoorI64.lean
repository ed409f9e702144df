/-
  Rows of whole numbers in blocks of the call's own; contracts of the laws' eqInt64S, markInt64S and heldInt64S. No condition but that the rows lie in memory.
-/
import Derived.Test.YtkfplnnncfkjfaaDoorTyNodes
import Derived.StillTailTactics
import Derived.BigQuiet
namespace Go.Proofs.YtkfplnnncfkjfaaDoor.Con
open Go.RowKit
set_option linter.unusedVariables false

def iL (L : List Int) : List Value := L.map fun n => Value.int .i64 n
/-- v is a slice of the numbers L in a block from B on. -/
def IRow (B : Nat) (w : World) (v : Value) (L : List Int) : Prop := w.ownsRow B 2 1 v L.length (iL L)
theorem IRow.nil (B : Nat) (w : World) : IRow B w (.slice none 0 0) [] := ⟨rfl, .inl ⟨rfl, rfl⟩⟩
theorem IRow.form {B : Nat} {w : World} {v : Value} {L : List Int} (h : IRow B w v L) : ∃ a cap, v = .slice a L.length cap := by
  rcases h.2 with ⟨rfl, h0⟩ | ⟨g, cap, _, rfl, _⟩
  · exact ⟨none, 0, by rw [h0]⟩
  · exact ⟨_, cap, rfl⟩
theorem IRow.at {B : Nat} {w : World} {v : Value} {L : List Int} (h : IRow B w v L) : ∀ g, v.ownBlock = some g → B ≤ g ∧ g < w.heap.size := fun g hg => h.lt g hg
theorem IRow.chg {B : Nat} {w w' : World} {v : Value} {L : List Int} {S : Nat → Prop} (h : IRow B w v L) (hc : Chg w w' S) (hS : ∀ g, v.ownBlock = some g → ¬ S g) : IRow B w' v L := own_chg h hc hS
theorem IRow.grow {B : Nat} {w w' : World} {v : Value} {L : List Int} (h : IRow B w v L) (g : Gw w w') : IRow B w' v L := h.chg (Chg.of_gw g (fun _ => False)) (fun _ _ h => h)
theorem IRow.mono {B B' : Nat} {w : World} {v : Value} {L : List Int} (h : IRow B w v L) (hB : B' ≤ B) : IRow B' w v L := by
  obtain ⟨h1, h2⟩ := h
  refine ⟨h1, h2.imp id fun ⟨g, cap, cur, e, hb, hr⟩ => ⟨g, cap, cur, e, by omega, hr⟩⟩
theorem IRow.cell {B n c : Nat} {w : World} {a : Option Addr} {L : List Int} (h : IRow B w (.slice a n c) L) (i : Nat) (hi : i < L.length) : ∃ g, a = some ⟨g, 0, none⟩ ∧ w.cell? ⟨g, i, none⟩ = some (.int .i64 L[i]) ∧ Free w g ∧ B ≤ g := by
  rcases h.2 with ⟨hv, h0⟩ | ⟨g, cap, cur, hv, hb, hg, hr⟩
  · omega
  · injection hv with ha
    subst ha
    refine ⟨g, rfl, ?_, ⟨_, _, hg⟩, hb⟩
    have := World.ownsRow.cells h (g := g) rfl i (.int .i64 L[i]) (by unfold iL; rw [List.getElem?_map, List.getElem?_eq_getElem hi]; rfl)
    have hadd : (⟨g, 0, none⟩ : Addr).add i = ⟨g, i, none⟩ := by unfold Addr.add; split <;> simp_all
    rwa [hadd] at this
theorem IRow.len {B n c : Nat} {w : World} {a : Option Addr} {L : List Int} (h : IRow B w (.slice a n c) L) : n = L.length ∧ L.length ≤ 9223372036854775807 := by
  rcases h.2 with ⟨hv, h0⟩ | ⟨g, cap, cur, hv, hb, hg, hn, hc, hr⟩
  · injection hv with _ hn
    omega
  · injection hv with _ h2
    have : maxLen = 9223372036854775807 := rfl
    omega
/-- One number is written anew. -/
theorem IRow.put {B c : Nat} {w : World} {g : Nat} {L : List Int} (h : IRow B w (.slice (some ⟨g, 0, none⟩) L.length c) L) (i : Nat) (hi : i < L.length) (x : Int) : IRow B (w.setCell ⟨g, i, none⟩ (.int .i64 x)) (.slice (some ⟨g, 0, none⟩) L.length c) (L.set i x) := by
  obtain ⟨h1, h2⟩ := h
  rcases h2 with ⟨hv, h0⟩ | ⟨g', cap, cur, hv, hb, hg, hn, hc, hs, ht⟩
  · cases hv
  · injection hv with ha _ hcap
    injection ha with ha
    injection ha with hgg
    subst hgg hcap
    refine ⟨by simp [iL], .inr ⟨g, c, cur.setIfInBounds i (.int .i64 x), by rw [List.length_set], hb, ?_, by rw [List.length_set]; exact hn, hc, by simpa using hs, ?_⟩⟩
    · simp [World.setCell, Array.getElem?_modify, hg]
    · rw [List.length_set, Array.toList_setIfInBounds, List.take_set, ht]
      unfold iL
      rw [List.map_set]

theorem laws_eqI (L : List Int) (B B' : Nat) (w : World) (a b : Option Addr) (n c d : Nat) (h : IRow B w (.slice a n c) L) (k : IRow B' w (.slice b n d) L) :
    Calls Tryd.prog 19 #[.slice a n c, .slice b n d] w (BoolGw true w) := by
  obtain ⟨hn, hl0⟩ := h.len
  have hl : n ≤ 9223372036854775807 := hn ▸ hl0
  have H1 := Lib.hid h
  have H2 := Lib.hid k
  have HN := Lib.hid hn
  clear h k hn hl0
  go_enter Tryd.func19, Tryd.ntmps19
  go_wp2_with fail
  go_loopw [5] (fun i wr => ∃ j : Nat, j ≤ n ∧ i = .int .i64 j ∧ Gw w wr) (fun i _ => n - (intOf i).toNat)
  case atStart => exact ⟨0, by omega, rfl, Gw.refl _⟩
  case round =>
    obtain ⟨j, hj, rfl, hg⟩ := hrel
    have G := Lib.hid hg
    clear hg
    by_cases hlt : j < n
    · obtain ⟨g, rfl, c0, _⟩ := (H1.out.grow G.out).cell j (by have := HN.out; omega)
      obtain ⟨g', rfl, c1, _⟩ := (H2.out.grow G.out).cell j (by have := HN.out; omega)
      obtain ⟨x, hx⟩ : ∃ x, x = L[j]'(by have := HN.out; omega) := ⟨_, rfl⟩
      rw [← hx] at c0 c1
      have q0 : (0 : Int) ≤ j := by omega
      have q1 : (j : Int) < n := by omega
      have e0 : (x != x) = false := by simp
      clear hx
      go_wp2_with (go_quiet (fail))
      go_roundw
      case rel => exact ⟨j + 1, by omega, by go_num, by first | exact G.out.drewN _ | exact G.out⟩
      case measure => simp [intOf]; omega
    · obtain rfl : j = n := by omega
      go_wp2_with fail
      go_ret
      exact ⟨rfl, G.out⟩

def iMk (k : Nat) (L : List Int) : Nat → List Int
  | 0 => L
  | j + 1 => (iMk k L j).set j ((k + j : Nat) : Int)
theorem iMk_len (k : Nat) (L : List Int) : ∀ j, (iMk k L j).length = L.length
  | 0 => rfl
  | j + 1 => by rw [iMk, List.length_set, iMk_len k L j]
theorem iMk_get (k : Nat) (L : List Int) : ∀ (j i : Nat), i < j → j ≤ L.length → (iMk k L j)[i]? = some ((k + i : Nat) : Int)
  | j + 1, i, hi, hj => by
    rw [iMk, List.getElem?_set]
    split
    · next e =>
      subst e
      rw [if_pos (by rw [iMk_len]; omega)]
    · next e => exact iMk_get k L j i (by omega) (by omega)

theorem laws_markI (L : List Int) (B : Nat) (w : World) (a : Option Addr) (n c k : Nat) (h : IRow B w (.slice a n c) L) (h4 : L.length ≤ 1000000) (hk : k ≤ 1000) :
    Calls Tryd.prog 21 #[.slice a n c, .int .i64 k] w fun e w' => e = .returned (.int .i64 ((k + n : Nat) : Int)) ∧ IRow B w' (.slice a n c) (iMk k L n) ∧ Below B w w' := by
  obtain ⟨hn, hl0⟩ := h.len
  subst hn
  have H := Lib.hid h
  clear h
  go_enter Tryd.func21, Tryd.ntmps21
  go_wp2_with fail
  go_loopw [1, 5] (fun kv i wr => ∃ j : Nat, j ≤ L.length ∧ i = .int .i64 j ∧ kv = .int .i64 ((k + j : Nat) : Int) ∧ IRow B wr (.slice a L.length c) (iMk k L j) ∧ Below B w wr) (fun _ i _ => L.length - (intOf i).toNat)
  case atStart => exact ⟨0, by omega, rfl, rfl, H.out, Below.refl _ _⟩
  case round =>
    obtain ⟨j, hj, rfl, rfl, hr, hb⟩ := hrel
    have HB := Lib.hid hb
    have HR := Lib.hid hr
    clear hb hr
    by_cases hlt : j < L.length
    · obtain ⟨g, rfl, c0, f, hBg⟩ := HR.out.cell j (by rw [iMk_len]; exact hlt)
      have f0 := f.frozen j
      have q0 : (0 : Int) ≤ j := by omega
      have q1 : (j : Int) < L.length := by omega
      obtain ⟨kk, hkk⟩ : ∃ kk, kk = k + j := ⟨_, rfl⟩
      rw [← hkk]
      have KK := Lib.hid hkk
      have hk2 : kk ≤ 2000000 := by omega
      have NEW := Lib.hid (show IRow B (wr.setCell ⟨g, j, none⟩ (.int .i64 kk)) (.slice (some ⟨g, 0, none⟩) L.length c) (iMk k L (j + 1)) by
        have := HR.out
        rw [← iMk_len k L j] at this
        have := this.put j (by rw [iMk_len]; exact hlt) kk
        rw [iMk_len] at this
        rw [iMk, ← hkk]
        exact this)
      have HBG := Lib.hid hBg
      clear f hBg hkk
      go_wp2_with fail
      go_roundw
      case rel => exact ⟨j + 1, by omega, by go_num, by congr 1; have := KK.out; omega, NEW.out, Below.setCell HB.out HBG.out _⟩
      case measure => simp [intOf]; omega
    · obtain rfl : j = L.length := by omega
      go_wp2_with fail
      go_ret
      exact ⟨rfl, HR.out, HB.out⟩

theorem laws_heldI (L : List Int) (B : Nat) (w : World) (a : Option Addr) (n c k : Nat) (h : IRow B w (.slice a n c) L) (h4 : n ≤ 1000000) (hk : k ≤ 1000) (hm : ∀ i, i < n → L[i]? = some ((k + i : Nat) : Int)) :
    Calls Tryd.prog 22 #[.slice a n c, .int .i64 k] w fun e w' => e = .returned (.int .i64 ((k + n : Nat) : Int)) ∧ Gw w w' := by
  obtain ⟨hn, hl0⟩ := h.len
  have H := Lib.hid h
  have HM := Lib.hid hm
  have HN := Lib.hid hn
  clear h hm hn hl0
  go_enter Tryd.func22, Tryd.ntmps22
  go_wp2_with fail
  go_loopw [1, 5] (fun kv i wr => ∃ j : Nat, j ≤ n ∧ i = .int .i64 j ∧ kv = .int .i64 ((k + j : Nat) : Int) ∧ Gw w wr) (fun _ i _ => n - (intOf i).toNat)
  case atStart => exact ⟨0, by omega, rfl, rfl, Gw.refl _⟩
  case round =>
    obtain ⟨j, hj, rfl, rfl, hg⟩ := hrel
    have G := Lib.hid hg
    clear hg
    by_cases hlt : j < n
    · have hjl : j < L.length := by have := HN.out; omega
      obtain ⟨g, rfl, c0, _⟩ := (H.out.grow G.out).cell j hjl
      have hx : L[j] = ((k + j : Nat) : Int) := by have := HM.out j hlt; rw [List.getElem?_eq_getElem hjl] at this; exact Option.some.inj this
      rw [hx] at c0
      have q0 : (0 : Int) ≤ j := by omega
      have q1 : (j : Int) < n := by omega
      obtain ⟨kk, hkk⟩ : ∃ kk, kk = k + j := ⟨_, rfl⟩
      rw [← hkk] at c0 ⊢
      have KK := Lib.hid hkk
      have hk2 : kk ≤ 2000000 := by omega
      have e0 : ((kk : Int) != (kk : Int)) = false := by simp
      clear hx hkk
      go_wp2_with (go_quiet (fail))
      go_roundw
      case rel => exact ⟨j + 1, by omega, by go_num, by congr 1; have := KK.out; omega, by first | exact G.out.drewN _ | exact G.out⟩
      case measure => simp [intOf]; omega
    · obtain rfl : j = n := by omega
      go_wp2_with fail
      go_ret
      exact ⟨rfl, G.out⟩

end Go.Proofs.YtkfplnnncfkjfaaDoor.Con
