/-
  Contracts of the laws' eqBoolS, markBoolS and heldBoolS. No condition but that the rows lie in memory.
-/
import Derived.Test.YtdlbhjkkgiaidaaDaInhI
namespace Go.Proofs.Ytdlbhjkkgiaidaa.Con
open Go.RowKit
set_option linter.unusedVariables false

def markTo (k : Nat) (L : List Bool) : Nat → List Bool
  | 0 => L
  | j + 1 => (markTo k L j).set j (((k + j : Nat) : Int) % 3 == 0)
theorem markTo_len (k : Nat) (L : List Bool) : ∀ j, (markTo k L j).length = L.length
  | 0 => rfl
  | j + 1 => by rw [markTo, List.length_set, markTo_len k L j]
theorem markTo_get (k : Nat) (L : List Bool) : ∀ (j i : Nat), i < j → j ≤ L.length → (markTo k L j)[i]? = some (((k + i : Nat) : Int) % 3 == 0)
  | j + 1, i, hi, hj => by
    rw [markTo, List.getElem?_set]
    split
    · next e =>
      subst e
      rw [if_pos (by rw [markTo_len]; omega)]
    · next e => exact markTo_get k L j i (by omega) (by omega)

theorem BRow.keep {B : Nat} {w w' : World} {a : Option Addr} {c : Nat} {L : List Bool} (h : BRow B w a c L) (e : ∀ g, a = some ⟨g, 0, none⟩ → B ≤ g → g < w.heap.size → L ≠ [] → w'.heap[g]? = w.heap[g]?) : BRow B w' a c L := by
  refine ⟨h.1, h.2.1, ?_⟩
  by_cases hL : L = []
  · exact .inl hL
  · obtain ⟨x, ha, hb, hv⟩ := h.2.2.resolve_left hL
    exact .inr ⟨x, ha, hb, (e x ha hb hv.lt hL).trans hv⟩
theorem BRow.at {B : Nat} {w : World} {a : Option Addr} {c : Nat} {L : List Bool} (h : BRow B w a c L) : ∀ g, a = some ⟨g, 0, none⟩ → L ≠ [] → g < w.heap.size := fun g hg hL => by
  obtain ⟨x, ha, hb, hv⟩ := h.2.2.resolve_left hL
  rw [ha] at hg
  injection hg with hg
  injection hg with e1
  subst e1
  exact hv.lt

theorem laws_eqB (L : List Bool) (n : Nat) (hn : L.length = n) (B B' : Nat) (w : World) (a b : Option Addr) (c d : Nat) (h : BRow B w a c L) (k : BRow B' w b d L) :
    Calls Try.prog 45 #[.slice a n c, .slice b n d] w (BoolGw true w) := by
  have hl : n ≤ 9223372036854775807 := hn ▸ Nat.le_trans h.1 h.2.1
  have H1 := Lib.hid h.2.2
  have H2 := Lib.hid k.2.2
  clear h k
  go_enter Try.func45, Try.ntmps45
  go_wp2_with fail
  go_loopw [5] (fun i wr => ∃ j : Nat, j ≤ n ∧ i = .int .i64 j ∧ Gw w wr) (fun i _ => n - (intOf i).toNat)
  case atStart => exact ⟨0, by omega, rfl, Gw.refl _⟩
  case round =>
    obtain ⟨j, hj, rfl, hg⟩ := hrel
    have G := Lib.hid hg
    clear hg
    by_cases hlt : j < n
    · have hne : L ≠ [] := fun e => by subst e; simp at hn; omega
      obtain ⟨g, rfl, _, hv⟩ := H1.out.resolve_left hne
      obtain ⟨g', rfl, _, hv'⟩ := H2.out.resolve_left hne
      obtain ⟨bb, hbb⟩ : ∃ bb, L[j]? = some bb := ⟨_, List.getElem?_eq_getElem (by omega)⟩
      have c0 := (hv.grow G.out).cell hbb
      have c1 := (hv'.grow G.out).cell hbb
      have q0 : (0 : Int) ≤ j := by omega
      have q1 : (j : Int) < n := by omega
      have e0 : (bb != bb) = false := by simp
      clear hv hv' hbb hne
      go_wp2_with (go_quiet (fail))
      go_roundw
      case rel => exact ⟨j + 1, by omega, by go_num, by first | exact G.out.drewN _ | exact G.out⟩
      case measure => simp [intOf]; omega
    · obtain rfl : j = n := by omega
      go_wp2_with fail
      go_ret
      exact ⟨rfl, G.out⟩

theorem laws_markB (L : List Bool) (B : Nat) (w : World) (a : Option Addr) (c k : Nat) (h : BRow B w a c L) (h4 : L.length ≤ 1000) (hk : k ≤ 1000) :
    Calls Try.prog 47 #[.slice a L.length c, .int .i64 k] w fun e w' => e = .returned (.int .i64 ((k + L.length : Nat) : Int)) ∧ BRow B w' a c (markTo k L L.length) ∧ Below B w w' := by
  have H := Lib.hid h
  clear h
  go_enter Try.func47, Try.ntmps47
  go_wp2_with fail
  go_loopw [1, 5] (fun kv i wr => ∃ j : Nat, j ≤ L.length ∧ i = .int .i64 j ∧ kv = .int .i64 ((k + j : Nat) : Int) ∧ BRow B wr a c (markTo k L j) ∧ Below B w wr) (fun _ i _ => L.length - (intOf i).toNat)
  case atStart => exact ⟨0, by omega, rfl, rfl, H.out, Below.refl _ _⟩
  case round =>
    obtain ⟨j, hj, rfl, rfl, hr, hb⟩ := hrel
    have HB := Lib.hid hb
    have HR := Lib.hid hr
    clear hb hr
    by_cases hlt : j < L.length
    · have hne : ¬ markTo k L j = [] := fun e => by
        have : L.length = 0 := by rw [← markTo_len k L j, e]; rfl
        omega
      obtain ⟨g, rfl, hBg, hv⟩ := HR.out.2.2.resolve_left hne
      have HV := Lib.hid hv
      have HBG := Lib.hid hBg
      obtain ⟨bb, hbb⟩ : ∃ bb, (markTo k L j)[j]? = some bb := ⟨_, List.getElem?_eq_getElem (by rw [markTo_len]; omega)⟩
      have c0 := hv.cell hbb
      have f0 := hv.frozen j
      have q0 : (0 : Int) ≤ j := by omega
      have q1 : (j : Int) < L.length := by omega
      obtain ⟨kk, hkk⟩ : ∃ kk, kk = k + j := ⟨_, rfl⟩
      rw [← hkk]
      have KK := Lib.hid hkk
      have hk2 : kk ≤ 2000 := by omega
      clear hv hbb hBg hkk
      go_wp2_with fail
      go_roundw
      case rel =>
        refine ⟨j + 1, by omega, by go_num, by congr 1; have := KK.out; omega, ⟨by rw [markTo_len, ← markTo_len k L j]; exact HR.out.1, HR.out.2.1, .inr ⟨g, rfl, HBG.out, ?_⟩⟩, Below.setCell HB.out HBG.out _⟩
        rw [markTo, ← KK.out]
        exact HV.out.set j _
      case measure => simp [intOf]; omega
    · obtain rfl : j = L.length := by omega
      go_wp2_with fail
      go_ret
      exact ⟨rfl, HR.out, HB.out⟩

theorem laws_heldB (L : List Bool) (B : Nat) (w : World) (a : Option Addr) (c k : Nat) (h : BRow B w a c L) (h4 : L.length ≤ 1000) (hk : k ≤ 1000) (hm : ∀ i, i < L.length → L[i]? = some (((k + i : Nat) : Int) % 3 == 0)) :
    Calls Try.prog 48 #[.slice a L.length c, .int .i64 k] w fun e w' => e = .returned (.int .i64 ((k + L.length : Nat) : Int)) ∧ Gw w w' := by
  have H := Lib.hid h
  have HM := Lib.hid hm
  clear h hm
  go_enter Try.func48, Try.ntmps48
  go_wp2_with fail
  go_loopw [1, 5] (fun kv i wr => ∃ j : Nat, j ≤ L.length ∧ i = .int .i64 j ∧ kv = .int .i64 ((k + j : Nat) : Int) ∧ Gw w wr) (fun _ i _ => L.length - (intOf i).toNat)
  case atStart => exact ⟨0, by omega, rfl, rfl, Gw.refl _⟩
  case round =>
    obtain ⟨j, hj, rfl, rfl, hg⟩ := hrel
    have G := Lib.hid hg
    clear hg
    by_cases hlt : j < L.length
    · obtain ⟨g, rfl, hBg, hv⟩ := H.out.2.2.resolve_left (fun e => by rw [e] at hlt; simp at hlt)
      have c0 := (hv.grow G.out).cell (HM.out j hlt)
      have q0 : (0 : Int) ≤ j := by omega
      have q1 : (j : Int) < L.length := by omega
      obtain ⟨kk, hkk⟩ : ∃ kk, kk = k + j := ⟨_, rfl⟩
      rw [← hkk] at c0 ⊢
      have KK := Lib.hid hkk
      have hk2 : kk ≤ 2000 := by omega
      obtain ⟨bb, hbb⟩ : ∃ bb, bb = ((kk : Int) % 3 == 0) := ⟨_, rfl⟩
      rw [← hbb] at c0
      have e0 : (bb == ((kk : Int) % 3 == 0)) = true := by rw [← hbb]; simp
      clear hv hBg hkk hbb
      go_wp2_with (go_quiet (fail))
      go_roundw
      case rel => exact ⟨j + 1, by omega, by go_num, by congr 1; have := KK.out; omega, by first | exact G.out.drewN _ | exact G.out⟩
      case measure => simp [intOf]; omega
    · obtain rfl : j = L.length := by omega
      go_wp2_with fail
      go_ret
      exact ⟨rfl, G.out⟩

end Go.Proofs.Ytdlbhjkkgiaidaa.Con
