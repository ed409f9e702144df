/-
  Contract of slices.Compact at int64: of a row of the call's own it keeps the first number; what is left is one number long just if all are equal. Condition: the row lies in memory.
-/
import Derived.Test.YtfbgkbgoooepmaaDoorCoVl
import Derived.Test.YtfbgkbgoooepmaaDoorCoSt
import Derived.Laws.IdiomCopy
import Derived.Lib.SliceRun
namespace Go.Proofs.YtfbgkbgoooepmaaDoor.Con
open Go.RowKit
set_option linter.unusedVariables false

/-- The first m of the numbers are equal. -/
def eqN (L : List Int) (m : Nat) : Prop := ∀ j, j < m → L.getD j 0 = L.getD 0 0
/-- m numbers have been looked at; kk of them are kept. -/
structure CpI (L : List Int) (m kk : Nat) (M : List Int) : Prop where
  len : M.length = L.length
  lt : kk < m
  pos : 1 ≤ kk
  high : ∀ j, kk ≤ j → M.getD j 0 = L.getD j 0
  one : kk = 1 ↔ eqN L m
  fst : M.getD 0 0 = L.getD 0 0
theorem eqN_succ {L : List Int} {m : Nat} (hm : 1 ≤ m) : eqN L (m + 1) ↔ eqN L m ∧ L.getD m 0 = L.getD (m - 1) 0 := by
  constructor
  · intro h
    exact ⟨fun j hj => h j (by omega), (h m (by omega)).trans (h (m - 1) (by omega)).symm⟩
  · rintro ⟨h, e⟩ j hj
    by_cases c : j = m
    · subst c
      exact e.trans (h _ (by omega))
    · exact h j (by omega)
theorem CpI.start {L : List Int} {k : Nat} (hk : 1 ≤ k) (hall : ∀ j, 1 ≤ j → j < k → L.getD j 0 ≠ L.getD (j - 1) 0) (hd : L.getD k 0 = L.getD (k - 1) 0) : CpI L (k + 1) k L where
  len := rfl
  lt := by omega
  pos := hk
  high := fun _ _ => rfl
  one := by
    constructor
    · rintro rfl
      intro j hj
      rcases (show j = 0 ∨ j = 1 by omega) with rfl | rfl
      · rfl
      · exact hd
    · intro h
      by_cases c : k = 1
      · exact c
      · exact absurd (h 1 (by omega)) (hall 1 (Nat.le_refl _) (by omega))
  fst := rfl
theorem CpI.skip {L M : List Int} {m kk : Nat} (h : CpI L m kk M) (hm : L.getD m 0 = L.getD (m - 1) 0) : CpI L (m + 1) kk M where
  len := h.len
  lt := by have := h.lt; omega
  pos := h.pos
  high := h.high
  one := by rw [eqN_succ (by have := h.lt; omega)]; exact h.one.trans ⟨fun e => ⟨e, hm⟩, fun e => e.1⟩
  fst := h.fst
theorem CpI.keep {L M : List Int} {m kk : Nat} (h : CpI L m kk M) (hne : L.getD m 0 ≠ L.getD (m - 1) 0) (x : Int) : CpI L (m + 1) (kk + 1) (M.set kk x) where
  len := by rw [List.length_set]; exact h.len
  lt := by have := h.lt; omega
  pos := by omega
  high := fun j hj => by
    rw [← h.high j (by omega), List.getD, List.getD, List.getElem?_set_ne (by omega)]
  one := by
    rw [eqN_succ (by have := h.lt; omega)]
    exact ⟨fun e => by have := h.pos; omega, fun e => absurd e.2 hne⟩
  fst := by rw [← h.fst, List.getD, List.getD, List.getElem?_set_ne (by have := h.pos; omega)]

theorem below_setCellsN {B b : Nat} {a : World} (hb : B ≤ b) : ∀ (vs : List Value) (o : Nat) (w : World), Below B a w → Below B a (w.setCells b o vs)
  | [], _, _, h => h
  | _ :: vs, o, _, h => below_setCellsN hb vs (o + 1) _ (h.setCell (p := ⟨b, o, none⟩) hb _)

/-- What Compact gives back. -/
def CmpQ (B : Nat) (w : World) (L : List Int) (e : Ending) (w' : World) : Prop := ∃ a n c, e = .returned (.slice a n c) ∧ n ≤ L.length ∧ (n = 0 ↔ L = []) ∧ (n = 1 ↔ L ≠ [] ∧ eqN L L.length) ∧ (L ≠ [] → ∃ g, a = some ⟨g, 0, none⟩ ∧ w'.cell? ⟨g, 0, none⟩ = some (.int .i64 (L.getD 0 0))) ∧ Below B w w'
theorem IRow.cellD {B c : Nat} {w : World} {g : Nat} {L : List Int} (h : IRow B w (.slice (some ⟨g, 0, none⟩) L.length c) L) (i : Nat) (hi : i < L.length) : w.cell? ⟨g, i, none⟩ = some (.int .i64 (L.getD i 0)) ∧ w.frozen? ⟨g, i, none⟩ = false := by
  obtain ⟨g', e, h1, ⟨cs, t, hg⟩, _⟩ := h.cell i hi
  cases e
  refine ⟨by rw [h1, List.getD, List.getElem?_eq_getElem hi]; rfl, by simp [World.frozen?, hg]⟩

set_option maxRecDepth 100000 in
set_option maxHeartbeats 4000000 in
theorem impl_compact (L : List Int) (w : World) (v : Value) (B : Nat) (h : IRow B w v L) (hB : B ≤ w.heap.size) (hl : L.length ≤ 100000) : Calls Tryd.prog 103 #[v] w (CmpQ B w L) := by
  by_cases h0 : L = []
  · subst h0
    obtain ⟨a, c, rfl⟩ := h.form
    clear h hB hl
    go_enter Tryd.func103, Tryd.ntmps103
    go_wp2_with fail
    go_ret
    exact ⟨_, _, _, rfl, by simp, by simp, by simp, fun e => absurd rfl e, Below.refl _ _⟩
  rcases h.2 with ⟨_, e0⟩ | ⟨g, cap, cur, rfl, hb, _, hnc, hcap, _⟩
  · exact absurd (List.eq_nil_of_length_eq_zero e0) h0
  have hpos : 1 ≤ L.length := by
    cases L with
    | nil => exact absurd rfl h0
    | cons _ _ => simp
  have HR := Lib.hid h
  have HB := Lib.hid hB
  have HBG := Lib.hid hb
  have H0 := Lib.hid h0
  by_cases h2 : L.length < 2
  · have h1 : L.length = 1 := by omega
    have C0 := Lib.hid (HR.out.cellD 0 (by omega)).1
    clear h hB hb h0 hnc hcap
    go_enter Tryd.func103, Tryd.ntmps103
    go_wp2_with fail
    go_ret
    exact ⟨_, _, _, rfl, Nat.le_refl _, ⟨fun e => by omega, fun e => absurd e H0.out⟩, ⟨fun _ => ⟨H0.out, fun j hj => by rw [show j = 0 by omega]⟩, fun _ => h1⟩, fun _ => ⟨g, rfl, C0.out⟩, Below.refl _ _⟩
  clear h hB hb h0
  have hcap2 : cap ≤ 9223372036854775807 := hcap
  clear hcap
  go_enter Tryd.func103, Tryd.ntmps103
  go_wp2_with fail
  go_loopw [3] (fun s wr => ∃ k : Nat, 1 ≤ k ∧ k ≤ L.length ∧ s = .int .i64 k ∧ Gw w wr ∧ ∀ j, 1 ≤ j → j < k → L.getD j 0 ≠ L.getD (j - 1) 0) (fun s _ => L.length - (intOf s).toNat)
  case atStart => exact ⟨1, Nat.le_refl _, hpos, rfl, Gw.refl _, fun j h1 h2 => by omega⟩
  case round =>
    obtain ⟨k, hk1, hk, rfl, hgw, hall⟩ := hrel
    have HG := Lib.hid hgw
    have HALL := Lib.hid hall
    have HR1 := Lib.hid (HR.out.grow hgw)
    clear hgw hall
    by_cases hlt : k < L.length
    · obtain ⟨c1, f1⟩ := HR1.out.cellD k hlt
      obtain ⟨c0, f0⟩ := HR1.out.cellD (k - 1) (by omega)
      obtain ⟨x, hx⟩ : ∃ x, x = L.getD k 0 := ⟨_, rfl⟩
      obtain ⟨y, hy⟩ : ∃ y, y = L.getD (k - 1) 0 := ⟨_, rfl⟩
      rw [← hx] at c1
      rw [← hy] at c0
      have HXY := Lib.hid (And.intro hx hy)
      clear hx hy
      by_cases hdup : x = y
      · subst hdup
        go_wp2_with fail
        go_region
        go_wp2_with fail
        clear c0 c1 f0 f1
        have I0 := Lib.hid (CpI.start hk1 HALL.out (by rw [← HXY.out.1, ← HXY.out.2]))
        have R0 := Lib.hid (HR1.out.grow (Gw.refl wr).drew)
        have B0 := Lib.hid (show Below B w wr.drew from (HG.out.mono HB.out).drew)
        go_loopw [3, 5] (fun s3 s5 wr => ∃ (kk k2 : Nat) (M : List Int), s3 = .int .i64 kk ∧ s5 = .int .i64 k2 ∧ 1 ≤ k2 ∧ k + k2 ≤ L.length ∧ CpI L (k + k2) kk M ∧ IRow B wr (.slice (some ⟨g, 0, none⟩) L.length cap) M ∧ Below B w wr) (fun _ s5 _ => L.length - (k + (intOf s5).toNat))
        case atStart => exact ⟨k, 1, L, rfl, rfl, Nat.le_refl _, by omega, I0.out, R0.out, B0.out⟩
        case round =>
          obtain ⟨kk, k2, M, rfl, rfl, h1, hle, hI, hRM, hBM⟩ := hrel
          have hkk := hI.lt
          have hkp := hI.pos
          have hlM := hI.len
          have II := Lib.hid hI
          have RM := Lib.hid (show IRow B wr (.slice (some ⟨g, 0, none⟩) M.length cap) M by rw [hlM]; exact hRM)
          have BM := Lib.hid hBM
          clear hI hRM hBM
          by_cases hlt2 : k + k2 < L.length
          · obtain ⟨cm, _⟩ := RM.out.cellD (k + k2) (by omega)
            obtain ⟨cp, _⟩ := RM.out.cellD (k + k2 - 1) (by omega)
            obtain ⟨ck, fk⟩ := RM.out.cellD kk (by omega)
            rw [II.out.high (k + k2) (by omega)] at cm
            rw [II.out.high (k + k2 - 1) (by omega), show k + k2 - 1 = k + (k2 - 1) by omega] at cp
            obtain ⟨y, hy⟩ : ∃ y, y = L.getD (k + k2) 0 := ⟨_, rfl⟩
            obtain ⟨z, hz⟩ : ∃ z, z = L.getD (k + (k2 - 1)) 0 := ⟨_, rfl⟩
            generalize M.getD kk 0 = old at ck
            rw [← hy] at cm
            rw [← hz] at cp
            rw [show k + (k2 - 1) = k + k2 - 1 by omega] at hz
            have HYZ := Lib.hid (And.intro hy hz)
            clear hy hz hlM
            by_cases huv : y = z
            · subst huv
              go_wp2_with fail
              go_region
              go_wp2_with fail
              refine ⟨⟨kk, k2 + 1, M, rfl, rfl, by omega, by omega, II.out.skip (HYZ.out.1.symm.trans HYZ.out.2), ?_, BM.out.drew⟩, by simp only [intOf]; omega⟩
              have h1 := RM.out.grow (Gw.refl wr).drew
              rwa [II.out.len] at h1
            · have hne : L.getD (k + k2) 0 ≠ L.getD (k + k2 - 1) 0 := fun e => huv (HYZ.out.1.trans (e.trans HYZ.out.2.symm))
              have HNE := Lib.hid hne
              clear hne
              go_wp2_with fail
              go_region
              go_wp2_with fail
              refine ⟨⟨kk + 1, k2 + 1, M.set kk y, rfl, rfl, by omega, by omega, II.out.keep HNE.out y, ?_, (BM.out.setCell (p := ⟨g, kk, none⟩) HBG.out _).drew⟩, by simp only [intOf]; omega⟩
              have h1 := (RM.out.put kk (by have := II.out.len; omega) y).grow (Gw.refl _).drew
              rwa [II.out.len] at h1
          · have hend : k + k2 = L.length := by omega
            have hcl : ∀ ty, (Builtin.clear_ #[22] ty #[.slice (some ⟨g, kk, none⟩) (L.length - kk) (cap - kk)]).run Tryd.prog wr = .ok (.tuple #[]) (wr.setCells g kk (List.replicate (L.length - kk) (.int .i64 0))) :=
              fun ty => Lib.run_clear_slice wr _ _ ty (.int .i64 0) Tryd.underlying22 (fun W => rfl) rfl rfl g kk _ _ (by omega) (fun j hj => by rw [(RM.out.cellD (kk + j) (by omega)).1]; rfl) (fun j hj => (RM.out.cellD (kk + j) (by omega)).2)
            have FIN := Lib.hid (show CmpQ B w L (.returned (.slice (some ⟨g, 0, none⟩) kk cap)) (wr.setCells g kk (List.replicate (L.length - kk) (.int .i64 0))) from by
              have hI := II.out
              rw [hend] at hI
              refine ⟨_, _, _, rfl, by omega, ⟨fun e => by omega, fun e => absurd e H0.out⟩, ⟨fun e => ⟨H0.out, hI.one.1 e⟩, fun e => hI.one.2 e.2⟩, fun _ => ⟨g, rfl, ?_⟩, below_setCellsN HBG.out _ _ _ BM.out⟩
              rw [World.cell?_setCells_out g _ _ _ _ (fun _ _ => .inl (by show 0 < kk; omega)), (RM.out.cellD 0 (by omega)).1, hI.fst])
            clear hlM
            go_wp2_with fail
            go_ret
            exact FIN.out
      · have HNE := Lib.hid (show L.getD k 0 ≠ L.getD (k - 1) 0 from fun e => hdup (HXY.out.1.trans (e.trans HXY.out.2.symm)))
        go_wp2_with fail
        go_region
        go_wp2_with fail
        refine ⟨⟨k + 1, by omega, by omega, rfl, HG.out.drew, fun j h1 h2 => ?_⟩, by simp only [intOf]; omega⟩
        by_cases e : j = k
        · subst e
          exact HNE.out
        · exact HALL.out j h1 (by omega)
    · have e : k = L.length := by omega
      subst e
      have C0 := Lib.hid (HR1.out.cellD 0 (by omega)).1
      clear hlt
      go_wp2_with fail
      go_ret
      refine ⟨_, _, _, rfl, Nat.le_refl _, ⟨fun e => by omega, fun e => absurd e H0.out⟩, ⟨fun e => by omega, fun e => ?_⟩, fun _ => ⟨g, rfl, C0.out⟩, HG.out.mono HB.out⟩
      exact absurd ((e.2 1 (by omega)).trans rfl) (HALL.out 1 (Nat.le_refl _) (by omega))

/-- At most one level, and none greater than m; n numbers, of which x is the first. -/
def oneB (n : Nat) (x m : Int) : Bool := n == 0 || (n == 1 && decide (x ≤ m))
set_option maxRecDepth 100000 in
theorem impl_oneLevel (a : Option Addr) (n c : Nat) (x m : Int) (w : World) (hn : n ≤ 100000) (h : n = 0 ∨ ∃ g, a = some ⟨g, 0, none⟩ ∧ w.cell? ⟨g, 0, none⟩ = some (.int .i64 x)) : Calls Tryd.prog 101 #[.slice a n c, .int .i64 m] w (BoolGw (oneB n x m) w) := by
  by_cases h0 : n = 0
  · subst h0
    clear h hn
    go_enter Tryd.func101, Tryd.ntmps101
    go_wp2_with fail
    go_ret
    exact ⟨ret_b rfl, Gw.refl _⟩
  · obtain ⟨g, rfl, hc⟩ := h.resolve_left h0
    by_cases h1 : n = 1
    · subst h1
      clear h hn h0
      go_enter Tryd.func101, Tryd.ntmps101
      go_wp2_with fail
      go_ret
      exact ⟨ret_b (by simp [oneB]), Gw.refl _⟩
    · have F := Lib.hid (show oneB n x m = false by unfold oneB; simp [h0, h1])
      have q0 : ((n : Int) == 0) = false := by simpa using h0
      have q1 : ((n : Int) == 1) = false := by simp; omega
      clear h hn hc h0 h1
      go_enter Tryd.func101, Tryd.ntmps101
      go_wp2_with fail
      go_ret
      exact ⟨ret_b F.out.symm, Gw.refl _⟩

end Go.Proofs.YtfbgkbgoooepmaaDoor.Con
