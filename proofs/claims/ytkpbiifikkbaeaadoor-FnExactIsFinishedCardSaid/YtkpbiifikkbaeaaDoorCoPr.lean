/-
  The program's table coreForms and contracts of isIndex, namedDefs, namesOnly and hasCoreForm. Condition: the table reads as the program's text lays it, and the core term lies in memory.
-/
import Derived.Test.YtkpbiifikkbaeaaDoorCoVal
import Derived.Test.YtkpbiifikkbaeaaDoorReg
import Derived.Outline
import Derived.LoopTactic
import Derived.Lib.Hide
import Derived.StillTailTactics
import Derived.Deep.Cut
import Derived.BigQuiet
namespace Go.Proofs.YtkpbiifikkbaeaaDoor.Con
open Go.RowKit
set_option linter.unusedVariables false

def coTab : List (List Int) := [[0, 0, 0, 0, 0, 0], [0, 255, 0, 0, 0, 0], [(-2147483648), 2147483647, 0, 0, 0, 0], [1, 6, 0, 0, 2, 2], [0, 0, 0, 0, 1, 1], [0, 0, 0, 0, 2, 2], [0, 0, 0, 0, 1, 1], [0, 0, 0, 0, 2, 2], [0, 3, 0, 0, 0, 3], [0, 0, 1, 4, 1, 1], [0, 0, 2, 2, 1, 1], [0, 23, 0, 0, 0, 0]]
def tK (i j : Nat) : Int := (coTab.getD i []).getD j 0
/-- The table lies in block g. -/
def KTblAt (g : Nat) (w : World) : Prop := g < w.heap.size ∧ ∀ i j v, (coTab.getD i [])[j]? = some v → w.cell? ⟨g, i * 6 + j, none⟩ = some (.int .i64 v)
theorem KTblAt.grow {g : Nat} {w w' : World} (h : KTblAt g w) (gr : Gw w w') : KTblAt g w' := ⟨Nat.lt_of_lt_of_le h.1 gr.size, fun i j v hv => gr.cell (h.2 i j v hv) h.1⟩
theorem KTblAt.at {g : Nat} {w : World} (h : KTblAt g w) (i j : Nat) (hi : i < 12) (hj : j < 6) : w.cell? ⟨g, i * 6 + j, none⟩ = some (.int .i64 (tK i j)) := by
  have key : ∀ i, i < 12 → ∀ j, j < 6 → (coTab.getD i [])[j]? = some (tK i j) := by decide
  exact h.2 i j _ (key i hi j hj)

abbrev KTbl (w : World) : Prop := KTblAt 0 w

theorem ktbl_of {w : World} (h : laidMet Tryd.prog [("loop.example/g01074/impl.coreForms", .agg (iDat coTab))] w) : KTbl w :=
  inttab_cell (t := 161) (e := 160) (n := 12) (m := 6) (by kernel_rfl) (by kernel_rfl) Tryd.underlying161 Tryd.underlying160 rfl
    (fun j f hf => by
      match j, hf with
      | 0, hf => obtain rfl := Option.some.inj hf; exact ⟨rfl, Tryd.underlying2, by kernel_rfl⟩
      | 1, hf => obtain rfl := Option.some.inj hf; exact ⟨rfl, Tryd.underlying2, by kernel_rfl⟩
      | 2, hf => obtain rfl := Option.some.inj hf; exact ⟨rfl, Tryd.underlying3, by kernel_rfl⟩
      | 3, hf => obtain rfl := Option.some.inj hf; exact ⟨rfl, Tryd.underlying3, by kernel_rfl⟩
      | 4, hf => obtain rfl := Option.some.inj hf; exact ⟨rfl, Tryd.underlying3, by kernel_rfl⟩
      | 5, hf => obtain rfl := Option.some.inj hf; exact ⟨rfl, Tryd.underlying3, by kernel_rfl⟩
      | n + 6, hf => simp at hf)
    (by kernel_rfl) coTab h

def namedC (k v : Int) (ds : List Int) : List Int := if k = 11 then [v] else ds
def formK (i : Nat) (v : Int) (ds : List Int) (l : Nat) : Bool :=
  decide (tK i 0 ≤ v) && (decide (v ≤ tK i 1) && (decide (tK i 2 ≤ (ds.length : Int)) && (decide ((ds.length : Int) ≤ tK i 3) && (decide (tK i 4 ≤ (l : Int)) && (decide ((l : Int) ≤ tK i 5) && coD (namedC i v ds) 24)))))
theorem inV_and (n lo hi : Int) : inV n lo hi = (decide (lo ≤ n) && decide (n ≤ hi)) := by unfold inV; exact Bool.decide_and _ _
theorem inV_zero (v : Int) : (v == 0) = (decide (0 ≤ v) && decide (v ≤ 0)) := by
  rw [Bool.eq_iff_iff]; simp; omega
theorem coD_11 (v : Int) (ds : List Int) (l : Nat) : (decide (0 ≤ (ds.length : Int)) && (decide ((ds.length : Int) ≤ 0) && coD (namedC 11 v ds) 24)) = (decide (0 ≤ (ds.length : Int)) && (decide ((ds.length : Int) ≤ 0) && (decide (0 ≤ v) && (decide (v ≤ 23) && coD ds 24)))) := by
  cases ds with
  | nil => simp [coD, namedC, inV]
  | cons d ds => have : ¬ (((d :: ds).length : Int) ≤ 0) := by simp only [List.length_cons]; omega
                 rw [decide_eq_false this]; simp
theorem head_formK (i : Nat) (h1 : 1 ≤ i) (h2 : i ≤ 11) (v : Int) (ds : List Int) (l : Nat) : headC i v ds l = formK i v ds l := by
  match i, h1, h2 with
  | 1, _, _ => show (inV l 0 0 && (inV ds.length 0 0 && (inV v 0 255 && coD ds 24))) = (decide (0 ≤ v) && (decide (v ≤ 255) && (decide (0 ≤ (ds.length : Int)) && (decide ((ds.length : Int) ≤ 0) && (decide (0 ≤ (l : Int)) && (decide ((l : Int) ≤ 0) && coD ds 24)))))); simp only [inV_and]; ac_rfl
  | 2, _, _ => show (inV l 0 0 && (inV ds.length 0 0 && (inV v (-2147483648) 2147483647 && coD ds 24))) = (decide (-2147483648 ≤ v) && (decide (v ≤ 2147483647) && (decide (0 ≤ (ds.length : Int)) && (decide ((ds.length : Int) ≤ 0) && (decide (0 ≤ (l : Int)) && (decide ((l : Int) ≤ 0) && coD ds 24)))))); simp only [inV_and]; ac_rfl
  | 3, _, _ => show (inV l 2 2 && (inV ds.length 0 0 && (inV v 1 6 && coD ds 24))) = (decide (1 ≤ v) && (decide (v ≤ 6) && (decide (0 ≤ (ds.length : Int)) && (decide ((ds.length : Int) ≤ 0) && (decide (2 ≤ (l : Int)) && (decide ((l : Int) ≤ 2) && coD ds 24)))))); simp only [inV_and]; ac_rfl
  | 4, _, _ => show (inV l 1 1 && (inV ds.length 0 0 && ((v == 0) && coD ds 24))) = (decide (0 ≤ v) && (decide (v ≤ 0) && (decide (0 ≤ (ds.length : Int)) && (decide ((ds.length : Int) ≤ 0) && (decide (1 ≤ (l : Int)) && (decide ((l : Int) ≤ 1) && coD ds 24)))))); simp only [inV_and, inV_zero]; ac_rfl
  | 5, _, _ => show (inV l 2 2 && (inV ds.length 0 0 && ((v == 0) && coD ds 24))) = (decide (0 ≤ v) && (decide (v ≤ 0) && (decide (0 ≤ (ds.length : Int)) && (decide ((ds.length : Int) ≤ 0) && (decide (2 ≤ (l : Int)) && (decide ((l : Int) ≤ 2) && coD ds 24)))))); simp only [inV_and, inV_zero]; ac_rfl
  | 6, _, _ => show (inV l 1 1 && (inV ds.length 0 0 && ((v == 0) && coD ds 24))) = (decide (0 ≤ v) && (decide (v ≤ 0) && (decide (0 ≤ (ds.length : Int)) && (decide ((ds.length : Int) ≤ 0) && (decide (1 ≤ (l : Int)) && (decide ((l : Int) ≤ 1) && coD ds 24)))))); simp only [inV_and, inV_zero]; ac_rfl
  | 7, _, _ => show (inV l 2 2 && (inV ds.length 0 0 && ((v == 0) && coD ds 24))) = (decide (0 ≤ v) && (decide (v ≤ 0) && (decide (0 ≤ (ds.length : Int)) && (decide ((ds.length : Int) ≤ 0) && (decide (2 ≤ (l : Int)) && (decide ((l : Int) ≤ 2) && coD ds 24)))))); simp only [inV_and, inV_zero]; ac_rfl
  | 8, _, _ => show (inV l 0 3 && (inV ds.length 0 0 && (inV v 0 3 && coD ds 24))) = (decide (0 ≤ v) && (decide (v ≤ 3) && (decide (0 ≤ (ds.length : Int)) && (decide ((ds.length : Int) ≤ 0) && (decide (0 ≤ (l : Int)) && (decide ((l : Int) ≤ 3) && coD ds 24)))))); simp only [inV_and]; ac_rfl
  | 9, _, _ => show (inV l 1 1 && (inV ds.length 1 4 && ((v == 0) && coD ds 24))) = (decide (0 ≤ v) && (decide (v ≤ 0) && (decide (1 ≤ (ds.length : Int)) && (decide ((ds.length : Int) ≤ 4) && (decide (1 ≤ (l : Int)) && (decide ((l : Int) ≤ 1) && coD ds 24)))))); simp only [inV_and, inV_zero]; ac_rfl
  | 10, _, _ => show (inV l 1 1 && (inV ds.length 2 2 && ((v == 0) && coD ds 24))) = (decide (0 ≤ v) && (decide (v ≤ 0) && (decide (2 ≤ (ds.length : Int)) && (decide ((ds.length : Int) ≤ 2) && (decide (1 ≤ (l : Int)) && (decide ((l : Int) ≤ 1) && coD ds 24)))))); simp only [inV_and, inV_zero]; ac_rfl
  | 11, _, _ =>
    have e : formK 11 v ds l = ((decide (0 ≤ v) && decide (v ≤ 23)) && ((decide (0 ≤ (l : Int)) && decide ((l : Int) ≤ 0)) && (decide (0 ≤ (ds.length : Int)) && (decide ((ds.length : Int) ≤ 0) && coD (namedC 11 v ds) 24)))) := by
      show (decide (0 ≤ v) && (decide (v ≤ 23) && (decide (0 ≤ (ds.length : Int)) && (decide ((ds.length : Int) ≤ 0) && (decide (0 ≤ (l : Int)) && (decide ((l : Int) ≤ 0) && coD (namedC 11 v ds) 24)))))) = _
      ac_rfl
    rw [e, coD_11 v ds l]
    show (inV l 0 0 && (inV ds.length 0 0 && (inV v 0 23 && coD ds 24))) = _
    simp only [inV_and]
    cases decide (0 ≤ v) <;> cases decide (v ≤ 23) <;> simp <;> ac_rfl

theorem headC_out {k v : Int} {ds : List Int} {l : Nat} (h : k < 1 ∨ 11 < k) : headC k v ds l = false := by
  cases hb : headC k v ds l with
  | true => have := headC_kind hb; omega
  | false => rfl
theorem formK_no {i : Nat} {v : Int} {ds : List Int} {l : Nat} (h : ¬ tK i 0 ≤ v ∨ ¬ v ≤ tK i 1 ∨ ¬ tK i 2 ≤ (ds.length : Int) ∨ ¬ (ds.length : Int) ≤ tK i 3 ∨ ¬ tK i 4 ≤ (l : Int) ∨ ¬ (l : Int) ≤ tK i 5) : formK i v ds l = false := by
  unfold formK
  rcases h with h | h | h | h | h | h <;> rw [decide_eq_false h] <;> simp
theorem formK_yes {i : Nat} {v : Int} {ds : List Int} {l : Nat} (h1 : tK i 0 ≤ v) (h2 : v ≤ tK i 1) (h3 : tK i 2 ≤ (ds.length : Int)) (h4 : (ds.length : Int) ≤ tK i 3) (h5 : tK i 4 ≤ (l : Int)) (h6 : (l : Int) ≤ tK i 5) : formK i v ds l = coD (namedC i v ds) 24 := by
  unfold formK
  rw [decide_eq_true h1, decide_eq_true h2, decide_eq_true h3, decide_eq_true h4, decide_eq_true h5, decide_eq_true h6]; rfl

theorem impl_isIndex (k n : Int) (w : World) : Calls Tryd.prog 43 #[.int .i64 k, .int .i64 n] w fun e w' => e = .returned (.bool (inV k 0 (n - 1))) ∧ w = w' := by
  by_cases a : 0 ≤ k <;> by_cases b : k < n <;> (
    go_enter Tryd.func43, Tryd.ntmps43
    go_wp2
    go_ret
    exact ⟨ret_b (by unfold inV; simp; omega), rfl⟩)

theorem impl_namedDefs (u : LK) (w : World) (b o : Nat) (h : coAt w b o u) : Calls Tryd.prog 119 #[.pointer (some ⟨b, o, none⟩)] w fun e w' => ∃ (a : Option Addr) (cap : Nat), e = .returned (.slice a (namedC u.k u.v u.ds).length cap) ∧ numSl w' a cap (namedC u.k u.v u.ds) ∧ Gw w w' := by
  obtain ⟨p0, p1, p2, p3⟩ := h.c
  have hv := h.2.vin
  have hD := Lib.hid h.2.dat
  clear h
  by_cases hk : u.k = 11
  · have e : namedC u.k u.v u.ds = [u.v] := by unfold namedC; rw [if_pos hk]
    rw [e]
    have q : (u.k == 11) = true := by simpa using hk
    clear hk e
    go_enter Tryd.func119, Tryd.ntmps119
    go_wp2_with fail
    go_ret
    refine ⟨_, _, rfl, ⟨by simp, by unfold maxLen; omega, .inr ⟨_, _, rfl, fun i hi => ?_⟩⟩, (Gw.refl w).alloc _⟩
    obtain rfl : i = 0 := by simpa using hi
    refine ⟨fun j v hj => ?_, hv⟩
    match j, hj with
    | 0, hj => rw [cell_of_row _ _ _ _ _ _ (heap_alloc_new w _)]; exact hj
    | j + 1, hj => simp [nE] at hj
  · have e : namedC u.k u.v u.ds = u.ds := by unfold namedC; rw [if_neg hk]
    rw [e]
    have q : (u.k == 11) = false := by simpa using hk
    clear hk e
    go_enter Tryd.func119, Tryd.ntmps119
    go_wp2_with fail
    go_ret
    exact ⟨_, _, rfl, hD.out, Gw.refl _⟩

theorem impl_areIx1 (k n : Int) (bL : Nat) (w : World) (h : w.cell? ⟨bL, 0, none⟩ = some (.int .i64 n)) : Calls Tryd.prog 105 #[.int .i64 k, .pointer (some ⟨bL, 0, none⟩)] w fun e w' => e = .returned (.bool !(inV k 0 (n - 1))) ∧ w = w' := by
  go_enter Tryd.func105, Tryd.ntmps105
  go_wp2_with fail
  refine (impl_isIndex k n _).mono ?_
  rintro e w1 ⟨rfl, rfl⟩
  go_wp2_with fail
  go_ret
  exact ⟨rfl, rfl⟩
theorem impl_ixN (L : List Int) (n : Int) (bL : Nat) (w : World) (a : Option Addr) (cap : Nat) (h : numSl w a cap L) (hb : w.cell? ⟨bL, 0, none⟩ = some (.int .i64 n)) :
    Calls Tryd.prog 115 #[.slice a L.length cap, .func (.func 105) #[] #[.pointer (some ⟨bL, 0, none⟩)]] w fun e w' => ∃ r : Int, e = .returned (.int .i64 r) ∧ decide (0 ≤ r) = !(coD L n) ∧ w = w' := by
  have hl : L.length ≤ 9223372036854775807 := Nat.le_trans h.1 h.2.1
  have HS := Lib.hid h
  clear h
  go_enter Tryd.func115, Tryd.ntmps115
  go_wp2_with fail
  go_loopw [8] (fun i wr => ∃ j : Nat, j ≤ L.length ∧ i = .int .i64 j ∧ w = wr ∧ ∀ x (hx : x < L.length), x < j → inV L[x] 0 (n - 1) = true) (fun i _ => L.length - (intOf i).toNat)
  case atStart => exact ⟨0, by omega, rfl, by simp, fun x _ h => absurd h (by omega)⟩
  case round =>
    obtain ⟨j, hj, rfl, rfl, hall⟩ := hrel
    have HALL := Lib.hid hall
    clear hall
    by_cases hlt : j < L.length
    · obtain ⟨b1, o1, rfl, hr⟩ := HS.out.2.2.resolve_left (fun e => by rw [e] at hlt; simp at hlt)
      obtain ⟨c0, _⟩ := numRow_get hr j hlt
      have q0 : (0 : Int) ≤ j := by omega
      have q3 : (j : Int) < L.length := by omega
      have KEY := Lib.hid (impl_areIx1 L[j] n bL w hb)
      clear hr
      go_wp2_with fail
      refine KEY.out.mono ?_
      rintro e w2 ⟨rfl, rfl⟩
      cases hI : inV L[j] 0 (n - 1) with
      | false =>
        have F := Lib.hid (coD_bad (n := n) j hlt hI)
        clear hI
        go_wp2_with fail
        go_ret
        exact ⟨j, rfl, by rw [F.out, decide_eq_true (by omega)]; rfl, rfl⟩
      | true =>
        have HB := Lib.hid hI
        clear hI
        go_wp2_with fail
        go_roundw
        case rel =>
          refine ⟨j + 1, by omega, by go_num, by simp, fun x hx hi => ?_⟩
          by_cases e : x = j
          · subst e; exact HB.out
          · exact HALL.out x hx (by omega)
        case measure => simp [intOf]; omega
    · obtain rfl : j = L.length := by omega
      have F := Lib.hid (coD_all (n := n) (fun i hi => HALL.out i hi hi))
      go_wp2_with fail
      go_ret
      exact ⟨-1, rfl, by rw [F.out]; rfl, rfl⟩
theorem impl_cfN (L : List Int) (n : Int) (bL : Nat) (w : World) (a : Option Addr) (cap : Nat) (h : numSl w a cap L) (hb : w.cell? ⟨bL, 0, none⟩ = some (.int .i64 n)) :
    Calls Tryd.prog 106 #[.slice a L.length cap, .func (.func 105) #[] #[.pointer (some ⟨bL, 0, none⟩)]] w fun e w' => e = .returned (.bool !(coD L n)) ∧ w = w' := by
  have KEY := Lib.hid (impl_ixN L n bL w a cap h hb)
  clear h hb
  go_enter Tryd.func106, Tryd.ntmps106
  go_wp2_with fail
  refine KEY.out.mono ?_
  rintro e w1 ⟨r, rfl, hr, rfl⟩
  have HR := Lib.hid hr
  clear hr
  go_wp2_with fail
  go_ret
  exact ⟨ret_b (by rw [← HR.out]), rfl⟩
theorem impl_areIx (L : List Int) (n : Int) (w : World) (a : Option Addr) (cap : Nat) (h : numSl w a cap L) : Calls Tryd.prog 74 #[.slice a L.length cap, .int .i64 n] w (BoolGw (coD L n) w) := by
  have g0 : Gw w (w.alloc (.cells #[.int .i64 n] 3)) := (Gw.refl w).alloc _
  have KEY := Lib.hid (impl_cfN L n w.heap.size (w.alloc (.cells #[.int .i64 n] 3)) a cap (numSl.grow h g0) (cell_of_row _ _ 0 _ _ _ (heap_alloc_new w _)))
  have G0 := Lib.hid g0
  clear h g0
  go_enter Tryd.func74, Tryd.ntmps74
  go_wp2_with fail
  refine KEY.out.mono ?_
  rintro e w1 ⟨rfl, rfl⟩
  go_wp2_with fail
  go_ret
  exact ⟨ret_b rfl, G0.out⟩
theorem impl_namesOnly (u : LK) (w : World) (b o : Nat) (n : Int) (h : coAt w b o u) : Calls Tryd.prog 109 #[.pointer (some ⟨b, o, none⟩), .int .i64 n] w (BoolGw (coD (namedC u.k u.v u.ds) n) w) := by
  have A := Lib.hid h
  clear h
  go_enter Tryd.func109, Tryd.ntmps109
  go_wp2_with fail
  refine (impl_namedDefs u _ b o A.out).mono ?_
  rintro e w1 ⟨a, cap, rfl, hs, g1⟩
  have KEY := Lib.hid (impl_areIx _ n w1 a cap hs)
  have G1 := Lib.hid g1
  clear hs g1
  go_wp2_with fail
  refine KEY.out.mono ?_
  rintro e w2 ⟨rfl, g2⟩
  go_wp2_with fail
  go_ret
  exact ⟨rfl, G1.out.trans g2⟩

set_option maxRecDepth 100000 in
set_option maxHeartbeats 2000000 in
theorem impl_coreForm (u : LK) (w : World) (b o : Nat) (h : coAt w b o u) (hT : KTbl w) : Calls Tryd.prog 123 #[.pointer (some ⟨b, o, none⟩)] w (BoolGw (headC u.k u.v u.ds u.ks.length) w) := by
  have hkl := h.2.kl
  have hdl := h.2.dl
  obtain ⟨p0, p1, p2, p3⟩ := h.c
  by_cases h1 : u.k < 1
  · have F := Lib.hid (headC_out (k := u.k) (v := u.v) (ds := u.ds) (l := u.ks.length) (.inl h1))
    clear h hT
    go_enter Tryd.func123, Tryd.ntmps123
    go_wp2_with fail
    go_ret
    exact ⟨ret_b F.out.symm, Gw.refl _⟩
  by_cases h2 : 11 < u.k
  · have F := Lib.hid (headC_out (k := u.k) (v := u.v) (ds := u.ds) (l := u.ks.length) (.inr h2))
    clear h hT
    go_enter Tryd.func123, Tryd.ntmps123
    go_wp2_with fail
    go_ret
    exact ⟨ret_b F.out.symm, Gw.refl _⟩
  obtain ⟨i, hi⟩ : ∃ i : Nat, u.k = i := ⟨u.k.toNat, by omega⟩
  have i1 : 1 ≤ i := by omega
  have i2 : i ≤ 11 := by omega
  have HH := Lib.hid (show headC u.k u.v u.ds u.ks.length = formK i u.v u.ds u.ks.length by rw [hi]; exact head_formK i i1 i2 _ _ _)
  have NM := Lib.hid (show namedC u.k u.v u.ds = namedC i u.v u.ds by rw [hi])
  have t0 := hT.at i 0 (by omega) (by omega)
  have t1 := hT.at i 1 (by omega) (by omega)
  have t2 := hT.at i 2 (by omega) (by omega)
  have t3 := hT.at i 3 (by omega) (by omega)
  have t4 := hT.at i 4 (by omega) (by omega)
  have t5 := hT.at i 5 (by omega) (by omega)
  rw [Nat.add_zero] at t0
  rw [hi] at p0
  have A := Lib.hid h
  have hno := fun h => formK_no (i := i) (v := u.v) (ds := u.ds) (l := u.ks.length) h
  have hye := fun h1 h2 h3 h4 h5 h6 => formK_yes (i := i) (v := u.v) (ds := u.ds) (l := u.ks.length) h1 h2 h3 h4 h5 h6
  obtain ⟨f0, e0⟩ : ∃ f, f = tK i 0 := ⟨_, rfl⟩
  obtain ⟨f1, e1⟩ : ∃ f, f = tK i 1 := ⟨_, rfl⟩
  obtain ⟨f2, e2⟩ : ∃ f, f = tK i 2 := ⟨_, rfl⟩
  obtain ⟨f3, e3⟩ : ∃ f, f = tK i 3 := ⟨_, rfl⟩
  obtain ⟨f4, e4⟩ : ∃ f, f = tK i 4 := ⟨_, rfl⟩
  obtain ⟨f5, e5⟩ : ∃ f, f = tK i 5 := ⟨_, rfl⟩
  rw [← e0] at t0
  rw [← e1] at t1
  rw [← e2] at t2
  rw [← e3] at t3
  rw [← e4] at t4
  rw [← e5] at t5
  rw [← e0, ← e1, ← e2, ← e3, ← e4, ← e5] at hno hye
  have NO := Lib.hid hno
  have YE := Lib.hid hye
  have r0 : (1 : Int) ≤ i := by omega
  have r1 : (i : Int) ≤ 11 := by omega
  have r2 : (i : Int) < 12 := by omega
  have r3 : (0 : Int) ≤ i := by omega
  have r4 : ¬ (i : Int) < 1 := by omega
  have r5 : ¬ (11 : Int) < i := by omega
  have hlb := cell_lt p0
  clear h hT h1 h2 hi hno hye e0 e1 e2 e3 e4 e5
  go_enter Tryd.func123, Tryd.ntmps123
  go_upto_region 4 with (fail)
  have G0 := (Gw.refl w).alloc (.cells #[.int .i64 f0, .int .i64 f1, .int .i64 f2, .int .i64 f3, .int .i64 f4, .int .i64 f5] 160)
  have B0 : (w.alloc (.cells #[.int .i64 f0, .int .i64 f1, .int .i64 f2, .int .i64 f3, .int .i64 f4, .int .i64 f5] 160)).heap[w.heap.size]? = some (.cells #[.int .i64 f0, .int .i64 f1, .int .i64 f2, .int .i64 f3, .int .i64 f4, .int .i64 f5] 160 (0, 0)) := heap_alloc_new w _
  have A4 := A.out.grow G0
  clear t0 t1 t2 t3 t4 t5 p0 p1 p2 p3 A
  generalize w.alloc (.cells #[.int .i64 f0, .int .i64 f1, .int .i64 f2, .int .i64 f3, .int .i64 f4, .int .i64 f5] 160) = W at *
  have t0 : W.cell? ⟨w.heap.size, 0, none⟩ = some (.int .i64 f0) := cell_of_row _ _ 0 _ _ _ B0
  have t1 : W.cell? ⟨w.heap.size, 1, none⟩ = some (.int .i64 f1) := cell_of_row _ _ 1 _ _ _ B0
  have t2 : W.cell? ⟨w.heap.size, 2, none⟩ = some (.int .i64 f2) := cell_of_row _ _ 2 _ _ _ B0
  have t3 : W.cell? ⟨w.heap.size, 3, none⟩ = some (.int .i64 f3) := cell_of_row _ _ 3 _ _ _ B0
  have t4 : W.cell? ⟨w.heap.size, 4, none⟩ = some (.int .i64 f4) := cell_of_row _ _ 4 _ _ _ B0
  have t5 : W.cell? ⟨w.heap.size, 5, none⟩ = some (.int .i64 f5) := cell_of_row _ _ 5 _ _ _ B0
  obtain ⟨p0, p1, p2, p3⟩ := A4.c
  have G := Lib.hid G0
  have A := Lib.hid A4
  clear G0 A4 B0
  clear r0 r1 r2 r3 r4 r5 i1 i2 hlb
  refine region_hid (fun L hL => ?_)
  have HL := Lib.hid hL
  clear hL
  refine reg_start 58 (by kernel_rfl) (by rw [HL.out]; kernel_rfl) ?_
  refine reg_do 0 (by decide) (by rw [HL.out]; rfl) (by rw [HL.out]; kernel_rfl) ?_; intro K hK; go_simp; refine hK _ ?_; clear hK K
  refine reg_do 1 (by decide) (by rw [HL.out]; rfl) (by rw [HL.out]; kernel_rfl) ?_; intro K hK; go_simp; refine hK _ ?_; clear hK K
  refine reg_do 2 (by decide) (by rw [HL.out]; rfl) (by rw [HL.out]; kernel_rfl) ?_; intro K hK; go_simp; refine hK _ ?_; clear hK K
  refine reg_do 3 (by decide) (by rw [HL.out]; rfl) (by rw [HL.out]; kernel_rfl) ?_; intro K hK; go_simp; refine hK _ ?_; clear hK K
  refine reg_do 4 (by decide) (by rw [HL.out]; rfl) (by rw [HL.out]; kernel_rfl) ?_; intro K hK; go_simp; refine hK _ ?_; clear hK K
  refine reg_do 5 (by decide) (by rw [HL.out]; rfl) (by rw [HL.out]; kernel_rfl) ?_; intro K hK; go_simp; refine hK _ ?_; clear hK K
  refine reg_do 6 (by decide) (by rw [HL.out]; rfl) (by rw [HL.out]; kernel_rfl) ?_; intro K hK; go_simp; refine hK _ ?_; clear hK K
  by_cases c : f0 ≤ u.v
  rotate_left
  · have FF := Lib.hid (NO.out (.inl c))
    rw [decide_eq_false c]
    clear c
    refine reg_do 7 (by decide) (by rw [HL.out]; rfl) (by rw [HL.out]; kernel_rfl) ?_; intro K hK; go_simp; refine hK _ ?_; clear hK K
    refine reg_no 8 (by decide) (by rw [HL.out]; rfl) (by rw [HL.out]; kernel_rfl) ?_
    refine reg_no 9 (by decide) (by rw [HL.out]; rfl) (by rw [HL.out]; kernel_rfl) ?_
    refine reg_no 10 (by decide) (by rw [HL.out]; rfl) (by rw [HL.out]; kernel_rfl) ?_
    refine reg_no 11 (by decide) (by rw [HL.out]; rfl) (by rw [HL.out]; kernel_rfl) ?_
    refine reg_no 12 (by decide) (by rw [HL.out]; rfl) (by rw [HL.out]; kernel_rfl) ?_
    refine reg_no 13 (by decide) (by rw [HL.out]; rfl) (by rw [HL.out]; kernel_rfl) ?_
    refine reg_no 14 (by decide) (by rw [HL.out]; rfl) (by rw [HL.out]; kernel_rfl) ?_
    refine reg_do 15 (by decide) (by rw [HL.out]; rfl) (by rw [HL.out]; kernel_rfl) ?_; intro K hK; go_simp; refine hK _ ?_; clear hK K
    refine reg_do 16 (by decide) (by rw [HL.out]; rfl) (by rw [HL.out]; kernel_rfl) ?_; intro K hK; go_simp; refine hK _ ?_; clear hK K
    refine reg_no 17 (by decide) (by rw [HL.out]; rfl) (by rw [HL.out]; kernel_rfl) ?_
    refine reg_no 18 (by decide) (by rw [HL.out]; rfl) (by rw [HL.out]; kernel_rfl) ?_
    refine reg_no 19 (by decide) (by rw [HL.out]; rfl) (by rw [HL.out]; kernel_rfl) ?_
    refine reg_no 20 (by decide) (by rw [HL.out]; rfl) (by rw [HL.out]; kernel_rfl) ?_
    refine reg_no 21 (by decide) (by rw [HL.out]; rfl) (by rw [HL.out]; kernel_rfl) ?_
    refine reg_no 22 (by decide) (by rw [HL.out]; rfl) (by rw [HL.out]; kernel_rfl) ?_
    refine reg_no 23 (by decide) (by rw [HL.out]; rfl) (by rw [HL.out]; kernel_rfl) ?_
    refine reg_no 24 (by decide) (by rw [HL.out]; rfl) (by rw [HL.out]; kernel_rfl) ?_
    refine reg_do 25 (by decide) (by rw [HL.out]; rfl) (by rw [HL.out]; kernel_rfl) ?_; intro K hK; go_simp; refine hK _ ?_; clear hK K
    refine reg_do 26 (by decide) (by rw [HL.out]; rfl) (by rw [HL.out]; kernel_rfl) ?_; intro K hK; go_simp; refine hK _ ?_; clear hK K
    refine reg_no 27 (by decide) (by rw [HL.out]; rfl) (by rw [HL.out]; kernel_rfl) ?_
    refine reg_no 28 (by decide) (by rw [HL.out]; rfl) (by rw [HL.out]; kernel_rfl) ?_
    refine reg_no 29 (by decide) (by rw [HL.out]; rfl) (by rw [HL.out]; kernel_rfl) ?_
    refine reg_no 30 (by decide) (by rw [HL.out]; rfl) (by rw [HL.out]; kernel_rfl) ?_
    refine reg_no 31 (by decide) (by rw [HL.out]; rfl) (by rw [HL.out]; kernel_rfl) ?_
    refine reg_no 32 (by decide) (by rw [HL.out]; rfl) (by rw [HL.out]; kernel_rfl) ?_
    refine reg_no 33 (by decide) (by rw [HL.out]; rfl) (by rw [HL.out]; kernel_rfl) ?_
    refine reg_no 34 (by decide) (by rw [HL.out]; rfl) (by rw [HL.out]; kernel_rfl) ?_
    refine reg_do 35 (by decide) (by rw [HL.out]; rfl) (by rw [HL.out]; kernel_rfl) ?_; intro K hK; go_simp; refine hK _ ?_; clear hK K
    refine reg_do 36 (by decide) (by rw [HL.out]; rfl) (by rw [HL.out]; kernel_rfl) ?_; intro K hK; go_simp; refine hK _ ?_; clear hK K
    refine reg_no 37 (by decide) (by rw [HL.out]; rfl) (by rw [HL.out]; kernel_rfl) ?_
    refine reg_no 38 (by decide) (by rw [HL.out]; rfl) (by rw [HL.out]; kernel_rfl) ?_
    refine reg_no 39 (by decide) (by rw [HL.out]; rfl) (by rw [HL.out]; kernel_rfl) ?_
    refine reg_no 40 (by decide) (by rw [HL.out]; rfl) (by rw [HL.out]; kernel_rfl) ?_
    refine reg_no 41 (by decide) (by rw [HL.out]; rfl) (by rw [HL.out]; kernel_rfl) ?_
    refine reg_no 42 (by decide) (by rw [HL.out]; rfl) (by rw [HL.out]; kernel_rfl) ?_
    refine reg_no 43 (by decide) (by rw [HL.out]; rfl) (by rw [HL.out]; kernel_rfl) ?_
    refine reg_no 44 (by decide) (by rw [HL.out]; rfl) (by rw [HL.out]; kernel_rfl) ?_
    refine reg_do 45 (by decide) (by rw [HL.out]; rfl) (by rw [HL.out]; kernel_rfl) ?_; intro K hK; go_simp; refine hK _ ?_; clear hK K
    refine reg_do 46 (by decide) (by rw [HL.out]; rfl) (by rw [HL.out]; kernel_rfl) ?_; intro K hK; go_simp; refine hK _ ?_; clear hK K
    refine reg_no 47 (by decide) (by rw [HL.out]; rfl) (by rw [HL.out]; kernel_rfl) ?_
    refine reg_no 48 (by decide) (by rw [HL.out]; rfl) (by rw [HL.out]; kernel_rfl) ?_
    refine reg_no 49 (by decide) (by rw [HL.out]; rfl) (by rw [HL.out]; kernel_rfl) ?_
    refine reg_no 50 (by decide) (by rw [HL.out]; rfl) (by rw [HL.out]; kernel_rfl) ?_
    refine reg_no 51 (by decide) (by rw [HL.out]; rfl) (by rw [HL.out]; kernel_rfl) ?_
    refine reg_no 52 (by decide) (by rw [HL.out]; rfl) (by rw [HL.out]; kernel_rfl) ?_
    refine reg_no 53 (by decide) (by rw [HL.out]; rfl) (by rw [HL.out]; kernel_rfl) ?_
    refine reg_no 54 (by decide) (by rw [HL.out]; rfl) (by rw [HL.out]; kernel_rfl) ?_
    refine reg_do 55 (by decide) (by rw [HL.out]; rfl) (by rw [HL.out]; kernel_rfl) ?_; intro K hK; go_simp; refine hK _ ?_; clear hK K
    refine reg_do 56 (by decide) (by rw [HL.out]; rfl) (by rw [HL.out]; kernel_rfl) ?_; intro K hK; go_simp; refine hK _ ?_; clear hK K
    refine reg_no 57 (by decide) (by rw [HL.out]; rfl) (by rw [HL.out]; kernel_rfl) ?_
    refine reg_end ?_
    refine tail_no 58 (by rw [HL.out]; rfl) (by rw [HL.out]; kernel_rfl) ?_
    refine tail_do 59 (by rw [HL.out]; rfl) (by rw [HL.out]; kernel_rfl) ?_; intro K hK; go_simp; refine hK _ _ ?_; clear hK K
    refine tail_do 60 (by rw [HL.out]; rfl) (by rw [HL.out]; kernel_rfl) ?_; intro K hK; go_simp; refine hK _ _ ?_; clear hK K
    refine tail_end 61 (by rw [HL.out]; decide) ?_
    go_wp2_with fail
    go_ret
    exact ⟨ret_b (by rw [HH.out, FF.out]), G.out.drew⟩
  rw [decide_eq_true c]
  have C0 := Lib.hid c
  clear c
  refine reg_do 7 (by decide) (by rw [HL.out]; rfl) (by rw [HL.out]; kernel_rfl) ?_; intro K hK; go_simp; refine hK _ ?_; clear hK K
  refine reg_do 8 (by decide) (by rw [HL.out]; rfl) (by rw [HL.out]; kernel_rfl) ?_; intro K hK; go_simp; refine hK _ ?_; clear hK K
  refine reg_do 9 (by decide) (by rw [HL.out]; rfl) (by rw [HL.out]; kernel_rfl) ?_; intro K hK; go_simp; refine hK _ ?_; clear hK K
  refine reg_do 10 (by decide) (by rw [HL.out]; rfl) (by rw [HL.out]; kernel_rfl) ?_; intro K hK; go_simp; refine hK _ ?_; clear hK K
  refine reg_do 11 (by decide) (by rw [HL.out]; rfl) (by rw [HL.out]; kernel_rfl) ?_; intro K hK; go_simp; refine hK _ ?_; clear hK K
  refine reg_do 12 (by decide) (by rw [HL.out]; rfl) (by rw [HL.out]; kernel_rfl) ?_; intro K hK; go_simp; refine hK _ ?_; clear hK K
  refine reg_do 13 (by decide) (by rw [HL.out]; rfl) (by rw [HL.out]; kernel_rfl) ?_; intro K hK; go_simp; refine hK _ ?_; clear hK K
  refine reg_do 14 (by decide) (by rw [HL.out]; rfl) (by rw [HL.out]; kernel_rfl) ?_; intro K hK; go_simp; refine hK _ ?_; clear hK K
  by_cases c : u.v ≤ f1
  rotate_left
  · have FF := Lib.hid (NO.out (.inr (.inl c)))
    rw [decide_eq_false c]
    clear c
    refine reg_do 15 (by decide) (by rw [HL.out]; rfl) (by rw [HL.out]; kernel_rfl) ?_; intro K hK; go_simp; refine hK _ ?_; clear hK K
    refine reg_do 16 (by decide) (by rw [HL.out]; rfl) (by rw [HL.out]; kernel_rfl) ?_; intro K hK; go_simp; refine hK _ ?_; clear hK K
    refine reg_no 17 (by decide) (by rw [HL.out]; rfl) (by rw [HL.out]; kernel_rfl) ?_
    refine reg_no 18 (by decide) (by rw [HL.out]; rfl) (by rw [HL.out]; kernel_rfl) ?_
    refine reg_no 19 (by decide) (by rw [HL.out]; rfl) (by rw [HL.out]; kernel_rfl) ?_
    refine reg_no 20 (by decide) (by rw [HL.out]; rfl) (by rw [HL.out]; kernel_rfl) ?_
    refine reg_no 21 (by decide) (by rw [HL.out]; rfl) (by rw [HL.out]; kernel_rfl) ?_
    refine reg_no 22 (by decide) (by rw [HL.out]; rfl) (by rw [HL.out]; kernel_rfl) ?_
    refine reg_no 23 (by decide) (by rw [HL.out]; rfl) (by rw [HL.out]; kernel_rfl) ?_
    refine reg_no 24 (by decide) (by rw [HL.out]; rfl) (by rw [HL.out]; kernel_rfl) ?_
    refine reg_do 25 (by decide) (by rw [HL.out]; rfl) (by rw [HL.out]; kernel_rfl) ?_; intro K hK; go_simp; refine hK _ ?_; clear hK K
    refine reg_do 26 (by decide) (by rw [HL.out]; rfl) (by rw [HL.out]; kernel_rfl) ?_; intro K hK; go_simp; refine hK _ ?_; clear hK K
    refine reg_no 27 (by decide) (by rw [HL.out]; rfl) (by rw [HL.out]; kernel_rfl) ?_
    refine reg_no 28 (by decide) (by rw [HL.out]; rfl) (by rw [HL.out]; kernel_rfl) ?_
    refine reg_no 29 (by decide) (by rw [HL.out]; rfl) (by rw [HL.out]; kernel_rfl) ?_
    refine reg_no 30 (by decide) (by rw [HL.out]; rfl) (by rw [HL.out]; kernel_rfl) ?_
    refine reg_no 31 (by decide) (by rw [HL.out]; rfl) (by rw [HL.out]; kernel_rfl) ?_
    refine reg_no 32 (by decide) (by rw [HL.out]; rfl) (by rw [HL.out]; kernel_rfl) ?_
    refine reg_no 33 (by decide) (by rw [HL.out]; rfl) (by rw [HL.out]; kernel_rfl) ?_
    refine reg_no 34 (by decide) (by rw [HL.out]; rfl) (by rw [HL.out]; kernel_rfl) ?_
    refine reg_do 35 (by decide) (by rw [HL.out]; rfl) (by rw [HL.out]; kernel_rfl) ?_; intro K hK; go_simp; refine hK _ ?_; clear hK K
    refine reg_do 36 (by decide) (by rw [HL.out]; rfl) (by rw [HL.out]; kernel_rfl) ?_; intro K hK; go_simp; refine hK _ ?_; clear hK K
    refine reg_no 37 (by decide) (by rw [HL.out]; rfl) (by rw [HL.out]; kernel_rfl) ?_
    refine reg_no 38 (by decide) (by rw [HL.out]; rfl) (by rw [HL.out]; kernel_rfl) ?_
    refine reg_no 39 (by decide) (by rw [HL.out]; rfl) (by rw [HL.out]; kernel_rfl) ?_
    refine reg_no 40 (by decide) (by rw [HL.out]; rfl) (by rw [HL.out]; kernel_rfl) ?_
    refine reg_no 41 (by decide) (by rw [HL.out]; rfl) (by rw [HL.out]; kernel_rfl) ?_
    refine reg_no 42 (by decide) (by rw [HL.out]; rfl) (by rw [HL.out]; kernel_rfl) ?_
    refine reg_no 43 (by decide) (by rw [HL.out]; rfl) (by rw [HL.out]; kernel_rfl) ?_
    refine reg_no 44 (by decide) (by rw [HL.out]; rfl) (by rw [HL.out]; kernel_rfl) ?_
    refine reg_do 45 (by decide) (by rw [HL.out]; rfl) (by rw [HL.out]; kernel_rfl) ?_; intro K hK; go_simp; refine hK _ ?_; clear hK K
    refine reg_do 46 (by decide) (by rw [HL.out]; rfl) (by rw [HL.out]; kernel_rfl) ?_; intro K hK; go_simp; refine hK _ ?_; clear hK K
    refine reg_no 47 (by decide) (by rw [HL.out]; rfl) (by rw [HL.out]; kernel_rfl) ?_
    refine reg_no 48 (by decide) (by rw [HL.out]; rfl) (by rw [HL.out]; kernel_rfl) ?_
    refine reg_no 49 (by decide) (by rw [HL.out]; rfl) (by rw [HL.out]; kernel_rfl) ?_
    refine reg_no 50 (by decide) (by rw [HL.out]; rfl) (by rw [HL.out]; kernel_rfl) ?_
    refine reg_no 51 (by decide) (by rw [HL.out]; rfl) (by rw [HL.out]; kernel_rfl) ?_
    refine reg_no 52 (by decide) (by rw [HL.out]; rfl) (by rw [HL.out]; kernel_rfl) ?_
    refine reg_no 53 (by decide) (by rw [HL.out]; rfl) (by rw [HL.out]; kernel_rfl) ?_
    refine reg_no 54 (by decide) (by rw [HL.out]; rfl) (by rw [HL.out]; kernel_rfl) ?_
    refine reg_do 55 (by decide) (by rw [HL.out]; rfl) (by rw [HL.out]; kernel_rfl) ?_; intro K hK; go_simp; refine hK _ ?_; clear hK K
    refine reg_do 56 (by decide) (by rw [HL.out]; rfl) (by rw [HL.out]; kernel_rfl) ?_; intro K hK; go_simp; refine hK _ ?_; clear hK K
    refine reg_no 57 (by decide) (by rw [HL.out]; rfl) (by rw [HL.out]; kernel_rfl) ?_
    refine reg_end ?_
    refine tail_no 58 (by rw [HL.out]; rfl) (by rw [HL.out]; kernel_rfl) ?_
    refine tail_do 59 (by rw [HL.out]; rfl) (by rw [HL.out]; kernel_rfl) ?_; intro K hK; go_simp; refine hK _ _ ?_; clear hK K
    refine tail_do 60 (by rw [HL.out]; rfl) (by rw [HL.out]; kernel_rfl) ?_; intro K hK; go_simp; refine hK _ _ ?_; clear hK K
    refine tail_end 61 (by rw [HL.out]; decide) ?_
    go_wp2_with fail
    go_ret
    exact ⟨ret_b (by rw [HH.out, FF.out]), G.out.drew⟩
  rw [decide_eq_true c]
  have C1 := Lib.hid c
  clear c
  refine reg_do 15 (by decide) (by rw [HL.out]; rfl) (by rw [HL.out]; kernel_rfl) ?_; intro K hK; go_simp; refine hK _ ?_; clear hK K
  refine reg_do 16 (by decide) (by rw [HL.out]; rfl) (by rw [HL.out]; kernel_rfl) ?_; intro K hK; go_simp; refine hK _ ?_; clear hK K
  refine reg_do 17 (by decide) (by rw [HL.out]; rfl) (by rw [HL.out]; kernel_rfl) ?_; intro K hK; go_simp; refine hK _ ?_; clear hK K
  refine reg_do 18 (by decide) (by rw [HL.out]; rfl) (by rw [HL.out]; kernel_rfl) ?_; intro K hK; go_simp; refine hK _ ?_; clear hK K
  refine reg_do 19 (by decide) (by rw [HL.out]; rfl) (by rw [HL.out]; kernel_rfl) ?_; intro K hK; go_simp; refine hK _ ?_; clear hK K
  refine reg_do 20 (by decide) (by rw [HL.out]; rfl) (by rw [HL.out]; kernel_rfl) ?_; intro K hK; go_simp; refine hK _ ?_; clear hK K
  refine reg_do 21 (by decide) (by rw [HL.out]; rfl) (by rw [HL.out]; kernel_rfl) ?_; intro K hK; go_simp; refine hK _ ?_; clear hK K
  refine reg_do 22 (by decide) (by rw [HL.out]; rfl) (by rw [HL.out]; kernel_rfl) ?_; intro K hK; go_simp; refine hK _ ?_; clear hK K
  refine reg_do 23 (by decide) (by rw [HL.out]; rfl) (by rw [HL.out]; kernel_rfl) ?_; intro K hK; go_simp; refine hK _ ?_; clear hK K
  refine reg_do 24 (by decide) (by rw [HL.out]; rfl) (by rw [HL.out]; kernel_rfl) ?_; intro K hK; go_simp; refine hK _ ?_; clear hK K
  by_cases c : f2 ≤ (u.ds.length : Int)
  rotate_left
  · have FF := Lib.hid (NO.out (.inr (.inr (.inl c))))
    rw [decide_eq_false c]
    clear c
    refine reg_do 25 (by decide) (by rw [HL.out]; rfl) (by rw [HL.out]; kernel_rfl) ?_; intro K hK; go_simp; refine hK _ ?_; clear hK K
    refine reg_do 26 (by decide) (by rw [HL.out]; rfl) (by rw [HL.out]; kernel_rfl) ?_; intro K hK; go_simp; refine hK _ ?_; clear hK K
    refine reg_no 27 (by decide) (by rw [HL.out]; rfl) (by rw [HL.out]; kernel_rfl) ?_
    refine reg_no 28 (by decide) (by rw [HL.out]; rfl) (by rw [HL.out]; kernel_rfl) ?_
    refine reg_no 29 (by decide) (by rw [HL.out]; rfl) (by rw [HL.out]; kernel_rfl) ?_
    refine reg_no 30 (by decide) (by rw [HL.out]; rfl) (by rw [HL.out]; kernel_rfl) ?_
    refine reg_no 31 (by decide) (by rw [HL.out]; rfl) (by rw [HL.out]; kernel_rfl) ?_
    refine reg_no 32 (by decide) (by rw [HL.out]; rfl) (by rw [HL.out]; kernel_rfl) ?_
    refine reg_no 33 (by decide) (by rw [HL.out]; rfl) (by rw [HL.out]; kernel_rfl) ?_
    refine reg_no 34 (by decide) (by rw [HL.out]; rfl) (by rw [HL.out]; kernel_rfl) ?_
    refine reg_do 35 (by decide) (by rw [HL.out]; rfl) (by rw [HL.out]; kernel_rfl) ?_; intro K hK; go_simp; refine hK _ ?_; clear hK K
    refine reg_do 36 (by decide) (by rw [HL.out]; rfl) (by rw [HL.out]; kernel_rfl) ?_; intro K hK; go_simp; refine hK _ ?_; clear hK K
    refine reg_no 37 (by decide) (by rw [HL.out]; rfl) (by rw [HL.out]; kernel_rfl) ?_
    refine reg_no 38 (by decide) (by rw [HL.out]; rfl) (by rw [HL.out]; kernel_rfl) ?_
    refine reg_no 39 (by decide) (by rw [HL.out]; rfl) (by rw [HL.out]; kernel_rfl) ?_
    refine reg_no 40 (by decide) (by rw [HL.out]; rfl) (by rw [HL.out]; kernel_rfl) ?_
    refine reg_no 41 (by decide) (by rw [HL.out]; rfl) (by rw [HL.out]; kernel_rfl) ?_
    refine reg_no 42 (by decide) (by rw [HL.out]; rfl) (by rw [HL.out]; kernel_rfl) ?_
    refine reg_no 43 (by decide) (by rw [HL.out]; rfl) (by rw [HL.out]; kernel_rfl) ?_
    refine reg_no 44 (by decide) (by rw [HL.out]; rfl) (by rw [HL.out]; kernel_rfl) ?_
    refine reg_do 45 (by decide) (by rw [HL.out]; rfl) (by rw [HL.out]; kernel_rfl) ?_; intro K hK; go_simp; refine hK _ ?_; clear hK K
    refine reg_do 46 (by decide) (by rw [HL.out]; rfl) (by rw [HL.out]; kernel_rfl) ?_; intro K hK; go_simp; refine hK _ ?_; clear hK K
    refine reg_no 47 (by decide) (by rw [HL.out]; rfl) (by rw [HL.out]; kernel_rfl) ?_
    refine reg_no 48 (by decide) (by rw [HL.out]; rfl) (by rw [HL.out]; kernel_rfl) ?_
    refine reg_no 49 (by decide) (by rw [HL.out]; rfl) (by rw [HL.out]; kernel_rfl) ?_
    refine reg_no 50 (by decide) (by rw [HL.out]; rfl) (by rw [HL.out]; kernel_rfl) ?_
    refine reg_no 51 (by decide) (by rw [HL.out]; rfl) (by rw [HL.out]; kernel_rfl) ?_
    refine reg_no 52 (by decide) (by rw [HL.out]; rfl) (by rw [HL.out]; kernel_rfl) ?_
    refine reg_no 53 (by decide) (by rw [HL.out]; rfl) (by rw [HL.out]; kernel_rfl) ?_
    refine reg_no 54 (by decide) (by rw [HL.out]; rfl) (by rw [HL.out]; kernel_rfl) ?_
    refine reg_do 55 (by decide) (by rw [HL.out]; rfl) (by rw [HL.out]; kernel_rfl) ?_; intro K hK; go_simp; refine hK _ ?_; clear hK K
    refine reg_do 56 (by decide) (by rw [HL.out]; rfl) (by rw [HL.out]; kernel_rfl) ?_; intro K hK; go_simp; refine hK _ ?_; clear hK K
    refine reg_no 57 (by decide) (by rw [HL.out]; rfl) (by rw [HL.out]; kernel_rfl) ?_
    refine reg_end ?_
    refine tail_no 58 (by rw [HL.out]; rfl) (by rw [HL.out]; kernel_rfl) ?_
    refine tail_do 59 (by rw [HL.out]; rfl) (by rw [HL.out]; kernel_rfl) ?_; intro K hK; go_simp; refine hK _ _ ?_; clear hK K
    refine tail_do 60 (by rw [HL.out]; rfl) (by rw [HL.out]; kernel_rfl) ?_; intro K hK; go_simp; refine hK _ _ ?_; clear hK K
    refine tail_end 61 (by rw [HL.out]; decide) ?_
    go_wp2_with fail
    go_ret
    exact ⟨ret_b (by rw [HH.out, FF.out]), G.out.drew⟩
  rw [decide_eq_true c]
  have C2 := Lib.hid c
  clear c
  refine reg_do 25 (by decide) (by rw [HL.out]; rfl) (by rw [HL.out]; kernel_rfl) ?_; intro K hK; go_simp; refine hK _ ?_; clear hK K
  refine reg_do 26 (by decide) (by rw [HL.out]; rfl) (by rw [HL.out]; kernel_rfl) ?_; intro K hK; go_simp; refine hK _ ?_; clear hK K
  refine reg_do 27 (by decide) (by rw [HL.out]; rfl) (by rw [HL.out]; kernel_rfl) ?_; intro K hK; go_simp; refine hK _ ?_; clear hK K
  refine reg_do 28 (by decide) (by rw [HL.out]; rfl) (by rw [HL.out]; kernel_rfl) ?_; intro K hK; go_simp; refine hK _ ?_; clear hK K
  refine reg_do 29 (by decide) (by rw [HL.out]; rfl) (by rw [HL.out]; kernel_rfl) ?_; intro K hK; go_simp; refine hK _ ?_; clear hK K
  refine reg_do 30 (by decide) (by rw [HL.out]; rfl) (by rw [HL.out]; kernel_rfl) ?_; intro K hK; go_simp; refine hK _ ?_; clear hK K
  refine reg_do 31 (by decide) (by rw [HL.out]; rfl) (by rw [HL.out]; kernel_rfl) ?_; intro K hK; go_simp; refine hK _ ?_; clear hK K
  refine reg_do 32 (by decide) (by rw [HL.out]; rfl) (by rw [HL.out]; kernel_rfl) ?_; intro K hK; go_simp; refine hK _ ?_; clear hK K
  refine reg_do 33 (by decide) (by rw [HL.out]; rfl) (by rw [HL.out]; kernel_rfl) ?_; intro K hK; go_simp; refine hK _ ?_; clear hK K
  refine reg_do 34 (by decide) (by rw [HL.out]; rfl) (by rw [HL.out]; kernel_rfl) ?_; intro K hK; go_simp; refine hK _ ?_; clear hK K
  by_cases c : (u.ds.length : Int) ≤ f3
  rotate_left
  · have FF := Lib.hid (NO.out (.inr (.inr (.inr (.inl c)))))
    rw [decide_eq_false c]
    clear c
    refine reg_do 35 (by decide) (by rw [HL.out]; rfl) (by rw [HL.out]; kernel_rfl) ?_; intro K hK; go_simp; refine hK _ ?_; clear hK K
    refine reg_do 36 (by decide) (by rw [HL.out]; rfl) (by rw [HL.out]; kernel_rfl) ?_; intro K hK; go_simp; refine hK _ ?_; clear hK K
    refine reg_no 37 (by decide) (by rw [HL.out]; rfl) (by rw [HL.out]; kernel_rfl) ?_
    refine reg_no 38 (by decide) (by rw [HL.out]; rfl) (by rw [HL.out]; kernel_rfl) ?_
    refine reg_no 39 (by decide) (by rw [HL.out]; rfl) (by rw [HL.out]; kernel_rfl) ?_
    refine reg_no 40 (by decide) (by rw [HL.out]; rfl) (by rw [HL.out]; kernel_rfl) ?_
    refine reg_no 41 (by decide) (by rw [HL.out]; rfl) (by rw [HL.out]; kernel_rfl) ?_
    refine reg_no 42 (by decide) (by rw [HL.out]; rfl) (by rw [HL.out]; kernel_rfl) ?_
    refine reg_no 43 (by decide) (by rw [HL.out]; rfl) (by rw [HL.out]; kernel_rfl) ?_
    refine reg_no 44 (by decide) (by rw [HL.out]; rfl) (by rw [HL.out]; kernel_rfl) ?_
    refine reg_do 45 (by decide) (by rw [HL.out]; rfl) (by rw [HL.out]; kernel_rfl) ?_; intro K hK; go_simp; refine hK _ ?_; clear hK K
    refine reg_do 46 (by decide) (by rw [HL.out]; rfl) (by rw [HL.out]; kernel_rfl) ?_; intro K hK; go_simp; refine hK _ ?_; clear hK K
    refine reg_no 47 (by decide) (by rw [HL.out]; rfl) (by rw [HL.out]; kernel_rfl) ?_
    refine reg_no 48 (by decide) (by rw [HL.out]; rfl) (by rw [HL.out]; kernel_rfl) ?_
    refine reg_no 49 (by decide) (by rw [HL.out]; rfl) (by rw [HL.out]; kernel_rfl) ?_
    refine reg_no 50 (by decide) (by rw [HL.out]; rfl) (by rw [HL.out]; kernel_rfl) ?_
    refine reg_no 51 (by decide) (by rw [HL.out]; rfl) (by rw [HL.out]; kernel_rfl) ?_
    refine reg_no 52 (by decide) (by rw [HL.out]; rfl) (by rw [HL.out]; kernel_rfl) ?_
    refine reg_no 53 (by decide) (by rw [HL.out]; rfl) (by rw [HL.out]; kernel_rfl) ?_
    refine reg_no 54 (by decide) (by rw [HL.out]; rfl) (by rw [HL.out]; kernel_rfl) ?_
    refine reg_do 55 (by decide) (by rw [HL.out]; rfl) (by rw [HL.out]; kernel_rfl) ?_; intro K hK; go_simp; refine hK _ ?_; clear hK K
    refine reg_do 56 (by decide) (by rw [HL.out]; rfl) (by rw [HL.out]; kernel_rfl) ?_; intro K hK; go_simp; refine hK _ ?_; clear hK K
    refine reg_no 57 (by decide) (by rw [HL.out]; rfl) (by rw [HL.out]; kernel_rfl) ?_
    refine reg_end ?_
    refine tail_no 58 (by rw [HL.out]; rfl) (by rw [HL.out]; kernel_rfl) ?_
    refine tail_do 59 (by rw [HL.out]; rfl) (by rw [HL.out]; kernel_rfl) ?_; intro K hK; go_simp; refine hK _ _ ?_; clear hK K
    refine tail_do 60 (by rw [HL.out]; rfl) (by rw [HL.out]; kernel_rfl) ?_; intro K hK; go_simp; refine hK _ _ ?_; clear hK K
    refine tail_end 61 (by rw [HL.out]; decide) ?_
    go_wp2_with fail
    go_ret
    exact ⟨ret_b (by rw [HH.out, FF.out]), G.out.drew⟩
  rw [decide_eq_true c]
  have C3 := Lib.hid c
  clear c
  refine reg_do 35 (by decide) (by rw [HL.out]; rfl) (by rw [HL.out]; kernel_rfl) ?_; intro K hK; go_simp; refine hK _ ?_; clear hK K
  refine reg_do 36 (by decide) (by rw [HL.out]; rfl) (by rw [HL.out]; kernel_rfl) ?_; intro K hK; go_simp; refine hK _ ?_; clear hK K
  refine reg_do 37 (by decide) (by rw [HL.out]; rfl) (by rw [HL.out]; kernel_rfl) ?_; intro K hK; go_simp; refine hK _ ?_; clear hK K
  refine reg_do 38 (by decide) (by rw [HL.out]; rfl) (by rw [HL.out]; kernel_rfl) ?_; intro K hK; go_simp; refine hK _ ?_; clear hK K
  refine reg_do 39 (by decide) (by rw [HL.out]; rfl) (by rw [HL.out]; kernel_rfl) ?_; intro K hK; go_simp; refine hK _ ?_; clear hK K
  refine reg_do 40 (by decide) (by rw [HL.out]; rfl) (by rw [HL.out]; kernel_rfl) ?_; intro K hK; go_simp; refine hK _ ?_; clear hK K
  refine reg_do 41 (by decide) (by rw [HL.out]; rfl) (by rw [HL.out]; kernel_rfl) ?_; intro K hK; go_simp; refine hK _ ?_; clear hK K
  refine reg_do 42 (by decide) (by rw [HL.out]; rfl) (by rw [HL.out]; kernel_rfl) ?_; intro K hK; go_simp; refine hK _ ?_; clear hK K
  refine reg_do 43 (by decide) (by rw [HL.out]; rfl) (by rw [HL.out]; kernel_rfl) ?_; intro K hK; go_simp; refine hK _ ?_; clear hK K
  refine reg_do 44 (by decide) (by rw [HL.out]; rfl) (by rw [HL.out]; kernel_rfl) ?_; intro K hK; go_simp; refine hK _ ?_; clear hK K
  by_cases c : f4 ≤ (u.ks.length : Int)
  rotate_left
  · have FF := Lib.hid (NO.out (.inr (.inr (.inr (.inr (.inl c))))))
    rw [decide_eq_false c]
    clear c
    refine reg_do 45 (by decide) (by rw [HL.out]; rfl) (by rw [HL.out]; kernel_rfl) ?_; intro K hK; go_simp; refine hK _ ?_; clear hK K
    refine reg_do 46 (by decide) (by rw [HL.out]; rfl) (by rw [HL.out]; kernel_rfl) ?_; intro K hK; go_simp; refine hK _ ?_; clear hK K
    refine reg_no 47 (by decide) (by rw [HL.out]; rfl) (by rw [HL.out]; kernel_rfl) ?_
    refine reg_no 48 (by decide) (by rw [HL.out]; rfl) (by rw [HL.out]; kernel_rfl) ?_
    refine reg_no 49 (by decide) (by rw [HL.out]; rfl) (by rw [HL.out]; kernel_rfl) ?_
    refine reg_no 50 (by decide) (by rw [HL.out]; rfl) (by rw [HL.out]; kernel_rfl) ?_
    refine reg_no 51 (by decide) (by rw [HL.out]; rfl) (by rw [HL.out]; kernel_rfl) ?_
    refine reg_no 52 (by decide) (by rw [HL.out]; rfl) (by rw [HL.out]; kernel_rfl) ?_
    refine reg_no 53 (by decide) (by rw [HL.out]; rfl) (by rw [HL.out]; kernel_rfl) ?_
    refine reg_no 54 (by decide) (by rw [HL.out]; rfl) (by rw [HL.out]; kernel_rfl) ?_
    refine reg_do 55 (by decide) (by rw [HL.out]; rfl) (by rw [HL.out]; kernel_rfl) ?_; intro K hK; go_simp; refine hK _ ?_; clear hK K
    refine reg_do 56 (by decide) (by rw [HL.out]; rfl) (by rw [HL.out]; kernel_rfl) ?_; intro K hK; go_simp; refine hK _ ?_; clear hK K
    refine reg_no 57 (by decide) (by rw [HL.out]; rfl) (by rw [HL.out]; kernel_rfl) ?_
    refine reg_end ?_
    refine tail_no 58 (by rw [HL.out]; rfl) (by rw [HL.out]; kernel_rfl) ?_
    refine tail_do 59 (by rw [HL.out]; rfl) (by rw [HL.out]; kernel_rfl) ?_; intro K hK; go_simp; refine hK _ _ ?_; clear hK K
    refine tail_do 60 (by rw [HL.out]; rfl) (by rw [HL.out]; kernel_rfl) ?_; intro K hK; go_simp; refine hK _ _ ?_; clear hK K
    refine tail_end 61 (by rw [HL.out]; decide) ?_
    go_wp2_with fail
    go_ret
    exact ⟨ret_b (by rw [HH.out, FF.out]), G.out.drew⟩
  rw [decide_eq_true c]
  have C4 := Lib.hid c
  clear c
  refine reg_do 45 (by decide) (by rw [HL.out]; rfl) (by rw [HL.out]; kernel_rfl) ?_; intro K hK; go_simp; refine hK _ ?_; clear hK K
  refine reg_do 46 (by decide) (by rw [HL.out]; rfl) (by rw [HL.out]; kernel_rfl) ?_; intro K hK; go_simp; refine hK _ ?_; clear hK K
  refine reg_do 47 (by decide) (by rw [HL.out]; rfl) (by rw [HL.out]; kernel_rfl) ?_; intro K hK; go_simp; refine hK _ ?_; clear hK K
  refine reg_do 48 (by decide) (by rw [HL.out]; rfl) (by rw [HL.out]; kernel_rfl) ?_; intro K hK; go_simp; refine hK _ ?_; clear hK K
  refine reg_do 49 (by decide) (by rw [HL.out]; rfl) (by rw [HL.out]; kernel_rfl) ?_; intro K hK; go_simp; refine hK _ ?_; clear hK K
  refine reg_do 50 (by decide) (by rw [HL.out]; rfl) (by rw [HL.out]; kernel_rfl) ?_; intro K hK; go_simp; refine hK _ ?_; clear hK K
  refine reg_do 51 (by decide) (by rw [HL.out]; rfl) (by rw [HL.out]; kernel_rfl) ?_; intro K hK; go_simp; refine hK _ ?_; clear hK K
  refine reg_do 52 (by decide) (by rw [HL.out]; rfl) (by rw [HL.out]; kernel_rfl) ?_; intro K hK; go_simp; refine hK _ ?_; clear hK K
  refine reg_do 53 (by decide) (by rw [HL.out]; rfl) (by rw [HL.out]; kernel_rfl) ?_; intro K hK; go_simp; refine hK _ ?_; clear hK K
  refine reg_do 54 (by decide) (by rw [HL.out]; rfl) (by rw [HL.out]; kernel_rfl) ?_; intro K hK; go_simp; refine hK _ ?_; clear hK K
  by_cases c : (u.ks.length : Int) ≤ f5
  rotate_left
  · have FF := Lib.hid (NO.out (.inr (.inr (.inr (.inr (.inr c))))))
    rw [decide_eq_false c]
    clear c
    refine reg_do 55 (by decide) (by rw [HL.out]; rfl) (by rw [HL.out]; kernel_rfl) ?_; intro K hK; go_simp; refine hK _ ?_; clear hK K
    refine reg_do 56 (by decide) (by rw [HL.out]; rfl) (by rw [HL.out]; kernel_rfl) ?_; intro K hK; go_simp; refine hK _ ?_; clear hK K
    refine reg_no 57 (by decide) (by rw [HL.out]; rfl) (by rw [HL.out]; kernel_rfl) ?_
    refine reg_end ?_
    refine tail_no 58 (by rw [HL.out]; rfl) (by rw [HL.out]; kernel_rfl) ?_
    refine tail_do 59 (by rw [HL.out]; rfl) (by rw [HL.out]; kernel_rfl) ?_; intro K hK; go_simp; refine hK _ _ ?_; clear hK K
    refine tail_do 60 (by rw [HL.out]; rfl) (by rw [HL.out]; kernel_rfl) ?_; intro K hK; go_simp; refine hK _ _ ?_; clear hK K
    refine tail_end 61 (by rw [HL.out]; decide) ?_
    go_wp2_with fail
    go_ret
    exact ⟨ret_b (by rw [HH.out, FF.out]), G.out.drew⟩
  rw [decide_eq_true c]
  have C5 := Lib.hid c
  clear c
  refine reg_do 55 (by decide) (by rw [HL.out]; rfl) (by rw [HL.out]; kernel_rfl) ?_; intro K hK; go_simp; refine hK _ ?_; clear hK K
  refine reg_do 56 (by decide) (by rw [HL.out]; rfl) (by rw [HL.out]; kernel_rfl) ?_; intro K hK; go_simp; refine hK _ ?_; clear hK K
  refine reg_do 57 (by decide) (by rw [HL.out]; rfl) (by rw [HL.out]; kernel_rfl) ?_; intro K hK; go_simp; refine hK _ ?_; clear hK K
  have FF := Lib.hid (YE.out C0.out C1.out C2.out C3.out C4.out C5.out)
  refine reg_end ?_
  refine tail_do 58 (by rw [HL.out]; rfl) (by rw [HL.out]; kernel_rfl) ?_
  intro K hK
  go_wp2_with fail
  refine (impl_namesOnly u _ b o 24 (A.out.grow (Gw.refl W).drew)).mono ?_
  rintro e w1 ⟨rfl, g1⟩
  go_wp2_with fail
  refine tail_do 59 (by rw [HL.out]; rfl) (by rw [HL.out]; kernel_rfl) ?_; intro K hK; go_simp; refine hK _ _ ?_; clear hK K
  refine tail_do 60 (by rw [HL.out]; rfl) (by rw [HL.out]; kernel_rfl) ?_; intro K hK; go_simp; refine hK _ _ ?_; clear hK K
  refine tail_end 61 (by rw [HL.out]; decide) ?_
  go_wp2_with fail
  go_ret
  exact ⟨ret_b (by rw [HH.out, FF.out, NM.out]), G.out.drew.trans g1⟩

end Go.Proofs.YtkpbiifikkbaeaaDoor.Con
