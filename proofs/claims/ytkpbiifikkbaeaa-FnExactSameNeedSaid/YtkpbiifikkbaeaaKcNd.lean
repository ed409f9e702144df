/-
  Contracts of EqualFunc over whole numbers and of listComparer at whole numbers. Condition: the rows lie in blocks of cells.
-/
import Derived.Test.YtkpbiifikkbaeaaSmMapNum
import Derived.Test.YtkpbiifikkbaeaaSr
import Derived.Test.YtkpbiifikkbaeaaCo
import Derived.LoopTactic
import Derived.Deep.QuietTactic
import Derived.BigQuiet
import Derived.Deep.RegionHeld3
import Derived.Deep.Cut
import Derived.Laws.EntriesVeiled
namespace Go.Proofs.Ytkpbiifikkbaeaa.Con.KNmS
open Go.RowKit Go.Proofs.Ytkpbiifikkbaeaa.Con Go.Proofs.Ytkpbiifikkbaeaa.Con.KNum
set_option linter.unusedVariables false

def nCnt : Int → Nat := fun _ => 0
theorem nUq : gUniq nE nOk := fun w x y _ _ e => by
  unfold nE at e
  simpa using e
def FOk (w : World) (x : Int) : Prop := nOk w x
theorem free_gw {w w' : World} (g : Gw w w') : ∀ c, Free w c → w'.heap[c]? = w.heap[c]? := fun c h => g.block c h.lt
abbrev Mp (w : World) (M : Nat) (S : Value → Prop) : Prop := KMp 1 nE nOk nB (fun x y : Int => x = y) w M S
abbrev Bg (w : World) (S : Value → Prop) (n : Nat) : Prop := KBig 1 nE nOk nB nCnt w S n
abbrev RF (w : World) (b o : Nat) (xs : List Int) : Prop := RowF 1 nE nOk nB w b o xs
abbrev AllEq (xs ys : List Int) : Prop := All2 (fun x y : Int => x = y) xs ys
theorem all_iff (xs ys : List Int) : AllEq xs ys ↔ xs = ys := ⟨fun h => List.ext_getElem h.1 h.2, fun h => by subst h; exact ⟨rfl, fun _ _ _ => rfl⟩⟩
theorem RF.el {w : World} {b o : Nat} {xs : List Int} (h : RF w b o xs) (i : Nat) (hi : i < xs.length) : w.cell? ⟨b, o + i, none⟩ = some (.int .i64 xs[i]) ∧ FOk w xs[i] := ⟨(numRow_get h.1 i hi).1, (h.1 i hi).2⟩

def CmpPost (k : Kb) (I : World → Prop) (T : Nat → Prop) (w : World) (S : Value → Prop) (x y : Int) (e : Ending) (w' : World) : Prop := ∃ r : Bool, e = .returned (.bool r) ∧ (r = true ↔ x = y) ∧ Chg w w' T ∧ (r = true → I w' ∧ Mp w' k.M S)
def RowPost (k : Kb) (I : World → Prop) (T : Nat → Prop) (w : World) (S : Value → Prop) (xs ys : List Int) (e : Ending) (w' : World) : Prop := ∃ r : Bool, e = .returned (.bool r) ∧ (r = true ↔ AllEq xs ys) ∧ Chg w w' T ∧ (r = true → I w' ∧ Mp w' k.M S)
def CmpC (k : Kb) (I : World → Prop) (T : Nat → Prop) (x : Int) : Prop := ∀ (y : Int) (w : World) (S : Value → Prop), FOk w x → FOk w y → I w → Mp w k.M S → Bg w S (2 * nCnt x) →
  Calls Try.prog 18 #[.int .i64 x, .int .i64 y] w (CmpPost k I T w S x y)

set_option maxRecDepth 100000 in
set_option maxHeartbeats 2000000 in
theorem eqf (k : Kb) (I : World → Prop) (T : Nat → Prop) (R : Srr k.M I T) (xs ys : List Int) (ih : ∀ u ∈ xs, CmpC k I T u) (n : Nat) (hx : xs.length = n) (hy : ys.length = n) (hn : n ≤ 9223372036854775807) (w : World) (b o b' o' c c' : Nat) (S : Value → Prop) (hcx : n ≤ c) (hcy : n ≤ c') (hxr : RF w b o xs) (hyr : RF w b' o' ys) (hI : I w) (hmp : Mp w k.M S) (hbig : ∀ u ∈ xs, Bg w S (2 * nCnt u)) :
    Calls Try.prog 42 #[.slice (some ⟨b, o, none⟩) n c, .slice (some ⟨b', o', none⟩) n c', .func (.func 18) #[] #[]] w (RowPost k I T w S xs ys) := by
  have HX := Lib.hid hx
  have HY := Lib.hid hy
  have RX := Lib.hid hxr
  have RY := Lib.hid hyr
  have EN := Lib.hid (show I w ∧ Mp w k.M S from ⟨hI, hmp⟩)
  have BG := Lib.hid hbig
  have RR := Lib.hid R
  have hnn : ((n : Int) != (n : Int)) = false := by simp
  clear hx hy hxr hyr hI hmp hbig R
  go_enter Try.func42, Try.ntmps42
  go_wp2_with fail
  clear hnn
  go_loopw [17] (fun i wr => ∃ j : Nat, j ≤ n ∧ i = .int .i64 j ∧ Chg w wr T ∧ (I wr ∧ Mp wr k.M S) ∧ ∀ i (hx : i < xs.length) (hy : i < ys.length), i < j → xs[i] = ys[i]) (fun i _ => n - (intOf i).toNat)
  case atStart => exact ⟨0, Nat.zero_le _, rfl, Chg.of_gw (Gw.refl _) _, EN.out, fun i _ _ h => absurd h (by omega)⟩
  case round =>
    obtain ⟨j, hj, rfl, hc, hm, hall⟩ := hrel
    have HC := Lib.hid hc
    have HM := Lib.hid hm
    have HALL := Lib.hid hall
    have hk := RR.out.free EN.out.1 EN.out.2 hc
    have RX3 := Lib.hid (RX.out.keep nFr hk)
    have RY3 := Lib.hid (RY.out.keep nFr hk)
    have BG3 := Lib.hid (fun u hu => (BG.out u hu).keep nFr hk)
    clear hc hm hall hk
    by_cases hlt : j < n
    · have hx := HX.out
      have hy := HY.out
      have hjx : j < xs.length := by omega
      have hjy : j < ys.length := by omega
      obtain ⟨c0, fx⟩ := RF.el RX3.out j hjx
      obtain ⟨d0, fy⟩ := RF.el RY3.out j hjy
      have FX := Lib.hid fx
      have FY := Lib.hid fy
      have r0 : (0 : Int) ≤ j := by omega
      have r1 : (j : Int) < n := by omega
      have lX : b < wr.heap.size := cell_lt c0
      have lY : b' < wr.heap.size := cell_lt d0
      clear fx fy hx hy
      have KEY := Lib.hid (ih xs[j] (List.getElem_mem hjx) ys[j] wr S FX.out FY.out HM.out.1 HM.out.2 (BG3.out _ (List.getElem_mem hjx)))
      have GA := HC
      go_wp2_with fail
      refine KEY.out.mono ?_
      rintro e w4 ⟨r, rfl, hr, hc4, hm4⟩
      have C4 := Lib.hid (GA.out.trans hc4 (fun _ _ h => h))
      clear KEY hc4 c0 d0 lX lY
      cases r with
      | false =>
        have F := Lib.hid (show ¬ AllEq xs ys from fun h => by have := hr.2 (h.2 j hjx hjy); cases this)
        clear hr hm4
        go_wp2_with fail
        go_ret
        exact ⟨false, rfl, by simp [F.out], C4.out, fun h => by cases h⟩
      | true =>
        have HE := Lib.hid (hr.1 rfl)
        have HM4 := Lib.hid (hm4 rfl)
        clear hr hm4
        go_wp2_with fail
        go_roundw
        case rel =>
          refine ⟨j + 1, by omega, by go_num, C4.out, HM4.out, fun i hx hy hi => ?_⟩
          by_cases e : i = j
          · subst e; exact HE.out
          · exact HALL.out i hx hy (by omega)
        case measure => simp [intOf]; omega
    · obtain rfl : j = n := by omega
      have F := Lib.hid (show AllEq xs ys from ⟨HX.out.trans HY.out.symm, fun i hx hy => HALL.out i hx hy (by have := HX.out; omega)⟩)
      go_wp2_with fail
      go_ret
      exact ⟨true, rfl, by simp [F.out], HC.out, fun _ => HM.out⟩

theorem eqf' (k : Kb) (I : World → Prop) (T : Nat → Prop) (R : Srr k.M I T) (xs ys : List Int) (ih : ∀ u ∈ xs, CmpC k I T u) (n m : Nat) (hnm : n = m) (hx : n = xs.length) (hy : m = ys.length) (hn : n ≤ 9223372036854775807) (w : World) (b o b' o' c c' : Nat) (S : Value → Prop) (hcx : n ≤ c) (hcy : m ≤ c') (hxr : RF w b o xs) (hyr : RF w b' o' ys) (hI : I w) (hmp : Mp w k.M S) (hbig : ∀ u ∈ xs, Bg w S (2 * nCnt u)) :
    Calls Try.prog 42 #[.slice (some ⟨b, o, none⟩) n c, .slice (some ⟨b', o', none⟩) m c', .func (.func 18) #[] #[]] w (RowPost k I T w S xs ys) := by
  subst hnm
  exact eqf k I T R xs ys ih n hx.symm hy.symm hn w b o b' o' c c' S hcx hcy hxr hyr hI hmp hbig

/-- A list to be compared. -/
def LF (w : World) (a : Option Addr) (c : Nat) (xs : List Int) : Prop := xs.length ≤ c ∧ c ≤ maxLen ∧ (0 < xs.length → ∃ b o, a = some ⟨b, o, none⟩ ∧ RF w b o xs)
/-- The two boxes of the closure of listComparer. -/
def LCaps (k : Kb) (w : World) : Prop := w.heap[k.CM]? = some (.cells #[.map (some k.M)] 86 (0, 0)) ∧ w.heap[k.CS]? = some (.cells #[.func (.func 18) #[] #[]] 57 (0, 0))
theorem LCaps.keep {k : Kb} {w w' : World} (h : LCaps k w) (hk : ∀ c, Free w c → w'.heap[c]? = w.heap[c]?) : LCaps k w' := ⟨(hk _ ⟨_, _, h.1⟩).trans h.1, (hk _ ⟨_, _, h.2⟩).trans h.2⟩
theorem row_false {k : Kb} {I : World → Prop} {T : Nat → Prop} {w w' : World} {S : Value → Prop} {xs ys : List Int} (h : ¬ AllEq xs ys) (hc : Chg w w' T) : RowPost k I T w S xs ys (.returned (.bool false)) w' := ⟨false, rfl, by simp [h], hc, fun h => by cases h⟩
theorem row_true {k : Kb} {I : World → Prop} {T : Nat → Prop} {w w' : World} {S : Value → Prop} {xs ys : List Int} (h : AllEq xs ys) (hc : Chg w w' T) (hm : I w' ∧ Mp w' k.M S) : RowPost k I T w S xs ys (.returned (.bool true)) w' := ⟨true, rfl, by simp [h], hc, fun _ => hm⟩

set_option maxRecDepth 100000 in
set_option maxHeartbeats 1000000 in
theorem list_of (k : Kb) (I : World → Prop) (T : Nat → Prop) (R : Srr k.M I T) (HC : ∀ w, I w → LCaps k w) (xs ys : List Int) (ih : ∀ u ∈ xs, CmpC k I T u) (w : World) (ax ay : Option Addr) (cx cy : Nat) (S : Value → Prop) (hx : LF w ax cx xs) (hy : LF w ay cy ys) (hI : I w) (hmp : Mp w k.M S) (hbig : 0 < xs.length → Bg w S (2 * cl nCnt xs + 1)) :
    Calls Try.prog 41 #[.slice ax xs.length cx, .slice ay ys.length cy, .pointer (some ⟨k.CM, 0, none⟩), .pointer (some ⟨k.CS, 0, none⟩)] w (RowPost k I T w S xs ys) := by
  have hlx : xs.length ≤ 9223372036854775807 := Nat.le_trans hx.1 hx.2.1
  have hly : ys.length ≤ 9223372036854775807 := Nat.le_trans hy.1 hy.2.1
  have EN := Lib.hid (show I w ∧ Mp w k.M S from ⟨hI, hmp⟩)
  have RR := Lib.hid R
  have CP := Lib.hid (HC w hI)
  have HCC := Lib.hid HC
  have FX := Lib.hid hx
  have FY := Lib.hid hy
  have BG := Lib.hid hbig
  clear hI hmp R HC hx hy hbig
  obtain ⟨n, hn⟩ : ∃ n, n = xs.length := ⟨_, rfl⟩
  obtain ⟨m, hm⟩ : ∃ m, m = ys.length := ⟨_, rfl⟩
  have HN := Lib.hid hn
  have HM := Lib.hid hm
  rw [← hn] at hlx ⊢
  rw [← hm] at hly ⊢
  clear hn hm
  by_cases hl : n = m
  rotate_left
  · have q1 : ((n : Int) != (m : Int)) = true := by simp; omega
    have F := Lib.hid (show ¬ AllEq xs ys from fun e => hl (by rw [HN.out, HM.out]; exact e.1))
    clear hl
    go_enter Try.func41, Try.ntmps41
    go_wp2_with fail
    go_ret
    exact row_false F.out (Chg.of_gw (Gw.refl _) _)
  have q1 : ((n : Int) != (m : Int)) = false := by simp; omega
  have HL := Lib.hid hl
  clear hl
  by_cases h0 : n = 0
  · have q2 : ((n : Int) == 0) = true := by simp; exact h0
    have F := Lib.hid (show AllEq xs ys from ⟨by rw [← HN.out, ← HM.out]; exact HL.out, fun i hx => absurd hx (by rw [← HN.out]; omega)⟩)
    clear h0
    go_enter Try.func41, Try.ntmps41
    go_wp2_with fail
    go_ret
    exact row_true F.out (Chg.of_gw (Gw.refl _) _) EN.out
  have q2 : ((n : Int) == 0) = false := by simp; exact h0
  have hp : (0 : Int) < n := by omega
  have hp2 : (0 : Int) < m := by have := HL.out; omega
  have hpn : 0 < n := by omega
  have hpm : 0 < m := by omega
  obtain ⟨bx, ox, hax, rx⟩ := FX.out.2.2 (by rw [← HN.out]; exact hpn)
  obtain ⟨by', oy, hay, ry⟩ := FY.out.2.2 (by rw [← HM.out]; exact hpm)
  have BG := Lib.hid (BG.out (by rw [← HN.out]; exact hpn))
  rw [hax, hay]
  have RX := Lib.hid rx
  have RY := Lib.hid ry
  have CXY := Lib.hid (show n ≤ cx ∧ m ≤ cy from ⟨by rw [HN.out]; exact FX.out.1, by rw [HM.out]; exact FY.out.1⟩)
  clear rx ry hax hay h0
  go_enter Try.func41, Try.ntmps41
  go_upto_region 5 with (fail)
  go_region_held3 (fun W => True) (first | exact trivial) (first | fail)
  have gB : Gw w ((w.alloc (.cells #[.pointer (some ⟨bx, ox, none⟩), .pointer (some ⟨by', oy, none⟩), .int .i64 n] 89)).drew) := ((Gw.refl w).alloc _).drew
  have hk := free_gw gB
  replace EN := Lib.hid (show I _ ∧ Mp _ k.M S from ⟨RR.out.gw EN.out.1 gB, KMp.gw nFr EN.out.2 gB⟩)
  replace CP := Lib.hid (CP.out.keep hk)
  replace BG := Lib.hid (BG.out.keep nFr hk)
  have HC := Lib.hid (Chg.of_gw gB T)
  replace RX := Lib.hid (RX.out.keep nFr hk)
  replace RY := Lib.hid (RY.out.keep nFr hk)
  have hkey : ((w.alloc (.cells #[.pointer (some ⟨bx, ox, none⟩), .pointer (some ⟨by', oy, none⟩), .int .i64 n] 89)).drew).heap[w.heap.size]? = some (.cells #[.pointer (some ⟨bx, ox, none⟩), .pointer (some ⟨by', oy, none⟩), .int .i64 n] 89 (0, 0)) := heap_alloc_new w _
  have c0 : ((w.alloc (.cells #[.pointer (some ⟨bx, ox, none⟩), .pointer (some ⟨by', oy, none⟩), .int .i64 n] 89)).drew).cell? ⟨w.heap.size, 0, none⟩ = some (.pointer (some ⟨bx, ox, none⟩)) := cell_of_row _ _ 0 _ _ _ hkey
  have c1 : ((w.alloc (.cells #[.pointer (some ⟨bx, ox, none⟩), .pointer (some ⟨by', oy, none⟩), .int .i64 n] 89)).drew).cell? ⟨w.heap.size, 1, none⟩ = some (.pointer (some ⟨by', oy, none⟩)) := cell_of_row _ _ 1 _ _ _ hkey
  have c2 : ((w.alloc (.cells #[.pointer (some ⟨bx, ox, none⟩), .pointer (some ⟨by', oy, none⟩), .int .i64 n] 89)).drew).cell? ⟨w.heap.size, 2, none⟩ = some (.int .i64 n) := cell_of_row _ _ 2 _ _ _ hkey
  clear gB hk hkey
  generalize ((w.alloc (.cells #[.pointer (some ⟨bx, ox, none⟩), .pointer (some ⟨by', oy, none⟩), .int .i64 n] 89)).drew) = W5 at *
  have m0 : W5.cell? ⟨k.CM, 0, none⟩ = some (.map (some k.M)) := cell_of_row _ _ 0 _ _ _ CP.out.1
  obtain ⟨es, cl0, hm, hE⟩ := EN.out.2
  have hK : ∀ e ∈ es.toList, KeyE W5 e := fun e he => by
    obtain ⟨hv, b1, o1, b2, o2, xs', ys', k1, _, k3, k4, _⟩ := hE e he
    exact ⟨hv, _, _, _, k1, k3.2.1, k4.2.1⟩
  obtain ⟨c, hl, ht, hf⟩ := look_run (a := ⟨bx, ox, none⟩) (b := ⟨by', oy, none⟩) n hm hK RX.out.2.1 RY.out.2.1
  have HE := Lib.hid hE
  have HMM := Lib.hid hm
  have LL := Lib.hid (show xs.length = ys.length by rw [← HN.out, ← HM.out]; exact HL.out)
  clear hE hK hm
  unfold kl at hl
  cases c with
  | true =>
    have hall : AllEq xs ys := kfound nLen nUq HE.out RX.out RY.out LL.out BG.out (Nat.le_refl _) (by rw [← HN.out]; exact ht rfl)
    have F := Lib.hid hall
    clear ht hf hall
    go_wp2_with fail
    go_ret
    exact row_true F.out HC.out EN.out
  | false =>
    have hput : (Instr.mapUpdate 86 (.map (some k.M)) (.agg #[.pointer (some ⟨bx, ox, none⟩), .pointer (some ⟨by', oy, none⟩), .int .i64 n]) (.bool true)).run Try.prog W5 = .ok () (kput W5 k.M es cl0 (kl ⟨bx, ox, none⟩ ⟨by', oy, none⟩ n)) := put_run HMM.out (hf rfl)
    have hk := fun c (hc : Free W5 c) => kfree_keep HMM.out (kput_chg (es := es) (cl := cl0) (v := kl ⟨bx, ox, none⟩ ⟨by', oy, none⟩ n)) hc
    have hmp6 := kput_mp (S := S) nFr HMM.out HE.out RX.out RY.out LL.out
    have hbg6 : ∀ u ∈ xs, KBig 1 nE nOk nB nCnt W5 (fun v => S v ∨ v = kl ⟨bx, ox, none⟩ ⟨by', oy, none⟩ xs.length) (2 * nCnt u) := fun u hu => KBig.put BG.out RX.out hu (Nat.le_refl _)
    rw [← HN.out] at hmp6 hbg6
    have C6 := Lib.hid (HC.out.trans (kput_chg (w := W5) (es := es) (cl := cl0) (v := kl ⟨bx, ox, none⟩ ⟨by', oy, none⟩ n)) (fun x _ h => by rw [h]; exact RR.out.own))
    have I6 := Lib.hid (RR.out.put EN.out.1 (kput_chg (w := W5) (es := es) (cl := cl0) (v := kl ⟨bx, ox, none⟩ ⟨by', oy, none⟩ n)) hk)
    have CP6 := Lib.hid (CP.out.keep hk)
    have RX6 := Lib.hid (RX.out.keep nFr hk)
    have RY6 := Lib.hid (RY.out.keep nFr hk)
    have MP6 := Lib.hid hmp6
    have BG6 := Lib.hid (fun u hu => (hbg6 u hu).keep nFr hk)
    clear ht hf hk hmp6 hbg6
    generalize kput W5 k.M es cl0 (kl ⟨bx, ox, none⟩ ⟨by', oy, none⟩ n) = W6 at *
    have f0 : W6.cell? ⟨k.CS, 0, none⟩ = some (.func (.func 18) #[] #[]) := cell_of_row _ _ 0 _ _ _ CP6.out.2
    have KEY := Lib.hid (eqf' k I T RR.out xs ys ih n m HL.out HN.out HM.out (by rw [HN.out]; exact Nat.le_trans FX.out.1 FX.out.2.1) W6 bx ox by' oy cx cy _ CXY.out.1 CXY.out.2 RX6.out RY6.out I6.out MP6.out BG6.out)
    go_wp2_with fail
    refine KEY.out.mono ?_
    rintro e w7 ⟨r, rfl, hr, hc7, hm7⟩
    have C7 := Lib.hid (C6.out.trans hc7 (fun _ _ h => h))
    have hk7 := RR.out.free I6.out MP6.out hc7
    have RX7 := Lib.hid (RX6.out.keep nFr hk7)
    have RY7 := Lib.hid (RY6.out.keep nFr hk7)
    clear hk7 hc7 hl hput c0 c1 c2 m0 f0
    cases r with
    | false =>
      have F := Lib.hid (show ¬ AllEq xs ys from fun h => by have := hr.2 h; cases this)
      clear hr hm7
      go_wp2_with fail
      go_ret
      exact row_false F.out C7.out
    | true =>
      have HA := Lib.hid (hr.1 rfl)
      have M7 := (hm7 rfl).2
      rw [HN.out] at M7
      have M8 := Lib.hid (show I w7 ∧ Mp w7 k.M S from ⟨(hm7 rfl).1, KMp.shut nLen nUq M7 RX7.out RY7.out HA.out⟩)
      clear hr hm7 M7
      go_wp2_with fail
      go_ret
      exact row_true HA.out C7.out M8.out

def LcPost (k : Kb) (w : World) (e : Ending) (w' : World) : Prop := ∃ M CM CS, e = .returned (.func (.func 41) #[] #[.pointer (some ⟨CM, 0, none⟩), .pointer (some ⟨CS, 0, none⟩)]) ∧ LCaps { k with M := M, CM := CM, CS := CS } w' ∧ w'.heap[M]? = some (.map #[] 0) ∧ Gw w w' ∧ w.heap.size ≤ M

set_option maxRecDepth 100000 in
theorem impl_lc (k : Kb) (w : World) : Calls Try.prog 17 #[.func (.func 18) #[] #[]] w (LcPost k w) := by
  have hmm := @run_makeMap Try.prog
  have gW : Gw w (((w.alloc (.cells #[.func (.func 18) #[] #[]] 57)).alloc (.map #[] 0)).alloc (.cells #[.map (some (w.heap.size + 1))] 86)) := (((Gw.refl w).alloc _).alloc _).alloc _
  have e0 : (((w.alloc (.cells #[.func (.func 18) #[] #[]] 57)).alloc (.map #[] 0)).alloc (.cells #[.map (some (w.heap.size + 1))] 86)).heap[w.heap.size]? = some (.cells #[.func (.func 18) #[] #[]] 57 (0, 0)) := by
    rw [Below.heap_alloc _ _ _ (by simp <;> omega), Below.heap_alloc _ _ _ (by simp)]
    exact heap_alloc_new _ _
  have e1 : (((w.alloc (.cells #[.func (.func 18) #[] #[]] 57)).alloc (.map #[] 0)).alloc (.cells #[.map (some (w.heap.size + 1))] 86)).heap[w.heap.size + 1]? = some (.map #[] 0) := by
    rw [Below.heap_alloc _ _ _ (by simp)]
    have := heap_alloc_new (w.alloc (.cells #[.func (.func 18) #[] #[]] 57)) (.map #[] 0)
    rwa [World.size_alloc] at this
  have e2 : (((w.alloc (.cells #[.func (.func 18) #[] #[]] 57)).alloc (.map #[] 0)).alloc (.cells #[.map (some (w.heap.size + 1))] 86)).heap[w.heap.size + 1 + 1]? = some (.cells #[.map (some (w.heap.size + 1))] 86 (0, 0)) := by
    have := heap_alloc_new ((w.alloc (.cells #[.func (.func 18) #[] #[]] 57)).alloc (.map #[] 0)) (.cells #[.map (some (w.heap.size + 1))] 86)
    rwa [World.size_alloc, World.size_alloc] at this
  have F := Lib.hid (show LcPost k w (.returned (.func (.func 41) #[] #[.pointer (some ⟨w.heap.size + 1 + 1, 0, none⟩), .pointer (some ⟨w.heap.size, 0, none⟩)])) _ from ⟨_, _, _, rfl, ⟨e2, e0⟩, e1, gW, by omega⟩)
  clear gW e0 e1 e2
  go_enter Try.func17, Try.ntmps17
  go_wp2_with fail
  go_ret
  exact F.out

theorem cmp_all (k : Kb) (I : World → Prop) (T : Nat → Prop) (x : Int) : CmpC k I T x := by
  intro y w S hx hy hI hmp hbig
  have F := Lib.hid (show CmpPost k I T w S x y (.returned (.bool (x == y))) w from ⟨_, rfl, by simp, Chg.of_gw (Gw.refl _) _, fun _ => ⟨hI, hmp⟩⟩)
  clear hx hy hI hmp hbig
  go_enter Try.func18, Try.ntmps18
  go_wp2_with fail
  go_ret
  exact F.out

theorem nsr (k : Kb) : Srr k.M (LCaps k) (fun b => b = k.M) := ⟨rfl, fun h g => h.keep (free_gw g), fun _ h => .inl h, fun h _ hk => h.keep hk⟩
/-- listComparer's closure at whole numbers. -/
theorem list_all (k : Kb) (xs ys : List Int) (w : World) (ax ay : Option Addr) (cx cy : Nat) (hx : LF w ax cx xs) (hy : LF w ay cy ys) (hI : LCaps k w) (hmp : Mp w k.M (fun _ => False)) :
    Calls Try.prog 41 #[.slice ax xs.length cx, .slice ay ys.length cy, .pointer (some ⟨k.CM, 0, none⟩), .pointer (some ⟨k.CS, 0, none⟩)] w fun e w' => ∃ r : Bool, e = .returned (.bool r) ∧ (r = true ↔ xs = ys) ∧ Chg w w' (fun b => b = k.M) ∧ (r = true → LCaps k w' ∧ Mp w' k.M (fun _ => False)) := by
  refine (list_of k (LCaps k) _ (nsr k) (fun _ h => h) xs ys (fun u _ => cmp_all k _ _ u) w ax ay cx cy _ hx hy hI hmp (fun _ v hv => hv.elim)).mono ?_
  rintro e w' ⟨r, rfl, h1, h2, h3⟩
  exact ⟨r, rfl, h1.trans (all_iff xs ys), h2, h3⟩

end Go.Proofs.Ytkpbiifikkbaeaa.Con.KNmS
