/-
  How deep the boxes of a term stand, as a function on terms without addresses; contracts of the model's BoxDepth and of the program's. Condition: the term lies in memory, and the table of forms reads as the program's text lays it.
-/
import Derived.Test.YtkfplnnncfkjfaaDoorTmSize
namespace Go.Proofs.YtkfplnnncfkjfaaDoor.Con
open Go.RowKit
set_option linter.unusedVariables false

def bxI (k : Int) : Nat := if k = 6 then 1 else 0
theorem bxI_le (k : Int) : bxI k ≤ 1 := by unfold bxI; split <;> omega
theorem bxI_yes {k : Int} (h : (k == 6) = true) : bxI k = 1 := if_pos (by simpa using h)
theorem bxI_no {k : Int} (h : (k == 6) = false) : bxI k = 0 := if_neg (by simpa using h)
def Tm.bd : Tm → Nat
  | .mk k _ _ _ _ ks => bxI k + bds ks
where bds : List Tm → Nat
  | [] => 0
  | t :: ts => max t.bd (bds ts)
abbrev bds (ks : List Tm) : Nat := Tm.bd.bds ks
theorem bd_eq (t : Tm) : t.bd = bxI t.k + bds t.ks := by cases t; rw [Tm.bd]; rfl
theorem bds_take (ks : List Tm) (i : Nat) (hi : i < ks.length) : bds (ks.take (i + 1)) = max (bds (ks.take i)) ks[i].bd := by
  induction ks generalizing i with
  | nil => simp at hi
  | cons t ts ih =>
    cases i with
    | zero => simp [bds, Tm.bd.bds]
    | succ i => simp only [List.take_succ_cons, bds, Tm.bd.bds, List.getElem_cons_succ]; have := ih i (by simpa using hi); simp only [bds] at this; omega
theorem bds_le {ks : List Tm} (h : ∀ t ∈ ks, t.bd ≤ t.dp) : bds ks ≤ dps ks := by
  induction ks with
  | nil => simp [bds, Tm.bd.bds, dps, Tm.dp.dps]
  | cons t ts ih =>
    simp only [bds, Tm.bd.bds, dps, Tm.dp.dps]
    have h1 := h t (by simp)
    have h2 := ih fun u hu => h u (by simp [hu])
    simp only [bds, dps] at h2
    omega
theorem Tm.ind {P : Tm → Prop} (h : ∀ k m n t ns ks, (∀ u ∈ ks, P u) → P (.mk k m n t ns ks)) : ∀ u, P u := fun u =>
  Tm.rec (motive_1 := P) (motive_2 := fun ks => ∀ u ∈ ks, P u) (fun k m n t ns ks ih => h k m n t ns ks ih) (fun _ h => by cases h)
    (fun t ts ht hts u hu => by
      rcases List.mem_cons.1 hu with rfl | hu
      · exact ht
      · exact hts u hu) u
theorem bd_le (t : Tm) : t.bd ≤ t.dp := by
  refine Tm.ind (P := fun t => t.bd ≤ t.dp) (fun k m n t ns ks ih => ?_) t
  rw [bd_eq, dp_eq]
  have := bds_le ih
  show bxI k + bds ks ≤ 1 + dps ks
  unfold bxI
  split <;> omega

/-- The boxes over the first j kids. -/
def bdm (u : LM) (j : Nat) : Nat := bds ((u.ks.map LM.tm).take j)
theorem bdm_succ (u : LM) (j : Nat) (hj : j < u.ks.length) : bdm u (j + 1) = max (bdm u j) u.ks[j].tm.bd := by
  unfold bdm
  rw [bds_take _ _ (by simpa using hj)]
  simp only [List.getElem_map]
theorem bdm_all (u : LM) : bxI u.k + bdm u u.ks.length = u.tm.bd := by
  unfold bdm
  rw [bd_eq, LM.tm_ks, List.take_of_length_le (by simp), LM.tm_k]
def bdn (u : LM) (j : Nat) : Nat := if j = 0 then 0 else bxI u.k + bdm u j
theorem bdn_succ (u : LM) (j : Nat) (hj : j < u.ks.length) : bdn u (j + 1) = max (bdn u j) (bxI u.k + u.ks[j].tm.bd) := by
  unfold bdn
  rw [if_neg (by omega), bdm_succ u j hj]
  by_cases e : j = 0
  · subst e
    simp [bdm, bds, Tm.bd.bds]
  · rw [if_neg e]; omega
/-- A box has a kid, if the term is valid. -/
theorem ok_box {t : Tm} {c : Bool} (h : t.ok c = true) (h6 : t.k = 6) : t.ks.length = 1 := by
  rw [ok_eq, Bool.and_eq_true, Bool.and_eq_true] at h
  have h2 := h.2.1
  unfold headM inI at h2
  simp only [Bool.and_eq_true, decide_eq_true_eq] at h2
  have := h2.1
  rw [h6] at this
  simp [kidsLo, kidsHi] at this
  omega
theorem bdn_all (u : LM) (c : Bool) (h : u.tm.ok c = true) : bdn u u.ks.length = u.tm.bd := by
  rw [← bdm_all]
  unfold bdn
  split
  · next e =>
    have : ¬ u.k = 6 := fun h6 => by
      have := ok_box h (by rw [LM.tm_k]; exact h6)
      rw [LM.tm_len] at this
      omega
    rw [e]
    simp [bxI, this, bdm, bds, Tm.bd.bds]
  · rfl
theorem ok_kid {u : LM} {c : Bool} (h : u.tm.ok c = true) (i : Nat) (hi : i < u.ks.length) : u.ks[i].tm.ok (flg u.k i) = true := by
  rw [ok_eq, Bool.and_eq_true, Bool.and_eq_true] at h
  have := (oks_iff _ _).1 h.2.2 i (by rw [LM.tm_len]; exact hi)
  rw [u.tm_kid i hi, LM.tm_k] at this
  exact this
theorem dp_kid (u : LM) (i : Nat) (hi : i < u.ks.length) : u.ks[i].tm.dp + 1 ≤ u.tm.dp := by
  rw [dp_eq u.tm, LM.tm_ks]
  have := dps_ge (ks := u.ks.map LM.tm) (List.mem_map_of_mem (f := LM.tm) (List.getElem_mem hi))
  omega

theorem spec_max (a b : Int) (w : World) : Calls Tryd.prog 75 #[.int .i64 a, .int .i64 b] w fun e w' => e = .returned (.int .i64 (max a b)) ∧ w' = w := by
  by_cases h : b < a
  · have F := Lib.hid (show max a b = a by omega)
    go_enter Tryd.func75, Tryd.ntmps75
    go_wp2_with fail
    go_ret
    exact ⟨ret_int F.out.symm, rfl⟩
  · have F := Lib.hid (show max a b = b by omega)
    go_enter Tryd.func75, Tryd.ntmps75
    go_wp2_with fail
    go_ret
    exact ⟨ret_int F.out.symm, rfl⟩

def BdC (u : LM) : Prop := ∀ (w : World) (b o l : Nat) (c : Bool), u.tm.ok c = true → l + u.tm.dp ≤ 1000 → tmAt w b o u → Calls Tryd.prog 53 #[.pointer (some ⟨b, o, none⟩), .int .i64 l] w (IntGw ((l + u.tm.bd : Nat) : Int) w)

set_option maxRecDepth 100000 in
set_option maxHeartbeats 2000000 in
theorem bd_body (u : LM) (ih : ∀ t ∈ u.ks, BdC t) (w : World) (b o l : Nat) (c : Bool) (hok : u.tm.ok c = true) (hd : l + u.tm.dp ≤ 1000) (h : tmAt w b o u) (b6 : Bool) (h6 : (u.k == 6) = b6) : Calls Tryd.prog 53 #[.pointer (some ⟨b, o, none⟩), .int .i64 l] w (IntGw ((l + u.tm.bd : Nat) : Int) w) := by
  have hlen : u.ks.length ≤ 9223372036854775807 := Nat.le_trans h.2.kids.1 h.2.kids.2.1
  obtain ⟨p0, p1, p2, p3, p4, p5, p6, p7⟩ := h.c
  have A := Lib.hid h
  have HOK := Lib.hid hok
  have HD := Lib.hid hd
  have hl : (l : Int) ≤ 1000 := by omega
  obtain ⟨L, hL⟩ : ∃ L, L = l + bxI u.k := ⟨_, rfl⟩
  have HL := Lib.hid hL
  have HB := Lib.hid (show (L : Int) = l + (if b6 = true then 1 else 0) by
    rw [hL]; unfold bxI; subst h6
    by_cases e : u.k = 6 <;> simp [e])
  have FIN := Lib.hid (bdn_all u c hok)
  have BLE := Lib.hid (bd_le u.tm)
  have H6 := Lib.hid h6
  clear h hok hd hL
  cases b6 with
  | true =>
    have e1 : (l : Int) + 1 = (L : Int) := by have := HB.out; simp at this; omega
    have hLL : (L : Int) ≤ 1001 := by omega
    go_enter Tryd.func53, Tryd.ntmps53
    go_wp2_with fail
    clear p0 p1 p2 p3 p4 p5 p6 p7 h6
    go_loopw [5, 6] (fun n i wr => ∃ j : Nat, j ≤ u.ks.length ∧ i = .int .i64 j ∧ n = .int .i64 ((l + bdn u j : Nat) : Int) ∧ Gw w wr) (fun _ i _ => u.ks.length - (intOf i).toNat)
    case atStart => exact ⟨0, Nat.zero_le _, rfl, by simp [bdn], Gw.refl _⟩
    case round =>
      obtain ⟨j, hj, rfl, rfl, hg⟩ := hrel
      have HG := Lib.hid hg
      have A3 := Lib.hid (A.out.grow hg)
      clear hg
      obtain ⟨p0, p1, p2, p3, p4, p5, p6, p7⟩ := A3.out.c
      by_cases hlt : j < u.ks.length
      · obtain ⟨bk, ok, ha, hkid⟩ := tmAt.kid A3.out.2.kids j hlt
        rw [ha] at p7
        have r0 : (0 : Int) ≤ j := by omega
        have r1 : (j : Int) < u.ks.length := by omega
        have HNS := Lib.hid (bdn_succ u j hlt)
        have key := ih u.ks[j] (List.getElem_mem hlt) wr bk (ok + j * 8) L (flg u.k j) (ok_kid HOK.out j hlt) (by have := dp_kid u j hlt; have := HL.out; have := HD.out; have := bxI_le u.k; omega) hkid
        have KEY := Lib.hid key
        clear ha hkid key
        obtain ⟨nb, hnb⟩ : ∃ nb, nb = l + bdn u j := ⟨_, rfl⟩
        rw [← hnb]
        have NB := Lib.hid hnb
        clear hnb
        go_wp2_with fail
        refine KEY.out.mono ?_
        rintro e w3 ⟨rfl, g3⟩
        have G3 := Lib.hid (HG.out.trans g3)
        clear g3 KEY p0 p1 p2 p3 p4 p5 p6 p7
        go_wp2_with fail
        refine (spec_max _ _ _).mono ?_
        rintro e w4 ⟨rfl, rfl⟩
        go_wp2_with fail
        go_roundw
        case rel =>
          refine ⟨j + 1, by omega, by go_num, ?_, G3.out⟩
          have h1 := HNS.out
          have h2 := HL.out
          have h3 := NB.out
          congr 1
          omega
        case measure => simp [intOf]; omega
      · obtain rfl : j = u.ks.length := by omega
        rw [FIN.out]
        go_wp2_with fail
        go_ret
        exact ⟨rfl, HG.out⟩
  | false =>
    clear HB HL L
    go_enter Tryd.func53, Tryd.ntmps53
    go_wp2_with fail
    clear p0 p1 p2 p3 p4 p5 p6 p7 h6
    go_loopw [5, 6] (fun n i wr => ∃ j : Nat, j ≤ u.ks.length ∧ i = .int .i64 j ∧ n = .int .i64 ((l + bdn u j : Nat) : Int) ∧ Gw w wr) (fun _ i _ => u.ks.length - (intOf i).toNat)
    case atStart => exact ⟨0, Nat.zero_le _, rfl, by simp [bdn], Gw.refl _⟩
    case round =>
      obtain ⟨j, hj, rfl, rfl, hg⟩ := hrel
      have HG := Lib.hid hg
      have A3 := Lib.hid (A.out.grow hg)
      clear hg
      obtain ⟨p0, p1, p2, p3, p4, p5, p6, p7⟩ := A3.out.c
      by_cases hlt : j < u.ks.length
      · obtain ⟨bk, ok, ha, hkid⟩ := tmAt.kid A3.out.2.kids j hlt
        rw [ha] at p7
        have r0 : (0 : Int) ≤ j := by omega
        have r1 : (j : Int) < u.ks.length := by omega
        have HNS := Lib.hid (bdn_succ u j hlt)
        have key := ih u.ks[j] (List.getElem_mem hlt) wr bk (ok + j * 8) l (flg u.k j) (ok_kid HOK.out j hlt) (by have := dp_kid u j hlt; have := HD.out; omega) hkid
        have KEY := Lib.hid key
        clear ha hkid key
        obtain ⟨nb, hnb⟩ : ∃ nb, nb = l + bdn u j := ⟨_, rfl⟩
        rw [← hnb]
        have NB := Lib.hid hnb
        clear hnb
        go_wp2_with fail
        refine KEY.out.mono ?_
        rintro e w3 ⟨rfl, g3⟩
        have G3 := Lib.hid (HG.out.trans g3)
        clear g3 KEY p0 p1 p2 p3 p4 p5 p6 p7
        go_wp2_with fail
        refine (spec_max _ _ _).mono ?_
        rintro e w4 ⟨rfl, rfl⟩
        go_wp2_with fail
        go_roundw
        case rel =>
          refine ⟨j + 1, by omega, by go_num, ?_, G3.out⟩
          have h1 := HNS.out
          have h3 := NB.out
          have h4 : bxI u.k = 0 := by have := H6.out; unfold bxI; rw [if_neg (by simpa using this)]
          congr 1
          omega
        case measure => simp [intOf]; omega
      · obtain rfl : j = u.ks.length := by omega
        rw [FIN.out]
        go_wp2_with fail
        go_ret
        exact ⟨rfl, HG.out⟩

theorem bd_all (u : LM) : BdC u := by
  refine LM.ind (P := BdC) (fun k m n t na nc ns a cap ks ih => ?_) u
  intro w b o l c hok hd h
  exact bd_body (.mk k m n t na nc ns a cap ks) ih w b o l c hok hd h _ rfl

/-- What BoxDepth tells. -/
def bdT (t : Tm) : Int := if okT t = true then t.bd else 0

theorem spec_boxDepth (u : LM) (w : World) (h : u.Ok w) : Calls Tryd.prog 23 #[u.val] w (IntGw (bdT u.tm) w) := by
  have hA := tmAt.new (e := 50) h
  have key := spec_l03Ok u _ _ _ hA
  have HA := Lib.hid hA
  have G := Lib.hid ((Gw.refl w).alloc (.cells #[.int .i64 u.k, .int .i64 u.m, .string u.n, .int .i64 u.t.k, .string u.t.n, .slice u.t.a u.t.ks.length u.t.cap, .slice u.na u.ns.length u.nc, .slice u.a u.ks.length u.cap] 50))
  cases hok : okT u.tm with
  | false =>
    rw [hok] at key
    have KEY := Lib.hid key
    have F := Lib.hid (show bdT u.tm = 0 by unfold bdT; rw [hok]; rfl)
    clear key h hA hok
    go_enter Tryd.func23, Tryd.ntmps23
    go_wp2_with fail
    refine KEY.out.mono ?_
    rintro e w1 ⟨rfl, g1⟩
    go_wp2_with fail
    go_ret
    exact ⟨ret_int F.out.symm, G.out.trans g1⟩
  | true =>
    rw [hok] at key
    have KEY := Lib.hid key
    have F := Lib.hid (show bdT u.tm = u.tm.bd by unfold bdT; rw [hok]; rfl)
    have FG := Lib.hid (okT_good hok)
    clear key h hA hok
    go_enter Tryd.func23, Tryd.ntmps23
    go_wp2_with fail
    refine KEY.out.mono ?_
    rintro e w1 ⟨rfl, g1⟩
    have K2 := Lib.hid (bd_all u w1 _ _ 0 false FG.out.1 (by have := FG.out.2.1; omega) (HA.out.grow g1))
    have G1 := Lib.hid (G.out.trans g1)
    clear g1
    go_wp2_with fail
    refine K2.out.mono ?_
    rintro e w2 ⟨rfl, g2⟩
    go_wp2_with fail
    go_ret
    exact ⟨ret_int (by rw [F.out]), G1.out.trans g2⟩

theorem impl_oneIf (b : Bool) (w : World) : Calls Tryd.prog 78 #[.bool b] w fun e w' => e = .returned (.int .i64 (if b = true then 1 else 0)) ∧ w' = w := by
  cases b with
  | true =>
    go_enter Tryd.func78, Tryd.ntmps78
    go_wp2_with fail
    go_ret
    exact ⟨rfl, rfl⟩
  | false =>
    go_enter Tryd.func78, Tryd.ntmps78
    go_wp2_with fail
    go_ret
    exact ⟨rfl, rfl⟩

theorem impl_boxesAt (u : LM) (w : World) : Calls Tryd.prog 82 #[u.val] w (IntGw (bxI u.k) w) := by
  have G := Lib.hid ((Gw.refl w).alloc (.cells #[.int .i64 u.k, .int .i64 u.m, .string u.n, .int .i64 u.t.k, .string u.t.n, .slice u.t.a u.t.ks.length u.t.cap, .slice u.na u.ns.length u.nc, .slice u.a u.ks.length u.cap] 50))
  cases h6 : (u.k == 6) with
  | true =>
    have F := Lib.hid (bxI_yes h6)
    go_enter Tryd.func82, Tryd.ntmps82
    go_wp2_with fail
    refine (impl_oneIf true _).mono ?_
    rintro e w1 ⟨rfl, rfl⟩
    go_wp2_with fail
    go_ret
    exact ⟨ret_int (by rw [F.out]; rfl), G.out⟩
  | false =>
    have F := Lib.hid (bxI_no h6)
    go_enter Tryd.func82, Tryd.ntmps82
    go_wp2_with fail
    refine (impl_oneIf false _).mono ?_
    rintro e w1 ⟨rfl, rfl⟩
    go_wp2_with fail
    go_ret
    exact ⟨ret_int (by rw [F.out]; rfl), G.out⟩

def BdI (u : LM) : Prop := ∀ (w : World), u.Ok w → u.tm.dp ≤ 1000 → Calls Tryd.prog 54 #[u.val] w (IntGw (u.tm.bd : Int) w)

set_option maxRecDepth 100000 in
set_option maxHeartbeats 2000000 in
theorem bdi_body (u : LM) (ih : ∀ t ∈ u.ks, BdI t) : BdI u := by
  intro w hu hd
  have hlen : u.ks.length ≤ 9223372036854775807 := Nat.le_trans hu.kids.1 hu.kids.2.1
  have HU := Lib.hid hu
  have HD := Lib.hid hd
  have FIN := Lib.hid (bdm_all u)
  have BLE := Lib.hid (bd_le u.tm)
  have g0 := (Gw.refl w).alloc (.cells #[.int .i64 u.k, .int .i64 u.m, .string u.n, .int .i64 u.t.k, .string u.t.n, .slice u.t.a u.t.ks.length u.t.cap, .slice u.na u.ns.length u.nc, .slice u.a u.ks.length u.cap] 50)
  have BX := Lib.hid (BoxM.new w u 50)
  have G := Lib.hid g0
  clear hu hd g0
  go_enter Tryd.func54, Tryd.ntmps54
  go_upto_region 1 with (fail)
  generalize w.alloc (.cells #[.int .i64 u.k, .int .i64 u.m, .string u.n, .int .i64 u.t.k, .string u.t.n, .slice u.t.a u.t.ks.length u.t.cap, .slice u.na u.ns.length u.nc, .slice u.a u.ks.length u.cap] 50) = w1 at *
  obtain ⟨p0, p1, p2, p3, p4, p5, p6, p7⟩ := BX.out.c
  go_wp2_with fail
  clear p0 p1 p2 p3 p4 p5 p6 p7
  go_loopw [3, 9] (fun n i wr => ∃ j : Nat, j ≤ u.ks.length ∧ i = .int .i64 j ∧ n = .int .i64 (bdm u j : Nat) ∧ Gw w1 wr) (fun _ i _ => u.ks.length - (intOf i).toNat)
  case atStart => exact ⟨0, Nat.zero_le _, rfl, by simp [bdm, bds, Tm.bd.bds], Gw.refl _⟩
  case round =>
    obtain ⟨j, hj, rfl, rfl, hg⟩ := hrel
    have HG := Lib.hid hg
    clear hg
    by_cases hlt : j < u.ks.length
    · obtain ⟨bk, ok, ha, hkid⟩ := tmAt.kid (HU.out.grow (G.out.trans HG.out)).kids j hlt
      obtain ⟨c0, c1, c2, c3, c4, c5, c6, c7⟩ := hkid.c
      have r0 : (0 : Int) ≤ j := by omega
      have r1 : (j : Int) < u.ks.length := by omega
      have HNS := Lib.hid (bdm_succ u j hlt)
      have gA : Gw wr (wr.alloc (.cells #[.int .i64 u.ks[j].k, .int .i64 u.ks[j].m, .string u.ks[j].n, .int .i64 u.ks[j].t.k, .string u.ks[j].t.n, .slice u.ks[j].t.a u.ks[j].t.ks.length u.ks[j].t.cap, .slice u.ks[j].na u.ks[j].ns.length u.ks[j].nc, .slice u.ks[j].a u.ks[j].ks.length u.ks[j].cap] 50)) := (Gw.refl wr).alloc _
      have KEY := Lib.hid (ih u.ks[j] (List.getElem_mem hlt) _ (hkid.2.grow gA) (by have := dp_kid u j hlt; have := HD.out; omega))
      have GA := Lib.hid (HG.out.trans gA)
      rw [ha]
      clear ha hkid gA
      go_wp2_with fail
      refine KEY.out.mono ?_
      rintro e w3 ⟨rfl, g3⟩
      have G3 := Lib.hid (GA.out.trans g3)
      clear g3 KEY c0 c1 c2 c3 c4 c5 c6 c7
      go_wp2_with fail
      go_roundw
      case rel =>
        refine ⟨j + 1, by omega, by go_num, ?_, G3.out⟩
        have h1 := HNS.out
        congr 1
        omega
      case measure => simp [intOf]; omega
    · obtain rfl : j = u.ks.length := by omega
      have BX2 := BX.out.grow HG.out
      obtain ⟨p0, p1, p2, p3, p4, p5, p6, p7⟩ := BX2.c
      have KEY := Lib.hid (impl_boxesAt u wr)
      go_wp2_with fail
      refine KEY.out.mono ?_
      rintro e w3 ⟨rfl, g3⟩
      have G3 := Lib.hid (HG.out.trans g3)
      have q1 : (bdm u u.ks.length : Int) ≤ 1000 := by have := FIN.out; have := BLE.out; have := HD.out; omega
      have q2 : (bxI u.k : Int) ≤ 1 := by unfold bxI; split <;> omega
      clear p0 p1 p2 p3 p4 p5 p6 p7
      go_wp2_with fail
      go_ret
      exact ⟨ret_int (by rw [← FIN.out]; omega), G.out.trans G3.out⟩

theorem bdi_all (u : LM) : BdI u := by
  refine LM.ind (P := BdI) (fun k m n t na nc ns a cap ks ih => ?_) u
  exact bdi_body (.mk k m n t na nc ns a cap ks) ih

theorem impl_boxDepth (u : LM) (w : World) (h : u.Ok w) (hT : Tbl w) : Calls Tryd.prog 24 #[u.val] w (IntGw (bdT u.tm) w) := by
  have g0 := (Gw.refl w).alloc (.cells #[.int .i64 u.k, .int .i64 u.m, .string u.n, .int .i64 u.t.k, .string u.t.n, .slice u.t.a u.t.ks.length u.t.cap, .slice u.na u.ns.length u.nc, .slice u.a u.ks.length u.cap] 50)
  have BX := Lib.hid (BoxM.new w u 50)
  have HU := Lib.hid (h.grow g0)
  have KEY := Lib.hid (impl_validTm u _ (h.grow g0) (hT.grow g0))
  have G := Lib.hid g0
  clear h hT g0
  go_enter Tryd.func24, Tryd.ntmps24
  go_upto_region 1 with (fail)
  generalize w.alloc (.cells #[.int .i64 u.k, .int .i64 u.m, .string u.n, .int .i64 u.t.k, .string u.t.n, .slice u.t.a u.t.ks.length u.t.cap, .slice u.na u.ns.length u.nc, .slice u.a u.ks.length u.cap] 50) = w0 at *
  obtain ⟨p0, p1, p2, p3, p4, p5, p6, p7⟩ := BX.out.c
  go_wp2_with fail
  refine KEY.out.mono ?_
  rintro e w1 ⟨rfl, g1⟩
  clear p0 p1 p2 p3 p4 p5 p6 p7
  have BX2 := Lib.hid (BX.out.grow g1)
  obtain ⟨p0, p1, p2, p3, p4, p5, p6, p7⟩ := BX2.out.c
  cases hok : okT u.tm with
  | false =>
    have F := Lib.hid (show bdT u.tm = 0 by unfold bdT; rw [hok]; rfl)
    clear hok
    go_wp2_with fail
    go_ret
    exact ⟨ret_int F.out.symm, G.out.trans g1⟩
  | true =>
    have F := Lib.hid (show bdT u.tm = u.tm.bd by unfold bdT; rw [hok]; rfl)
    have K2 := Lib.hid (bdi_all u w1 (HU.out.grow g1) (by have := (okT_good hok).2.1; omega))
    have G1 := Lib.hid (G.out.trans g1)
    clear hok g1
    go_wp2_with fail
    refine K2.out.mono ?_
    rintro e w2 ⟨rfl, g2⟩
    go_wp2_with fail
    go_ret
    exact ⟨ret_int F.out.symm, G1.out.trans g2⟩

end Go.Proofs.YtkfplnnncfkjfaaDoor.Con
