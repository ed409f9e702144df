/-
  How often a name is used in a term, as a function on terms without addresses; contract of the model's l05Uses. Condition: the term is valid and lies in memory.
-/
import Derived.Test.YtkfplnnncfkjfaaDoorBnd
import Derived.Deep.Cut
namespace Go.Proofs.YtkfplnnncfkjfaaDoor.Con
open Go.RowKit
set_option linter.unusedVariables false

def brK (k : Int) : Bool := k == 9 || k == 11
def stU (br : Bool) (l : List Nat) : Nat → Nat × Nat
  | 0 => (0, 0)
  | j + 1 => if (br && decide (0 < j)) = true then ((stU br l j).1, max (stU br l j).2 (l.getD j 0)) else ((stU br l j).1 + l.getD j 0, (stU br l j).2)
def usK (nm : ByteArray) (k : Int) (n : ByteArray) (ns : List ByteArray) (l : List Nat) : Nat :=
  if k = 1 then (if (n.toList == nm.toList) = true then 1 else 0) else (stU (brK k) l (visC k n ns nm l.length)).1 + (stU (brK k) l (visC k n ns nm l.length)).2
def Tm.us (nm : ByteArray) : Tm → Nat
  | .mk k _ n _ ns ks => usK nm k n ns (usl ks)
where usl : List Tm → List Nat
  | [] => []
  | t :: ts => t.us nm :: usl ts
theorem usl_eq (nm : ByteArray) (ks : List Tm) : Tm.us.usl nm ks = ks.map (Tm.us nm) := by
  induction ks with
  | nil => rfl
  | cons t ts ih => simp only [Tm.us.usl, List.map_cons]; rw [ih]
theorem us_eq (nm : ByteArray) (t : Tm) : t.us nm = usK nm t.k t.n t.ns (t.ks.map (Tm.us nm)) := by
  cases t
  rw [Tm.us, usl_eq]
  rfl
theorem stU_le (br : Bool) (l : List Nat) : ∀ j, (stU br l j).1 + (stU br l j).2 ≤ (l.take j).sum
  | 0 => by simp [stU]
  | j + 1 => by
    have ih := stU_le br l j
    have e : (l.take (j + 1)).sum = (l.take j).sum + l.getD j 0 := by
      rw [List.take_add_one, List.sum_append, List.getD]
      cases h : l[j]? <;> simp
    rw [stU, e]
    split <;> simp only <;> omega
theorem take_sum_le (l : List Nat) (j : Nat) : (l.take j).sum ≤ l.sum := by
  induction l generalizing j with
  | nil => simp
  | cons x xs ih => cases j with
    | zero => simp
    | succ j => simp only [List.take_succ_cons, List.sum_cons]; have := ih j; omega
theorem nns_sum (ks : List Tm) : nns ks = (ks.map Tm.nn).sum := by
  induction ks with
  | nil => rfl
  | cons t ts ih => simp only [nns, Tm.nn.nns, List.map_cons, List.sum_cons]; simp only [nns] at ih; rw [ih]
theorem sum_map_le {α : Type} {f g : α → Nat} (l : List α) (h : ∀ x ∈ l, f x ≤ g x) : (l.map f).sum ≤ (l.map g).sum := by
  induction l with
  | nil => simp
  | cons x xs ih =>
    simp only [List.map_cons, List.sum_cons]
    have := h x (by simp)
    have := ih fun y hy => h y (by simp [hy])
    omega
theorem us_le (nm : ByteArray) (t : Tm) : t.us nm ≤ t.nn := by
  refine Tm.ind (P := fun t => t.us nm ≤ t.nn) (fun k m n t ns ks ih => ?_) t
  rw [us_eq, nn_eq]
  show usK nm k n ns (ks.map (Tm.us nm)) ≤ 1 + nns ks
  have h1 := stU_le (brK k) (ks.map (Tm.us nm)) (visC k n ns nm (ks.map (Tm.us nm)).length)
  have h2 := take_sum_le (ks.map (Tm.us nm)) (visC k n ns nm (ks.map (Tm.us nm)).length)
  have h3 := sum_map_le ks (f := Tm.us nm) (g := Tm.nn) ih
  rw [nns_sum]
  unfold usK
  split
  · split <;> omega
  · omega

/-- Uses in the kids, and what the loop over them holds behind j rounds. -/
def usL (u : LM) (nm : ByteArray) : List Nat := u.ks.map fun t => t.tm.us nm
def sU (u : LM) (nm : ByteArray) (j : Nat) : Nat := (stU (brK u.k) (usL u nm) j).1
def mU (u : LM) (nm : ByteArray) (j : Nat) : Nat := (stU (brK u.k) (usL u nm) j).2
def vU (u : LM) (nm : ByteArray) : Nat := visC u.k u.n u.ns nm u.ks.length
theorem vU_le (u : LM) (nm : ByteArray) : vU u nm ≤ u.ks.length := vis_le _ _ _ _ _
theorem usL_get (u : LM) (nm : ByteArray) (j : Nat) (hj : j < u.ks.length) : (usL u nm).getD j 0 = u.ks[j].tm.us nm := by
  unfold usL
  rw [List.getD, List.getElem?_map, List.getElem?_eq_getElem hj]
  rfl
theorem usL_eq (u : LM) (nm : ByteArray) : u.tm.ks.map (Tm.us nm) = usL u nm := by rw [LM.tm_ks, List.map_map]; rfl
theorem sU_add {u : LM} {nm : ByteArray} {j : Nat} (hj : j < u.ks.length) (h : (brK u.k && decide (0 < j)) = false) : sU u nm (j + 1) = sU u nm j + u.ks[j].tm.us nm ∧ mU u nm (j + 1) = mU u nm j := by
  unfold sU mU
  rw [stU, h, usL_get u nm j hj]
  exact ⟨rfl, rfl⟩
theorem sU_max {u : LM} {nm : ByteArray} {j : Nat} (hj : j < u.ks.length) (h : (brK u.k && decide (0 < j)) = true) : sU u nm (j + 1) = sU u nm j ∧ mU u nm (j + 1) = max (mU u nm j) (u.ks[j].tm.us nm) := by
  unfold sU mU
  rw [stU, h, usL_get u nm j hj]
  exact ⟨rfl, rfl⟩
theorem sU_le (u : LM) (nm : ByteArray) (j : Nat) : sU u nm j + mU u nm j ≤ u.tm.nn := by
  have h1 := stU_le (brK u.k) (usL u nm) j
  have h2 := take_sum_le (usL u nm) j
  have h3 := sum_map_le (u.ks.map LM.tm) (f := Tm.us nm) (g := Tm.nn) (fun t _ => us_le nm t)
  rw [nn_eq, nns_sum, LM.tm_ks]
  rw [List.map_map] at h3
  have e : (u.ks.map (Tm.us nm ∘ LM.tm)) = usL u nm := rfl
  rw [e] at h3
  unfold sU mU
  omega
theorem us_all {u : LM} {nm : ByteArray} (h1 : ¬ u.k = 1) : u.tm.us nm = sU u nm (vU u nm) + mU u nm (vU u nm) := by
  rw [us_eq, usL_eq, LM.tm_k, LM.tm_n, LM.tm_ns]
  unfold usK sU mU vU
  rw [if_neg h1, show (usL u nm).length = u.ks.length by simp [usL]]
theorem us_var {u : LM} {nm : ByteArray} (h1 : u.k = 1) : u.tm.us nm = if (u.n.toList == nm.toList) = true then 1 else 0 := by
  rw [us_eq, LM.tm_k, LM.tm_n]
  unfold usK
  rw [if_pos h1]
theorem nn_kid (u : LM) (i : Nat) (hi : i < u.ks.length) : u.ks[i].tm.nn + 1 ≤ u.tm.nn := by
  rw [nn_eq u.tm, LM.tm_ks]
  have h1 := nns_take (u.ks.map LM.tm) i (by simpa using hi)
  have h2 := nns_take_le (u.ks.map LM.tm) (i + 1)
  simp only [List.getElem_map] at h1
  omega
theorem bndI_vis {u : LM} {c : Bool} (h : u.tm.ok c = true) {i : Nat} (hi : i < u.ks.length) (nm : ByteArray) : hasB (bndI u.k i u.n u.ns) nm = decide (vU u nm ≤ i) := by
  have := bnd_kid h (i := i) (by rw [LM.tm_len]; exact hi) nm
  rw [LM.tm_k, LM.tm_n, LM.tm_ns, LM.tm_len] at this
  exact this

theorem spec_oneB (b : Bool) (w : World) : Calls Tryd.prog 72 #[.bool b] w fun e w' => e = .returned (.int .i64 (if b = true then 1 else 0)) ∧ w' = w := by
  cases b with
  | true =>
    go_enter Tryd.func72, Tryd.ntmps72
    go_wp2_with fail
    go_ret
    exact ⟨rfl, rfl⟩
  | false =>
    go_enter Tryd.func72, Tryd.ntmps72
    go_wp2_with fail
    go_ret
    exact ⟨rfl, rfl⟩

def UsC (nm : ByteArray) (u : LM) : Prop := ∀ (w : World) (b o : Nat) (c : Bool), u.tm.ok c = true → u.tm.nn ≤ 1000 → tmAt w b o u → Calls Tryd.prog 39 #[.pointer (some ⟨b, o, none⟩), .string nm] w (IntGw (u.tm.us nm : Int) w)

theorem us_leaf (nm : ByteArray) (hnm : nm.size ≤ 9223372036854775807) (u : LM) (w : World) (b o : Nat) (h : tmAt w b o u) (h1 : u.k = 1) : Calls Tryd.prog 39 #[.pointer (some ⟨b, o, none⟩), .string nm] w (IntGw (u.tm.us nm : Int) w) := by
  obtain ⟨p0, p1, p2, p3, p4, p5, p6, p7⟩ := h.c
  have hn : u.n.size ≤ 9223372036854775807 := h.2.nm
  have F := Lib.hid (us_var (nm := nm) h1)
  have q1 : (u.k == 1) = true := by simpa using h1
  clear h h1
  cases hb : (u.n.toList == nm.toList) with
  | true =>
    rw [hb] at F
    go_enter Tryd.func39, Tryd.ntmps39
    go_wp2_with fail
    refine (spec_oneB true _).mono ?_
    rintro e w1 ⟨rfl, rfl⟩
    go_wp2_with fail
    go_ret
    exact ⟨ret_int (by rw [F.out]; rfl), Gw.refl _⟩
  | false =>
    rw [hb] at F
    go_enter Tryd.func39, Tryd.ntmps39
    go_wp2_with fail
    refine (spec_oneB false _).mono ?_
    rintro e w1 ⟨rfl, rfl⟩
    go_wp2_with fail
    go_ret
    exact ⟨ret_int (by rw [F.out]; rfl), Gw.refl _⟩

set_option maxRecDepth 100000 in
set_option maxHeartbeats 4000000 in
theorem us_body (nm : ByteArray) (hnm : nm.size ≤ 9223372036854775807) (u : LM) (ih : ∀ t ∈ u.ks, UsC nm t) (w : World) (b o : Nat) (c : Bool) (hok : u.tm.ok c = true) (hd : u.tm.nn ≤ 1000) (h : tmAt w b o u) (h1 : ¬ u.k = 1) : Calls Tryd.prog 39 #[.pointer (some ⟨b, o, none⟩), .string nm] w (IntGw (u.tm.us nm : Int) w) := by
  have hlen : u.ks.length ≤ 9223372036854775807 := Nat.le_trans h.2.kids.1 h.2.kids.2.1
  obtain ⟨p0, p1, p2, p3, p4, p5, p6, p7⟩ := h.c
  have A := Lib.hid h
  have HOK := Lib.hid hok
  have HD := Lib.hid hd
  have FIN := Lib.hid (us_all (nm := nm) h1)
  have q1 : (u.k == 1) = false := by simpa using h1
  have VL := Lib.hid (vU_le u nm)
  clear h hok hd h1
  go_enter Tryd.func39, Tryd.ntmps39
  go_wp2_with fail
  clear p0 p1 p2 p3 p4 p5 p6 p7 q1
  go_loopw [5, 6, 7] (fun s m i wr => ∃ j : Nat, j ≤ u.ks.length ∧ i = .int .i64 j ∧ s = .int .i64 (sU u nm (min j (vU u nm)) : Nat) ∧ m = .int .i64 (mU u nm (min j (vU u nm)) : Nat) ∧ Gw w wr) (fun _ _ i _ => u.ks.length - (intOf i).toNat)
  case atStart => exact ⟨0, Nat.zero_le _, rfl, by simp [sU, stU], by simp [mU, stU], Gw.refl _⟩
  case round =>
    obtain ⟨j, hj, rfl, rfl, rfl, hg⟩ := hrel
    have HG := Lib.hid hg
    have A3 := Lib.hid (A.out.grow hg)
    clear hg
    obtain ⟨s, hs⟩ : ∃ s, s = sU u nm (min j (vU u nm)) := ⟨_, rfl⟩
    obtain ⟨m, hm⟩ : ∃ m, m = mU u nm (min j (vU u nm)) := ⟨_, rfl⟩
    have hsm : s + m ≤ 1000 := by have := sU_le u nm (min j (vU u nm)); have := HD.out; omega
    rw [← hs, ← hm]
    have HS := Lib.hid hs
    have HM := Lib.hid hm
    clear hs hm
    obtain ⟨p0, p1, p2, p3, p4, p5, p6, p7⟩ := A3.out.c
    by_cases hlt : j < u.ks.length
    · have r0 : (0 : Int) ≤ j := by omega
      have r1 : (j : Int) < u.ks.length := by omega
      have K1 := Lib.hid (spec_binds u wr b o j A3.out)
      have BV := Lib.hid (bndI_vis HOK.out hlt nm)
      go_wp2_with fail
      refine K1.out.mono ?_
      rintro e w3 ⟨a, cc, n, rfl, hn, hst, g3⟩
      have G3 := Lib.hid (HG.out.trans g3)
      have K2 := Lib.hid (spec_atN _ n hn nm w3 a cc hst)
      clear g3 hn hst K1 p0 p1 p2 p3 p4 p5 p6 p7
      go_wp2_with fail
      refine K2.out.mono ?_
      rintro e w4 ⟨r, rfl, hr, g4⟩
      have G4 := Lib.hid (G3.out.trans g4)
      have HR := Lib.hid (hr.has.trans BV.out)
      have A4 := Lib.hid (A.out.grow G4.out)
      clear g4 hr K2
      by_cases hv : vU u nm ≤ j
      · have hr0 : 0 ≤ r := by have := HR.out; rw [decide_eq_true hv] at this; simpa using this
        have HV := Lib.hid hv
        clear hv
        go_wp2_with fail
        go_roundw
        case rel =>
          have hv := HV.out
          exact ⟨j + 1, by omega, by go_num, by rw [HS.out, show min (j + 1) (vU u nm) = min j (vU u nm) by omega], by rw [HM.out, show min (j + 1) (vU u nm) = min j (vU u nm) by omega], G4.out⟩
        case measure => simp [intOf]; omega
      · have hr0 : ¬ 0 ≤ r := by have := HR.out; rw [decide_eq_false hv] at this; simpa using this
        have HV := Lib.hid (show min j (vU u nm) = j ∧ min (j + 1) (vU u nm) = j + 1 by omega)
        clear hv
        obtain ⟨bk, ok, ha, hkid⟩ := tmAt.kid A4.out.2.kids j hlt
        obtain ⟨p0, p1, p2, p3, p4, p5, p6, p7⟩ := A4.out.c
        rw [ha] at p7
        have key := ih u.ks[j] (List.getElem_mem hlt) w4 bk (ok + j * 8) (flg u.k j) (ok_kid HOK.out j hlt) (by have := nn_kid u j hlt; have := HD.out; omega) hkid
        have hx : u.ks[j].tm.us nm ≤ 1000 := by have := us_le nm u.ks[j].tm; have := nn_kid u j hlt; have := HD.out; omega
        have hsx : s + u.ks[j].tm.us nm ≤ 2000 := by omega
        have KEY := Lib.hid key
        clear ha hkid key
        go_wp2_with fail
        refine KEY.out.mono ?_
        rintro e w5 ⟨rfl, g5⟩
        have G5 := Lib.hid (G4.out.trans g5)
        have A5 := Lib.hid (A.out.grow G5.out)
        clear g5 KEY p0 p1 p2 p3 p4 p5 p6 p7
        obtain ⟨p0, p1, p2, p3, p4, p5, p6, p7⟩ := A5.out.c
        obtain ⟨x, hx2⟩ : ∃ x, x = u.ks[j].tm.us nm := ⟨_, rfl⟩
        rw [← hx2] at hx hsx ⊢
        have HX := Lib.hid hx2
        clear hx2
        have hs1 : s ≤ 1000 := by omega
        have hm1 : m ≤ 1000 := by omega
        clear hsm hsx
        cases hbr : (brK u.k && decide (0 < j)) with
        | false =>
          have hadd := sU_add (nm := nm) hlt hbr
          have E1 := Lib.hid (show (s : Int) + x = (sU u nm (min (j + 1) (vU u nm)) : Nat) by have h1 := HS.out; rw [HV.out.1] at h1; rw [HV.out.2, hadd.1, h1, HX.out]; omega)
          have E2 := Lib.hid (show m = mU u nm (min (j + 1) (vU u nm)) by have h1 := HM.out; rw [HV.out.1] at h1; rw [HV.out.2, hadd.2, h1])
          have hb2 := hbr
          unfold brK at hb2
          clear hadd hbr
          by_cases hj0 : 0 < j
          · have t0 : (0 : Int) < j := by omega
            rw [decide_eq_true hj0, Bool.and_true, Bool.or_eq_false_iff] at hb2
            obtain ⟨t9, t11⟩ := hb2
            go_wp2_with fail
            go_roundw
            case rel => exact ⟨j + 1, by omega, by go_num, by rw [E1.out], by rw [E2.out], G5.out⟩
            case measure => simp [intOf]; omega
          · obtain rfl : j = 0 := by omega
            clear hb2
            go_wp2_with fail
            go_roundw
            case rel => exact ⟨0 + 1, by omega, by go_num, by rw [E1.out], by rw [E2.out], G5.out⟩
            case measure => simp [intOf]; omega
        | true =>
          have hadd := sU_max (nm := nm) hlt hbr
          have ADD := Lib.hid hadd
          have hb2 := hbr
          unfold brK at hb2
          rw [Bool.and_eq_true, Bool.or_eq_true] at hb2
          have hj0 : 0 < j := by simpa using hb2.2
          have t0 : (0 : Int) < j := by omega
          have hb3 := hb2.1
          clear hadd hbr hb2
          cases t9 : (u.k == 9) with
          | true =>
            clear hb3
            go_wp2_with fail
            refine (spec_max _ _ _).mono ?_
            rintro e w6 ⟨rfl, rfl⟩
            go_wp2_with fail
            go_roundw
            case rel => exact ⟨j + 1, by omega, by go_num, by rw [HV.out.2, ADD.out.1, HS.out, HV.out.1], by rw [HV.out.2, ADD.out.2, HM.out, HV.out.1, HX.out]; congr 1; omega, G5.out⟩
            case measure => simp [intOf]; omega
          | false =>
            rw [t9] at hb3
            have t11 : (u.k == 11) = true := by simpa using hb3
            clear hb3
            go_wp2_with fail
            refine (spec_max _ _ _).mono ?_
            rintro e w6 ⟨rfl, rfl⟩
            go_wp2_with fail
            go_roundw
            case rel => exact ⟨j + 1, by omega, by go_num, by rw [HV.out.2, ADD.out.1, HS.out, HV.out.1], by rw [HV.out.2, ADD.out.2, HM.out, HV.out.1, HX.out]; congr 1; omega, G5.out⟩
            case measure => simp [intOf]; omega
    · obtain rfl : j = u.ks.length := by omega
      have HV := Lib.hid (show min u.ks.length (vU u nm) = vU u nm by have := VL.out; omega)
      go_wp2_with fail
      go_ret
      exact ⟨ret_int (by rw [FIN.out]; have h1 := HS.out; have h2 := HM.out; rw [HV.out] at h1 h2; omega), HG.out⟩

theorem us_allC (nm : ByteArray) (hnm : nm.size ≤ 9223372036854775807) (u : LM) : UsC nm u := by
  refine LM.ind (P := UsC nm) (fun k m n t na nc ns a cap ks ih => ?_) u
  intro w b o c hok hd h
  by_cases h1 : (LM.mk k m n t na nc ns a cap ks).k = 1
  · exact us_leaf nm hnm (.mk k m n t na nc ns a cap ks) w b o h h1
  · exact us_body nm hnm (.mk k m n t na nc ns a cap ks) ih w b o c hok hd h h1

/-- What UsesOf tells. -/
def usT (nm : ByteArray) (t : Tm) : Int := if okT t = true then t.us nm else 0

theorem spec_usesOf (u : LM) (nm : ByteArray) (hnm : nm.size ≤ 9223372036854775807) (w : World) (h : u.Ok w) : Calls Tryd.prog 13 #[u.val, .string nm] w (IntGw (usT nm u.tm) w) := by
  have hA := tmAt.new (e := 50) h
  have key := spec_l03Ok u _ _ _ hA
  have HA := Lib.hid hA
  have G := Lib.hid ((Gw.refl w).alloc (.cells #[.int .i64 u.k, .int .i64 u.m, .string u.n, .int .i64 u.t.k, .string u.t.n, .slice u.t.a u.t.ks.length u.t.cap, .slice u.na u.ns.length u.nc, .slice u.a u.ks.length u.cap] 50))
  cases hok : okT u.tm with
  | false =>
    rw [hok] at key
    have KEY := Lib.hid key
    have F := Lib.hid (show usT nm u.tm = 0 by unfold usT; rw [hok]; rfl)
    clear key h hA hok
    go_enter Tryd.func13, Tryd.ntmps13
    go_wp2_with fail
    refine KEY.out.mono ?_
    rintro e w1 ⟨rfl, g1⟩
    go_wp2_with fail
    go_ret
    exact ⟨ret_int F.out.symm, G.out.trans g1⟩
  | true =>
    rw [hok] at key
    have KEY := Lib.hid key
    have F := Lib.hid (show usT nm u.tm = u.tm.us nm by unfold usT; rw [hok]; rfl)
    have FG := Lib.hid (okT_good hok)
    clear key h hA hok
    go_enter Tryd.func13, Tryd.ntmps13
    go_wp2_with fail
    refine KEY.out.mono ?_
    rintro e w1 ⟨rfl, g1⟩
    have K2 := Lib.hid (us_allC nm hnm u w1 _ _ false FG.out.1 (by have := FG.out.2.2; omega) (HA.out.grow g1))
    have G1 := Lib.hid (G.out.trans g1)
    clear g1
    go_wp2_with fail
    refine K2.out.mono ?_
    rintro e w2 ⟨rfl, g2⟩
    go_wp2_with fail
    go_ret
    exact ⟨ret_int (by rw [F.out]), G1.out.trans g2⟩

end Go.Proofs.YtkfplnnncfkjfaaDoor.Con
