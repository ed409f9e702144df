/-
  At which levels a name occurs, as a function on terms without addresses; contract of the model's LevelsOf. Condition: the term lies in memory.
-/
import Derived.Test.YtkfplnnncfkjfaaDoorUs
import Derived.Test.YtkfplnnncfkjfaaDoorI64
namespace Go.Proofs.YtkfplnnncfkjfaaDoor.Con
open Go.RowKit
set_option linter.unusedVariables false

def lvK (nm : ByteArray) (k : Int) (n : ByteArray) (ns : List ByteArray) (d : Nat) (l : List (List Int)) : List Int :=
  if k = 1 then (if (n.toList == nm.toList) = true then [(d : Int)] else []) else (l.take (visC k n ns nm l.length)).flatten
def Tm.lv (nm : ByteArray) : Tm → Nat → List Int
  | .mk k _ n _ ns ks, d => lvK nm k n ns d (lvl ks (d + bxI k))
where lvl : List Tm → Nat → List (List Int)
  | [], _ => []
  | t :: ts, d => t.lv nm d :: lvl ts d
theorem lvl_eq (nm : ByteArray) (ks : List Tm) (d : Nat) : Tm.lv.lvl nm ks d = ks.map fun t => t.lv nm d := by
  induction ks with
  | nil => rfl
  | cons t ts ih => simp only [Tm.lv.lvl, List.map_cons]; rw [ih]
theorem lv_eq (nm : ByteArray) (t : Tm) (d : Nat) : t.lv nm d = lvK nm t.k t.n t.ns d (t.ks.map fun u => u.lv nm (d + bxI t.k)) := by
  cases t
  rw [Tm.lv, lvl_eq]
  rfl
theorem flat_len_le (l : List (List Int)) (j : Nat) : (l.take j).flatten.length ≤ l.flatten.length := by
  induction l generalizing j with
  | nil => simp
  | cons x xs ih => cases j with
    | zero => simp
    | succ j => simp only [List.take_succ_cons, List.flatten_cons, List.length_append]; have := ih j; omega
theorem lv_len (nm : ByteArray) (t : Tm) : ∀ d, (t.lv nm d).length ≤ t.nn := by
  refine Tm.ind (P := fun t => ∀ d, (t.lv nm d).length ≤ t.nn) (fun k m n t ns ks ih d => ?_) t
  rw [lv_eq, nn_eq]
  show (lvK nm k n ns d (ks.map fun u => u.lv nm (d + bxI k))).length ≤ 1 + nns ks
  unfold lvK
  split
  · split <;> simp
  · have h1 := flat_len_le (ks.map fun u => u.lv nm (d + bxI k)) (visC k n ns nm (ks.map fun u => u.lv nm (d + bxI k)).length)
    have h2 : (ks.map fun u => u.lv nm (d + bxI k)).flatten.length ≤ nns ks := by
      rw [List.length_flatten, List.map_map, nns_sum]
      exact sum_map_le ks fun x hx => ih x hx _
    omega

/-- What has come from the kids' rows behind j of them. -/
def lvm (u : LM) (nm : ByteArray) (d j : Nat) : List Int := ((u.ks.map fun t => t.tm.lv nm (d + bxI u.k)).take j).flatten
theorem lvm_succ (u : LM) (nm : ByteArray) (d j : Nat) (hj : j < u.ks.length) : lvm u nm d (j + 1) = lvm u nm d j ++ u.ks[j].tm.lv nm (d + bxI u.k) := by
  unfold lvm
  rw [List.take_add_one, List.flatten_append, List.getElem?_map, List.getElem?_eq_getElem hj]
  simp
theorem lvm_le (u : LM) (nm : ByteArray) (d j : Nat) : (lvm u nm d j).length ≤ u.tm.nn := by
  unfold lvm
  have h1 := flat_len_le (u.ks.map fun t => t.tm.lv nm (d + bxI u.k)) j
  have h2 : (u.ks.map fun t => t.tm.lv nm (d + bxI u.k)).flatten.length ≤ nns (u.ks.map LM.tm) := by
    rw [List.length_flatten, List.map_map, nns_sum, List.map_map]
    exact sum_map_le u.ks fun x hx => lv_len nm x.tm _
  rw [nn_eq, LM.tm_ks]
  omega
theorem lvm_room (u : LM) (nm : ByteArray) (d j : Nat) (hj : j < u.ks.length) : (lvm u nm d j).length + u.ks[j].tm.nn ≤ u.tm.nn := by
  have h1 : (lvm u nm d j).length ≤ nns ((u.ks.map LM.tm).take j) := by
    unfold lvm
    rw [← List.map_take, List.length_flatten, List.map_map, nns_sum, ← List.map_take, List.map_map]
    exact sum_map_le (u.ks.take j) fun x hx => lv_len nm x.tm _
  have h2 := nns_take (u.ks.map LM.tm) j (by simpa using hj)
  have h3 := nns_take_le (u.ks.map LM.tm) (j + 1)
  have h0 := nn_eq u.tm
  rw [LM.tm_ks] at h0
  simp only [List.getElem_map] at h2
  omega
theorem lv_all {u : LM} {nm : ByteArray} (h1 : ¬ u.k = 1) (d : Nat) : u.tm.lv nm d = lvm u nm d (vU u nm) := by
  rw [lv_eq, LM.tm_k, LM.tm_n, LM.tm_ns, LM.tm_ks, List.map_map]
  unfold lvK lvm vU
  rw [if_neg h1, List.length_map]
  rfl
theorem lv_var {u : LM} {nm : ByteArray} (h1 : u.k = 1) (d : Nat) : u.tm.lv nm d = if (u.n.toList == nm.toList) = true then [(d : Int)] else [] := by
  rw [lv_eq, LM.tm_k, LM.tm_n]
  unfold lvK
  rw [if_pos h1]
theorem var_leaf {u : LM} {c : Bool} (h : u.tm.ok c = true) (h1 : u.k = 1) : u.ks.length = 0 := by
  have := (ok_len h).2
  rw [LM.tm_len, LM.tm_k, h1] at this
  simp [kidsHi] at this
  simpa using this

theorem infoI : (Tryd.prog.info? 2).map (fun i => (i.zero, i.size, i.bytes)) = some (some (.int .i64 0), 1, 8) := by kernel_rfl

def LvC (nm : ByteArray) (u : LM) : Prop := ∀ (w0 w : World) (b o d B : Nat) (v : Value) (L : List Int) (c : Bool), u.tm.ok c = true → u.tm.nn + L.length ≤ 2000 → d + u.tm.dp ≤ 1000 → tmAt w0 b o u → w0.heap.size ≤ B → Below B w0 w → B ≤ w.heap.size → IRow B w v L →
  Calls Tryd.prog 48 #[.pointer (some ⟨b, o, none⟩), .string nm, .int .i64 d, v] w fun e w' => ∃ v', e = .returned v' ∧ IRow B w' v' (L ++ u.tm.lv nm d) ∧ Below B w w'

theorem one_newI {w : World} {x : Value} {t : TypeId} (j : Nat) (u : Value) (h : [x][j]? = some u) : (w.alloc (.cells #[x] t)).cell? ((⟨w.heap.size, 0, none⟩ : Addr).add j) = some u := by
  match j, h with
  | 0, h => simp at h; subst h; simp [Addr.add]
  | (j + 1), h => simp at h
theorem IRow.app {B m : Nat} {w : World} {v : Value} {L M : List Int} {xs : List Value} (h : w.ownsRow B 2 1 v m xs) (hx : xs = iL L ++ iL M) (hn : m = L.length + M.length) : IRow B w v (L ++ M) := by
  unfold IRow
  have : iL (L ++ M) = xs := by rw [hx]; unfold iL; rw [List.map_append]
  rw [this, List.length_append, ← hn]
  exact h

set_option maxHeartbeats 2000000 in
theorem lv_leaf (nm : ByteArray) (hnm : nm.size ≤ 9223372036854775807) (u : LM) (w0 w : World) (b o d B : Nat) (v : Value) (L : List Int) (hd : u.tm.nn + L.length ≤ 2000) (hd2 : d ≤ 1000) (h : tmAt w0 b o u) (hB0 : w0.heap.size ≤ B) (hg : Below B w0 w) (hB : B ≤ w.heap.size) (hr : IRow B w v L) (h1 : u.k = 1) :
    Calls Tryd.prog 48 #[.pointer (some ⟨b, o, none⟩), .string nm, .int .i64 d, v] w fun e w' => ∃ v', e = .returned v' ∧ IRow B w' v' (L ++ u.tm.lv nm d) ∧ Below B w w' := by
  obtain ⟨p0, p1, p2, p3, p4, p5, p6, p7⟩ := (h.grow (hg.mono hB0)).c
  have hn : u.n.size ≤ 9223372036854775807 := h.2.nm
  have F := Lib.hid (lv_var (nm := nm) h1 d)
  have q1 : (u.k == 1) = true := by simpa using h1
  have HR := Lib.hid hr
  have HB := Lib.hid hB
  have HD := Lib.hid hd
  obtain ⟨i0, hi, hz0, hz1, hz2⟩ := info_parts infoI
  have HI := Lib.hid hi
  have HZ0 := Lib.hid hz0
  have HZ1 := Lib.hid hz1
  have HZ2 := Lib.hid hz2
  clear h h1 hr hB hg hB0 hi hz0 hz1 hz2 hd
  cases hb : (u.n.toList == nm.toList) with
  | true =>
    rw [hb] at F
    go_enter Tryd.func48, Tryd.ntmps48
    go_wp2_with (at_builtin; refine wpList_append_own _ rfl _ _ 54 rfl B 2 i0 (.int .i64 0) 1 8 Tryd.underlying54 HI.out HZ0.out HZ1.out HZ2.out rfl (by decide) v L.length (iL L) rfl (World.ownsRow.alloc HR.out _) ⟨w.heap.size, 0, none⟩ 1 1 [.int .i64 d] rfl rfl one_newI (fun u hu => by simp at hu; subst hu; rfl) (by unfold maxLen; have := HD.out; omega) (by have := HD.out; omega) (by have := HB.out; simp; omega) ?_)
    intro v' w1 hown hgrow _
    have OW := Lib.hid (show IRow B w1 v' (L ++ [(d : Int)]) from IRow.app hown rfl rfl)
    have BB := Lib.hid (((Below.refl B w).alloc HB.out _).grown hgrow (by have := HB.out; simp; omega) (fun j hj => (HR.out.at j hj).1))
    clear hown hgrow
    go_wp2_with fail
    go_ret
    exact ⟨_, rfl, by rw [F.out]; exact OW.out, BB.out⟩
  | false =>
    rw [hb] at F
    go_enter Tryd.func48, Tryd.ntmps48
    go_wp2_with fail
    go_ret
    exact ⟨_, rfl, by rw [F.out]; simpa using HR.out, Below.refl _ _⟩

set_option maxRecDepth 100000 in
set_option maxHeartbeats 4000000 in
theorem lv_body (nm : ByteArray) (hnm : nm.size ≤ 9223372036854775807) (u : LM) (ih : ∀ t ∈ u.ks, LvC nm t) (w0 w : World) (b o d B : Nat) (v : Value) (L : List Int) (c : Bool) (hok : u.tm.ok c = true) (hd : u.tm.nn + L.length ≤ 2000) (hd2 : d + u.tm.dp ≤ 1000) (h : tmAt w0 b o u) (hB0 : w0.heap.size ≤ B) (hg : Below B w0 w) (hB : B ≤ w.heap.size) (hr : IRow B w v L) (h1 : ¬ u.k = 1) (b6 : Bool) (h6 : (u.k == 6) = b6) :
    Calls Tryd.prog 48 #[.pointer (some ⟨b, o, none⟩), .string nm, .int .i64 d, v] w fun e w' => ∃ v', e = .returned v' ∧ IRow B w' v' (L ++ u.tm.lv nm d) ∧ Below B w w' := by
  have hlen : u.ks.length ≤ 9223372036854775807 := Nat.le_trans h.2.kids.1 h.2.kids.2.1
  obtain ⟨p0, p1, p2, p3, p4, p5, p6, p7⟩ := (h.grow (hg.mono hB0)).c
  have A := Lib.hid h
  have HOK := Lib.hid hok
  have HD := Lib.hid hd
  have HD2 := Lib.hid hd2
  have FIN := Lib.hid (lv_all (nm := nm) h1 d)
  have q1 : (u.k == 1) = false := by simpa using h1
  have VL := Lib.hid (vU_le u nm)
  have HR := Lib.hid hr
  have HB := Lib.hid hB
  have HB0 := Lib.hid hB0
  have HG := Lib.hid hg
  obtain ⟨D, hD⟩ : ∃ D, D = d + bxI u.k := ⟨_, rfl⟩
  have HDD := Lib.hid hD
  have hd3 : (d : Int) ≤ 1000 := by omega
  have E1 := Lib.hid (show (D : Int) = d + (if b6 = true then 1 else 0) by
    rw [hD]; unfold bxI; subst h6
    by_cases e : u.k = 6 <;> simp [e])
  clear h hok hd hd2 h1 hr hB hB0 hg hD
  cases b6 with
  | true =>
    have e1 : (d : Int) + 1 = (D : Int) := by have := E1.out; simp at this; omega
    go_enter Tryd.func48, Tryd.ntmps48
    go_wp2_with fail
    clear p0 p1 p2 p3 p4 p5 p6 p7 q1 h6
    go_loopw [3, 9] (fun s i wr => ∃ (j : Nat) (sv : Value), j ≤ u.ks.length ∧ i = .int .i64 j ∧ sv = s ∧ IRow B wr sv (L ++ lvm u nm d (min j (vU u nm))) ∧ Below B w wr) (fun _ i _ => u.ks.length - (intOf i).toNat)
    case atStart => exact ⟨0, v, Nat.zero_le _, rfl, rfl, by simpa [lvm] using HR.out, Below.refl _ _⟩
    case round =>
      obtain ⟨j, sv, hj, rfl, rfl, hrow, hbel⟩ := hrel
      have HRW := Lib.hid hrow
      have HBL := Lib.hid hbel
      have HG3 := Lib.hid (HG.out.trans hbel)
      have A3 := Lib.hid (A.out.grow (HG3.out.mono HB0.out))
      have HS3 := Lib.hid (Nat.le_trans HB.out hbel.size)
      clear hrow hbel
      obtain ⟨p0, p1, p2, p3, p4, p5, p6, p7⟩ := A3.out.c
      by_cases hlt : j < u.ks.length
      · have r0 : (0 : Int) ≤ j := by omega
        have r1 : (j : Int) < u.ks.length := by omega
        have K1 := Lib.hid (spec_binds u wr b o j A3.out)
        have BV := Lib.hid (bndI_vis HOK.out hlt nm)
        go_wp2_with fail
        refine K1.out.mono ?_
        rintro e w3 ⟨a, cc, n, rfl, hn, hst, g3⟩
        have G3 := Lib.hid g3
        have K2 := Lib.hid (spec_atN _ n hn nm w3 a cc hst)
        clear g3 hn hst K1 p0 p1 p2 p3 p4 p5 p6 p7
        go_wp2_with fail
        refine K2.out.mono ?_
        rintro e w4 ⟨r, rfl, hr, g4⟩
        have G4 := Lib.hid (G3.out.trans g4)
        have HR2 := Lib.hid (hr.has.trans BV.out)
        have HG4 := Lib.hid (HG3.out.trans (G4.out.mono HS3.out))
        have A4 := Lib.hid (A.out.grow (HG4.out.mono HB0.out))
        have HRW4 := Lib.hid (HRW.out.grow G4.out)
        have HBL4 := Lib.hid (HBL.out.trans (G4.out.mono HS3.out))
        clear g4 hr K2
        by_cases hv : vU u nm ≤ j
        · have hr0 : ¬ r < 0 := by have := HR2.out; rw [decide_eq_true hv] at this; simp at this; omega
          have HV := Lib.hid hv
          clear hv
          go_wp2_with fail
          go_roundw
          case rel =>
            have hv := HV.out
            exact ⟨j + 1, sv, by omega, by go_num, rfl, by rw [show min (j + 1) (vU u nm) = min j (vU u nm) by omega]; exact HRW4.out, HBL4.out⟩
          case measure => simp [intOf]; omega
        · have hr0 : r < 0 := by have := HR2.out; rw [decide_eq_false hv] at this; simp at this; omega
          have HV := Lib.hid (show min j (vU u nm) = j ∧ min (j + 1) (vU u nm) = j + 1 by omega)
          clear hv
          obtain ⟨bk, ok, ha, hkid⟩ := tmAt.kid A.out.2.kids j hlt
          obtain ⟨p0, p1, p2, p3, p4, p5, p6, p7⟩ := A4.out.c
          rw [ha] at p7
          have key := ih u.ks[j] (List.getElem_mem hlt) w0 w4 bk (ok + j * 8) D B sv (L ++ lvm u nm d (min j (vU u nm))) (flg u.k j) (ok_kid HOK.out j hlt)
            (by have h1 := lvm_room u nm d j hlt; have h2 := HD.out; rw [HV.out.1, List.length_append]; omega) (by have := dp_kid u j hlt; have := HD2.out; have := HDD.out; have := bxI_le u.k; omega) hkid HB0.out HG4.out (Nat.le_trans HS3.out G4.out.size) HRW4.out
          have KEY := Lib.hid key
          clear ha hkid key
          go_wp2_with fail
          refine KEY.out.mono ?_
          rintro e w5 ⟨v5, rfl, hr5, hb5⟩
          have HR5 := Lib.hid hr5
          have HB5 := Lib.hid (HBL4.out.trans hb5)
          clear hr5 hb5 KEY p0 p1 p2 p3 p4 p5 p6 p7
          go_wp2_with fail
          go_roundw
          case rel => exact ⟨j + 1, v5, by omega, by go_num, rfl, by rw [HV.out.2, lvm_succ u nm d j hlt, ← List.append_assoc]; have := HR5.out; rw [HV.out.1, HDD.out] at this; exact this, HB5.out⟩
          case measure => simp [intOf]; omega
      · obtain rfl : j = u.ks.length := by omega
        have HV := Lib.hid (show min u.ks.length (vU u nm) = vU u nm by have := VL.out; omega)
        go_wp2_with fail
        go_ret
        exact ⟨_, rfl, by rw [FIN.out]; have := HRW.out; rw [HV.out] at this; exact this, HBL.out⟩
  | false =>
    have ED := Lib.hid (show d = D by have := E1.out; simp at this; omega)
    go_enter Tryd.func48, Tryd.ntmps48
    go_wp2_with fail
    clear p0 p1 p2 p3 p4 p5 p6 p7 q1 h6
    go_loopw [3, 9] (fun s i wr => ∃ (j : Nat) (sv : Value), j ≤ u.ks.length ∧ i = .int .i64 j ∧ sv = s ∧ IRow B wr sv (L ++ lvm u nm d (min j (vU u nm))) ∧ Below B w wr) (fun _ i _ => u.ks.length - (intOf i).toNat)
    case atStart => exact ⟨0, v, Nat.zero_le _, rfl, rfl, by simpa [lvm] using HR.out, Below.refl _ _⟩
    case round =>
      obtain ⟨j, sv, hj, rfl, rfl, hrow, hbel⟩ := hrel
      have HRW := Lib.hid hrow
      have HBL := Lib.hid hbel
      have HG3 := Lib.hid (HG.out.trans hbel)
      have A3 := Lib.hid (A.out.grow (HG3.out.mono HB0.out))
      have HS3 := Lib.hid (Nat.le_trans HB.out hbel.size)
      clear hrow hbel
      obtain ⟨p0, p1, p2, p3, p4, p5, p6, p7⟩ := A3.out.c
      by_cases hlt : j < u.ks.length
      · have r0 : (0 : Int) ≤ j := by omega
        have r1 : (j : Int) < u.ks.length := by omega
        have K1 := Lib.hid (spec_binds u wr b o j A3.out)
        have BV := Lib.hid (bndI_vis HOK.out hlt nm)
        go_wp2_with fail
        refine K1.out.mono ?_
        rintro e w3 ⟨a, cc, n, rfl, hn, hst, g3⟩
        have G3 := Lib.hid g3
        have K2 := Lib.hid (spec_atN _ n hn nm w3 a cc hst)
        clear g3 hn hst K1 p0 p1 p2 p3 p4 p5 p6 p7
        go_wp2_with fail
        refine K2.out.mono ?_
        rintro e w4 ⟨r, rfl, hr, g4⟩
        have G4 := Lib.hid (G3.out.trans g4)
        have HR2 := Lib.hid (hr.has.trans BV.out)
        have HG4 := Lib.hid (HG3.out.trans (G4.out.mono HS3.out))
        have A4 := Lib.hid (A.out.grow (HG4.out.mono HB0.out))
        have HRW4 := Lib.hid (HRW.out.grow G4.out)
        have HBL4 := Lib.hid (HBL.out.trans (G4.out.mono HS3.out))
        clear g4 hr K2
        by_cases hv : vU u nm ≤ j
        · have hr0 : ¬ r < 0 := by have := HR2.out; rw [decide_eq_true hv] at this; simp at this; omega
          have HV := Lib.hid hv
          clear hv
          go_wp2_with fail
          go_roundw
          case rel =>
            have hv := HV.out
            exact ⟨j + 1, sv, by omega, by go_num, rfl, by rw [show min (j + 1) (vU u nm) = min j (vU u nm) by omega]; exact HRW4.out, HBL4.out⟩
          case measure => simp [intOf]; omega
        · have hr0 : r < 0 := by have := HR2.out; rw [decide_eq_false hv] at this; simp at this; omega
          have HV := Lib.hid (show min j (vU u nm) = j ∧ min (j + 1) (vU u nm) = j + 1 by omega)
          clear hv
          obtain ⟨bk, ok, ha, hkid⟩ := tmAt.kid A.out.2.kids j hlt
          obtain ⟨p0, p1, p2, p3, p4, p5, p6, p7⟩ := A4.out.c
          rw [ha] at p7
          have key := ih u.ks[j] (List.getElem_mem hlt) w0 w4 bk (ok + j * 8) d B sv (L ++ lvm u nm d (min j (vU u nm))) (flg u.k j) (ok_kid HOK.out j hlt)
            (by have h1 := lvm_room u nm d j hlt; have h2 := HD.out; rw [HV.out.1, List.length_append]; omega) (by have := dp_kid u j hlt; have := HD2.out; omega) hkid HB0.out HG4.out (Nat.le_trans HS3.out G4.out.size) HRW4.out
          have KEY := Lib.hid key
          clear ha hkid key
          go_wp2_with fail
          refine KEY.out.mono ?_
          rintro e w5 ⟨v5, rfl, hr5, hb5⟩
          have HR5 := Lib.hid hr5
          have HB5 := Lib.hid (HBL4.out.trans hb5)
          clear hr5 hb5 KEY p0 p1 p2 p3 p4 p5 p6 p7
          go_wp2_with fail
          go_roundw
          case rel => exact ⟨j + 1, v5, by omega, by go_num, rfl, by rw [HV.out.2, lvm_succ u nm d j hlt, ← List.append_assoc]; have := HR5.out; rw [HV.out.1] at this; rw [← HDD.out, ← ED.out]; exact this, HB5.out⟩
          case measure => simp [intOf]; omega
      · obtain rfl : j = u.ks.length := by omega
        have HV := Lib.hid (show min u.ks.length (vU u nm) = vU u nm by have := VL.out; omega)
        go_wp2_with fail
        go_ret
        exact ⟨_, rfl, by rw [FIN.out]; have := HRW.out; rw [HV.out] at this; exact this, HBL.out⟩

theorem lv_allC (nm : ByteArray) (hnm : nm.size ≤ 9223372036854775807) (u : LM) : LvC nm u := by
  refine LM.ind (P := LvC nm) (fun k m n t na nc ns a cap ks ih => ?_) u
  intro w0 w b o d B v L c hok hd hd2 h hB0 hg hB hr
  by_cases h1 : (LM.mk k m n t na nc ns a cap ks).k = 1
  · exact lv_leaf nm hnm (.mk k m n t na nc ns a cap ks) w0 w b o d B v L hd (by omega) h hB0 hg hB hr h1
  · exact lv_body nm hnm (.mk k m n t na nc ns a cap ks) ih w0 w b o d B v L c hok hd hd2 h hB0 hg hB hr h1 _ rfl

/-- What LevelsOf tells. -/
def lvT (nm : ByteArray) (t : Tm) : List Int := if okT t = true then t.lv nm 0 else []
def LvGw (nm : ByteArray) (t : Tm) (w : World) (e : Ending) (w' : World) : Prop := ∃ v, e = .returned v ∧ IRow w.heap.size w' v (lvT nm t) ∧ Gw w w'
theorem lvT_len (nm : ByteArray) (t : Tm) : (lvT nm t).length ≤ 160 := by
  unfold lvT
  split
  · next h =>
    have h1 := (okT_good h).2.2
    have h2 := lv_len nm t 0
    omega
  · simp

theorem spec_levelsOf (u : LM) (nm : ByteArray) (hnm : nm.size ≤ 9223372036854775807) (w : World) (h : u.Ok w) : Calls Tryd.prog 17 #[u.val, .string nm] w (LvGw nm u.tm w) := by
  have hA := tmAt.new (e := 50) h
  have key := spec_l03Ok u _ _ _ hA
  have HA := Lib.hid hA
  have G := Lib.hid ((Gw.refl w).alloc (.cells #[.int .i64 u.k, .int .i64 u.m, .string u.n, .int .i64 u.t.k, .string u.t.n, .slice u.t.a u.t.ks.length u.t.cap, .slice u.na u.ns.length u.nc, .slice u.a u.ks.length u.cap] 50))
  have hlt := (BoxM.new w u 50).lt
  cases hok : okT u.tm with
  | false =>
    rw [hok] at key
    have KEY := Lib.hid key
    have F := Lib.hid (show lvT nm u.tm = [] by unfold lvT; rw [hok]; rfl)
    clear key h hA hok
    go_enter Tryd.func17, Tryd.ntmps17
    go_wp2_with fail
    refine KEY.out.mono ?_
    rintro e w1 ⟨rfl, g1⟩
    have G1 := Lib.hid (G.out.trans g1)
    go_wp2_with fail
    go_ret
    exact ⟨_, rfl, by rw [F.out]; exact World.ownsRow_made w1 #[] 0 G1.out.size (by decide) rfl, G1.out.alloc _⟩
  | true =>
    rw [hok] at key
    have KEY := Lib.hid key
    have F := Lib.hid (show lvT nm u.tm = u.tm.lv nm 0 by unfold lvT; rw [hok]; rfl)
    have FG := Lib.hid (okT_good hok)
    clear key h hA hok
    go_enter Tryd.func17, Tryd.ntmps17
    go_wp2_with fail
    refine KEY.out.mono ?_
    rintro e w1 ⟨rfl, g1⟩
    have G1 := Lib.hid (G.out.trans g1)
    have hr : IRow w1.heap.size (w1.alloc (.cells #[] 2)) (.slice (some ⟨w1.heap.size, 0, none⟩) 0 0) [] := World.ownsRow_made w1 #[] 0 (Nat.le_refl _) (by decide) rfl
    have K2 := Lib.hid (lv_allC nm hnm u w1 (w1.alloc (.cells #[] 2)) _ _ 0 w1.heap.size (.slice (some ⟨w1.heap.size, 0, none⟩) 0 0) [] false FG.out.1 (by have := FG.out.2.2; simp; omega) (by have := FG.out.2.1; omega) (HA.out.grow g1) (Nat.le_refl _) ((Below.refl _ w1).alloc (Nat.le_refl _) _) (by simp) hr)
    have G2 := Lib.hid ((Below.refl _ w1).alloc (Nat.le_refl w1.heap.size) (.cells #[] 2))
    clear g1 hr
    go_wp2_with fail
    refine K2.out.mono ?_
    rintro e w2 ⟨v2, rfl, hr2, hb2⟩
    go_wp2_with fail
    go_ret
    exact ⟨_, rfl, by rw [F.out]; simpa using hr2.mono G1.out.size, G1.out.trans (G2.out.trans hb2)⟩

end Go.Proofs.YtkfplnnncfkjfaaDoor.Con
