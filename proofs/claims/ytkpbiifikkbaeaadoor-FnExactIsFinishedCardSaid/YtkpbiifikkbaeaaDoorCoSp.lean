/-
  Contracts of the model's l06Shape, l06Value, l06Nodes, l06Ok, ValidCore and CoreSize. No condition but that the core term lies in memory.
-/
import Derived.Test.YtkpbiifikkbaeaaDoorCoVal
import Derived.Outline
import Derived.LoopTactic
import Derived.Lib.Hide
import Derived.StillTailTactics
namespace Go.Proofs.YtkpbiifikkbaeaaDoor.Con
open Go.RowKit
set_option linter.unusedVariables false

theorem cshape_tuple (k : Int) (lo hi dl dh : Int) (h1 : coLo k = lo) (h2 : coHi k = hi) (h3 : cdLo k = dl) (h4 : cdHi k = dh) : Ending.returned (.tuple #[.int .i64 lo, .int .i64 hi, .int .i64 dl, .int .i64 dh]) = .returned (.tuple #[.int .i64 (coLo k), .int .i64 (coHi k), .int .i64 (cdLo k), .int .i64 (cdHi k)]) := by rw [h1, h2, h3, h4]

theorem spec_shape (k : Int) (w : World) : Calls Tryd.prog 120 #[.int .i64 k] w fun e w' => e = .returned (.tuple #[.int .i64 (coLo k), .int .i64 (coHi k), .int .i64 (cdLo k), .int .i64 (cdHi k)]) ∧ w = w' := by
  by_cases h1 : k = 1
  · subst h1
    go_enter Tryd.func120, Tryd.ntmps120
    go_wp2_with fail
    exact bodyPost_ret (v := .tuple #[.int .i64 0, .int .i64 0, .int .i64 0, .int .i64 0]) (by simp [results, Tryd.results120, go_sem]) rfl ⟨rfl, rfl⟩
  by_cases h2 : k = 2
  · subst h2
    go_enter Tryd.func120, Tryd.ntmps120
    go_wp2_with fail
    exact bodyPost_ret (v := .tuple #[.int .i64 0, .int .i64 0, .int .i64 0, .int .i64 0]) (by simp [results, Tryd.results120, go_sem]) rfl ⟨rfl, rfl⟩
  by_cases h3 : k = 3
  · subst h3
    go_enter Tryd.func120, Tryd.ntmps120
    go_wp2_with fail
    exact bodyPost_ret (v := .tuple #[.int .i64 2, .int .i64 2, .int .i64 0, .int .i64 0]) (by simp [results, Tryd.results120, go_sem]) rfl ⟨rfl, rfl⟩
  by_cases h4 : k = 4
  · subst h4
    go_enter Tryd.func120, Tryd.ntmps120
    go_wp2_with fail
    exact bodyPost_ret (v := .tuple #[.int .i64 1, .int .i64 1, .int .i64 0, .int .i64 0]) (by simp [results, Tryd.results120, go_sem]) rfl ⟨rfl, rfl⟩
  by_cases h5 : k = 5
  · subst h5
    go_enter Tryd.func120, Tryd.ntmps120
    go_wp2_with fail
    exact bodyPost_ret (v := .tuple #[.int .i64 2, .int .i64 2, .int .i64 0, .int .i64 0]) (by simp [results, Tryd.results120, go_sem]) rfl ⟨rfl, rfl⟩
  by_cases h6 : k = 6
  · subst h6
    go_enter Tryd.func120, Tryd.ntmps120
    go_wp2_with fail
    exact bodyPost_ret (v := .tuple #[.int .i64 1, .int .i64 1, .int .i64 0, .int .i64 0]) (by simp [results, Tryd.results120, go_sem]) rfl ⟨rfl, rfl⟩
  by_cases h7 : k = 7
  · subst h7
    go_enter Tryd.func120, Tryd.ntmps120
    go_wp2_with fail
    exact bodyPost_ret (v := .tuple #[.int .i64 2, .int .i64 2, .int .i64 0, .int .i64 0]) (by simp [results, Tryd.results120, go_sem]) rfl ⟨rfl, rfl⟩
  by_cases h8 : k = 8
  · subst h8
    go_enter Tryd.func120, Tryd.ntmps120
    go_wp2_with fail
    exact bodyPost_ret (v := .tuple #[.int .i64 0, .int .i64 3, .int .i64 0, .int .i64 0]) (by simp [results, Tryd.results120, go_sem]) rfl ⟨rfl, rfl⟩
  by_cases h9 : k = 9
  · subst h9
    go_enter Tryd.func120, Tryd.ntmps120
    go_wp2_with fail
    exact bodyPost_ret (v := .tuple #[.int .i64 1, .int .i64 1, .int .i64 1, .int .i64 4]) (by simp [results, Tryd.results120, go_sem]) rfl ⟨rfl, rfl⟩
  by_cases h10 : k = 10
  · subst h10
    go_enter Tryd.func120, Tryd.ntmps120
    go_wp2_with fail
    exact bodyPost_ret (v := .tuple #[.int .i64 1, .int .i64 1, .int .i64 2, .int .i64 2]) (by simp [results, Tryd.results120, go_sem]) rfl ⟨rfl, rfl⟩
  by_cases h11 : k = 11
  · subst h11
    go_enter Tryd.func120, Tryd.ntmps120
    go_wp2_with fail
    exact bodyPost_ret (v := .tuple #[.int .i64 0, .int .i64 0, .int .i64 0, .int .i64 0]) (by simp [results, Tryd.results120, go_sem]) rfl ⟨rfl, rfl⟩
  have e1 : (k == 1) = false := by simpa using h1
  have e2 : (k == 2) = false := by simpa using h2
  have e3 : (k == 3) = false := by simpa using h3
  have e4 : (k == 4) = false := by simpa using h4
  have e5 : (k == 5) = false := by simpa using h5
  have e6 : (k == 6) = false := by simpa using h6
  have e7 : (k == 7) = false := by simpa using h7
  have e8 : (k == 8) = false := by simpa using h8
  have e9 : (k == 9) = false := by simpa using h9
  have e10 : (k == 10) = false := by simpa using h10
  have e11 : (k == 11) = false := by simpa using h11
  have f1 : coLo k = 0 := by unfold coLo; simp [h3, h5, h7, h4, h6, h9, h10]
  have f2 : coHi k = -1 := by unfold coHi; simp [h1, h2, h3, h4, h5, h6, h7, h8, h9, h10, h11]
  have f3 : cdLo k = 0 := by unfold cdLo; simp [h9, h10]
  have f4 : cdHi k = 0 := by unfold cdHi; simp [h9, h10]
  rw [f1, f2, f3, f4]
  clear h1 h2 h3 h4 h5 h6 h7 h8 h9 h10 h11 f1 f2 f3 f4
  go_enter Tryd.func120, Tryd.ntmps120
  go_wp2_with fail
  exact bodyPost_ret (v := .tuple #[.int .i64 0, .int .i64 (-1), .int .i64 0, .int .i64 0]) (by simp [results, Tryd.results120, go_sem]) rfl ⟨rfl, rfl⟩

theorem spec_coV (w : World) (b o : Nat) (k v : Int) (h0 : w.cell? ⟨b, o, none⟩ = some (.int .i64 k)) (h1 : w.cell? ⟨b, o + 1, none⟩ = some (.int .i64 v)) : Calls Tryd.prog 121 #[.pointer (some ⟨b, o, none⟩)] w fun e w' => e = .returned (.bool (coV k v)) ∧ w = w' := by
  by_cases c1 : k = 1
  · subst c1
    go_enter Tryd.func121, Tryd.ntmps121
    go_wp2_with fail
    refine (specIn v 0 255 _).mono ?_
    rintro e w1 ⟨rfl, rfl⟩
    go_wp2_with fail
    go_ret
    exact ⟨ret_b (by unfold coV; simp), rfl⟩
  by_cases c2 : k = 2
  · subst c2
    go_enter Tryd.func121, Tryd.ntmps121
    go_wp2_with fail
    refine (specIn v (-2147483648) 2147483647 _).mono ?_
    rintro e w1 ⟨rfl, rfl⟩
    go_wp2_with fail
    go_ret
    exact ⟨ret_b (by unfold coV; simp), rfl⟩
  by_cases c3 : k = 3
  · subst c3
    go_enter Tryd.func121, Tryd.ntmps121
    go_wp2_with fail
    refine (specIn v 1 6 _).mono ?_
    rintro e w1 ⟨rfl, rfl⟩
    go_wp2_with fail
    go_ret
    exact ⟨ret_b (by unfold coV; simp), rfl⟩
  by_cases c8 : k = 8
  · subst c8
    go_enter Tryd.func121, Tryd.ntmps121
    go_wp2_with fail
    refine (specIn v 0 3 _).mono ?_
    rintro e w1 ⟨rfl, rfl⟩
    go_wp2_with fail
    go_ret
    exact ⟨ret_b (by unfold coV; simp), rfl⟩
  by_cases c11 : k = 11
  · subst c11
    go_enter Tryd.func121, Tryd.ntmps121
    go_wp2_with fail
    refine (specIn v 0 23 _).mono ?_
    rintro e w1 ⟨rfl, rfl⟩
    go_wp2_with fail
    go_ret
    exact ⟨ret_b (by unfold coV; simp), rfl⟩
  have e1 : (k == 1) = false := by simpa using c1
  have e2 : (k == 2) = false := by simpa using c2
  have e3 : (k == 3) = false := by simpa using c3
  have e8 : (k == 8) = false := by simpa using c8
  have e11 : (k == 11) = false := by simpa using c11
  have f1 : coV k v = (v == 0) := by unfold coV; simp [c1, c2, c3, c8, c11]
  rw [f1]
  clear c1 c2 c3 c8 c11 f1
  go_enter Tryd.func121, Tryd.ntmps121
  go_wp2_with fail
  go_ret
  exact ⟨rfl, rfl⟩

def KNd (u : LK) : Prop := ∀ (w : World) (b o d l : Nat), d ≤ 80 → l ≤ 400 → coAt w b o u → Calls Tryd.prog 114 #[.pointer (some ⟨b, o, none⟩), .int .i64 d, .int .i64 l] w (IntGw (ndC headC u.co d l) w)

theorem knd_head1 (u : LK) (w : World) (b o d l : Nat) (hd : d ≤ 80) (hl : l ≤ 400) (h : coAt w b o u) (hb : d < 1 ∨ l < 1) : Calls Tryd.prog 114 #[.pointer (some ⟨b, o, none⟩), .int .i64 d, .int .i64 l] w (IntGw (ndC headC u.co d l) w) := by
  have F := Lib.hid (ndC_no (ndC_no3 (H := headC) (t := u.co) hb))
  obtain ⟨p0, p1, p2, p3⟩ := h.c
  clear h
  by_cases h1 : d < 1
  · have q1 : (d : Int) < 1 := by omega
    clear hb
    go_enter Tryd.func114, Tryd.ntmps114
    go_wp2_with fail
    refine (spec_shape u.k _).mono ?_
    rintro e w1 ⟨rfl, rfl⟩
    go_wp2_with fail
    go_ret
    exact ⟨ret_int F.out.symm, Gw.refl _⟩
  · have q1 : ¬ (d : Int) < 1 := by omega
    have q2 : (l : Int) < 1 := by omega
    clear hb h1
    go_enter Tryd.func114, Tryd.ntmps114
    go_wp2_with fail
    refine (spec_shape u.k _).mono ?_
    rintro e w1 ⟨rfl, rfl⟩
    go_wp2_with fail
    go_ret
    exact ⟨ret_int F.out.symm, Gw.refl _⟩

set_option maxRecDepth 100000 in
set_option maxHeartbeats 2000000 in
theorem knd_body (u : LK) (ih : ∀ t ∈ u.ks, KNd t) (w : World) (b o d l : Nat) (hd : d ≤ 80) (hl : l ≤ 400) (h : coAt w b o u) (h1 : 1 ≤ d) (h2 : 1 ≤ l) : Calls Tryd.prog 114 #[.pointer (some ⟨b, o, none⟩), .int .i64 d, .int .i64 l] w (IntGw (ndC headC u.co d l) w) := by
  have hlen : u.ks.length ≤ 9223372036854775807 := h.2.kl
  have hdl : u.ds.length ≤ 9223372036854775807 := h.2.dl
  obtain ⟨p0, p1, p2, p3⟩ := h.c
  have A := Lib.hid h
  have q1 : ¬ (d : Int) < 1 := by omega
  have q2 : ¬ (l : Int) < 1 := by omega
  clear h
  go_enter Tryd.func114, Tryd.ntmps114
  go_wp2_with fail
  refine (spec_shape u.k _).mono ?_
  rintro e w1 ⟨rfl, rfl⟩
  obtain ⟨lo, hlo⟩ : ∃ x, x = coLo u.k := ⟨_, rfl⟩
  obtain ⟨hi, hhi⟩ : ∃ x, x = coHi u.k := ⟨_, rfl⟩
  obtain ⟨dlo, hdlo⟩ : ∃ x, x = cdLo u.k := ⟨_, rfl⟩
  obtain ⟨dhi, hdhi⟩ : ∃ x, x = cdHi u.k := ⟨_, rfl⟩
  rw [← hlo, ← hhi, ← hdlo, ← hdhi]
  have HLO := Lib.hid hlo
  have HHI := Lib.hid hhi
  have HDLO := Lib.hid hdlo
  have HDHI := Lib.hid hdhi
  clear hlo hhi hdlo hdhi
  go_wp2_with fail
  refine (specIn u.ks.length lo hi _).mono ?_
  rintro e w1 ⟨rfl, rfl⟩
  cases hI : inV u.ks.length lo hi with
  | false =>
    have F := Lib.hid (ndC_no (ndC_no2 (H := headC) (u := u) (d := d) (l := l) (by unfold headC; rw [← HLO.out, ← HHI.out, hI]; rfl)))
    clear hI
    go_wp2_with fail
    go_ret
    exact ⟨ret_int F.out.symm, Gw.refl _⟩
  | true =>
  have HI := Lib.hid hI
  clear hI
  go_wp2_with fail
  refine (specIn u.ds.length dlo dhi _).mono ?_
  rintro e w1 ⟨rfl, rfl⟩
  cases hI : inV u.ds.length dlo dhi with
  | false =>
    have F := Lib.hid (ndC_no (ndC_no2 (H := headC) (u := u) (d := d) (l := l) (by unfold headC; rw [← HDLO.out, ← HDHI.out, hI]; simp)))
    clear hI
    go_wp2_with fail
    go_ret
    exact ⟨ret_int F.out.symm, Gw.refl _⟩
  | true =>
  have HDI := Lib.hid hI
  clear hI
  go_wp2_with fail
  refine (spec_coV _ b o u.k u.v p0 p1).mono ?_
  rintro e w1 ⟨rfl, rfl⟩
  cases hI : coV u.k u.v with
  | false =>
    have F := Lib.hid (ndC_no (ndC_no2 (H := headC) (u := u) (d := d) (l := l) (by unfold headC; rw [hI]; simp)))
    clear hI
    go_wp2_with fail
    go_ret
    exact ⟨ret_int F.out.symm, Gw.refl _⟩
  | true =>
  have HV := Lib.hid hI
  clear hI
  go_wp2_with fail
  clear p0 p1 p2 p3
  go_loopw [11] (fun i wr => ∃ j : Nat, j ≤ u.ds.length ∧ i = .int .i64 j ∧ w = wr ∧ ∀ x (hx : x < u.ds.length), x < j → inV u.ds[x] 0 (24 - 1) = true) (fun i _ => u.ds.length - (intOf i).toNat)
  case atStart => exact ⟨0, by omega, rfl, by simp, fun x _ h => absurd h (by omega)⟩
  case round =>
    obtain ⟨j, hj, rfl, rfl, hall⟩ := hrel
    have HALL := Lib.hid hall
    clear hall
    obtain ⟨p0, p1, p2, p3⟩ := A.out.c
    by_cases hlt : j < u.ds.length
    · obtain ⟨b1, o1, ha, hr⟩ := A.out.2.dat.2.2.resolve_left (fun e => by rw [e] at hlt; simp at hlt)
      obtain ⟨c0, _⟩ := numRow_get hr j hlt
      rw [ha] at p2
      have q0 : (0 : Int) ≤ j := by omega
      have q3 : (j : Int) < u.ds.length := by omega
      clear hr ha
      go_wp2_with fail
      refine (specIn u.ds[j] 0 23 _).mono ?_
      rintro e w2 ⟨rfl, rfl⟩
      cases hI : inV u.ds[j] 0 23 with
      | false =>
        have F := Lib.hid (ndC_no (ndC_no2 (H := headC) (u := u) (d := d) (l := l) (by unfold headC; rw [coD_bad (n := 24) j hlt hI]; simp)))
        clear hI
        go_wp2_with fail
        go_ret
        exact ⟨ret_int F.out.symm, Gw.refl _⟩
      | true =>
        have HB := Lib.hid hI
        clear hI
        go_wp2_with fail
        go_roundw
        case rel =>
          refine ⟨j + 1, by omega, by go_num, by simp, fun x hx hi => ?_⟩
          by_cases e : x = j
          · subst e; exact HB.out
          · exact HALL.out x hx (by omega)
        case measure => simp [intOf]; omega
    · obtain rfl : j = u.ds.length := by omega
      have HH := Lib.hid (show headC u.k u.v u.ds u.ks.length = true by
        unfold headC; rw [← HLO.out, ← HHI.out, HI.out, ← HDLO.out, ← HDHI.out, HDI.out, HV.out, coD_all (n := 24) (fun i hi => HALL.out i hi hi)]; rfl)
      go_wp2_with fail
      clear p0 p1 p2 p3
      go_loopw [12, 13] (fun n i wr => ∃ j : Nat, j ≤ u.ks.length ∧ i = .int .i64 j ∧ n = .int .i64 (knsum u j : Nat) ∧ knsum u j ≤ l ∧ Gw w wr ∧ KKidsOk headC u d j) (fun _ i _ => u.ks.length - (intOf i).toNat)
      case atStart => exact ⟨0, Nat.zero_le _, rfl, by rw [knsum_zero]; rfl, by rw [knsum_zero]; exact h2, Gw.refl _, fun i _ h => absurd h (by omega)⟩
      case round =>
        obtain ⟨j, hj, rfl, rfl, hle, hg, hall⟩ := hrel
        have HALL := Lib.hid hall
        have HG := Lib.hid hg
        have A3 := Lib.hid (A.out.grow hg)
        clear hall hg
        obtain ⟨p0, p1, p2, p3⟩ := A3.out.c
        by_cases hlt : j < u.ks.length
        · obtain ⟨bk, ok, ha, hkid⟩ := coAt.kid A3.out.2.kids j hlt
          rw [ha] at p3
          have r0 : (0 : Int) ≤ j := by omega
          have r1 : (j : Int) < u.ks.length := by omega
          have HNS := Lib.hid (knsum_succ u j hlt)
          have e1 : (d : Int) - 1 = ((d - 1 : Nat) : Int) := by omega
          have e2 : (l : Int) - (knsum u j : Nat) = ((l - knsum u j : Nat) : Int) := by omega
          have key : Calls Tryd.prog 114 #[.pointer (some ⟨bk, ok + j * 4, none⟩), .int .i64 ((d : Int) - 1), .int .i64 ((l : Int) - (knsum u j : Nat))] wr (IntGw (ndC headC u.ks[j].co (d - 1) (l - knsum u j)) wr) := by
            rw [e1, e2]
            exact ih u.ks[j] (List.getElem_mem hlt) wr bk (ok + j * 4) (d - 1) (l - knsum u j) (by omega) (by omega) hkid
          have KEY := Lib.hid key
          clear key ha hkid e1 e2
          go_wp2_with fail
          refine KEY.out.mono ?_
          rintro e w3 ⟨rfl, g3⟩
          have G3 := Lib.hid (HG.out.trans g3)
          clear g3 KEY p0 p1 p2 p3
          by_cases hgood : goodC headC u.ks[j].co (d - 1) (l - knsum u j)
          · have hnn : u.ks[j].co.nn ≤ l - knsum u j := hgood.2.2
            rw [ndC_yes hgood]
            have GOOD := Lib.hid hgood
            have q5 : ¬ ((u.ks[j].co.nn : Int) < 0) := by omega
            have q6 : (knsum u j : Int) + u.ks[j].co.nn ≤ 400 := by omega
            clear hgood
            go_wp2_with fail
            go_roundw
            case rel =>
              refine ⟨j + 1, by omega, by go_num, by have := HNS.out; congr 1; omega, by have := HNS.out; omega, G3.out, fun i hx hi => ?_⟩
              by_cases e : i = j
              · subst e; exact ⟨GOOD.out.1, GOOD.out.2.1⟩
              · exact HALL.out i hx (by omega)
            case measure => simp [intOf]; omega
          · rw [ndC_no hgood]
            have F := Lib.hid (ndC_no (kkid_no (d := d) (l := l) hlt hgood))
            clear hgood
            go_wp2_with fail
            go_ret
            exact ⟨ret_int F.out.symm, G3.out⟩
        · obtain rfl : j = u.ks.length := by omega
          have F := Lib.hid (ndC_yes (kkid_all (H := headC) HH.out h1 hle HALL.out))
          have FN := Lib.hid (knsum_all u)
          go_wp2_with fail
          go_ret
          exact ⟨ret_int (by rw [F.out, FN.out]), HG.out⟩

theorem knd_all (u : LK) : KNd u := by
  refine LK.ind (P := KNd) (fun k v da dc ds a cap ks ih => ?_) u
  intro w b o d l hd hl h
  by_cases hb : d < 1 ∨ l < 1
  · exact knd_head1 _ w b o d l hd hl h hb
  · exact knd_body (.mk k v da dc ds a cap ks) ih w b o d l hd hl h (by omega) (by omega)

theorem spec_l06Ok (u : LK) (w : World) (b o : Nat) (h : coAt w b o u) : Calls Tryd.prog 99 #[.pointer (some ⟨b, o, none⟩)] w (BoolGw (okC u.co) w) := by
  have key := knd_all u w b o 80 400 (Nat.le_refl _) (Nat.le_refl _) h
  have KEY := Lib.hid key
  clear key h
  go_enter Tryd.func99, Tryd.ntmps99
  go_wp2_with fail
  refine KEY.out.mono ?_
  rintro e w1 ⟨rfl, g1⟩
  by_cases hg : goodC headC u.co 80 400
  · rw [ndC_yes hg]
    have hp := u.co.nn_pos
    have F := Lib.hid (show okC u.co = true from decide_eq_true hg)
    have q : (0 : Int) < u.co.nn := by omega
    clear hg
    go_wp2_with fail
    go_ret
    exact ⟨ret_b (by rw [F.out]; simp; omega), g1⟩
  · rw [ndC_no hg]
    have F := Lib.hid (show okC u.co = false from decide_eq_false hg)
    clear hg
    go_wp2_with fail
    go_ret
    exact ⟨ret_b (by rw [F.out]), g1⟩

end Go.Proofs.YtkpbiifikkbaeaaDoor.Con
