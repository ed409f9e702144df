/-
  The nodes of a core term with their places, without addresses; contracts of the model's l06Binds, l06Above, l06Closed, IsClosed, l06Count and CountVar. No condition but that the core term lies in memory.
-/
import Derived.Test.YtkpbiifikkbaeaaDoorCoSp
import Derived.Test.YtkpbiifikkbaeaaDoorCoIt
namespace Go.Proofs.YtkpbiifikkbaeaaDoor.Con
open Go.RowKit
set_option linter.unusedVariables false

structure PK where
  k : Int
  v : Int
  ds : List Int
  l : Nat
  bd : Nat
  lv : Nat
def Co.pl : Co → Nat → Nat → List PK
  | .mk k v ds ks, bd, lv => ⟨k, v, ds, ks.length, bd, lv⟩ :: pls k bd (lv + bxK k) 0 ks
where pls (k : Int) (bd lv : Nat) : Nat → List Co → List PK
  | _, [] => []
  | i, t :: ts => t.pl (bd + bndK k i) lv ++ pls k bd lv (i + 1) ts
def kpl (t : Co) (bd lv j : Nat) : List PK := (List.range j).flatMap fun i => (t.ks.getD i default).pl (bd + bndK t.k i) (lv + bxK t.k)
theorem pls_range (k : Int) (bd lv : Nat) : ∀ (ts : List Co) (i : Nat), Co.pl.pls k bd lv i ts = (List.range ts.length).flatMap fun j => (ts.getD j default).pl (bd + bndK k (i + j)) lv
  | [], i => rfl
  | t :: ts, i => by
    rw [Co.pl.pls, pls_range k bd lv ts (i + 1), List.length_cons, List.range_succ_eq_map, List.flatMap_cons, List.flatMap_map]
    simp only [List.getD_cons_zero, List.getD_cons_succ, Nat.add_zero]
    congr 1
    refine congrArg (fun f => List.flatMap f (List.range ts.length)) (funext fun j => ?_)
    rw [show i + 1 + j = i + (j + 1) by omega]
theorem pl_eq (t : Co) (bd lv : Nat) : t.pl bd lv = ⟨t.k, t.v, t.ds, t.ks.length, bd, lv⟩ :: kpl t bd lv t.ks.length := by
  obtain ⟨k, v, ds, ks⟩ := t
  rw [Co.pl, pls_range]
  simp only [Nat.zero_add]
  rfl
theorem kpl_zero (t : Co) (bd lv : Nat) : kpl t bd lv 0 = [] := rfl
theorem kpl_succ (t : Co) (bd lv j : Nat) (hj : j < t.ks.length) : kpl t bd lv (j + 1) = kpl t bd lv j ++ t.ks[j].pl (bd + bndK t.k j) (lv + bxK t.k) := by
  unfold kpl
  rw [List.range_succ, List.flatMap_append, List.flatMap_singleton, List.getD, List.getElem?_eq_getElem hj]; rfl

def NodeK.pk (x : NodeK) : PK := ⟨x.u.k, x.u.v, x.u.ds, x.u.ks.length, x.bd, x.lv⟩
theorem nodesK_pl_of (u : LK) (ih : ∀ t ∈ u.ks, ∀ b o bd lv, (nodesK t b o bd lv).map NodeK.pk = t.co.pl bd lv) (b o bd lv : Nat) : (nodesK u b o bd lv).map NodeK.pk = u.co.pl bd lv := by
  have key : ∀ j, j ≤ u.ks.length → (kidsK u bd lv j).map NodeK.pk = kpl u.co bd lv j := by
    intro j
    induction j with
    | zero => intro _; rfl
    | succ j ihj =>
      intro hj
      have hl : j < u.ks.length := by omega
      rw [kidsK_succ u bd lv j hl, List.map_append, ihj (by omega), ih _ (List.getElem_mem hl), kpl_succ _ _ _ _ (by rw [u.co_len]; exact hl), u.co_kid j hl, u.co_k]
  rw [nodesK_eq, List.map_cons, key _ (Nat.le_refl _), pl_eq, u.co_k, u.co_v, u.co_ds, u.co_len]
  rfl
theorem nodesK_pl (u : LK) : ∀ b o bd lv, (nodesK u b o bd lv).map NodeK.pk = u.co.pl bd lv := by
  refine LK.ind (P := fun u => ∀ b o bd lv, (nodesK u b o bd lv).map NodeK.pk = u.co.pl bd lv) (fun k v da dc ds a cap ks ih => ?_) u
  exact nodesK_pl_of (.mk k v da dc ds a cap ks) ih

/-- A node is a free variable of the whole; it is the free variable i. -/
def freeP (p : PK) : Bool := p.k == 1 && decide ((p.bd : Int) ≤ p.v)
def isP (i : Int) (p : PK) : Bool := p.k == 1 && (p.v == i + p.bd)
def closC (t : Co) : Bool := okC t && !((t.pl 0 0).any freeP)
def cntC (i : Int) (t : Co) : Int := if okC t = true ∧ 0 ≤ i ∧ i ≤ 255 then (((t.pl 0 0).countP (isP i) : Nat) : Int) else 0

theorem var_leaf {t : Co} (h : t.all headC = true) (hk : t.k = 1) : t.ks.length = 0 := by
  rw [Co.all_eq, Bool.and_eq_true] at h
  have h1 := h.1
  unfold headC at h1
  simp only [Bool.and_eq_true] at h1
  have h2 := h1.1
  rw [hk] at h2
  unfold inV at h2
  simp only [decide_eq_true_eq] at h2
  have : coHi 1 = 0 := rfl
  omega
theorem all_kid {u : LK} {H : Int → Int → List Int → Nat → Bool} (h : u.co.all H = true) (j : Nat) (hj : j < u.ks.length) : u.ks[j].co.all H = true := by
  rw [Co.all_eq, Bool.and_eq_true, calls_iff, LK.co_ks] at h
  exact h.2 _ (List.mem_map_of_mem (List.getElem_mem hj))
theorem dp_kid {u : LK} (j : Nat) (hj : j < u.ks.length) : u.ks[j].co.dp + 1 ≤ u.co.dp := by
  have := cdps_ge (ks := u.co.ks) (t := u.ks[j].co) (by rw [LK.co_ks]; exact List.mem_map_of_mem (List.getElem_mem hj))
  rw [Co.dp_eq u.co]; omega

theorem spec_cbinds (u : LK) (w : World) (b o j : Nat) (hj : j ≤ 9223372036854775807) (h : coAt w b o u) : Calls Tryd.prog 113 #[.pointer (some ⟨b, o, none⟩), .int .i64 j] w fun e w' => e = .returned (.int .i64 ((bndK u.k j : Nat) : Int)) ∧ w' = w := by
  obtain ⟨p0, p1, p2, p3⟩ := h.c
  clear h
  by_cases h4 : u.k = 4
  · have F := Lib.hid (show bndK u.k j = 1 by unfold bndK; rw [if_pos (.inl h4)])
    have q : (u.k == 4) = true := by simpa using h4
    clear h4
    go_enter Tryd.func113, Tryd.ntmps113
    go_wp2_with fail
    go_ret
    exact ⟨ret_int (by rw [F.out]; rfl), rfl⟩
  have q4 : (u.k == 4) = false := by simpa using h4
  by_cases h7 : u.k = 7
  · have q7 : (u.k == 7) = true := by simpa using h7
    by_cases h1 : j = 1
    · subst h1
      have F := Lib.hid (show bndK u.k 1 = 1 by unfold bndK; rw [if_pos (.inr ⟨h7, rfl⟩)])
      clear h4 h7
      go_enter Tryd.func113, Tryd.ntmps113
      go_wp2_with fail
      go_ret
      exact ⟨ret_int (by rw [F.out]; rfl), rfl⟩
    · have F := Lib.hid (show bndK u.k j = 0 by unfold bndK; rw [if_neg (by omega)])
      have q1 : ((j : Int) == 1) = false := by simp; omega
      clear h4 h7 h1
      go_enter Tryd.func113, Tryd.ntmps113
      go_wp2_with fail
      go_ret
      exact ⟨ret_int (by rw [F.out]; rfl), rfl⟩
  · have q7 : (u.k == 7) = false := by simpa using h7
    have F := Lib.hid (show bndK u.k j = 0 by unfold bndK; rw [if_neg (by omega)])
    clear h4 h7
    go_enter Tryd.func113, Tryd.ntmps113
    go_wp2_with fail
    go_ret
    exact ⟨ret_int (by rw [F.out]; rfl), rfl⟩

def KAb (u : LK) : Prop := ∀ (w : World) (b o d lv : Nat), coAt w b o u → u.co.all headC = true → d + u.co.dp ≤ 100000 → Calls Tryd.prog 100 #[.pointer (some ⟨b, o, none⟩), .int .i64 d] w (BoolGw ((u.co.pl d lv).any freeP) w)

set_option maxRecDepth 100000 in
set_option maxHeartbeats 1000000 in
theorem kab_of (u : LK) (ih : ∀ t ∈ u.ks, KAb t) : KAb u := by
  intro w b o d lv h hok hd
  have hll := h.2.kl
  have A := Lib.hid h
  have HOK := Lib.hid hok
  have PE := Lib.hid (pl_eq u.co d lv)
  obtain ⟨p0, p1, p2, p3⟩ := h.c
  clear h
  by_cases h1 : u.k = 1
  · have hl := var_leaf hok (by rw [u.co_k]; exact h1)
    have F := Lib.hid (show (u.co.pl d lv).any freeP = decide ((d : Int) ≤ u.v) by
      rw [PE.out, hl, kpl_zero, List.any_cons, List.any_nil, Bool.or_false, u.co_k, u.co_v, h1]; rfl)
    have q : (u.k == 1) = true := by simpa using h1
    clear h1 hok hl
    by_cases hv : (d : Int) ≤ u.v
    · have F2 := Lib.hid (show (u.co.pl d lv).any freeP = true by rw [F.out, decide_eq_true hv])
      clear F
      go_enter Tryd.func100, Tryd.ntmps100
      go_wp2_with fail
      go_ret
      exact ⟨ret_b (by rw [F2.out]), Gw.refl _⟩
    · have F2 := Lib.hid (show (u.co.pl d lv).any freeP = false by rw [F.out, decide_eq_false hv])
      clear F
      go_enter Tryd.func100, Tryd.ntmps100
      go_wp2_with fail
      go_ret
      exact ⟨ret_b (by rw [F2.out]), Gw.refl _⟩
  have q1 : (u.k == 1) = false := by simpa using h1
  have F := Lib.hid (show (u.co.pl d lv).any freeP = (kpl u.co d lv u.co.ks.length).any freeP by
    rw [PE.out, List.any_cons]; unfold freeP; simp only [u.co_k, q1, Bool.false_and, Bool.false_or])
  clear h1 hok
  go_enter Tryd.func100, Tryd.ntmps100
  go_wp2_with fail
  clear p0 p1 p2 p3 q1
  go_loopw [5] (fun i wr => ∃ j : Nat, j ≤ u.ks.length ∧ i = .int .i64 j ∧ Gw w wr ∧ (kpl u.co d lv j).any freeP = false) (fun i _ => u.ks.length - (intOf i).toNat)
  case atStart => exact ⟨0, by omega, rfl, Gw.refl _, rfl⟩
  case round =>
    obtain ⟨j, hj, rfl, hg, hall⟩ := hrel
    have HALL := Lib.hid hall
    have HG := Lib.hid hg
    have A3 := Lib.hid (A.out.grow hg)
    clear hall hg
    obtain ⟨p0, p1, p2, p3⟩ := A3.out.c
    by_cases hlt : j < u.ks.length
    · obtain ⟨bk, ok, ha, hkid⟩ := coAt.kid A3.out.2.kids j hlt
      rw [ha] at p3
      have r0 : (0 : Int) ≤ j := by omega
      have r1 : (j : Int) < u.ks.length := by omega
      have hdk := dp_kid j hlt
      have hb1 := bndK_le u.k j
      obtain ⟨p, hp⟩ : ∃ p, p = bndK u.k j := ⟨_, rfl⟩
      have KS := Lib.hid (show kpl u.co d lv (j + 1) = kpl u.co d lv j ++ u.ks[j].co.pl (d + p) (lv + bxK u.k) by
        rw [kpl_succ _ _ _ _ (by rw [u.co_len]; exact hlt), u.co_kid j hlt, u.co_k, hp])
      have KB := Lib.hid (spec_cbinds u wr.drew b o j (by omega) (A3.out.grow (Gw.refl wr).drew))
      rw [← hp] at KB hb1
      have KEY := Lib.hid (ih u.ks[j] (List.getElem_mem hlt) wr.drew bk (ok + j * 4) (d + p) (lv + bxK u.k) (hkid.grow (Gw.refl wr).drew) (all_kid HOK.out j hlt) (by omega))
      rw [show ((d + p : Nat) : Int) = (d : Int) + p by omega] at KEY
      have wr1 : IntKind.i64.wrap ((d : Int) + p) = (d : Int) + p := by unfold IntKind.wrap; simp [IntKind.signed, IntKind.bits]; omega
      clear ha hkid hp
      go_wp2_with fail
      refine wp_region_still_tail 11 (by kernel_rfl) (by kernel_rfl) ?_
      simp only [List.take_succ_cons, List.take_zero, List.drop_succ_cons, List.drop_zero]
      iterate 9 still_step
      still_call KB.out
      iterate 1 still_step
      refine wpStill_nil ?_
      change wpList _ _ _ _ _ wr.drew
      go_wp2_with fail
      refine KEY.out.mono ?_
      rintro e w3 ⟨rfl, g3⟩
      have G3 := Lib.hid (HG.out.trans ((Gw.refl wr).drew.trans g3))
      clear g3 KEY p0 p1 p2 p3 KB
      cases hb : (u.ks[j].co.pl (d + p) (lv + bxK u.k)).any freeP with
      | true =>
        have FF := Lib.hid (show (kpl u.co d lv u.co.ks.length).any freeP = true by
          obtain ⟨x, hx, hx2⟩ := List.any_eq_true.1 hb
          refine List.any_eq_true.2 ⟨x, ?_, hx2⟩
          unfold kpl
          refine List.mem_flatMap.2 ⟨j, by rw [u.co_len]; exact List.mem_range.2 hlt, ?_⟩
          have h1 := kpl_succ u.co d lv j (by rw [u.co_len]; exact hlt)
          rw [KS.out] at h1
          have h2 := List.append_cancel_left h1
          rw [List.getD, List.getElem?_eq_getElem (by rw [u.co_len]; exact hlt)]
          show x ∈ (u.co.ks[j]'(by rw [u.co_len]; exact hlt)).pl (d + bndK u.co.k j) (lv + bxK u.co.k)
          rw [← h2]; exact hx)
        clear hb
        go_wp2_with fail
        go_ret
        exact ⟨ret_b (by rw [F.out, FF.out]), G3.out⟩
      | false =>
        have HB := Lib.hid hb
        clear hb
        go_wp2_with fail
        go_roundw
        case rel => exact ⟨j + 1, by omega, by go_num, G3.out, by rw [KS.out, List.any_append, HALL.out, HB.out]; rfl⟩
        case measure => simp [intOf]; omega
    · obtain rfl : j = u.ks.length := by omega
      have FF := Lib.hid (show (kpl u.co d lv u.co.ks.length).any freeP = false by rw [u.co_len]; exact HALL.out)
      go_wp2_with fail
      go_ret
      exact ⟨ret_b (by rw [F.out, FF.out]), HG.out⟩

theorem kab_all (u : LK) : KAb u := by
  refine LK.ind (P := KAb) (fun k v da dc ds a cap ks ih => ?_) u
  exact kab_of (.mk k v da dc ds a cap ks) ih

theorem spec_l06Closed (u : LK) (w : World) (b o : Nat) (hA : coAt w b o u) : Calls Tryd.prog 89 #[.pointer (some ⟨b, o, none⟩)] w (BoolGw (closC u.co) w) := by
  have key := spec_l06Ok u _ _ _ hA
  have HA := Lib.hid hA
  cases hok : okC u.co with
  | false =>
    rw [hok] at key
    have KEY := Lib.hid key
    have F := Lib.hid (show closC u.co = false by unfold closC; rw [hok]; rfl)
    clear key hA hok
    go_enter Tryd.func89, Tryd.ntmps89
    go_wp2_with fail
    refine KEY.out.mono ?_
    rintro e w1 ⟨rfl, g1⟩
    go_wp2_with fail
    go_ret
    exact ⟨ret_b F.out.symm, g1⟩
  | true =>
    rw [hok] at key
    have KEY := Lib.hid key
    have F := Lib.hid (show closC u.co = !((u.co.pl 0 0).any freeP) by unfold closC; rw [hok]; rfl)
    have GD := Lib.hid (okC_good hok)
    clear key hA hok
    go_enter Tryd.func89, Tryd.ntmps89
    go_wp2_with fail
    refine KEY.out.mono ?_
    rintro e w1 ⟨rfl, g1⟩
    have K2 := Lib.hid (kab_all u w1 b o 0 0 (HA.out.grow g1) GD.out.1 (by have := GD.out.2.1; omega))
    have G1 := Lib.hid g1
    clear g1
    go_wp2_with fail
    refine K2.out.mono ?_
    rintro e w2 ⟨rfl, g2⟩
    go_wp2_with fail
    go_ret
    exact ⟨ret_b F.out.symm, G1.out.trans g2⟩

end Go.Proofs.YtkpbiifikkbaeaaDoor.Con
