/-
  Contracts of the model's l06Count and CountVar. No condition but that the core term lies in memory.
-/
import Derived.Test.YtfbgkbgoooepmaaDoorCoPl
import Derived.Deep.RegionHeld3
namespace Go.Proofs.YtfbgkbgoooepmaaDoor.Con
open Go.RowKit
set_option linter.unusedVariables false

theorem pl_len (t : Co) : ∀ bd lv, (t.pl bd lv).length = t.nn := by
  refine Co.ind (P := fun t => ∀ bd lv, (t.pl bd lv).length = t.nn) (fun k v ds ks ih bd lv => ?_) t
  have key : ∀ (bd lv : Nat) (ts : List Co) (i : Nat), (∀ t ∈ ts, ∀ bd lv, (t.pl bd lv).length = t.nn) → (Co.pl.pls k bd lv i ts).length = cnns ts := by
    intro bd lv ts
    induction ts with
    | nil => intro i _; rfl
    | cons t ts iht =>
      intro i h
      rw [Co.pl.pls, List.length_append, h t (by simp), iht (i + 1) (fun x hx => h x (by simp [hx]))]
      rfl
  rw [Co.pl, List.length_cons, key _ _ ks 0 ih, Co.nn_eq]
  simp only [Co.ks]
  omega

/-- The occurrences of the variable i - d below d binders. -/
def cntP (t : Co) (i : Int) (d lv : Nat) : Nat := (t.pl d lv).countP (isP (i - d))
theorem cntP_le (t : Co) (i : Int) (d lv : Nat) : cntP t i d lv ≤ t.nn := by
  rw [← pl_len t d lv]; exact List.countP_le_length
def KCn (u : LK) : Prop := ∀ (w : World) (b o d lv : Nat) (i : Int), coAt w b o u → u.co.all headC = true → d + u.co.dp ≤ 100000 → 0 ≤ i → i + u.co.dp ≤ 100000 → u.co.nn ≤ 100000 →
  Calls Tryd.prog 64 #[.pointer (some ⟨b, o, none⟩), .int .i64 i] w (IntGw (cntP u.co i d lv : Nat) w)

theorem cnt_kids (u : LK) (i : Int) (d lv j : Nat) : (kpl u.co d lv j).countP (isP (i - d)) ≤ (kpl u.co d lv j).length := List.countP_le_length
theorem kpl_len (t : Co) (d lv j : Nat) (hj : j ≤ t.ks.length) : (kpl t d lv j).length = cnns (t.ks.take j) := by
  induction j with
  | zero => rfl
  | succ j ih =>
    have hl : j < t.ks.length := by omega
    rw [kpl_succ t d lv j hl, List.length_append, ih (by omega), pl_len, cnns_take _ j hl]

set_option maxRecDepth 100000 in
set_option maxHeartbeats 1000000 in
theorem kcn_of (u : LK) (ih : ∀ t ∈ u.ks, KCn t) : KCn u := by
  intro w b o d lv i h hok hd hi hi2 hnn
  have hll := h.2.kl
  have A := Lib.hid h
  have HOK := Lib.hid hok
  have PE := Lib.hid (pl_eq u.co d lv)
  obtain ⟨p0, p1, p2, p3⟩ := h.c
  clear h
  by_cases h1 : u.k = 1
  · have hl := var_leaf hok (by rw [u.co_k]; exact h1)
    have F := Lib.hid (show cntP u.co i d lv = if (u.v == i) = true then 1 else 0 by
      unfold cntP
      rw [PE.out, hl, kpl_zero, List.countP_cons, List.countP_nil, u.co_k, u.co_v, h1]
      show 0 + (if ((1 : Int) == 1 && (u.v == i - d + d)) = true then 1 else 0) = _
      rw [show i - (d : Int) + d = i by omega]; simp)
    have q : (u.k == 1) = true := by simpa using h1
    clear h1 hok hl
    cases hv : (u.v == i) with
    | true =>
      have F2 := Lib.hid (show cntP u.co i d lv = 1 by rw [F.out, hv]; rfl)
      clear F
      go_enter Tryd.func64, Tryd.ntmps64
      go_wp2_with fail
      go_ret
      exact ⟨ret_int (by rw [F2.out]; rfl), Gw.refl _⟩
    | false =>
      have F2 := Lib.hid (show cntP u.co i d lv = 0 by rw [F.out, hv]; rfl)
      clear F
      go_enter Tryd.func64, Tryd.ntmps64
      go_wp2_with fail
      go_ret
      exact ⟨ret_int (by rw [F2.out]; rfl), Gw.refl _⟩
  have q1 : (u.k == 1) = false := by simpa using h1
  have F := Lib.hid (show cntP u.co i d lv = (kpl u.co d lv u.co.ks.length).countP (isP (i - d)) by
    unfold cntP
    rw [PE.out, List.countP_cons]; unfold isP; simp only [u.co_k, q1, Bool.false_and]; simp)
  clear h1 hok
  go_enter Tryd.func64, Tryd.ntmps64
  go_wp2_with fail
  clear p0 p1 p2 p3 q1
  go_loopw [5, 6] (fun s x wr => ∃ j : Nat, j ≤ u.ks.length ∧ s = .int .i64 (((kpl u.co d lv j).countP (isP (i - d)) : Nat) : Int) ∧ x = .int .i64 j ∧ Gw w wr) (fun _ x _ => u.ks.length - (intOf x).toNat)
  case atStart => exact ⟨0, by omega, rfl, rfl, Gw.refl _⟩
  case round =>
    obtain ⟨j, hj, rfl, rfl, hg⟩ := hrel
    have HG := Lib.hid hg
    have A3 := Lib.hid (A.out.grow hg)
    clear hg
    obtain ⟨p0, p1, p2, p3⟩ := A3.out.c
    by_cases hlt : j < u.ks.length
    · obtain ⟨bk, ok, ha, hkid⟩ := coAt.kid A3.out.2.kids j hlt
      rw [ha] at p3
      have r0 : (0 : Int) ≤ j := by omega
      have r1 : (j : Int) < u.ks.length := by omega
      have hdk := dp_kid j hlt
      have hb1 := bndK_le u.k j
      have hnk : u.ks[j].co.nn ≤ u.co.nn := by
        have := cnns_mem (ks := u.co.ks) (t := u.ks[j].co) (by rw [LK.co_ks]; exact List.mem_map_of_mem (List.getElem_mem hlt))
        rw [Co.nn_eq u.co]; omega
      have hc1 : (kpl u.co d lv j).countP (isP (i - d)) ≤ u.co.nn := by
        have h1 := cnt_kids u i d lv j
        have h2 := kpl_len u.co d lv j (by rw [u.co_len]; omega)
        have h3 := cnns_take_le u.co.ks j
        rw [Co.nn_eq u.co]; omega
      have hc2 : cntP u.ks[j].co (i + bndK u.k j) (d + bndK u.k j) (lv + bxK u.k) ≤ u.ks[j].co.nn := cntP_le _ _ _ _
      obtain ⟨p, hp⟩ : ∃ p, p = bndK u.k j := ⟨_, rfl⟩
      have KS := Lib.hid (show (kpl u.co d lv (j + 1)).countP (isP (i - d)) = (kpl u.co d lv j).countP (isP (i - d)) + cntP u.ks[j].co (i + p) (d + p) (lv + bxK u.k) by
        rw [kpl_succ _ _ _ _ (by rw [u.co_len]; exact hlt), List.countP_append, u.co_kid j hlt, u.co_k, ← hp]
        unfold cntP
        rw [show i + (p : Int) - ((d + p : Nat) : Int) = i - d by omega])
      have KB := Lib.hid (spec_cbinds u wr.drew b o j (by omega) (A3.out.grow (Gw.refl wr).drew))
      rw [← hp] at KB hb1 hc2
      have KEY := Lib.hid (ih u.ks[j] (List.getElem_mem hlt) wr.drew bk (ok + j * 4) (d + p) (lv + bxK u.k) (i + p) (hkid.grow (Gw.refl wr).drew) (all_kid HOK.out j hlt) (by omega) (by omega) (by omega) (by omega))
      obtain ⟨s, hs⟩ : ∃ s, s = (kpl u.co d lv j).countP (isP (i - d)) := ⟨_, rfl⟩
      obtain ⟨y, hy⟩ : ∃ y, y = cntP u.ks[j].co (i + p) (d + p) (lv + bxK u.k) := ⟨_, rfl⟩
      rw [← hs] at hc1 KS
      rw [← hs]
      rw [← hy] at hc2 KEY KS
      have wr1 : IntKind.i64.wrap (i + p) = i + p := by unfold IntKind.wrap; simp [IntKind.signed, IntKind.bits]; omega
      have hsy : (s : Int) + y ≤ 200000 := by omega
      clear ha hkid hp hs hy
      go_wp2_with fail
      have wr2 : IntKind.i64.wrap ((s : Int) + y) = (s : Int) + y := by unfold IntKind.wrap; simp [IntKind.signed, IntKind.bits]; omega
      go_region_held3 (fun X => X.cell? ⟨b, o + 3, none⟩ = some (.slice (some ⟨bk, ok, none⟩) u.ks.length u.cap))
        (first | exact p3 | exact (g3.cell (w := wr.drew) p3 (cell_lt p3)))
        (first
          | (go_at_call 97; refine KB.out.mono ?_; rintro e w6 ⟨rfl, rfl⟩)
          | (go_at_call 64; refine KEY.out.mono ?_; rintro e w3 ⟨rfl, g3⟩))
      have G3 := Lib.hid (HG.out.trans ((Gw.refl wr).drew.trans g3))
      clear g3 p0 p1 p2 p3
      go_wp2_with fail
      go_roundw
      case rel => exact ⟨j + 1, by omega, by rw [KS.out]; congr 1, by go_num, G3.out⟩
      case measure => simp [intOf]; omega
    · obtain rfl : j = u.ks.length := by omega
      have FF := Lib.hid (show cntP u.co i d lv = (kpl u.co d lv u.ks.length).countP (isP (i - d)) by rw [F.out, u.co_len])
      go_wp2_with fail
      go_ret
      exact ⟨ret_int (by rw [FF.out]), HG.out⟩

theorem kcn_all (u : LK) : KCn u := by
  refine LK.ind (P := KCn) (fun k v da dc ds a cap ks ih => ?_) u
  exact kcn_of (.mk k v da dc ds a cap ks) ih

theorem spec_count (u : LK) (i : Int) (hi0 : -9223372036854775808 ≤ i) (hi1 : i ≤ 9223372036854775807) (w : World) (h : u.Ok w) : Calls Tryd.prog 26 #[u.val, .int .i64 i] w (IntGw (cntC i u.co) w) := by
  have hA := coAt.new (e := 30) h
  have key := spec_l06Ok u _ _ _ hA
  have HA := Lib.hid hA
  have G := Lib.hid ((Gw.refl w).alloc (u.obj 30))
  cases hok : okC u.co with
  | false =>
    rw [hok] at key
    have KEY := Lib.hid key
    have F := Lib.hid (show cntC i u.co = 0 by unfold cntC; rw [hok]; simp)
    clear key h hA hok
    go_enter Tryd.func26, Tryd.ntmps26
    go_wp2_with fail
    refine KEY.out.mono ?_
    rintro e w1 ⟨rfl, g1⟩
    go_wp2_with fail
    go_ret
    exact ⟨ret_int F.out.symm, G.out.trans g1⟩
  | true =>
    rw [hok] at key
    have KEY := Lib.hid key
    have GD := Lib.hid (okC_good hok)
    have CE := Lib.hid (show cntC i u.co = if 0 ≤ i ∧ i ≤ 255 then ((cntP u.co i 0 0 : Nat) : Int) else 0 by
      unfold cntC cntP; rw [hok, show i - ((0 : Nat) : Int) = i by omega]; simp)
    clear key h hA hok
    go_enter Tryd.func26, Tryd.ntmps26
    go_wp2_with fail
    refine KEY.out.mono ?_
    rintro e w1 ⟨rfl, g1⟩
    have G1 := Lib.hid (G.out.trans g1)
    have HA1 := Lib.hid (HA.out.grow g1)
    clear g1 KEY
    go_wp2_with fail
    refine (specIn i 0 255 _).mono ?_
    rintro e w2 ⟨rfl, rfl⟩
    cases hI : inV i 0 255 with
    | false =>
      have F := Lib.hid (show cntC i u.co = 0 by
        rw [CE.out, if_neg]
        intro hh
        unfold inV at hI
        rw [decide_eq_true hh] at hI; cases hI)
      clear hI
      go_wp2_with fail
      go_ret
      exact ⟨ret_int F.out.symm, G1.out⟩
    | true =>
      have hb : 0 ≤ i ∧ i ≤ 255 := by unfold inV at hI; simpa using hI
      have F := Lib.hid (show cntC i u.co = ((cntP u.co i 0 0 : Nat) : Int) by rw [CE.out, if_pos hb])
      have K2 := Lib.hid (kcn_all u w1 _ _ 0 0 i HA1.out GD.out.1 (by have := GD.out.2.1; omega) hb.1 (by have := GD.out.2.1; omega) (by have := GD.out.2.2; omega))
      clear hI hb
      go_wp2_with fail
      refine K2.out.mono ?_
      rintro e w2 ⟨rfl, g2⟩
      go_wp2_with fail
      go_ret
      exact ⟨ret_int F.out.symm, G1.out.trans g2⟩

end Go.Proofs.YtfbgkbgoooepmaaDoor.Con
