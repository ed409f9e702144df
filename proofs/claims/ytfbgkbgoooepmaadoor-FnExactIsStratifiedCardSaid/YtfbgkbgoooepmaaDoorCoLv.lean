/-
  At which levels a variable occurs, as a function on core terms without addresses; contracts of the model's l06Levels, l06All, l06Stratified and IsStratified. Condition: the core term lies in memory.
-/
import Derived.Test.YtfbgkbgoooepmaaDoorCoCn
import Derived.Test.YtfbgkbgoooepmaaDoorIRow
namespace Go.Proofs.YtfbgkbgoooepmaaDoor.Con
open Go.RowKit
set_option linter.unusedVariables false
attribute [local go_sem] Oper.semAt_some

def lvsP (i : Int) (l : List PK) : List Int := (l.filter (isP i)).map fun p => (p.lv : Int)
theorem lvsP_app (i : Int) (l m : List PK) : lvsP i (l ++ m) = lvsP i l ++ lvsP i m := by unfold lvsP; rw [List.filter_append, List.map_append]
theorem lvsP_len (i : Int) (l : List PK) : (lvsP i l).length ≤ l.length := by unfold lvsP; rw [List.length_map]; exact List.length_filter_le _ _
/-- The levels of the occurrences of the variable i - d below d binders and lv boxes. -/
def lvC (t : Co) (i : Int) (d lv : Nat) : List Int := lvsP (i - d) (t.pl d lv)
theorem lvC_len (t : Co) (i : Int) (d lv : Nat) : (lvC t i d lv).length ≤ t.nn := by
  have := lvsP_len (i - d) (t.pl d lv)
  rw [pl_len] at this
  exact this

theorem infoI : (Tryd.prog.info? 2).map (fun i => (i.zero, i.size, i.bytes)) = some (some (.int .i64 0), 1, 8) := by kernel_rfl
theorem one_newI {w : World} {x : Value} {t : TypeId} (j : Nat) (u : Value) (h : [x][j]? = some u) : (w.alloc (.cells #[x] t)).cell? ((⟨w.heap.size, 0, none⟩ : Addr).add j) = some u := by
  match j, h with
  | 0, h => simp at h; subst h; simp [Addr.add]
  | (j + 1), h => simp at h
theorem IRow.app {B m : Nat} {w : World} {v : Value} {L M : List Int} {xs : List Value} (h : w.ownsRow B 2 1 v m xs) (hx : xs = iL L ++ iL M) (hn : m = L.length + M.length) : IRow B w v (L ++ M) := by
  unfold IRow
  have : iL (L ++ M) = xs := by rw [hx]; unfold iL; rw [List.map_append]
  rw [this, List.length_append, ← hn]
  exact h

def KLv (u : LK) : Prop := ∀ (w0 w : World) (b o d lv B : Nat) (i : Int) (v : Value) (L : List Int), coAt w0 b o u → u.co.all headC = true → d + u.co.dp ≤ 100000 → lv + u.co.dp ≤ 100000 → 0 ≤ i → i + u.co.dp ≤ 100000 → u.co.nn + L.length ≤ 100000 → w0.heap.size ≤ B → Below B w0 w → B ≤ w.heap.size → IRow B w v L →
  Calls Tryd.prog 99 #[.pointer (some ⟨b, o, none⟩), .int .i64 i, .int .i64 lv, v] w fun e w' => ∃ v', e = .returned v' ∧ IRow B w' v' (L ++ lvC u.co i d lv) ∧ Below B w w'

set_option maxHeartbeats 2000000 in
theorem klv_leaf (u : LK) (w0 w : World) (b o d lv B : Nat) (i : Int) (v : Value) (L : List Int) (h : coAt w0 b o u) (hok : u.co.all headC = true) (hlv : lv ≤ 100000) (hnn : u.co.nn + L.length ≤ 100000) (hB0 : w0.heap.size ≤ B) (hg : Below B w0 w) (hB : B ≤ w.heap.size) (hr : IRow B w v L) (h1 : u.k = 1) :
    Calls Tryd.prog 99 #[.pointer (some ⟨b, o, none⟩), .int .i64 i, .int .i64 lv, v] w fun e w' => ∃ v', e = .returned v' ∧ IRow B w' v' (L ++ lvC u.co i d lv) ∧ Below B w w' := by
  obtain ⟨p0, p1, p2, p3⟩ := (h.grow (hg.mono hB0)).c
  have hl := var_leaf hok (by rw [u.co_k]; exact h1)
  have F := Lib.hid (show lvC u.co i d lv = if (u.v == i) = true then [(lv : Int)] else [] by
    unfold lvC lvsP
    rw [pl_eq, hl, kpl_zero, List.filter_cons, List.filter_nil, u.co_k, u.co_v, h1]
    show List.map _ (if ((1 : Int) == 1 && (u.v == i - d + d)) = true then _ else _) = _
    rw [show i - (d : Int) + d = i by omega]
    cases (u.v == i) <;> rfl)
  have q1 : (u.k == 1) = true := by simpa using h1
  have HR := Lib.hid hr
  have HB := Lib.hid hB
  have HD := Lib.hid hnn
  obtain ⟨i0, hi, hz0, hz1, hz2⟩ := info_parts infoI
  have HI := Lib.hid hi
  have HZ0 := Lib.hid hz0
  have HZ1 := Lib.hid hz1
  have HZ2 := Lib.hid hz2
  clear h h1 hr hB hg hB0 hi hz0 hz1 hz2 hnn hok hl
  cases hb : (u.v == i) with
  | true =>
    rw [hb] at F
    go_enter Tryd.func99, Tryd.ntmps99
    go_wp2_with (at_builtin; refine wpList_append_own _ rfl _ _ 22 rfl B 2 i0 (.int .i64 0) 1 8 Tryd.underlying22 HI.out HZ0.out HZ1.out HZ2.out rfl (by decide) v L.length (iL L) rfl (World.ownsRow.alloc HR.out _) ⟨w.heap.size, 0, none⟩ 1 1 [.int .i64 lv] rfl rfl one_newI (fun u hu => by simp at hu; subst hu; rfl) (by unfold maxLen; have := HD.out; omega) (by have := HD.out; omega) (by have := HB.out; simp; omega) ?_)
    intro v' w1 hown hgrow _
    have OW := Lib.hid (show IRow B w1 v' (L ++ [(lv : Int)]) from IRow.app hown rfl rfl)
    have BB := Lib.hid (((Below.refl B w).alloc HB.out _).grown hgrow (by have := HB.out; simp; omega) (fun j hj => (HR.out.at j hj).1))
    clear hown hgrow
    go_wp2_with fail
    go_ret
    exact ⟨_, rfl, by rw [F.out]; exact OW.out, BB.out⟩
  | false =>
    rw [hb] at F
    go_enter Tryd.func99, Tryd.ntmps99
    go_wp2_with fail
    go_ret
    exact ⟨_, rfl, by rw [F.out]; simpa using HR.out, Below.refl _ _⟩

set_option maxRecDepth 100000 in
set_option maxHeartbeats 1000000 in
theorem klv_body (u : LK) (ih : ∀ t ∈ u.ks, KLv t) (w0 w : World) (b o d lv B : Nat) (i : Int) (v : Value) (L : List Int) (h : coAt w0 b o u) (hok : u.co.all headC = true) (hd : d + u.co.dp ≤ 100000) (hlv : lv + u.co.dp ≤ 100000) (hi : 0 ≤ i) (hi2 : i + u.co.dp ≤ 100000) (hnn : u.co.nn + L.length ≤ 100000) (hB0 : w0.heap.size ≤ B) (hg : Below B w0 w) (hB : B ≤ w.heap.size) (hr : IRow B w v L) (h1 : ¬ u.k = 1) :
    Calls Tryd.prog 99 #[.pointer (some ⟨b, o, none⟩), .int .i64 i, .int .i64 lv, v] w fun e w' => ∃ v', e = .returned v' ∧ IRow B w' v' (L ++ lvC u.co i d lv) ∧ Below B w w' := by
  have hll := h.2.kl
  have hdp := Co.dp_pos u.co
  have A := Lib.hid h
  have HOK := Lib.hid hok
  obtain ⟨p0, p1, p2, p3⟩ := (h.grow (hg.mono hB0)).c
  have q1 : (u.k == 1) = false := by simpa using h1
  have F := Lib.hid (show lvC u.co i d lv = lvsP (i - d) (kpl u.co d lv u.ks.length) by
    unfold lvC lvsP
    rw [pl_eq, u.co_len, List.filter_cons]; unfold isP; simp only [u.co_k, q1, Bool.false_and]; rfl)
  have HR := Lib.hid hr
  have HB := Lib.hid hB
  have HB0 := Lib.hid hB0
  have HG := Lib.hid hg
  have HN := Lib.hid hnn
  obtain ⟨D, hD⟩ : ∃ D, D = lv + bxK u.k := ⟨_, rfl⟩
  have HDD := Lib.hid hD
  have cs : ((u.k == 6) = true ∧ ((lv : Int) + 1 = D)) ∨ ((u.k == 6) = false ∧ ((lv : Int) = D)) := by
    unfold bxK at hD
    by_cases h6 : u.k = 6
    · rw [if_pos h6] at hD; exact .inl ⟨by simpa using h6, by omega⟩
    · rw [if_neg h6] at hD; exact .inr ⟨by simpa using h6, by omega⟩
  have hlv2 : (lv : Int) ≤ 100000 := by omega
  clear h hok h1 hr hB hB0 hg hnn hD
  rcases cs with ⟨q6, e1⟩ | ⟨q6, e1⟩ <;> (
    go_enter Tryd.func99, Tryd.ntmps99
    go_wp2_with fail
    try rw [e1]
    clear p0 p1 p2 p3 q1 q6 e1
    go_loopw [3, 9] (fun s x wr => ∃ (j : Nat) (sv : Value), j ≤ u.ks.length ∧ x = .int .i64 j ∧ sv = s ∧ IRow B wr sv (L ++ lvsP (i - d) (kpl u.co d lv j)) ∧ Below B w wr) (fun _ x _ => u.ks.length - (intOf x).toNat)
    case atStart => exact ⟨0, v, Nat.zero_le _, rfl, rfl, by simpa [lvsP, kpl_zero] using HR.out, Below.refl _ _⟩
    case round =>
      obtain ⟨j, sv, hj, rfl, rfl, hrow, hbel⟩ := hrel
      have HRW := Lib.hid hrow
      have HBL := Lib.hid hbel
      have HG3 := Lib.hid (HG.out.trans hbel)
      have A3 := Lib.hid (A.out.grow (HG3.out.mono HB0.out))
      have HS3 := Lib.hid (Nat.le_trans HB.out hbel.size)
      clear hrow hbel
      obtain ⟨p0, p1, p2, p3⟩ := A3.out.c
      by_cases hlt : j < u.ks.length
      · obtain ⟨bk, ok, ha, hkid⟩ := coAt.kid A.out.2.kids j hlt
        rw [ha] at p3
        have r0 : (0 : Int) ≤ j := by omega
        have r1 : (j : Int) < u.ks.length := by omega
        have hdk := dp_kid j hlt
        have hb1 := bndK_le u.k j
        obtain ⟨p, hp⟩ : ∃ p, p = bndK u.k j := ⟨_, rfl⟩
        have KS := Lib.hid (show lvsP (i - d) (kpl u.co d lv (j + 1)) = lvsP (i - d) (kpl u.co d lv j) ++ lvC u.ks[j].co (i + p) (d + p) D by
          rw [kpl_succ _ _ _ _ (by rw [u.co_len]; exact hlt), lvsP_app, u.co_kid j hlt, u.co_k, ← hp, HDD.out]
          unfold lvC
          rw [show i + (p : Int) - ((d + p : Nat) : Int) = i - d by omega])
        have ROOM := Lib.hid (show (lvsP (i - d) (kpl u.co d lv j)).length + u.ks[j].co.nn ≤ u.co.nn by
          have h1 := lvsP_len (i - d) (kpl u.co d lv j)
          have h2 := kpl_len u.co d lv j (by rw [u.co_len]; omega)
          have h3 := cnns_take u.co.ks j (by rw [u.co_len]; exact hlt)
          have h4 := cnns_take_le u.co.ks (j + 1)
          rw [u.co_kid j hlt] at h3
          rw [Co.nn_eq u.co]; omega)
        have KB := Lib.hid (spec_cbinds u wr.drew b o j (by omega) (A3.out.grow (Gw.refl wr).drew))
        rw [← hp] at KB hb1
        have KEY := Lib.hid (ih u.ks[j] (List.getElem_mem hlt) w0 wr.drew bk (ok + j * 4) (d + p) D B (i + p) sv (L ++ lvsP (i - d) (kpl u.co d lv j)) hkid (all_kid HOK.out j hlt) (by omega) (by have := HDD.out; have := bxK_le u.k; omega) (by omega) (by omega)
          (by have h1 := ROOM.out; have h2 := HN.out; rw [List.length_append]; omega) HB0.out HG3.out.drew HS3.out (HRW.out.grow (Gw.refl wr).drew))
        have wr1 : IntKind.i64.wrap (i + p) = i + p := by unfold IntKind.wrap; simp [IntKind.signed, IntKind.bits]; omega
        clear ha hkid hp
        go_wp2_with fail
        refine wp_region_still_tail 13 (by kernel_rfl) (by kernel_rfl) ?_
        simp only [List.take_succ_cons, List.take_zero, List.drop_succ_cons, List.drop_zero]
        iterate 9 still_step
        still_call KB.out
        iterate 3 still_step
        refine wpStill_nil ?_
        change wpList _ _ _ _ _ wr.drew
        go_wp2_with fail
        refine KEY.out.mono ?_
        rintro e w5 ⟨v5, rfl, hr5, hb5⟩
        have HR5 := Lib.hid hr5
        have HB5 := Lib.hid (HBL.out.drew.trans hb5)
        clear hr5 hb5 KEY p0 p1 p2 p3 KB
        go_wp2_with fail
        go_roundw
        case rel => exact ⟨j + 1, v5, by omega, by go_num, rfl, by rw [KS.out, ← List.append_assoc]; exact HR5.out, HB5.out⟩
        case measure => simp [intOf]; omega
      · obtain rfl : j = u.ks.length := by omega
        go_wp2_with fail
        go_ret
        exact ⟨_, rfl, by rw [F.out]; exact HRW.out, HBL.out⟩)

theorem klv_all (u : LK) : KLv u := by
  refine LK.ind (P := KLv) (fun k z da dc ds a cap ks ih => ?_) u
  intro w0 w b o d lv B i v L h hok hd hlv hi hi2 hnn hB0 hg hB hr
  by_cases h1 : (LK.mk k z da dc ds a cap ks).k = 1
  · exact klv_leaf (.mk k z da dc ds a cap ks) w0 w b o d lv B i v L h hok (by omega) hnn hB0 hg hB hr h1
  · exact klv_body (.mk k z da dc ds a cap ks) ih w0 w b o d lv B i v L h hok hd hlv hi hi2 hnn hB0 hg hB hr h1

end Go.Proofs.YtfbgkbgoooepmaaDoor.Con
