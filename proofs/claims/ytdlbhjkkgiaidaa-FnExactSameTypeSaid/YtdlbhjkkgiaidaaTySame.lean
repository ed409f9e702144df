/-
  Contract of the closure of SameType in the program: it answers whether two types are equal, while its map holds pairs that are equal or still in comparison.
-/
import Derived.Test.YtdlbhjkkgiaidaaTySmI
import Derived.LoopTactic
import Derived.Deep.QuietTactic
import Derived.BigQuiet
import Derived.StillTailTactics
namespace Go.Proofs.Ytdlbhjkkgiaidaa.Con
open Go.RowKit
set_option linter.unusedVariables false

def SmPost (w : World) (M : Nat) (S : Value → Prop) (x y : LT) (e : Ending) (w' : World) : Prop := ∃ r : Bool, e = .returned (.bool r) ∧ (r = true ↔ x.ty = y.ty) ∧ Chg w w' (fun b => b = M) ∧ (r = true → Mp w' M S)

/-- The two boxes of the closure. -/
def Caps (w : World) (M CM CF : Nat) : Prop := w.heap[CM]? = some (.cells #[.map (some M)] 76 (0, 0)) ∧ w.heap[CF]? = some (.cells #[.func (.func 58) #[] #[.pointer (some ⟨CM, 0, none⟩), .pointer (some ⟨CF, 0, none⟩)]] 77 (0, 0))

theorem Caps.keep {w w' : World} {M CM CF : Nat} (h : Caps w M CM CF) (hk : ∀ c, Free w c → w'.heap[c]? = w.heap[c]?) : Caps w' M CM CF := ⟨(hk _ ⟨_, _, h.1⟩).trans h.1, (hk _ ⟨_, _, h.2⟩).trans h.2⟩

theorem Mp.heq {w w' : World} {M : Nat} {S : Value → Prop} (h : Mp w M S) (e : w'.heap = w.heap) : Mp w' M S := by
  have hk : ∀ c, Free w c → w'.heap[c]? = w.heap[c]? := fun c _ => by rw [e]
  obtain ⟨es, cl, hm, h⟩ := h
  refine ⟨es, cl, by rw [e]; exact hm, fun x hx => ?_⟩
  obtain ⟨hv, b, o, b', o', x, y, h1, h2, h3, h4⟩ := h x hx
  exact ⟨hv, b, o, b', o', x, y, h1, h2.keep hk, h3.keep hk, h4⟩

def SmC (x : LT) : Prop := ∀ (y : LT) (w : World) (b o b' o' M CM CF : Nat) (S : Value → Prop), At w b o x → At w b' o' y → Caps w M CM CF → Mp w M S → Big w S x.cnt →
  Calls Try.prog 58 #[.pointer (some ⟨b, o, none⟩), .pointer (some ⟨b', o', none⟩), .pointer (some ⟨CM, 0, none⟩), .pointer (some ⟨CF, 0, none⟩)] w (SmPost w M S x y)

theorem ty_ne_k {x y : LT} (h : ¬ x.k = y.k) : ¬ x.ty = y.ty := fun e => by rw [LT.ty_eq, LT.ty_eq y] at e; injection e with e _ _; exact h e
theorem ty_ne_n {x y : LT} (h : ¬ x.n = y.n) : ¬ x.ty = y.ty := fun e => by rw [LT.ty_eq, LT.ty_eq y] at e; injection e with _ e _; exact h e
theorem ty_ne_l {x y : LT} (h : ¬ x.ks.length = y.ks.length) : ¬ x.ty = y.ty := fun e => by rw [LT.ty_eq, LT.ty_eq y] at e; injection e with _ _ e; exact h (map_ty_len e)
theorem ty_ne_kid {x y : LT} (i : Nat) (hx : i < x.ks.length) (hy : i < y.ks.length) (h : ¬ x.ks[i].ty = y.ks[i].ty) : ¬ x.ty = y.ty := fun e => by
  rw [LT.ty_eq, LT.ty_eq y] at e; injection e with _ _ e; exact h (map_ty_get e i hx hy)
theorem ty_eq_of {x y : LT} (h1 : x.k = y.k) (h2 : x.n = y.n) (h3 : x.ks.length = y.ks.length) (h : ∀ i (hx : i < x.ks.length) (hy : i < y.ks.length), x.ks[i].ty = y.ks[i].ty) : x.ty = y.ty := by
  rw [LT.ty_eq, LT.ty_eq y, h1, h2]
  congr 1
  refine List.ext_getElem (by simpa using h3) fun i hi hi' => ?_
  simp only [List.length_map] at hi hi'
  simpa using h i hi hi'

theorem sm_false {w : World} {M : Nat} {S : Value → Prop} {x y : LT} (h : ¬ x.ty = y.ty) (w' : World) (hc : Chg w w' (fun b => b = M)) : SmPost w M S x y (.returned (.bool false)) w' :=
  ⟨false, rfl, by simp [h], hc, fun h => by cases h⟩
theorem sm_true {w : World} {M : Nat} {S : Value → Prop} {x y : LT} (h : x.ty = y.ty) (w' : World) (hc : Chg w w' (fun b => b = M)) (hm : Mp w' M S) : SmPost w M S x y (.returned (.bool true)) w' :=
  ⟨true, rfl, by simp [h], hc, fun _ => hm⟩
theorem chg_drewN (w : World) (n : Nat) (S : Nat → Prop) : Chg w (w.drewN n) S := Chg.of_gw ((Gw.refl w).drewN n) S

set_option maxRecDepth 100000 in
set_option maxHeartbeats 4000000 in
theorem sm_of (x : LT) (ih : ∀ u ∈ x.ks, SmC u) : SmC x := by
  intro y w b o b' o' M CM CF S hx hy hcap hmp hbig
  have HX := Lib.hid hx
  have HY := Lib.hid hy
  have HCAP := Lib.hid hcap
  have HMP := Lib.hid hmp
  have HBIG := Lib.hid hbig
  obtain ⟨x0, x1, x2, _⟩ := hx
  obtain ⟨y0, y1, y2, _⟩ := hy
  clear hcap hmp hbig
  by_cases h1 : x.k = y.k
  · by_cases h2 : x.n = y.n
    · by_cases h3 : x.ks.length = y.ks.length
      · have hlx : x.ks.length ≤ 9223372036854775807 := Nat.le_trans HX.out.2.2.2.1.kids.1 HX.out.2.2.2.1.kids.2.1
        rw [h1] at x0
        rw [h2] at x1
        rw [h3] at x2
        have H1 := Lib.hid h1
        have H2 := Lib.hid h2
        have H3 := Lib.hid h3
        clear h1 h2
        by_cases h4 : y.ks.length = 0
        · rw [h4] at x2 y2
          have H4 := Lib.hid h4
          clear h3 h4 hlx
          go_enter Try.func58, Try.ntmps58
          go_wp2_with fail
          go_quiet (fail)
          go_wp2_with fail
          go_ret
          refine sm_true (ty_eq_of H1.out H2.out H3.out fun i hx hy => ?_) _ (chg_drewN w _ _) (HMP.out.heq rfl)
          have := H4.out
          omega
        · have h5 : ((y.ks.length : Int) == 0) = false := by simpa using h4
          have H4 := Lib.hid h4
          go_enter Try.func58, Try.ntmps58
          go_wp2_with fail
          go_quiet (fail)
          have hc1 := chg_drewN w nq (fun b => b = M)
          have hk1 : ∀ c, Free w c → (w.drewN nq).heap[c]? = w.heap[c]? := fun c _ => rfl
          have AX := Lib.hid (HX.out.keep hk1)
          have AY := Lib.hid (HY.out.keep hk1)
          have AC := Lib.hid (HCAP.out.keep hk1)
          have AB := Lib.hid (HBIG.out.keep hk1)
          have AM := HMP.out.heq (w' := w.drewN nq) rfl
          clear hk1 x0 x1 x2 y0 y1 y2 HX HY HCAP HBIG HMP
          generalize w.drewN nq = w1 at *
          obtain ⟨x0, x1, x2, xr⟩ := AX.out
          obtain ⟨y0, y1, y2, yr⟩ := AY.out
          rw [H1.out] at x0
          rw [H2.out] at x1
          rw [h3] at x2
          have m0 : w1.cell? ⟨CM, 0, none⟩ = some (.map (some M)) := cell_of_row _ _ 0 _ _ _ AC.out.1
          obtain ⟨es, cl, hm, hK, hE⟩ := AM.keys
          obtain ⟨c, hl, ht, hn⟩ := look_run hm hK (a := ⟨b, o, none⟩) (b := ⟨b', o', none⟩) xr.2.1 yr.2.1
          have HE := Lib.hid hE
          have HM := Lib.hid hm
          clear xr yr AM hK hE
          unfold pk at hl
          cases c with
          | true =>
            have hty := found_eq (M := M) HE.out AX.out AY.out AB.out (ht rfl)
            have HTY := Lib.hid hty
            have hmp1 : Mp w1 M S := ⟨es, cl, hm, HE.out⟩
            have HMP1 := Lib.hid hmp1
            clear ht hn hty hm hmp1
            go_wp2_with fail
            go_ret
            exact sm_true HTY.out _ hc1 HMP1.out
          | false =>
            have hp : (Instr.mapUpdate 76 (.map (some M)) (.agg #[.pointer (some ⟨b, o, none⟩), .pointer (some ⟨b', o', none⟩)]) (.bool true)).run Try.prog w1 = .ok () (put1 w1 M es cl (pk ⟨b, o, none⟩ ⟨b', o', none⟩)) := put_run HM.out (hn rfl)
            have hk2 : ∀ c, Free w1 c → (put1 w1 M es cl (pk ⟨b, o, none⟩ ⟨b', o', none⟩)).heap[c]? = w1.heap[c]? := fun c h => free_keep HM.out put1_chg h
            have hc2 := hc1.trans (put1_chg (w := w1) (M := M) (es := es) (cl := cl) (v := pk ⟨b, o, none⟩ ⟨b', o', none⟩)) (fun _ _ h => h)
            have BX := AX.out.keep hk2
            have BY := AY.out.keep hk2
            have BC := AC.out.keep hk2
            have BB := AB.out.keep hk2
            have BM := put1_mp HM.out HE.out AX.out AY.out
            clear ht hn hm hk2
            generalize put1 w1 M es cl (pk ⟨b, o, none⟩ ⟨b', o', none⟩) = w2 at *
            have HBX := Lib.hid BX
            have HBY := Lib.hid BY
            have HBC := Lib.hid BC
            have HBB := Lib.hid BB
            have HBM := Lib.hid BM
            have z2 : w2.cell? ⟨b, o + 2, none⟩ = some (.slice x.a y.ks.length x.cap) := by rw [← h3]; exact BX.2.2.1
            have hly : y.ks.length ≤ 9223372036854775807 := by omega
            clear BX BY BC BB BM HE HM AX AY AC AB
            go_wp2_with fail
            clear hp hl x0 x1 x2 y0 y1 y2 m0 z2
            go_loopw [63] (fun i wr => ∃ j : Nat, j ≤ y.ks.length ∧ i = .int .i64 j ∧ Chg w2 wr (fun b => b = M) ∧ Mp wr M (fun v => S v ∨ v = pk ⟨b, o, none⟩ ⟨b', o', none⟩) ∧ ∀ i (hx : i < x.ks.length) (hy : i < y.ks.length), i < j → x.ks[i].ty = y.ks[i].ty) (fun i _ => y.ks.length - (intOf i).toNat)
            case atStart => exact ⟨0, by omega, rfl, Chg.of_gw (Gw.refl _) _, HBM.out, fun i _ _ h => absurd h (by omega)⟩
            case round =>
              obtain ⟨j, hj, rfl, hcr, hmr, hall⟩ := hrel
              obtain ⟨es2, cl2, hm2, _⟩ := HBM.out
              have hkr : ∀ c, Free w2 c → wr.heap[c]? = w2.heap[c]? := fun c h => free_keep hm2 hcr h
              have CX := HBX.out.keep hkr
              have CY := HBY.out.keep hkr
              have CC := HBC.out.keep hkr
              have CB := HBB.out.keep hkr
              have HCR := Lib.hid (hc2.trans hcr (fun _ _ h => h))
              have HCR2 := Lib.hid hcr
              have HALL := Lib.hid hall
              have HMR := Lib.hid hmr
              have HCX := Lib.hid CX
              have HCY := Lib.hid CY
              clear hm2 hkr hcr hall hmr
              by_cases hlt : j < y.ks.length
              · have hjx : j < x.ks.length := by omega
                obtain ⟨b2, o2, ha, hkid⟩ := CX.kid j hjx
                obtain ⟨b3, o3, ha', hkid'⟩ := CY.kid j hlt
                have x2 : wr.cell? ⟨b, o + 2, none⟩ = some (.slice (some ⟨b2, o2, none⟩) y.ks.length x.cap) := by rw [← h3, ← ha]; exact CX.2.2.1
                have y2 : wr.cell? ⟨b', o' + 2, none⟩ = some (.slice (some ⟨b3, o3, none⟩) y.ks.length y.cap) := by rw [← ha']; exact CY.2.2.1
                have f0 : wr.cell? ⟨CF, 0, none⟩ = some (.func (.func 58) #[] #[.pointer (some ⟨CM, 0, none⟩), .pointer (some ⟨CF, 0, none⟩)]) := cell_of_row _ _ 0 _ _ _ CC.2
                have q0 : (0 : Int) ≤ j := by omega
                have q1 : (j : Int) < y.ks.length := by omega
                have K1 := Lib.hid hkid
                have K2 := Lib.hid hkid'
                have K3 := Lib.hid CC
                have K4 := Lib.hid (Big.put (q := ⟨b', o', none⟩) CB CX (kid_cnt x j hjx))
                clear CX CY CC CB hkid hkid' ha ha' h3 h4 h5
                go_wp2_with fail
                go_still_tail 13, (by kernel_rfl)
                change wpList _ _ _ _ _ wr.drew
                have L1 := K1.out.keep (w' := wr.drew) (fun _ _ => rfl)
                have L2 := K2.out.keep (w' := wr.drew) (fun _ _ => rfl)
                have L3 := K3.out.keep (w' := wr.drew) (fun _ _ => rfl)
                have L4 := K4.out.keep (w' := wr.drew) (fun _ _ => rfl)
                have L5 := HMR.out.heq (w' := wr.drew) rfl
                have L6 : Chg w2 wr.drew (fun b => b = M) := HCR2.out.trans (Chg.of_gw (Gw.refl wr).drew _) (fun _ _ h => h)
                clear x2 y2 f0 K1 K2 K3 K4 HCX HCY HMR HCR HCR2
                generalize wr.drew = w3 at *
                have M1 := Lib.hid L1
                have M2 := Lib.hid L2
                have M3 := Lib.hid L3
                have M4 := Lib.hid L4
                have M5 := Lib.hid L5
                have M6 := Lib.hid L6
                clear L1 L2 L3 L4 L5 L6
                go_wp2_with fail
                refine (ih x.ks[j] (List.getElem_mem hjx) y.ks[j] w3 b2 (o2 + j * 3) b3 (o3 + j * 3) M CM CF _ M1.out M2.out M3.out M5.out M4.out).mono ?_
                rintro e w4 ⟨r, rfl, hr, hc4, hm4⟩
                have HC4 := Lib.hid (M6.out.trans hc4 (fun _ _ h => h))
                clear hc4
                cases r with
                | false =>
                  have hne : ¬ x.ks[j].ty = y.ks[j].ty := fun e => by have := hr.2 e; cases this
                  have HNE := Lib.hid hne
                  clear hr hm4 hne
                  go_wp2_with fail
                  go_ret
                  exact sm_false (ty_ne_kid j hjx hlt HNE.out) _ (hc2.trans HC4.out (fun _ _ h => h))
                | true =>
                  have HTY := Lib.hid (hr.1 rfl)
                  have HM4 := Lib.hid (hm4 rfl)
                  clear hr hm4
                  go_wp2_with fail
                  go_roundw
                  case rel =>
                    refine ⟨j + 1, by omega, by go_num, HC4.out, HM4.out, fun i hx hy hi => ?_⟩
                    by_cases e : i = j
                    · subst e; exact HTY.out
                    · exact HALL.out i hx hy (by omega)
                  case measure => simp [intOf]; omega
              · obtain rfl : j = y.ks.length := by omega
                clear CX CY CC CB
                go_wp2_with fail
                go_ret
                have hty : x.ty = y.ty := ty_eq_of H1.out H2.out H3.out fun i hx hy => HALL.out i hx hy hy
                exact sm_true hty _ HCR.out (HMR.out.shut HCX.out HCY.out hty)
      · have hd2 : ((x.ks.length : Int) == (y.ks.length : Int)) = false := by simp; omega
        have hd3 : ((x.ks.length : Int) != (y.ks.length : Int)) = true := by simp; omega
        rw [h1] at x0
        rw [h2] at x1
        go_enter Try.func58, Try.ntmps58
        go_wp2_with fail
        go_quiet (fail)
        go_wp2_with fail
        go_ret
        exact sm_false (ty_ne_l h3) _ (chg_drewN w _ _)
    · have hd4 : (x.n.toList == y.n.toList) = false := by
        simp only [beq_eq_false_iff_ne, ne_eq]
        exact fun e => h2 (by rw [ByteArray.toList_eq, ByteArray.toList_eq] at e; exact ByteArray.ext (Array.ext' e))
      rw [h1] at x0
      go_enter Try.func58, Try.ntmps58
      go_wp2_with fail
      go_quiet (fail)
      go_wp2_with fail
      go_ret
      exact sm_false (ty_ne_n h2) _ (chg_drewN w _ _)
  · have hd2 : (x.k == y.k) = false := by simpa using h1
    have hd3 : (x.k != y.k) = true := by simpa using h1
    go_enter Try.func58, Try.ntmps58
    go_wp2_with fail
    go_quiet (fail)
    go_wp2_with fail
    go_ret
    exact sm_false (ty_ne_k h1) _ (chg_drewN w _ _)

end Go.Proofs.Ytdlbhjkkgiaidaa.Con
