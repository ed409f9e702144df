/-
  Contracts of the laws' markTypeS, markType, heldTypeS and heldType: what was marked is held. Condition: the type lies in blocks of its own and is not too large.
-/
import Derived.Test.YtbbldkhlclfmkaaTyMark
import Derived.LoopTactic
import Derived.StillTailTactics
namespace Go.Proofs.Ytbbldkhlclfmkaa.Con
open Go.RowKit
set_option linter.unusedVariables false

def MkPost (B : Nat) (w : World) (a : Option Addr) (cap : Nat) (ks : List LT) (k : Nat) (e : Ending) (w' : World) : Prop :=
  e = .returned (.int .i64 ((mkl ks k).2 : Nat)) ∧ slNew B w' a cap (mkl ks k).1 ∧ Chg w w' (fun x => x ∈ sbl a ks)

def MkS (ks : List LT) : Prop := ∀ (B : Nat) (w : World) (a : Option Addr) (cap k : Nat), slNew B w a cap ks → 1 ≤ k → k + 2 * cntl ks ≤ 8000000 → Calls Try.prog 46 #[.slice a ks.length cap, .int .i64 k] w (MkPost B w a cap ks k)

theorem mtx_size (k : Nat) (h : k ≤ 9000000) : (mtx k).length ≤ 21 := by
  unfold mtx digs
  have := revN_len20 (a := k) (by omega)
  simp; omega

theorem slNew.frz {B b o cap : Nat} {w : World} {ks : List LT} (h : slNew B w (some ⟨b, o, none⟩) cap ks) (hk : ks ≠ []) (j : Nat) : w.frozen? ⟨b, j, none⟩ = false :=
  (h.2.2 b (by rw [sbl_cap, sbl_some hk]; simp)).2.frozen j

theorem ne_cons {α : Type} (xs ys : List α) (y : α) : xs ++ y :: ys ≠ [] := by simp

theorem sbl_none (ks : List LT) : sbl none ks = bls ks := by unfold sbl; rw [LT.bl_eq]; simp [LT.ks, LT.a]

theorem sbl_mkl (a : Option Addr) (ks : List LT) (k : Nat) : sbl a (mkl ks k).1 = sbl a ks := by
  cases a with
  | none => rw [sbl_none, sbl_none, mkl_bl]
  | some x =>
    obtain ⟨b, o, sp⟩ := x
    cases ks with
    | nil => rw [mkl_nil]
    | cons t ts =>
      rw [sbl_some (by rw [mkl_cons]; simp), sbl_some (by simp), mkl_bl]

theorem mark_at (ks : List LT) (k j : Nat) (hlt : j < ks.length) : ∃ xs kk, (mkl (ks.take j) k).1 = xs ∧ (mkl (ks.take j) k).2 = kk ∧ xs.length = j ∧ k ≤ kk ∧ kk + 2 * (1 + cntl ks[j].ks) ≤ k + 2 * cntl ks ∧
    mkl (ks.take (j + 1)) k = (xs ++ [(ks[j].mkd kk).1], (ks[j].mkd kk).2) ∧ (∀ a, sbl a (xs ++ ks[j] :: ks.drop (j + 1)) = sbl a ks) ∧ xs ++ ks.drop j = xs ++ ks[j] :: ks.drop (j + 1) := by
  have hdrop : ks.drop j = ks[j] :: ks.drop (j + 1) := List.drop_eq_getElem_cons hlt
  have hlen := mkl_len (ks.take j) k
  have e2 : cntl ks = cntl (ks.take j) + cntl (ks.drop j) := by rw [← cntl_append, List.take_append_drop]
  have hcn := cnt_eq ks[j]
  refine ⟨_, _, rfl, rfl, by rw [hlen.2, List.length_take]; omega, by omega, ?_, ?_, fun a => ?_, by rw [hdrop]⟩
  · rw [hlen.1, e2, hdrop, cntl_cons]; omega
  · rw [List.take_succ_eq_append_getElem hlt, mkl_append, mkl_cons, mkl_nil]
  · have e3 : bls ((mkl (ks.take j) k).1 ++ ks[j] :: ks.drop (j + 1)) = bls ks := by rw [bls_append, mkl_bl, ← hdrop, ← bls_append, List.take_append_drop]
    have hne : ks ≠ [] := fun e => by rw [e] at hlt; simp at hlt
    cases a with
    | none => rw [sbl_none, sbl_none, e3]
    | some x =>
      obtain ⟨b, o, sp⟩ := x
      rw [sbl_some (ne_cons _ _ _), sbl_some hne, e3]

theorem mid_get (xs ys : List LT) (y : LT) (j : Nat) (h : xs.length = j) (hi : j < (xs ++ y :: ys).length) : (xs ++ y :: ys)[j]'hi = y := by
  subst h; simp

set_option maxRecDepth 100000 in
theorem markS_of (ks : List LT) (ih : ∀ t ∈ ks, MkS t.ks) : MkS ks := by
  intro B w a cap k h h1 h2
  have hl : ks.length ≤ 9223372036854775807 := Nat.le_trans h.ok.1 h.ok.2.1
  have h0 := h
  go_enter Try.func46, Try.ntmps46
  go_wp2_with fail
  go_loopw [1, 5] (fun kv i wr => ∃ j : Nat, j ≤ ks.length ∧ i = .int .i64 j ∧ kv = .int .i64 ((mkl (ks.take j) k).2 : Nat) ∧ slNew B wr a cap ((mkl (ks.take j) k).1 ++ ks.drop j) ∧ Chg w wr (fun x => x ∈ sbl a ks)) (fun _ i _ => ks.length - (intOf i).toNat)
  case atStart => exact ⟨0, by omega, rfl, by simp [mkl_nil], by simpa [mkl_nil] using h0, Chg.of_gw (Gw.refl w) _⟩
  case round =>
    clear h0
    obtain ⟨j, hj, rfl, rfl, hn, hc⟩ := hrel
    obtain ⟨wo, rfl⟩ : ∃ wo : World, wo = wr := ⟨_, rfl⟩
    have HC := Lib.hid hc
    by_cases hlt : j < ks.length
    · obtain ⟨xs, kk, hX, hK, hxs, hk1, hkb, hnext, hsb, hdr⟩ := mark_at ks k j hlt
      rw [hX, hdr] at hn
      rw [hK]
      have HNX := Lib.hid hnext
      have HSB := Lib.hid hsb
      clear hnext hsb hdr
      obtain ⟨b, o, hab, hrow⟩ := hn.ok.2.2.resolve_left (ne_cons _ _ _)
      subst hab
      have hjl : j < (xs ++ ks[j] :: ks.drop (j + 1)).length := by rw [List.length_append, List.length_cons]; omega
      have hget := rowOk_get hrow j hjl
      rw [mid_get _ _ _ _ hxs] at hget
      obtain ⟨c0, c1, c2, _⟩ := hget
      have hbb := cell_lt c0
      have hfz := fun i => hn.frz (ne_cons _ _ _) i
      have f0 := hfz (o + j * 3)
      have f1 := hfz (o + j * 3 + 1)
      have HN := Lib.hid hn
      have HXS := Lib.hid hxs
      have HKX := Lib.hid (And.intro hK hX)
      clear hn hxs hK hX hrow hfz hjl
      go_wp2_with fail
      rw [show ((kk : Int) + 1) = ((kk + 1 : Nat) : Int) from by omega]
      refine (markText (kk + 1) (by omega) (by omega) _).mono ?_
      rintro e w2 ⟨rfl, hg2⟩
      have hsz : wo.heap.size ≤ w2.heap.size := by have := hg2.size; simpa [World.setCell] using this
      obtain ⟨k2, g2⟩ := bcell hg2
      have d1 : w2.cell? ⟨b, o + j * 3 + 1, none⟩ = some (.string ks[j].n) := by rw [k2 _ _ (by simpa [World.setCell] using hbb), World.cell?_setCell_other _ _ _ _ (by simp)]; exact c1
      have d2 : w2.cell? ⟨b, o + j * 3 + 2, none⟩ = some (.slice ks[j].a ks[j].ks.length ks[j].cap) := by rw [k2 _ _ (by simpa [World.setCell] using hbb), World.cell?_setCell_other _ _ _ _ (by simp)]; exact c2
      have e1 : w2.frozen? ⟨b, o + j * 3 + 1, none⟩ = false := by rw [g2 _ _ (by simpa [World.setCell] using hbb)]; simpa using f1
      have hb2 : b < w2.heap.size := by omega
      have HG2 := Lib.hid hg2
      clear k2 g2 c0 c1 c2 f0 f1 hg2
      have hpre := mark_pre (i := o + j * 3) (j := o + j * 3 + 1) (v1 := .int .i64 kk) (v2 := .string (str (mtx (kk + 1)))) HN.out HG2.out
      have HPRE := Lib.hid hpre
      have hmt : (str (mtx (kk + 1))).size ≤ maxLen := by have := mtx_size (kk + 1) (by omega); rw [str_size]; unfold maxLen; omega
      have HMT := Lib.hid hmt
      clear hpre hmt
      go_wp2_with fail
      rw [show ((kk : Int) + 1 + 1) = ((kk + 2 : Nat) : Int) from by omega]
      refine (ih ks[j] (List.getElem_mem hlt) B _ _ _ (kk + 2) HPRE.out (by omega) (by omega)).mono ?_
      rintro e w4 ⟨rfl, hn4, hc4⟩
      have hbl := sbl_mkl ks[j].a ks[j].ks (kk + 2)
      have hfin := mark_next HXS.out HMT.out (by omega) HN.out HG2.out hc4 hn4 hbl (mkl_len _ _).2
      have hmk := mkd_eq ks[j] kk
      have HFIN := Lib.hid hfin
      have HMK := Lib.hid hmk
      clear hn4 hc4 hbl hfin hmk
      go_wp2_with fail
      go_roundw
      case rel =>
        refine ⟨j + 1, by omega, by go_num, ?_, ?_, ?_⟩
        · rw [HNX.out, HMK.out]
        · rw [HNX.out, HMK.out]
          have := HFIN.out.1
          rw [List.append_assoc]
          exact this
        · exact HC.out.trans HFIN.out.2 (fun x _ hx => by rw [HSB.out] at hx; exact hx)
      case measure => simp [intOf]; omega
    · obtain rfl : j = ks.length := by omega
      rw [List.take_length, List.drop_length, List.append_nil] at hn
      have HN := Lib.hid hn
      clear hn
      go_wp2_with fail
      go_ret
      exact ⟨by rw [List.take_length]; rfl, HN.out, HC.out⟩

theorem laws_markS (ks : List LT) : MkS ks := markS_of ks fun t _ => by
  refine LT.ind (P := fun t => MkS t.ks) (fun k n a c ks ih => ?_) t
  exact markS_of ks ih

theorem laws_mark (t : LT) (B : Nat) (w : World) (k : Nat) (h : t.New B w) (h1 : 1 ≤ k) (h2 : k + 2 * cntl t.ks ≤ 8000000) :
    Calls Try.prog 16 #[t.val, .int .i64 k] w fun e w' => e = .returned (.int .i64 ((mkl t.ks k).2 : Nat)) ∧ slNew B w' t.a t.cap (mkl t.ks k).1 ∧ Chg w w' (fun x => x ∈ t.bl) := by
  have g1 : Gw w (w.alloc (.cells #[.int .i64 t.k, .string t.n, .slice t.a t.ks.length t.cap] 29)) := (Gw.refl w).alloc _
  have key := laws_markS t.ks B _ t.a t.cap k (h.grow g1).kids h1 h2
  go_enter Try.func16, Try.ntmps16
  go_wp2_with fail
  refine key.mono ?_
  rintro e w1 ⟨rfl, hn, hc⟩
  go_wp2_with fail
  go_ret
  refine ⟨rfl, hn, ?_⟩
  rw [LT.bl_s]
  exact (Chg.of_gw g1 _).trans hc (fun x _ hx => hx)

end Go.Proofs.Ytbbldkhlclfmkaa.Con
