/-
  Contract of the program's InhabitedDatas. No condition but that the declarations lie in memory.
-/
import Derived.Test.YtdlbhjkkgiaidaaDaInhP
import Derived.Deep.RegionHeld3
namespace Go.Proofs.Ytdlbhjkkgiaidaa.Con
open Go.RowKit
set_option linter.unusedVariables false

/-- More is known in the second. -/
def Le (L L' : List Bool) : Prop := ∀ i : Nat, L[i]? = some true → L'[i]? = some true
theorem lk_mono {n : ByteArray} : ∀ (ns : List ByteArray) (L L' : List Bool), Le L L' → lk ns L n = true → lk ns L' n = true
  | [], _, _, _, h => by simp [lk] at h
  | x :: xs, [], _, _, h => by simp [lk] at h
  | x :: xs, b :: bs, [], hle, h => by
    simp only [lk] at h
    split at h
    · have := hle 0 (by simpa using h)
      simp at this
    · exfalso
      have key : ∀ (ys : List ByteArray) (M : List Bool), lk ys M n = true → ∃ i : Nat, M[i]? = some true := by
        intro ys
        induction ys with
        | nil => intro M h; simp [lk] at h
        | cons y ys ih =>
          intro M h
          cases M with
          | nil => simp [lk] at h
          | cons m ms =>
            simp only [lk] at h
            split at h
            · exact ⟨0, by simpa using h⟩
            · obtain ⟨i, hi⟩ := ih ms h
              exact ⟨i + 1, by simpa using hi⟩
      obtain ⟨i, hi⟩ := key xs bs h
      have := hle (i + 1) (by simpa using hi)
      simp at this
  | x :: xs, b :: bs, c :: cs, hle, h => by
    simp only [lk] at h ⊢
    split at h
    · rename_i hx
      rw [if_pos hx]
      simpa using hle 0 (by simpa using h)
    · rename_i hx
      rw [if_neg hx]
      exact lk_mono xs bs cs (fun i hi => by simpa using hle (i + 1) (by simpa using hi)) h
theorem live_mono (ns : List ByteArray) (L L' : List Bool) (hle : Le L L') : ∀ (t : LT), t.ty.live ns L = true → t.ty.live ns L' = true := fun t => by
  refine LT.ind (P := fun t => t.ty.live ns L = true → t.ty.live ns L' = true) (fun k n a c ks ih h => ?_) t
  rw [LT.live_eq] at h ⊢
  split at h
  · rename_i h2
    rw [if_pos h2]
    exact lk_mono _ _ _ hle h
  · rename_i h2
    rw [if_neg h2]
    split at h
    · rename_i h4
      rw [if_pos h4]
      cases ks with
      | nil => rfl
      | cons u us => exact ih u (by simp) h
    · rename_i h4
      rw [if_neg h4]
theorem cLive_mono {ns : List ByteArray} {L L' : List Bool} (hle : Le L L') {c : LC} (h : cLive ns L (cty c) = true) : cLive ns L' (cty c) = true := by
  rw [← all_live] at h ⊢
  rw [List.all_eq_true] at h ⊢
  exact fun t ht => live_mono ns L L' hle t (h t ht)

/-- What is known has a constructor that shows it. -/
def Sup (ns : List ByteArray) (ds : List LD) (L : List Bool) : Prop := ∀ (i : Nat) (hi : i < ds.length), L[i]? = some true → (ds[i].xs.any fun c => cLive ns L (cty c)) = true
theorem Sup.zero (ns : List ByteArray) (ds : List LD) (n : Nat) : Sup ns ds (List.replicate n false) := fun i hi h => by
  rw [List.getElem?_replicate] at h
  split at h <;> simp at h
theorem any_cty (ns : List ByteArray) (L : List Bool) (d : LD) : (d.xs.map cty).any (cLive ns L) = d.xs.any fun c => cLive ns L (cty c) := by rw [List.any_map]; rfl
/-- The program's step is the model's. -/
theorem Sup.step {ns : List ByteArray} {ds : List LD} {L : List Bool} (h : Sup ns ds L) {i : Nat} (hi : i < ds.length) (hl : L.length = ds.length) : L.set i (ds[i].xs.any fun c => cLive ns L (cty c)) = stepL ns L i (ds[i].xs.map cty) := by
  unfold stepL
  rw [any_cty]
  cases hb : ds[i].xs.any fun c => cLive ns L (cty c) with
  | true => simp
  | false =>
    have hn : L[i]? ≠ some true := fun e => by rw [h i hi e] at hb; cases hb
    have hf : L[i]? = some false := by
      rw [List.getElem?_eq_getElem (by omega)] at hn ⊢
      cases hv : L[i]'(by omega) with
      | true => rw [hv] at hn; exact absurd rfl hn
      | false => rfl
    simp only [Bool.false_eq_true, if_false]
    refine List.ext_getElem? fun x => ?_
    rw [List.getElem?_set]
    split
    · next e =>
      subst e
      rw [if_pos (by omega), hf]
    · rfl
theorem Sup.next {ns : List ByteArray} {ds : List LD} {L : List Bool} (h : Sup ns ds L) {i : Nat} (hi : i < ds.length) : Sup ns ds (stepL ns L i (ds[i].xs.map cty)) := by
  unfold stepL
  rw [any_cty]
  cases hb : ds[i].xs.any fun c => cLive ns L (cty c) with
  | false => simpa using h
  | true =>
    simp only [if_true]
    have hle : Le L (L.set i true) := fun x hx => by
      rw [List.getElem?_set]
      split
      · next e =>
        subst e
        rw [if_pos (List.getElem?_eq_some_iff.1 hx).1]
      · exact hx
    have up : ∀ (d : LD), (d.xs.any fun c => cLive ns L (cty c)) = true → (d.xs.any fun c => cLive ns (L.set i true) (cty c)) = true := fun d hd => by
      rw [List.any_eq_true] at hd ⊢
      obtain ⟨c, hc, hv⟩ := hd
      exact ⟨c, hc, cLive_mono hle hv⟩
    intro x hx hv
    by_cases e : x = i
    · subst e; exact up _ hb
    · rw [List.getElem?_set, if_neg (fun h => e h.symm)] at hv
      exact up _ (h x hx hv)

theorem set_far {w : World} {g j b o : Nat} {v u : Value} (h : w.cell? ⟨b, o, none⟩ = some u) (hb : b ≠ g) : (w.setCell ⟨g, j, none⟩ v).cell? ⟨b, o, none⟩ = some u :=
  (World.cell?_of_block (a := ⟨b, o, none⟩) (Below.heap_setCell w ⟨g, j, none⟩ v b (fun e => hb (by first | exact e | exact e.symm)))).trans h

set_option maxHeartbeats 2000000 in
set_option maxRecDepth 100000 in
theorem impl_inh (ds : List LD) (w : World) (a : Option Addr) (cap : Nat) (h : dsOk w a cap ds) : Calls Try.prog 44 #[.slice a ds.length cap] w (InhPost (ds.map dty) w) := by
  have hl : ds.length ≤ 9223372036854775807 := Nat.le_trans h.1 h.2.1
  have hrow := Lib.hid h.2.2
  have HD0 := Lib.hid h
  have g0 : Gw w (w.alloc (.cells #[.slice a ds.length cap] 43)) := (Gw.refl w).alloc _
  have Q1 := Lib.hid (show (w.alloc (.cells #[.slice a ds.length cap] 43)).cell? ⟨w.heap.size, 0, none⟩ = some (.slice a ds.length cap) from cell_of_row _ _ 0 _ _ _ (heap_alloc_new w _))
  have key := impl_ok ds _ a cap (dsOk.grow h g0)
  have G0 := Lib.hid g0
  clear h g0
  cases hb : datasB (ds.map dty) with
  | false =>
    rw [hb] at key
    have KEY := Lib.hid key
    have HI := Lib.hid (show inhB (ds.map dty) = [] by unfold inhB; rw [hb]; rfl)
    clear key hb
    go_enter Try.func44, Try.ntmps44
    go_upto_region 1 with (fail)
    generalize w.alloc (.cells #[.slice a ds.length cap] 43) = w0 at *
    have q1 := Q1.out
    go_wp2_with fail
    refine KEY.out.mono ?_
    rintro e w1 ⟨rfl, g1⟩
    clear q1
    go_wp2_with fail
    go_ret
    exact ⟨none, 0, by rw [HI.out]; rfl, by rw [HI.out]; exact ⟨Nat.le_refl _, Nat.zero_le _, .inl rfl⟩, G0.out.trans g1⟩
  | true =>
    rw [hb] at key
    have KEY := Lib.hid key
    have h4 : ds.length ≤ 4 := by simpa using datasB_len hb
    have HALLC := Lib.hid (show ∀ i (hi : i < ds.length) k (hk : k < ds[i].xs.length), cB (ds.map LN.n) (cty (ds[i].xs[k])) = true from fun i hi k hk => by
      have := (datasB_cons hb (dty ds[i]) (List.mem_map.2 ⟨_, List.getElem_mem hi, rfl⟩)).2 (cty ds[i].xs[k]) (List.mem_map.2 ⟨_, List.getElem_mem hk, rfl⟩)
      rwa [fst_dty] at this)
    have HI := Lib.hid (show inhB (ds.map dty) = roundsL (ds.map LN.n) ((ds.map dty).map Prod.snd) ds.length (List.replicate ds.length false) by unfold inhB; rw [hb, fst_dty]; simp)
    have hmk := make_bools ds.length h4
    clear key hb
    go_enter Try.func44, Try.ntmps44
    go_upto_region 1 with (fail)
    generalize w.alloc (.cells #[.slice a ds.length cap] 43) = w0 at *
    have q1 := Q1.out
    go_wp2_with fail
    refine KEY.out.mono ?_
    rintro e w1 ⟨rfl, g1⟩
    clear q1
    have q1 := g1.cell Q1.out (cell_lt Q1.out)
    have Q2 := Lib.hid q1
    have G1 := Lib.hid (G0.out.trans g1)
    clear g1
    have HM := Lib.hid (made_lv w1 ds.length)
    have W2 := heap_alloc_new (w1.alloc (.cells (madeCells #[.bool false] ds.length) 4)) (.cells #[.slice (some ⟨w1.heap.size, 0, none⟩) ds.length ds.length] 54)
    rw [show (w1.alloc (.cells (madeCells #[.bool false] ds.length) 4)).heap.size = w1.heap.size + 1 from by simp] at W2
    have gA : Gw w1 ((w1.alloc (.cells (madeCells #[.bool false] ds.length) 4)).alloc (.cells #[.slice (some ⟨w1.heap.size, 0, none⟩) ds.length ds.length] 54)) := ((Gw.refl w1).alloc _).alloc _
    have gB : Gw (w1.alloc (.cells (madeCells #[.bool false] ds.length) 4)) ((w1.alloc (.cells (madeCells #[.bool false] ds.length) 4)).alloc (.cells #[.slice (some ⟨w1.heap.size, 0, none⟩) ds.length ds.length] 54)) := (Gw.refl _).alloc _
    have CA := Lib.hid (show Caps ((w1.alloc (.cells (madeCells #[.bool false] ds.length) 4)).alloc (.cells #[.slice (some ⟨w1.heap.size, 0, none⟩) ds.length ds.length] 54)) w.heap.size (w1.heap.size + 1) ds a cap w1.heap.size ds.length (List.replicate ds.length false) from
      ⟨gA.cell Q2.out (cell_lt Q2.out), cell_of_row _ _ 0 _ _ _ W2, dsOk.grow HD0.out (G1.out.trans gA), HM.out.grow gB, by simp, rfl, h4⟩)
    have G2 := Lib.hid (G1.out.trans gA)
    have SZ := Lib.hid (show w.heap.size < w1.heap.size from cell_lt Q2.out)
    clear HM W2 gA gB
    go_upto_region 4 with (fail)
    clear q1 hmk
    generalize (w1.alloc (.cells (madeCells #[.bool false] ds.length) 4)).alloc (.cells #[.slice (some ⟨w1.heap.size, 0, none⟩) ds.length ds.length] 54) = w2 at *
    generalize w1.heap.size = g at *
    obtain ⟨q1, q2, hrest⟩ := CA.out
    clear hrest
    go_wp2_with fail
    clear q1 q2
    go_loopw [14] (fun i wr => ∃ (r : Nat) (L : List Bool), r ≤ ds.length ∧ i = .int .i64 r ∧ Gw w wr ∧ Caps wr w.heap.size (g + 1) ds a cap g ds.length L ∧ Sup (ds.map LN.n) ds L ∧ inhB (ds.map dty) = roundsL (ds.map LN.n) ((ds.map dty).map Prod.snd) (ds.length - r) L) (fun i _ => ds.length - (intOf i).toNat)
    case atStart => exact ⟨0, _, by omega, rfl, G2.out, CA.out, Sup.zero _ _ _, by rw [HI.out]; rfl⟩
    case round =>
      obtain ⟨r, L, hr, rfl, hg, hca, hsup, htot⟩ := hrel
      have TOT := Lib.hid htot
      have CA1 := Lib.hid hca
      have SU := Lib.hid hsup
      have G3 := Lib.hid hg
      clear htot hsup hg
      by_cases hlt : r < ds.length
      · have TOT2 := Lib.hid (show inhB (ds.map dty) = roundsL (ds.map LN.n) ((ds.map dty).map Prod.snd) (ds.length - (r + 1)) (passL (ds.map LN.n) (((ds.map dty).map Prod.snd).drop 0) 0 L) by
          rw [TOT.out, show ds.length - r = (ds.length - (r + 1)) + 1 from by omega]; rfl)
        obtain ⟨q1, q2, hrest⟩ := hca
        clear hrest
        go_wp2_with fail
        clear q1 q2
        go_loopw [18] (fun i wr => ∃ (j : Nat) (L : List Bool), j ≤ ds.length ∧ i = .int .i64 j ∧ Gw w wr ∧ Caps wr w.heap.size (g + 1) ds a cap g ds.length L ∧ Sup (ds.map LN.n) ds L ∧ inhB (ds.map dty) = roundsL (ds.map LN.n) ((ds.map dty).map Prod.snd) (ds.length - (r + 1)) (passL (ds.map LN.n) (((ds.map dty).map Prod.snd).drop j) j L)) (fun i _ => ds.length - (intOf i).toNat)
        case atStart => exact ⟨0, L, by omega, rfl, G3.out, CA1.out, SU.out, TOT2.out⟩
        case round =>
          clear TOT TOT2 CA1 SU G3 L
          obtain ⟨wo, rfl⟩ : ∃ wo : World, wo = wr := ⟨_, rfl⟩
          obtain ⟨j, L, hj, rfl, hg, hca, hsup, htot⟩ := hrel
          have TOT := Lib.hid htot
          have CA1 := Lib.hid hca
          have SU := Lib.hid hsup
          have G3 := Lib.hid hg
          clear htot hca hsup
          by_cases hlj : j < ds.length
          · obtain ⟨b, o, ea, hrw⟩ := hrow.out.resolve_left (fun e => by subst e; simp at hlj)
            subst ea
            obtain ⟨c0, c1, hdj⟩ := (hrw.grow hg (fun _ h => h.grow hg)) j hlj
            have q0 : (0 : Int) ≤ j := by omega
            have q1 : (j : Int) < ds.length := by omega
            have TOT2 := Lib.hid (show inhB (ds.map dty) = roundsL (ds.map LN.n) ((ds.map dty).map Prod.snd) (ds.length - (r + 1)) (passL (ds.map LN.n) (((ds.map dty).map Prod.snd).drop (j + 1)) (j + 1) (stepL (ds.map LN.n) L j (ds[j].xs.map cty))) by
              rw [TOT.out, drop_snd hlj]; rfl)
            have STEP := Lib.hid (SU.out.step hlj CA1.out.2.2.2.2.1)
            have NEXT := Lib.hid (SU.out.next hlj)
            have HCD := Lib.hid (HALLC.out j hlj)
            obtain ⟨d, hd⟩ : ∃ d, d = ds[j] := ⟨_, rfl⟩
            rw [← hd] at c0 c1 hdj TOT2 STEP NEXT
            have HCD := Lib.hid (show ∀ k (hk : k < d.xs.length), cB (ds.map LN.n) (cty (d.xs[k])) = true from fun k hk => by
              have := HALLC.out j hlj k (by rw [← hd]; exact hk)
              simpa only [← hd] using this)
            have hll : d.xs.length ≤ 9223372036854775807 := Nat.le_trans hdj.2.1 hdj.2.2.1
            have g4 : Gw wo (wo.alloc (.cells #[.string d.n, .slice d.a d.xs.length d.cap] 64)) := (Gw.refl wo).alloc _
            have DB := Lib.hid (show DBox (wo.alloc (.cells #[.string d.n, .slice d.a d.xs.length d.cap] 64)) wo.heap.size d from heap_alloc_new wo _)
            have CA2 := Lib.hid (CA1.out.grow g4)
            have HDJ := Lib.hid (hdj.grow g4)
            have G4 := Lib.hid (hg.trans g4)
            have DNE := Lib.hid (show wo.heap.size ≠ g from fun e => by have := CA1.out.2.2.2.1.lt; omega)
            clear hrw hdj hd hg g4
            go_upto_region 9 with (fail)
            clear c0 c1
            generalize wo.alloc (.cells #[.string d.n, .slice d.a d.xs.length d.cap] 64) = w4 at *
            generalize wo.heap.size = D at *
            obtain ⟨d0, d1⟩ := DB.out.c
            obtain ⟨_, q2, _, hlv, hlen, _⟩ := CA2.out
            have HLEN := Lib.hid hlen
            obtain ⟨bb, hbb⟩ : ∃ bb, L[j]? = some bb := ⟨_, List.getElem?_eq_getElem (by omega)⟩
            have hcg := hlv.cell hbb
            have hfg := hlv.frozen j
            have lD := DB.out.lt
            have lQ := cell_lt q2
            have lG : g < w4.heap.size := hlv.lt
            have dne := DNE.out
            have qne : g + 1 ≠ g := by omega
            have CA3 := CA2.out.grow ((Gw.refl w4).drew)
            have HDJ3 := HDJ.out.2.grow ((Gw.refl w4).drew)
            clear hlv hlen hbb
            go_region_held3 (fun W => W.cell? ⟨g + 1, 0, none⟩ = some (.slice (some ⟨g, 0, none⟩) ds.length ds.length) ∧ W.cell? ⟨D, 1, none⟩ = some (.slice d.a d.xs.length d.cap))
              (first | exact ⟨q2, d1⟩ | exact ⟨(k2 _ _ lQ).trans q2, (k2 _ _ lD).trans d1⟩ | exact ⟨set_far hHq qne, set_far hHd dne⟩)
              (first
                | (go_at_call 81; refine (impl_inhAny ds L d.xs HCD.out _ _ _ _ d.a cap g ds.length d.cap (by exact CA3) (by exact HDJ3)).mono ?_; rintro e w5 ⟨rfl, g5⟩; have k2 : ∀ b o, b < w4.heap.size → w5.cell? ⟨b, o, none⟩ = w4.cell? ⟨b, o, none⟩ := fun b o h => (bcell g5).1 b o h; have hc5 := (k2 g j lG).trans hcg; have hf5 := ((bcell g5).2 g j lG).trans hfg; have hHq := (k2 _ 0 lQ).trans q2; have hHd := (k2 _ 1 lD).trans d1))
            have GN := Lib.hid (show Gw w (w5.setCell ⟨g, j, none⟩ (.bool (d.xs.any fun c => cLive (ds.map LN.n) L (cty c)))) from Below.setCell ((G4.out.drew).trans g5) (Nat.le_of_lt SZ.out) _)
            have CA5 := CA3.grow g5
            have CAN := Lib.hid (show Caps (w5.setCell ⟨g, j, none⟩ (.bool (d.xs.any fun c => cLive (ds.map LN.n) L (cty c)))) w.heap.size (g + 1) ds (some ⟨b, o, none⟩) cap g ds.length (stepL (ds.map LN.n) L j (d.xs.map cty)) from
              ⟨set_far CA5.1 (Nat.ne_of_lt SZ.out), set_far CA5.2.1 qne, dsOk.grow HD0.out GN.out, by rw [← STEP.out]; exact CA5.2.2.2.1.set j _, by rw [stepL_len]; exact HLEN.out, rfl, h4⟩)
            clear CA5 CA3 HDJ3 hc5 hf5 hHq hHd k2 g5 hcg hfg q2 d0 d1 dne qne lD lQ lG
            go_wp2_with fail
            go_roundw
            case rel => exact ⟨j + 1, stepL (ds.map LN.n) L j (d.xs.map cty), by omega, by go_num, GN.out, CAN.out, NEXT.out, TOT2.out⟩
            case measure => simp [intOf]; omega
          · obtain rfl : j = ds.length := by omega
            clear hg
            go_wp2_with fail
            go_roundw
            case rel => exact ⟨r + 1, L, by omega, by go_num, G3.out, CA1.out, SU.out, by rw [TOT.out, List.drop_eq_nil_of_le (by simp)]; rfl⟩
            case measure => simp [intOf]; omega
      · obtain rfl : r = ds.length := by omega
        have HE := Lib.hid (show inhB (ds.map dty) = L by rw [TOT.out, Nat.sub_self]; rfl)
        obtain ⟨q1, q2, _, hv, hL, _⟩ := hca
        have HV := Lib.hid hv
        have HLL := Lib.hid hL
        clear hv hL
        go_wp2_with fail
        go_ret
        exact ⟨some ⟨g, 0, none⟩, ds.length, by rw [HE.out, HLL.out]; rfl, by rw [HE.out]; exact ⟨by rw [HLL.out]; exact Nat.le_refl _, by unfold maxLen; omega, .inr ⟨g, rfl, Nat.le_of_lt SZ.out, HV.out⟩⟩, G3.out⟩

end Go.Proofs.Ytdlbhjkkgiaidaa.Con
