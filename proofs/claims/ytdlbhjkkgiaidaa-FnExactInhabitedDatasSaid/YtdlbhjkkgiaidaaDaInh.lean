/-
  Which data types have finite values, as a function on declarations; contract of the model's InhabitedDatas. No condition but that the declarations lie in memory.
-/
import Derived.Test.YtdlbhjkkgiaidaaDaLive
import Derived.BigQuiet
import Derived.Laws.MakeOwn
namespace Go.Proofs.Ytdlbhjkkgiaidaa.Con
open Go.RowKit
set_option linter.unusedVariables false

def stepL (ns : List ByteArray) (L : List Bool) (i : Nat) (cs : List CD) : List Bool := if cs.any (cLive ns L) then L.set i true else L
def passL (ns : List ByteArray) : List (List CD) → Nat → List Bool → List Bool
  | [], _, L => L
  | cs :: r, i, L => passL ns r (i + 1) (stepL ns L i cs)
def roundsL (ns : List ByteArray) (C : List (List CD)) : Nat → List Bool → List Bool
  | 0, L => L
  | m + 1, L => roundsL ns C m (passL ns C 0 L)
def inhB (D : List DD) : List Bool := if datasB D then roundsL (D.map Prod.fst) (D.map Prod.snd) D.length (List.replicate D.length false) else []

theorem stepL_len (ns : List ByteArray) (L : List Bool) (i : Nat) (cs : List CD) : (stepL ns L i cs).length = L.length := by unfold stepL; split <;> simp
theorem passL_len (ns : List ByteArray) : ∀ (C : List (List CD)) (i : Nat) (L : List Bool), (passL ns C i L).length = L.length
  | [], _, _ => rfl
  | cs :: r, i, L => by rw [passL, passL_len ns r, stepL_len]
theorem roundsL_len (ns : List ByteArray) (C : List (List CD)) : ∀ (m : Nat) (L : List Bool), (roundsL ns C m L).length = L.length
  | 0, _ => rfl
  | m + 1, L => by rw [roundsL, roundsL_len ns C m, passL_len]

theorem okCs_all {ns : List ByteArray} : ∀ (cs : List CD) (s t : List ByteArray), okCs ns cs s = some t → ∀ c ∈ cs, cB ns c = true
  | [], _, _, _ => fun c h => by cases h
  | c :: cs, s, t, h => fun c' hc => by
    rw [okCs] at h
    split at h
    · rename_i hb
      rw [Bool.and_eq_true] at hb
      rcases List.mem_cons.1 hc with rfl | hc
      · exact hb.1
      · exact okCs_all cs _ _ h c' hc
    · cases h
theorem okDs_all {ns : List ByteArray} : ∀ (ds : List DD) (dn s : List ByteArray), okDs ns ds dn s = true → ∀ d ∈ ds, (1 ≤ d.2.length ∧ d.2.length ≤ 4) ∧ ∀ c ∈ d.2, cB ns c = true
  | [], _, _, _ => fun d h => by cases h
  | d :: ds, dn, s, h => fun d' hd => by
    rw [okDs, Bool.and_eq_true] at h
    obtain ⟨h1, h2⟩ := h
    cases hc : okCs ns d.2 s with
    | none => rw [hc] at h2; cases h2
    | some t =>
      rw [hc] at h2
      rcases List.mem_cons.1 hd with rfl | hd
      · refine ⟨?_, okCs_all _ _ _ hc⟩
        unfold hB at h1
        simp at h1
        exact ⟨h1.1.2, h1.2⟩
      · exact okDs_all ds _ _ h2 d' hd
theorem datasB_len {D : List DD} (h : datasB D = true) : D.length ≤ 4 := by unfold datasB at h; simp at h; exact h.1
theorem datasB_cons {D : List DD} (h : datasB D = true) : ∀ d ∈ D, (1 ≤ d.2.length ∧ d.2.length ≤ 4) ∧ ∀ c ∈ d.2, cB (D.map Prod.fst) c = true := by
  unfold datasB at h
  rw [Bool.and_eq_true] at h
  exact okDs_all _ _ _ h.2

/-- After the first k constructors. -/
def upTo (ns : List ByteArray) (L : List Bool) (i : Nat) (cs : List CD) (k : Nat) : List Bool := if (cs.take k).any (cLive ns L) then L.set i true else L
theorem upTo_zero (ns : List ByteArray) (L : List Bool) (i : Nat) (cs : List CD) : upTo ns L i cs 0 = L := by simp [upTo]
theorem upTo_all (ns : List ByteArray) (L : List Bool) (i : Nat) (cs : List CD) : upTo ns L i cs cs.length = stepL ns L i cs := by unfold upTo stepL; rw [List.take_length]
theorem upTo_len (ns : List ByteArray) (L : List Bool) (i : Nat) (cs : List CD) (k : Nat) : (upTo ns L i cs k).length = L.length := by unfold upTo; split <;> simp
theorem upTo_succ (ns : List ByteArray) (L : List Bool) (i : Nat) (cs : List CD) (k : Nat) (hk : k < cs.length) : upTo ns L i cs (k + 1) = if cLive ns (upTo ns L i cs k) cs[k] then (upTo ns L i cs k).set i true else upTo ns L i cs k := by
  have e : (cs.take (k + 1)).any (cLive ns L) = ((cs.take k).any (cLive ns L) || cLive ns L cs[k]) := by
    rw [List.take_succ_eq_append_getElem hk, List.any_append]; simp
  unfold upTo
  rw [e]
  cases h : (cs.take k).any (cLive ns L) with
  | true => simp
  | false => simp

/-- A row of booleans that lies in memory. -/
def BRow (B : Nat) (w : World) (a : Option Addr) (c : Nat) (L : List Bool) : Prop := L.length ≤ c ∧ c ≤ maxLen ∧ (L = [] ∨ ∃ g, a = some ⟨g, 0, none⟩ ∧ B ≤ g ∧ Lv w g L)
theorem BRow.grow {B : Nat} {w w' : World} {a : Option Addr} {c : Nat} {L : List Bool} (h : BRow B w a c L) (g : Gw w w') : BRow B w' a c L := ⟨h.1, h.2.1, h.2.2.imp id fun ⟨x, e, hb, hv⟩ => ⟨x, e, hb, hv.grow g⟩⟩

def InhPost (D : List DD) (w : World) (e : Ending) (w' : World) : Prop := ∃ a c, e = .returned (.slice a (inhB D).length c) ∧ BRow w.heap.size w' a c (inhB D) ∧ Gw w w'

theorem made_lv (w : World) (n : Nat) : Lv (w.alloc (.cells (madeCells #[.bool false] n) 4)) w.heap.size (List.replicate n false) := by
  unfold Lv
  rw [heap_alloc_new]
  congr 2
  apply Array.ext
  · simp [madeCells]
  · intro i h1 h2
    simp [madeCells, Nat.mod_one]

theorem drop_snd {ds : List LD} {i : Nat} (hi : i < ds.length) : ((ds.map dty).map Prod.snd).drop i = (ds[i].xs.map cty) :: ((ds.map dty).map Prod.snd).drop (i + 1) := by
  rw [List.drop_eq_getElem_cons (by simpa using hi)]; simp [dty]

theorem make_bools (n : Nat) (hn : n ≤ 4) (W : World) : (Instr.makeSlice 54 (.int .i64 (n : Int)) (.int .i64 (n : Int))).run Try.prog W = .ok (.slice (some ⟨W.heap.size, 0, none⟩) n n) (W.alloc (.cells (madeCells #[.bool false] n) 4)) := by
  obtain ⟨i0, hi, hz0, hz1, hz2⟩ := info_parts (P := Try.prog) (e := 4) (z := .bool false) (size := 1) (bytes := 1) (by kernel_rfl)
  have hr := run_make (P := Try.prog) W 54 4 i0 _ Try.underlying54 hi hz0 .i64 .i64 (n : Int) (n : Int) (by omega) (Int.le_refl _) (by rw [hz2]; omega) (by omega)
  rw [Int.toNat_natCast, hz1, Nat.mul_one] at hr
  exact hr

set_option maxHeartbeats 2000000 in
set_option maxRecDepth 100000 in
theorem spec_inh (ds : List LD) (w : World) (a : Option Addr) (cap : Nat) (h : dsOk w a cap ds) : Calls Try.prog 43 #[.slice a ds.length cap] w (InhPost (ds.map dty) w) := by
  have hl : ds.length ≤ 9223372036854775807 := Nat.le_trans h.1 h.2.1
  have hrow := Lib.hid h.2.2
  have HD := Lib.hid h
  have key := spec_ok ds w a cap h
  clear h
  cases hb : datasB (ds.map dty) with
  | false =>
    rw [hb] at key
    have KEY := Lib.hid key
    have HI := Lib.hid (show inhB (ds.map dty) = [] by unfold inhB; rw [hb]; rfl)
    clear key hb
    go_enter Try.func43, Try.ntmps43
    go_wp2_with fail
    refine KEY.out.mono ?_
    rintro e w1 ⟨rfl, g1⟩
    go_wp2_with fail
    go_ret
    exact ⟨some ⟨w1.heap.size, 0, none⟩, 0, by rw [HI.out]; rfl, by rw [HI.out]; exact ⟨Nat.le_refl _, Nat.zero_le _, .inl rfl⟩, g1.alloc _⟩
  | true =>
    rw [hb] at key
    have KEY := Lib.hid key
    have h4 : ds.length ≤ 4 := by simpa using datasB_len hb
    have HALLC := Lib.hid (show ∀ i (hi : i < ds.length) k (hk : k < ds[i].xs.length), cB (ds.map LN.n) (cty (ds[i].xs[k])) = true from fun i hi k hk => by
      have := (datasB_cons hb (dty ds[i]) (List.mem_map.2 ⟨_, List.getElem_mem hi, rfl⟩)).2 (cty ds[i].xs[k]) (List.mem_map.2 ⟨_, List.getElem_mem hk, rfl⟩)
      rwa [fst_dty] at this)
    have HI := Lib.hid (show inhB (ds.map dty) = roundsL (ds.map LN.n) ((ds.map dty).map Prod.snd) ds.length (List.replicate ds.length false) by unfold inhB; rw [hb, fst_dty]; simp)
    have hmk := make_bools ds.length h4
    clear key hb
    go_enter Try.func43, Try.ntmps43
    go_wp2_with fail
    refine KEY.out.mono ?_
    rintro e w1 ⟨rfl, g1⟩
    have HM := Lib.hid (made_lv w1 ds.length)
    have G1 := Lib.hid (g1.alloc (.cells (madeCells #[.bool false] ds.length) 4))
    have SZ := Lib.hid g1.size
    clear g1
    go_wp2_with fail
    clear hmk
    generalize w1.alloc (.cells (madeCells #[.bool false] ds.length) 4) = w2 at *
    generalize w1.heap.size = g at *
    go_loopw [4] (fun i wr => ∃ (r : Nat) (L : List Bool), r ≤ ds.length ∧ i = .int .i64 r ∧ Gw w wr ∧ Lv wr g L ∧ L.length = ds.length ∧ inhB (ds.map dty) = roundsL (ds.map LN.n) ((ds.map dty).map Prod.snd) (ds.length - r) L) (fun i _ => ds.length - (intOf i).toNat)
    case atStart => exact ⟨0, _, by omega, rfl, G1.out, HM.out, by simp, by rw [HI.out]; rfl⟩
    case round =>
      obtain ⟨r, L, hr, rfl, hg, hv, hL, htot⟩ := hrel
      have TOT := Lib.hid htot
      have HV := Lib.hid hv
      have HLL := Lib.hid hL
      have G2 := Lib.hid hg
      clear htot hv hL hg
      by_cases hlt : r < ds.length
      · have TOT2 := Lib.hid (show inhB (ds.map dty) = roundsL (ds.map LN.n) ((ds.map dty).map Prod.snd) (ds.length - (r + 1)) (passL (ds.map LN.n) (((ds.map dty).map Prod.snd).drop 0) 0 L) by
          rw [TOT.out, show ds.length - r = (ds.length - (r + 1)) + 1 from by omega]; rfl)
        go_wp2_with fail
        go_loopw [5] (fun i wr => ∃ (j : Nat) (L : List Bool), j ≤ ds.length ∧ i = .int .i64 j ∧ Gw w wr ∧ Lv wr g L ∧ L.length = ds.length ∧ inhB (ds.map dty) = roundsL (ds.map LN.n) ((ds.map dty).map Prod.snd) (ds.length - (r + 1)) (passL (ds.map LN.n) (((ds.map dty).map Prod.snd).drop j) j L)) (fun i _ => ds.length - (intOf i).toNat)
        case atStart => exact ⟨0, L, by omega, rfl, G2.out, HV.out, HLL.out, TOT2.out⟩
        case round =>
          clear HV HLL TOT TOT2 G2 L
          obtain ⟨j, L, hj, rfl, hg, hv, hL, htot⟩ := hrel
          have TOT := Lib.hid htot
          have HV := Lib.hid hv
          have HLL := Lib.hid hL
          have G2 := Lib.hid hg
          clear htot hv hL hg
          by_cases hlj : j < ds.length
          · obtain ⟨b, o, ea, hrw⟩ := hrow.out.resolve_left (fun e => by subst e; simp at hlj)
            subst ea
            have HR := Lib.hid hrw
            have q0 : (0 : Int) ≤ j := by omega
            have q1 : (j : Int) < ds.length := by omega
            obtain ⟨d, hd⟩ : ∃ d, d = ds[j] := ⟨_, rfl⟩
            have EQD := Lib.hid hd
            have hdw : dOk w ds[j] := (hrw j hlj).2.2
            rw [← hd] at hdw
            have hll : d.xs.length ≤ 9223372036854775807 := Nat.le_trans hdw.2.1 hdw.2.2.1
            have HDW := Lib.hid hdw
            have HCD := Lib.hid (show ∀ k (hk : k < d.xs.length), cB (ds.map LN.n) (cty (d.xs[k])) = true from fun k hk => by
              have := HALLC.out j hlj k (by rw [← hd]; exact hk)
              simpa only [← hd] using this)
            have TOT2 := Lib.hid (show inhB (ds.map dty) = roundsL (ds.map LN.n) ((ds.map dty).map Prod.snd) (ds.length - (r + 1)) (passL (ds.map LN.n) (((ds.map dty).map Prod.snd).drop (j + 1)) (j + 1) (stepL (ds.map LN.n) L j (d.xs.map cty))) by
              rw [TOT.out, drop_snd hlj, hd]; rfl)
            clear hrw hd hdw
            go_wp2_with fail
            go_loopw [6] (fun i wr => ∃ k : Nat, k ≤ d.xs.length ∧ i = .int .i64 k ∧ Gw w wr ∧ Lv wr g (upTo (ds.map LN.n) L j (d.xs.map cty) k)) (fun i _ => d.xs.length - (intOf i).toNat)
            case atStart => exact ⟨0, by omega, rfl, G2.out, by rw [upTo_zero]; exact HV.out⟩
            case round =>
              obtain ⟨k, hk, rfl, hg, hv⟩ := hrel
              have HV3 := Lib.hid hv
              have G3 := Lib.hid hg
              obtain ⟨c0, c1, _⟩ := (HR.out.grow hg (fun _ h => h.grow hg)) j hlj
              rw [← EQD.out] at c0 c1
              clear hv
              by_cases hkl : k < d.xs.length
              · obtain ⟨b2, o2, ea2, hr2⟩ := HDW.out.2.2.2.resolve_left (fun e => by rw [e] at hkl; simp at hkl)
                obtain ⟨f0, f1, hck⟩ := (hr2.grow hg (fun _ h => h.grow hg)) k hkl
                rw [ea2] at c1
                obtain ⟨cc, hc⟩ : ∃ cc, cc = d.xs[k] := ⟨_, rfl⟩
                have hcb := HCD.out k hkl
                rw [← hc] at f0 f1 hck hcb
                have p0 : (0 : Int) ≤ k := by omega
                have p1 : (k : Int) < d.xs.length := by omega
                have hsucc := upTo_succ (ds.map LN.n) L j (d.xs.map cty) k (by simpa using hkl)
                have hul := upTo_len (ds.map LN.n) L j (d.xs.map cty) k
                rw [List.getElem_map, ← hc] at hsucc
                obtain ⟨U, hU⟩ : ∃ U, U = upTo (ds.map LN.n) L j (d.xs.map cty) k := ⟨_, rfl⟩
                rw [← hU] at hsucc hul HV3
                rw [HLL.out] at hul
                have HSUCC := Lib.hid hsucc
                have key := spec_livesBy ds U hul cc hcb wr (some ⟨b, o, none⟩) cap g ds.length (dsOk.grow HD.out hg) HV3.out (by omega) hck
                rw [hul] at key
                have hgl : g < wr.heap.size := HV3.out.lt
                clear hg ea2 hr2 hc hcb hck hsucc hU
                cases hlb : cLive (ds.map LN.n) U (cty cc) with
                | false =>
                  rw [hlb] at key
                  have KEY := Lib.hid key
                  have HS2 := Lib.hid (show upTo (ds.map LN.n) L j (d.xs.map cty) (k + 1) = U by rw [HSUCC.out, hlb]; rfl)
                  clear key hlb
                  go_wp2_with fail
                  refine KEY.out.mono ?_
                  rintro e w3 ⟨rfl, g3⟩
                  clear c0 c1 f0 f1
                  go_wp2_with fail
                  go_roundw
                  case rel => exact ⟨k + 1, by omega, by go_num, G3.out.trans g3, by rw [HS2.out]; exact HV3.out.grow g3⟩
                  case measure => simp [intOf]; omega
                | true =>
                  rw [hlb] at key
                  have KEY := Lib.hid key
                  have HS2 := Lib.hid (show upTo (ds.map LN.n) L j (d.xs.map cty) (k + 1) = U.set j true by rw [HSUCC.out, hlb]; rfl)
                  clear key hlb
                  go_wp2_with fail
                  refine KEY.out.mono ?_
                  rintro e w3 ⟨rfl, g3⟩
                  clear c0 c1 f0 f1
                  have HV4 := Lib.hid (HV3.out.grow g3)
                  obtain ⟨bb, hbb⟩ : ∃ bb, U[j]? = some bb := ⟨_, List.getElem?_eq_getElem (by omega)⟩
                  have hc := HV4.out.cell hbb
                  have hf := HV4.out.frozen j
                  clear hbb
                  go_wp2_with fail
                  go_roundw
                  case rel => exact ⟨k + 1, by omega, by go_num, Below.setCell (G3.out.trans g3) (by exact SZ.out) _, by rw [HS2.out]; exact HV4.out.set j true⟩
                  case measure => simp [intOf]; omega
              · obtain rfl : k = d.xs.length := by omega
                clear hg
                have HS := Lib.hid (show upTo (ds.map LN.n) L j (d.xs.map cty) d.xs.length = stepL (ds.map LN.n) L j (d.xs.map cty) by rw [← upTo_all]; simp)
                go_wp2_with (go_quiet (fail))
                go_roundw
                case rel => exact ⟨j + 1, stepL (ds.map LN.n) L j (d.xs.map cty), by omega, by go_num, (by first | exact G3.out | exact G3.out.drewN _), by rw [← HS.out]; (first | exact HV3.out | exact HV3.out.grow ((Gw.refl _).drewN _)), by rw [stepL_len]; exact HLL.out, TOT2.out⟩
                case measure => simp [intOf]; omega
          · obtain rfl : j = ds.length := by omega
            go_wp2_with fail
            go_roundw
            case rel => exact ⟨r + 1, L, by omega, by go_num, G2.out, HV.out, HLL.out, by rw [TOT.out, List.drop_eq_nil_of_le (by simp)]; rfl⟩
            case measure => simp [intOf]; omega
      · obtain rfl : r = ds.length := by omega
        have HE := Lib.hid (show inhB (ds.map dty) = L by rw [TOT.out, Nat.sub_self]; rfl)
        go_wp2_with fail
        go_ret
        exact ⟨some ⟨g, 0, none⟩, ds.length, by rw [HE.out, HLL.out]; rfl, by rw [HE.out]; exact ⟨by rw [HLL.out]; exact Nat.le_refl _, by unfold maxLen; omega, .inr ⟨g, rfl, SZ.out, HV.out⟩⟩, G2.out⟩

end Go.Proofs.Ytdlbhjkkgiaidaa.Con
