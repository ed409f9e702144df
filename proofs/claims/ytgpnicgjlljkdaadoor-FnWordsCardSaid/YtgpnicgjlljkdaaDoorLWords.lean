/-
  Proved: for all bytes the law FnWords returns true and leaves its arguments as they were. Condition: strconv's listed variables read as the library's text lays them, which the card ties to the text.
-/
import Derived.Test.YtgpnicgjlljkdaaDoorErrs
import Derived.Test.YtgpnicgjlljkdaaDoorWord
import Derived.Test.YtgpnicgjlljkdaaDoorLong
import Derived.Test.YtgpnicgjlljkdaaDoorName
import Derived.Test.YtgpnicgjlljkdaaDoorLead
import Derived.Test.YtgpnicgjlljkdaaDoorCards
import Derived.Test.YtgpnicgjlljkdaaDoorTie
import Derived.LaidMore
import Derived.Lay
import Derived.SevenTiedAt
import Derived.Stop.Joined
namespace Go.Proofs.YtgpnicgjlljkdaaDoor.fnWords
open Go.ChangeShapes Go.WideShapes Go.ChangeAt Go.RowKit Con
set_option linter.unusedVariables false
theorem own : ownKnob Tryd.prog.godebug = none := by kernel_rfl
theorem laidOut : laidOutB Tryd.prog = true := by kernel_rfl

set_option maxHeartbeats 4000000 in
theorem walk (w : World) (b0 : Value) (z0 : List Int) (w0 : RdBytes w b0 z0) (b1 : Value) (z1 : List Int) (w1 : RdBytes w b1 z1) (hT : laidMetH Tryd.prog Rows.fnWordsRow.laid w) :
    Calls Tryd.prog 3 #[b0, b1] w fun e w' => e = .returned (.bool true) ∧ Gw w w' := by
  have hE : ErrsMet w := by
    have h2 : laidMetH Tryd.prog Rows.fnWordsRow.laid w := hT
    rw [MakeChecks.laidMetH_plain _ _ _ (by kernel_rfl)] at h2
    exact errs_of (da := .ptr (.agg [.lit (.string [105, 110, 118, 97, 108, 105, 100, 32, 115, 121, 110, 116, 97, 120])])) (db := .ptr (.agg [.lit (.string [118, 97, 108, 117, 101, 32, 111, 117, 116, 32, 111, 102, 32, 114, 97, 110, 103, 101])])) h2
      (List.mem_cons_of_mem _ (List.mem_cons_of_mem _ (List.mem_cons_of_mem _ (List.mem_cons_of_mem _ (List.mem_cons_self ..)))))
      (List.mem_cons_of_mem _ (List.mem_cons_of_mem _ (List.mem_cons_of_mem _ (List.mem_cons_self ..))))
  have HE := Lib.hid hE
  clear hT hE
  go_enter Tryd.func3, Tryd.ntmps3
  go_wp2_with fail
  refine (law_long _ _ _ _ _ w0 w1).mono ?_
  rintro e w' ⟨⟨r, rfl⟩, rfl⟩
  cases r with
  | true =>
    go_wp2_with fail
    go_ret
    exact ⟨rfl, Gw.refl _⟩
  | false =>
    go_wp2_with fail
    refine (draw_isname _ _ _ w0).mono ?_
    rintro e w2 ⟨⟨s, hs, rfl⟩, g2⟩
    have W1 := Lib.hid (w1.grow g2)
    clear w0 w1
    go_wp2_with fail
    refine (impl_lower s (by omega) _).mono ?_
    rintro e w3 ⟨rfl, g3⟩
    go_wp2_with fail
    refine (impl_upper s (by omega) _).mono ?_
    rintro e w4 ⟨rfl, g4⟩
    go_wp2_with fail
    refine (impl_name s (by omega) _).mono ?_
    rintro e w5 ⟨rfl, g5⟩
    have G5 := Lib.hid (g2.trans (g3.trans (g4.trans g5)))
    have G25 := Lib.hid (g3.trans (g4.trans g5))
    clear g2 g3 g4 g5
    cases hn : nameB s with
    | false =>
      have hl : lowerB s = false := by unfold lowerB; rw [hn]; rfl
      have hu : upperB s = false := by unfold upperB; rw [hn]; rfl
      cases hk : kwB s.toList with
      | false =>
        go_wp2_with fail
        refine (impl_kw s _).mono ?_
        rintro e w' ⟨rfl, rfl⟩
        go_wp2_with fail
        refine (impl_name s (by omega) _).mono ?_
        rintro e w6 ⟨rfl, g6⟩
        go_wp2_with fail
        refine (spec_name s (by omega) _).mono ?_
        rintro e w7 ⟨rfl, g7⟩
        go_wp2_with fail
        clear hl hu hn hk
        refine (draw_decimal _ _ _ (W1.out.grow (G25.out.trans (g6.trans g7)))).mono ?_
        rintro e w8 ⟨⟨a, ha, rfl⟩, g8⟩
        have G8 := Lib.hid (G5.out.trans (g6.trans (g7.trans g8)))
        clear g6 g7 g8 ha
        go_wp2_with fail
        refine (spec_wrap32 _ _).mono ?_
        rintro e w' ⟨rfl, rfl⟩
        have n0 := w32_lo a
        have n1 := w32_hi a
        generalize wrap32 a = n at n0 n1 ⊢
        have HN := Lib.hid (decV_len (m := n) ⟨n0, n1⟩)
        go_wp2_with fail
        refine (impl_decimal n (by omega) (by omega) _).mono ?_
        rintro e w9 ⟨rfl, g9⟩
        have hsz : (⟨(decV n).toArray⟩ : ByteArray).size ≤ 281474976710656 := by
          have := HN.out.2
          show (decV n).toArray.size ≤ _
          simp
          omega
        go_wp2_with fail
        refine (impl_read ⟨(decV n).toArray⟩ hsz _ (HE.out.grow (G8.out.trans g9))).mono ?_
        rintro e w10 ⟨⟨m, ok, hr, rfl⟩, g10⟩
        obtain ⟨rfl, rfl⟩ := RV_one hr (RV_self (n := n) ⟨n0, n1⟩)
        have G10 := Lib.hid (G8.out.trans (g9.trans g10))
        clear hr g9 g10 hsz
        go_wp2_with fail
        refine (impl_decimal m (by omega) (by omega) _).mono ?_
        rintro e w11 ⟨rfl, g11⟩
        have h11 : (decV m).length ≤ 11 := HN.out.2
        go_wp2_with fail
        have hls : ((⟨#[48]⟩ : ByteArray) ++ ⟨(decV m).toArray⟩).data.toList = 48 :: decV m := by rw [ByteArray.data_append]; simp
        generalize ((⟨#[48]⟩ : ByteArray) ++ ⟨(decV m).toArray⟩) = T at hls ⊢
        have hT : T.size ≤ 281474976710656 := by
          have : T.data.toList.length ≤ 12 := by rw [hls, List.length_cons]; omega
          rw [Array.length_toList] at this
          exact Nat.le_trans this (by decide)
        refine (impl_read T hT _ (HE.out.grow (G10.out.trans g11))).mono ?_
        rintro e w12 ⟨⟨z, ok, hr, rfl⟩, g12⟩
        rw [hls] at hr
        obtain ⟨rfl, rfl⟩ := RV_one hr (RV_lead m)
        clear hr hls hT
        go_wp2_with fail
        go_ret
        exact ⟨rfl, G10.out.trans (g11.trans g12)⟩
      | true =>
        go_wp2_with fail
        refine (impl_kw s _).mono ?_
        rintro e w' ⟨rfl, rfl⟩
        go_wp2_with fail
        refine (impl_name s (by omega) _).mono ?_
        rintro e w6 ⟨rfl, g6⟩
        go_wp2_with fail
        refine (spec_name s (by omega) _).mono ?_
        rintro e w7 ⟨rfl, g7⟩
        go_wp2_with fail
        clear hl hu hn hk
        refine (draw_decimal _ _ _ (W1.out.grow (G25.out.trans (g6.trans g7)))).mono ?_
        rintro e w8 ⟨⟨a, ha, rfl⟩, g8⟩
        have G8 := Lib.hid (G5.out.trans (g6.trans (g7.trans g8)))
        clear g6 g7 g8 ha
        go_wp2_with fail
        refine (spec_wrap32 _ _).mono ?_
        rintro e w' ⟨rfl, rfl⟩
        have n0 := w32_lo a
        have n1 := w32_hi a
        generalize wrap32 a = n at n0 n1 ⊢
        have HN := Lib.hid (decV_len (m := n) ⟨n0, n1⟩)
        go_wp2_with fail
        refine (impl_decimal n (by omega) (by omega) _).mono ?_
        rintro e w9 ⟨rfl, g9⟩
        have hsz : (⟨(decV n).toArray⟩ : ByteArray).size ≤ 281474976710656 := by
          have := HN.out.2
          show (decV n).toArray.size ≤ _
          simp
          omega
        go_wp2_with fail
        refine (impl_read ⟨(decV n).toArray⟩ hsz _ (HE.out.grow (G8.out.trans g9))).mono ?_
        rintro e w10 ⟨⟨m, ok, hr, rfl⟩, g10⟩
        obtain ⟨rfl, rfl⟩ := RV_one hr (RV_self (n := n) ⟨n0, n1⟩)
        have G10 := Lib.hid (G8.out.trans (g9.trans g10))
        clear hr g9 g10 hsz
        go_wp2_with fail
        refine (impl_decimal m (by omega) (by omega) _).mono ?_
        rintro e w11 ⟨rfl, g11⟩
        have h11 : (decV m).length ≤ 11 := HN.out.2
        go_wp2_with fail
        have hls : ((⟨#[48]⟩ : ByteArray) ++ ⟨(decV m).toArray⟩).data.toList = 48 :: decV m := by rw [ByteArray.data_append]; simp
        generalize ((⟨#[48]⟩ : ByteArray) ++ ⟨(decV m).toArray⟩) = T at hls ⊢
        have hT : T.size ≤ 281474976710656 := by
          have : T.data.toList.length ≤ 12 := by rw [hls, List.length_cons]; omega
          rw [Array.length_toList] at this
          exact Nat.le_trans this (by decide)
        refine (impl_read T hT _ (HE.out.grow (G10.out.trans g11))).mono ?_
        rintro e w12 ⟨⟨z, ok, hr, rfl⟩, g12⟩
        rw [hls] at hr
        obtain ⟨rfl, rfl⟩ := RV_one hr (RV_lead m)
        clear hr hls hT
        go_wp2_with fail
        go_ret
        exact ⟨rfl, G10.out.trans (g11.trans g12)⟩
    | true =>
      obtain ⟨_, _, hlet, hk⟩ := name_out s hn
      cases hup : upB (PlainAid.bt s 0) with
      | true =>
        have hu : upperB s = true := by unfold upperB; rw [hn, hup]; rfl
        have hlo : loB (PlainAid.bt s 0) = false := by
          unfold upB at hup
          unfold loB
          have := of_decide_eq_true hup
          exact decide_eq_false (by omega)
        have hl : lowerB s = false := by unfold lowerB; rw [hn, hlo]; rfl
        clear hlet hup hlo
        go_wp2_with fail
        refine (impl_kw s _).mono ?_
        rintro e w' ⟨rfl, rfl⟩
        go_wp2_with fail
        refine (impl_name s (by omega) _).mono ?_
        rintro e w6 ⟨rfl, g6⟩
        go_wp2_with fail
        refine (spec_name s (by omega) _).mono ?_
        rintro e w7 ⟨rfl, g7⟩
        go_wp2_with fail
        clear hl hu hn hk
        refine (draw_decimal _ _ _ (W1.out.grow (G25.out.trans (g6.trans g7)))).mono ?_
        rintro e w8 ⟨⟨a, ha, rfl⟩, g8⟩
        have G8 := Lib.hid (G5.out.trans (g6.trans (g7.trans g8)))
        clear g6 g7 g8 ha
        go_wp2_with fail
        refine (spec_wrap32 _ _).mono ?_
        rintro e w' ⟨rfl, rfl⟩
        have n0 := w32_lo a
        have n1 := w32_hi a
        generalize wrap32 a = n at n0 n1 ⊢
        have HN := Lib.hid (decV_len (m := n) ⟨n0, n1⟩)
        go_wp2_with fail
        refine (impl_decimal n (by omega) (by omega) _).mono ?_
        rintro e w9 ⟨rfl, g9⟩
        have hsz : (⟨(decV n).toArray⟩ : ByteArray).size ≤ 281474976710656 := by
          have := HN.out.2
          show (decV n).toArray.size ≤ _
          simp
          omega
        go_wp2_with fail
        refine (impl_read ⟨(decV n).toArray⟩ hsz _ (HE.out.grow (G8.out.trans g9))).mono ?_
        rintro e w10 ⟨⟨m, ok, hr, rfl⟩, g10⟩
        obtain ⟨rfl, rfl⟩ := RV_one hr (RV_self (n := n) ⟨n0, n1⟩)
        have G10 := Lib.hid (G8.out.trans (g9.trans g10))
        clear hr g9 g10 hsz
        go_wp2_with fail
        refine (impl_decimal m (by omega) (by omega) _).mono ?_
        rintro e w11 ⟨rfl, g11⟩
        have h11 : (decV m).length ≤ 11 := HN.out.2
        go_wp2_with fail
        have hls : ((⟨#[48]⟩ : ByteArray) ++ ⟨(decV m).toArray⟩).data.toList = 48 :: decV m := by rw [ByteArray.data_append]; simp
        generalize ((⟨#[48]⟩ : ByteArray) ++ ⟨(decV m).toArray⟩) = T at hls ⊢
        have hT : T.size ≤ 281474976710656 := by
          have : T.data.toList.length ≤ 12 := by rw [hls, List.length_cons]; omega
          rw [Array.length_toList] at this
          exact Nat.le_trans this (by decide)
        refine (impl_read T hT _ (HE.out.grow (G10.out.trans g11))).mono ?_
        rintro e w12 ⟨⟨z, ok, hr, rfl⟩, g12⟩
        rw [hls] at hr
        obtain ⟨rfl, rfl⟩ := RV_one hr (RV_lead m)
        clear hr hls hT
        go_wp2_with fail
        go_ret
        exact ⟨rfl, G10.out.trans (g11.trans g12)⟩
      | false =>
        have hu : upperB s = false := by unfold upperB; rw [hn, hup]; rfl
        have hlo : loB (PlainAid.bt s 0) = true := by
          unfold letB at hlet
          rw [hup] at hlet
          simpa using hlet
        have hl : lowerB s = true := by unfold lowerB; rw [hn, hlo]; rfl
        clear hlet hup hlo
        go_wp2_with fail
        refine (impl_kw s _).mono ?_
        rintro e w' ⟨rfl, rfl⟩
        go_wp2_with fail
        refine (impl_name s (by omega) _).mono ?_
        rintro e w6 ⟨rfl, g6⟩
        go_wp2_with fail
        refine (spec_name s (by omega) _).mono ?_
        rintro e w7 ⟨rfl, g7⟩
        go_wp2_with fail
        clear hl hu hn hk
        refine (draw_decimal _ _ _ (W1.out.grow (G25.out.trans (g6.trans g7)))).mono ?_
        rintro e w8 ⟨⟨a, ha, rfl⟩, g8⟩
        have G8 := Lib.hid (G5.out.trans (g6.trans (g7.trans g8)))
        clear g6 g7 g8 ha
        go_wp2_with fail
        refine (spec_wrap32 _ _).mono ?_
        rintro e w' ⟨rfl, rfl⟩
        have n0 := w32_lo a
        have n1 := w32_hi a
        generalize wrap32 a = n at n0 n1 ⊢
        have HN := Lib.hid (decV_len (m := n) ⟨n0, n1⟩)
        go_wp2_with fail
        refine (impl_decimal n (by omega) (by omega) _).mono ?_
        rintro e w9 ⟨rfl, g9⟩
        have hsz : (⟨(decV n).toArray⟩ : ByteArray).size ≤ 281474976710656 := by
          have := HN.out.2
          show (decV n).toArray.size ≤ _
          simp
          omega
        go_wp2_with fail
        refine (impl_read ⟨(decV n).toArray⟩ hsz _ (HE.out.grow (G8.out.trans g9))).mono ?_
        rintro e w10 ⟨⟨m, ok, hr, rfl⟩, g10⟩
        obtain ⟨rfl, rfl⟩ := RV_one hr (RV_self (n := n) ⟨n0, n1⟩)
        have G10 := Lib.hid (G8.out.trans (g9.trans g10))
        clear hr g9 g10 hsz
        go_wp2_with fail
        refine (impl_decimal m (by omega) (by omega) _).mono ?_
        rintro e w11 ⟨rfl, g11⟩
        have h11 : (decV m).length ≤ 11 := HN.out.2
        go_wp2_with fail
        have hls : ((⟨#[48]⟩ : ByteArray) ++ ⟨(decV m).toArray⟩).data.toList = 48 :: decV m := by rw [ByteArray.data_append]; simp
        generalize ((⟨#[48]⟩ : ByteArray) ++ ⟨(decV m).toArray⟩) = T at hls ⊢
        have hT : T.size ≤ 281474976710656 := by
          have : T.data.toList.length ≤ 12 := by rw [hls, List.length_cons]; omega
          rw [Array.length_toList] at this
          exact Nat.le_trans this (by decide)
        refine (impl_read T hT _ (HE.out.grow (G10.out.trans g11))).mono ?_
        rintro e w12 ⟨⟨z, ok, hr, rfl⟩, g12⟩
        rw [hls] at hr
        obtain ⟨rfl, rfl⟩ := RV_one hr (RV_lead m)
        clear hr hls hT
        go_wp2_with fail
        go_ret
        exact ⟨rfl, G10.out.trans (g11.trans g12)⟩

set_option maxRecDepth 100000 in
theorem lifted (os : Os) (started : os.Started) (H : Type) (enc : TypeId × Value → H) :
    ReturnsInHanded {} Tryd.checked os 3 .any (fun w args => (Rows.fnWordsSpec.pre enc Tryd.prog Tryd.f3 Rows.fnWordsRow.domain false w args ∧ laidMetH Tryd.prog Rows.fnWordsRow.laid w) ∧ sizedMet enc Tryd.prog Tryd.f3 (OpenSpec.ofChange Rows.fnWordsSpec) false w args)
      (Rows.fnWordsSpec.post enc Tryd.prog Tryd.f3 false true false false) := by
  refine returnsInHanded_of_change_and (C := Tryd.checked) (X := fun w _ => laidMetH Tryd.prog Rows.fnWordsRow.laid w) (fun _ _ _ hh h => h.of_heap hh) own started (by kernel_rfl) Tryd.func3
    (ChangeSpec.witness_shaped (enc := enc) (C := Tryd.checked) (os := os) (X := fun w _ => laidMetH Tryd.prog Rows.fnWordsRow.laid w) false (World.laidAll Tryd.prog os Rows.fnWordsRow.laid) #[.slice none 0 0, .slice none 0 0] 8 (World.laidAll_os _ _ _)
      (World.shaped_of_ZipB (by kernel_rfl) (by kernel_rfl)) (by kernel_rfl) (by kernel_rfl) (by kernel_rfl)
      (by rw [MakeChecks.laidMetH_plain _ _ _ (by kernel_rfl)]; exact laidMet_laidAll _ (by kernel_rfl) (by kernel_rfl))) ?_
  intro W base args ds gs before hval0 hW _ _ hT _
  have hval : ∀ (j : Nat) t v, Tryd.f3.params[j]? = some t → args[j]? = some v → Value.okWide Tryd.prog W .any base t v := hval0
  have hW' := hW
  obtain ⟨p, q, hA0, hV0, rfl, hfz, hnd⟩ := hW
  have hA : DataW.TrodAll enc Tryd.prog W 0 (fun _ => true) true Tryd.f3.params.toList args.toList ds p := hA0
  rw [Tryd.params3] at hA hval
  obtain ⟨v0, vs0, d0, ds0, p0, q0, hargs, rfl, rfl, h0, r0⟩ := trodAll_cons hA
  obtain ⟨v1, vs1, d1, ds1, p1, q1, rfl, rfl, rfl, h1, r1⟩ := trodAll_cons r0
  obtain ⟨rfl, rfl, rfl⟩ := trodAll_nil r1
  obtain rfl : args = #[v0, v1] := by cases args; simp_all
  obtain ⟨z0, w0⟩ := rdBytes_of Tryd.underlying22 Tryd.underlying5 (by kernel_rfl) (hval 0 22 v0 rfl rfl) h0
  obtain ⟨z1, w1⟩ := rdBytes_of Tryd.underlying22 Tryd.underlying5 (by kernel_rfl) (hval 1 22 v1 rfl rfl) h1
  obtain ⟨rfl, rfl⟩ := trodVars_none hV0
  refine (walk W v0 z0 w0 v1 z1 w1 hT).mono fun e W' ⟨he, hg⟩ => ?_
  subst he
  exact ⟨_, rfl, post_law laidOut (by kernel_rfl) (by kernel_rfl) rfl Tryd.underlying4 hW' hg rfl⟩

theorem holds : Rows.FnWordsSaid :=
  OpenClaim.holds_of_wide 3 Tryd.f3 rfl rfl rfl rfl rfl rfl rfl ⟨rfl, rfl, rfl, rfl, rfl⟩ rfl rfl rfl rfl rfl (by kernel_rfl) Tryd.func3 (by kernel_rfl)
    (of_decide_eq_true (by kernel_rfl)) (by unfold Func.isWrapper; first | (rw [if_pos (by decide +kernel)]; kernel_rfl) | (rw [if_neg (by decide +kernel)]; exact ⟨rfl, rfl⟩))
    (fun os started H enc _ => lifted os started H enc)

/-- The given statement: the tied card. -/
theorem proved : Rows.FnWordsCardSaid :=
  Claim7.holds_tied_plain_at .later [] [.data, .data, .data, .sentinel, .sentinel] true Rows.fnWordsCard.stood.harness true holds (fun _ h => by cases h) (by kernel_rfl) (fun _ h => by cases h) fnWords_row_tie rfl ⟨rfl, rfl⟩ (by kernel_rfl) rfl
    (fun f fn hf hfn => by
      obtain rfl : f = 3 := Option.some.inj ((show Tryd.prog.funcNamed Rows.fnWordsRow.func = some 3 by kernel_rfl).symm.trans hf) |>.symm
      obtain rfl : fn = Tryd.f3 := (Option.some.inj (Tryd.func3.symm.trans hfn)).symm
      exact ⟨by kernel_rfl, fun j t ht => by
        rw [Tryd.params3] at ht
        have hm : t ∈ [22, 22] := by simpa using Array.mem_of_getElem? ht
        have hall : ([22, 22].all fun u => !Tryd.prog.wantsStandIn u) = true := by kernel_rfl
        exact (show Tryd.prog.wantsStandIn t = false by simpa using List.all_eq_true.1 hall t hm)⟩)
    (by kernel_rfl)
#print axioms proved
end Go.Proofs.YtgpnicgjlljkdaaDoor.fnWords
