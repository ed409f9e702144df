/-
  Contracts of the program's shifted$1 and, with that visitor, of substituted. Condition: the core term lies in memory and its heads are valid.
-/
import Derived.Test.YtfbgkbgoooepmaaDoorCoRp
import Derived.Test.YtfbgkbgoooepmaaDoorCoIt
namespace Go.Proofs.YtfbgkbgoooepmaaDoor.Con
open Go.RowKit
set_option linter.unusedVariables false

theorem impl_sh1 (v bd n fr : Int) (BF BB : Nat) (w : World) (hF : w.cell? ⟨BF, 0, none⟩ = some (.int .i64 fr)) (hB : w.cell? ⟨BB, 0, none⟩ = some (.int .i64 n)) (hb : (-2147483648 ≤ v ∧ v ≤ 2147483647) ∧ (0 ≤ n ∧ n ≤ 1000) ∧ (0 ≤ bd ∧ bd ≤ 100000)) :
    Calls Tryd.prog 109 #[.int .i64 v, .int .i64 bd, .pointer (some ⟨BF, 0, none⟩), .pointer (some ⟨BB, 0, none⟩)] w fun e w' => e = .returned (.pointer (some ⟨w.heap.size, 0, none⟩)) ∧ w' = w.alloc (.cells #[.int .i64 1, .int .i64 ((if fr ≤ v then v + n else v) + bd), .slice none 0 0, .slice none 0 0] 30) := by
  by_cases h : fr ≤ v
  · rw [if_pos h]
    have q := decide_eq_true h
    have w1 : IntKind.i64.wrap (v + n) = v + n := by unfold IntKind.wrap; simp [IntKind.signed, IntKind.bits]; omega
    have w2 : IntKind.i64.wrap (v + n + bd) = v + n + bd := by unfold IntKind.wrap; simp [IntKind.signed, IntKind.bits]; omega
    clear h hb
    go_enter Tryd.func109, Tryd.ntmps109
    go_wp2_with fail
    go_ret
    exact ⟨rfl, rfl⟩
  · rw [if_neg h]
    have q := decide_eq_false h
    have w1 : IntKind.i64.wrap (v + bd) = v + bd := by unfold IntKind.wrap; simp [IntKind.signed, IntKind.bits]; omega
    clear h hb
    go_enter Tryd.func109, Tryd.ntmps109
    go_wp2_with fail
    go_ret
    exact ⟨rfl, rfl⟩

theorem zeV_new (B : Nat) (w : World) (Y : Int) (h : cin64 Y) : (LK.mk 1 Y none 0 [] none 0 []).New B w := LK.new_mk (B := B) (B1 := B) (B2 := B) (by unfold cin64; omega) h ⟨⟨Nat.le_refl _, Nat.zero_le _, .inl rfl⟩, by simp [nbl], fun b hb => by simp [nbl] at hb⟩ (coNew_nil B w) (fun b hb => by simp [nbl] at hb) (Nat.le_refl _) (Nat.le_refl _)
theorem gw_drewNL (w : World) (n : Nat) : Gw w (w.drewN n) := ⟨rfl, rfl, rfl, Nat.le_refl _, fun _ _ => rfl⟩
/-- A node that lies somewhere, in old memory of u or in new memory. -/
def SubP (w : World) (u : LK) (t : Co) (e : Ending) (w' : World) : Prop := ∃ (b o : Nat) (x : LK), e = .returned (.pointer (some ⟨b, o, none⟩)) ∧ coAt w' b o x ∧ x.co = t ∧ (∀ y ∈ x.bl, y ∈ u.bl ∨ w.heap.size ≤ y) ∧ Gw w w' ∧ w.heap.size ≤ b
def KSub (u : LK) : Prop := ∀ (w : World) (b o bd lv BF BB : Nat) (n fr : Int), coAt w b o u → u.co.all headC = true → bd + u.co.dp ≤ 100000 → lv + u.co.dp ≤ 100000 → (0 ≤ n ∧ n ≤ 1000) → (0 ≤ fr ∧ fr ≤ 255) → w.cell? ⟨BF, 0, none⟩ = some (.int .i64 fr) → w.cell? ⟨BB, 0, none⟩ = some (.int .i64 n) →
  Calls Tryd.prog 108 #[.pointer (some ⟨b, o, none⟩), .agg #[.int .i64 bd, .int .i64 lv], .func (.func 109) #[] #[.pointer (some ⟨BF, 0, none⟩), .pointer (some ⟨BB, 0, none⟩)]] w (SubP w u (u.co.sh n (fr + bd)))

set_option maxRecDepth 100000 in
set_option maxHeartbeats 4000000 in
theorem sb_of (u : LK) (ih : ∀ t ∈ u.ks, KSub t) : KSub u := by
  intro w b o bd lv BF BB n fr h hok hbd hlv hn hfr hF hB
  have hH := head_of hok
  obtain ⟨s1, s2, s3, s4⟩ := headC_sm hH
  have HOK := Lib.hid hok
  have HN := Lib.hid hn
  have HFR := Lib.hid hfr
  have hdp := Co.dp_pos u.co
  have gP := (Gw.refl w).alloc (.cells #[.int .i64 bd, .int .i64 lv] 82)
  have A1 := Lib.hid (h.grow gP)
  have A := Lib.hid h
  have GP := Lib.hid gP
  have hP : BoxP (w.alloc (.cells #[.int .i64 bd, .int .i64 lv] 82)) w.heap.size bd lv := heap_alloc_new w _
  have HPP := Lib.hid hP
  have FB := Lib.hid (And.intro (gP.cell hF (cell_lt hF)) (gP.cell hB (cell_lt hB)))
  have LK9 := Lib.hid (show u.ks.length ≤ 1000000 by omega)
  have HBW := Lib.hid (show b < w.heap.size from h.lt)
  have HBW2 := Lib.hid (show BF < w.heap.size ∧ BB < w.heap.size from ⟨cell_lt hF, cell_lt hB⟩)
  clear h hok gP hF hB hP
  go_enter Tryd.func108, Tryd.ntmps108
  go_upto_region 1 with (fail)
  generalize w.alloc (.cells #[.int .i64 bd, .int .i64 lv] 82) = w1 at *
  obtain ⟨P, hPe⟩ : ∃ P, P = w.heap.size := ⟨_, rfl⟩
  rw [← hPe] at HPP
  rw [← hPe]
  have HPE := Lib.hid hPe
  clear hPe
  obtain ⟨p0, p1, p2, p3⟩ := A1.out.c
  obtain ⟨c0, c1⟩ := HPP.out.c
  have hbn : (bd : Int) ≤ 100000 := by omega
  have hb0 : (0 : Int) ≤ bd := by omega
  by_cases hv : u.k = 1 ∧ (bd : Int) ≤ u.v
  · obtain ⟨h1, h2⟩ := hv
    have q1 : (u.k == 1) = true := by simpa using h1
    have q2 := decide_eq_true h2
    have HB1 := Lib.hid (show (-2147483648 ≤ u.v - bd ∧ u.v - bd ≤ 2147483647) ∧ (0 ≤ n ∧ n ≤ 1000) ∧ (0 ≤ (bd : Int) ∧ (bd : Int) ≤ 100000) from ⟨by omega, HN.out, by omega⟩)
    have w4 : IntKind.i64.wrap (u.v - bd) = u.v - bd := by unfold IntKind.wrap; simp [IntKind.signed, IntKind.bits]; omega
    have H1 := Lib.hid h1
    have H2 := Lib.hid h2
    have HV := Lib.hid (headC_var (by have := hH; rwa [h1] at this))
    clear h1 h2 hH
    go_wp2_with fail
    go_quiet (fail)
    have gq := gw_drewNL w1 nq
    have A2 := Lib.hid (A1.out.grow gq)
    have HP2 := Lib.hid (HPP.out.grow gq)
    have FB2 := Lib.hid (And.intro (gq.cell FB.out.1 (cell_lt FB.out.1)) (gq.cell FB.out.2 (cell_lt FB.out.2)))
    have GQ := Lib.hid gq
    clear p0 p1 p2 p3 c0 c1 q1 q2 gq
    generalize w1.drewN nq = w2 at *
    obtain ⟨p0, p1, p2, p3⟩ := A2.out.c
    obtain ⟨c0, c1⟩ := HP2.out.c
    obtain ⟨Y, hY⟩ : ∃ Y, Y = (if fr ≤ u.v - bd then u.v - bd + n else u.v - bd) + bd := ⟨_, rfl⟩
    have YE := Lib.hid (show Y = shV 1 u.v n (fr + bd) by
      rw [hY]; unfold shV
      by_cases hh : fr ≤ u.v - bd
      · rw [if_pos hh, if_pos ⟨rfl, by omega⟩]; omega
      · rw [if_neg hh, if_neg (fun e => by have := e.2; omega)]; omega)
    have hYb : cin64 Y := by
      have := HN.out
      rw [hY]; unfold cin64
      split <;> omega
    have SH1 := Lib.hid (show Calls Tryd.prog 109 #[.int .i64 (u.v - bd), .int .i64 bd, .pointer (some ⟨BF, 0, none⟩), .pointer (some ⟨BB, 0, none⟩)] w2.drew fun e w3 => e = .returned (.pointer (some ⟨w2.heap.size, 0, none⟩)) ∧ Gw w2 w3 ∧ coAt w3 w2.heap.size 0 (.mk 1 Y none 0 [] none 0 []) from
      (impl_sh1 (u.v - bd) bd n fr BF BB w2.drew FB2.out.1 FB2.out.2 HB1.out).mono (by
        rintro e w3 ⟨rfl, rfl⟩
        rw [← hY]
        have hO : (LK.mk 1 Y none 0 [] none 0 []).Ok w2.drew := (zeV_new 0 w2.drew Y hYb).1
        exact ⟨rfl, (Gw.refl w2).drew.alloc _, coAt.new (e := 30) hO⟩))
    clear hY hYb
    go_upto_region 2 with (fail)
    refine wp_region_held_drew (S := fun W => W.cell? ⟨b, o + 1, none⟩ = some (.int .i64 u.v) ∧ W.cell? ⟨P, 0, none⟩ = some (.int .i64 bd)) (by kernel_rfl) ?_ (fun hHeld => ?_)
    · exact ⟨p1, c0⟩
    refine wpAnyH_take (i := 0) (oi := { dst := some 23, op := _, type := _, pos := _, after := _, guard := _ }) (v := .func (.func 109) #[] #[.pointer (some ⟨BF, 0, none⟩), .pointer (some ⟨BB, 0, none⟩)]) rfl (by kernel_rfl) (by kernel_rfl) (by kernel_rfl) (fun _ _ _ h => h) (Or.inl ⟨by rfl, ?_⟩) (by assumption) ?_
    · intro w hSw; obtain ⟨p1, c0⟩ := hSw; go_simp
    try simp only [Act.put, List.setIfInBounds_toArray, List.set_cons_zero, List.set_cons_succ]
    refine wpAnyH_take (i := 1) (oi := { dst := some 24, op := _, type := _, pos := _, after := _, guard := _ }) (v := .pointer (some ⟨b, o, none⟩)) rfl (by kernel_rfl) (by kernel_rfl) (by kernel_rfl) (fun _ _ _ h => h) (Or.inl ⟨by rfl, ?_⟩) (by assumption) ?_
    · intro w hSw; obtain ⟨p1, c0⟩ := hSw; go_simp
    try simp only [Act.put, List.setIfInBounds_toArray, List.set_cons_zero, List.set_cons_succ]
    refine wpAnyH_take (i := 2) (oi := { dst := some 25, op := _, type := _, pos := _, after := _, guard := _ }) (v := .pointer (some ⟨b, o, none⟩)) rfl (by kernel_rfl) (by kernel_rfl) (by kernel_rfl) (fun _ _ _ h => h) (Or.inl ⟨by rfl, ?_⟩) (by assumption) ?_
    · intro w hSw; obtain ⟨p1, c0⟩ := hSw; go_simp
    try simp only [Act.put, List.setIfInBounds_toArray, List.set_cons_zero, List.set_cons_succ]
    refine wpAnyH_take (i := 3) (oi := { dst := some 26, op := _, type := _, pos := _, after := _, guard := _ }) (v := .pointer (some ⟨b, o + 1, none⟩)) rfl (by kernel_rfl) (by kernel_rfl) (by kernel_rfl) (fun _ _ _ h => h) (Or.inl ⟨by rfl, ?_⟩) (by assumption) ?_
    · intro w hSw; obtain ⟨p1, c0⟩ := hSw; go_simp
    try simp only [Act.put, List.setIfInBounds_toArray, List.set_cons_zero, List.set_cons_succ]
    refine wpAnyH_take (i := 4) (oi := { dst := some 27, op := _, type := _, pos := _, after := _, guard := _ }) (v := .int .i64 u.v) rfl (by kernel_rfl) (by kernel_rfl) (by kernel_rfl) (fun _ _ _ h => h) (Or.inl ⟨by rfl, ?_⟩) (by assumption) ?_
    · intro w hSw; obtain ⟨p1, c0⟩ := hSw; go_simp
    try simp only [Act.put, List.setIfInBounds_toArray, List.set_cons_zero, List.set_cons_succ]
    refine wpAnyH_take (i := 5) (oi := { dst := some 28, op := _, type := _, pos := _, after := _, guard := _ }) (v := .pointer (some ⟨P, 0, none⟩)) rfl (by kernel_rfl) (by kernel_rfl) (by kernel_rfl) (fun _ _ _ h => h) (Or.inl ⟨by rfl, ?_⟩) (by assumption) ?_
    · intro w hSw; obtain ⟨p1, c0⟩ := hSw; go_simp
    try simp only [Act.put, List.setIfInBounds_toArray, List.set_cons_zero, List.set_cons_succ]
    refine wpAnyH_take (i := 6) (oi := { dst := some 29, op := _, type := _, pos := _, after := _, guard := _ }) (v := .int .i64 bd) rfl (by kernel_rfl) (by kernel_rfl) (by kernel_rfl) (fun _ _ _ h => h) (Or.inl ⟨by rfl, ?_⟩) (by assumption) ?_
    · intro w hSw; obtain ⟨p1, c0⟩ := hSw; go_simp
    try simp only [Act.put, List.setIfInBounds_toArray, List.set_cons_zero, List.set_cons_succ]
    refine wpAnyH_take (i := 7) (oi := { dst := some 30, op := _, type := _, pos := _, after := _, guard := _ }) (v := .int .i64 (u.v - bd)) rfl (by kernel_rfl) (by kernel_rfl) (by kernel_rfl) (fun _ _ _ h => h) (Or.inl ⟨by rfl, ?_⟩) (by assumption) ?_
    · intro w hSw; obtain ⟨p1, c0⟩ := hSw; go_simp
    try simp only [Act.put, List.setIfInBounds_toArray, List.set_cons_zero, List.set_cons_succ]
    refine wpAnyH_take (i := 8) (oi := { dst := some 31, op := _, type := _, pos := _, after := _, guard := _ }) (v := .pointer (some ⟨P, 0, none⟩)) rfl (by kernel_rfl) (by kernel_rfl) (by kernel_rfl) (fun _ _ _ h => h) (Or.inl ⟨by rfl, ?_⟩) (by assumption) ?_
    · intro w hSw; obtain ⟨p1, c0⟩ := hSw; go_simp
    try simp only [Act.put, List.setIfInBounds_toArray, List.set_cons_zero, List.set_cons_succ]
    refine wpAnyH_take (i := 9) (oi := { dst := some 32, op := _, type := _, pos := _, after := _, guard := _ }) (v := .int .i64 bd) rfl (by kernel_rfl) (by kernel_rfl) (by kernel_rfl) (fun _ _ _ h => h) (Or.inl ⟨by rfl, ?_⟩) (by assumption) ?_
    · intro w hSw; obtain ⟨p1, c0⟩ := hSw; go_simp
    try simp only [Act.put, List.setIfInBounds_toArray, List.set_cons_zero, List.set_cons_succ]
    refine wpAnyH_ready (rs := [10]) (by kernel_rfl) (by simp) ?_
    refine AllReadyH.cons (o := { dst := some 33, op := _, type := _, pos := _, after := _, guard := _ }) rfl (fun K hK => ?_) AllReadyH.nil
    go_simp
    go_at_call 109
    refine SH1.out.mono ?_
    rintro e w3 ⟨rfl, g3, hx⟩
    have G3 := Lib.hid g3
    have HX := Lib.hid hx
    clear hx
    go_wp2_with fail
    refine hK.out _ _ ⟨g3.cell p1 (cell_lt p1), g3.cell c0 (cell_lt c0)⟩ (fun hHeld => ?_)
    clear hK K g3
    try simp only [Act.put, List.setIfInBounds_toArray, List.set_cons_zero, List.set_cons_succ]
    refine wpAnyH_take (i := 11) (oi := { dst := some 6, op := _, type := _, pos := _, after := _, guard := _ }) (v := .pointer (some ⟨w2.heap.size, 0, none⟩)) rfl (by kernel_rfl) (by kernel_rfl) (by kernel_rfl) (fun _ _ _ h => h) (Or.inl ⟨by rfl, ?_⟩) (by assumption) ?_
    · intro w hSw; obtain ⟨p1, c0⟩ := hSw; go_simp
    try simp only [Act.put, List.setIfInBounds_toArray, List.set_cons_zero, List.set_cons_succ]
    refine wpAnyH_done (by kernel_rfl) ?_ _
    go_wp2_with fail
    go_ret
    refine ⟨_, _, _, rfl, HX.out, ?_, fun y hy => ?_, (GP.out.trans GQ.out).trans G3.out, (GP.out.trans GQ.out).size⟩
    · rw [LK.co_eq, sh_eq, u.co_k, u.co_v, u.co_ds, H1.out, YE.out, HV.out.2.1, List.eq_nil_of_length_eq_zero (show u.co.ks.length = 0 by rw [u.co_len]; exact HV.out.1)]; rfl
    · rw [LK.bl_eq] at hy
      have hy' : y ∈ nbl nB none [] ++ nbl LK.bl none [] := hy
      simp [nbl] at hy'
  · have cs : ((u.k == 1) = true ∧ decide ((bd : Int) ≤ u.v) = false) ∨ ((u.k == 1) = false ∧ True) := by
      by_cases h1 : u.k = 1
      · exact .inl ⟨by simpa using h1, decide_eq_false (fun e => hv ⟨h1, e⟩)⟩
      · exact .inr ⟨by simpa using h1, trivial⟩
    have VE := Lib.hid (show shV u.k u.v n (fr + bd) = u.v by
      unfold shV
      rw [if_neg (fun e => hv ⟨e.1, by have := e.2; have := HFR.out.1; omega⟩)])
    clear hv
    rcases cs with ⟨q1, q2⟩ | ⟨q1, q2⟩ <;> (
    go_wp2_with fail
    go_quiet (fail)
    have gq := gw_drewNL w1 nq
    have A2 := Lib.hid (A1.out.grow gq)
    have HP2 := Lib.hid (HPP.out.grow gq)
    have FB2 := Lib.hid (And.intro (gq.cell FB.out.1 (cell_lt FB.out.1)) (gq.cell FB.out.2 (cell_lt FB.out.2)))
    have GQ := Lib.hid (GP.out.trans gq)
    clear p0 p1 p2 p3 c0 c1 q1 q2 gq
    generalize w1.drewN nq = w2 at *
    obtain ⟨p0, p1, p2, p3⟩ := A2.out.c
    obtain ⟨T, hTe⟩ : ∃ T, T = w2.heap.size := ⟨_, rfl⟩
    have gA : Gw w2 (w2.alloc (u.obj 30)) := (Gw.refl w2).alloc _
    have hTA : (w2.alloc (u.obj 30)).heap[T]? = some (.cells #[.int .i64 u.k, .int .i64 u.v, .slice u.da u.ds.length u.dc, .slice u.a u.ks.length u.cap] 30 (0, 0)) := by rw [hTe]; exact heap_alloc_new w2 _
    have HTA := Lib.hid hTA
    have HTE := Lib.hid hTe
    have A3 := Lib.hid (A2.out.grow gA)
    have HP3 := Lib.hid (HP2.out.grow gA)
    have FB3 := Lib.hid (And.intro (gA.cell FB2.out.1 (cell_lt FB2.out.1)) (gA.cell FB2.out.2 (cell_lt FB2.out.2)))
    have G3 := Lib.hid (GQ.out.trans gA)
    have SA := Lib.hid (show (w2.alloc (u.obj 30)).heap.size = T + 1 by rw [hTe]; simp)
    clear gA hTA
    go_upto_region 4 with (fail)
    rw [← hTe]
    clear p0 p1 p2 p3 hTe
    generalize w2.alloc (.cells #[.int .i64 u.k, .int .i64 u.v, .slice u.da u.ds.length u.dc, .slice u.a u.ks.length u.cap] 30) = w3 at *
    obtain ⟨p0, p1, p2, p3⟩ := A3.out.c
    have KC := Lib.hid (impl_cloneK u.ks w3 u.a u.cap A3.out.2.kids LK9.out)
    go_wp2_with fail
    refine KC.out.mono ?_
    rintro e w4 ⟨vk, rfl, hvk, g4⟩
    obtain ⟨ka, kc, rfl⟩ := own_form hvk
    have HTI := Lib.hid ((g4.block _ (by have := SA.out; omega)).trans HTA.out)
    have t3 : w4.cell? ⟨T, 3, none⟩ = some (.slice u.a u.ks.length u.cap) := cell_of_row _ _ 3 _ _ _ HTI.out
    have f3 : w4.frozen? ⟨T, 3, none⟩ = false := by simp [World.frozen?, HTI.out]
    have HVK := Lib.hid hvk
    have hTw : w.heap.size ≤ T := by have h1 := G3.out.size; have h2 := SA.out; have h3 := GQ.out.size; have h4 := HTE.out; omega
    have G4 := Lib.hid (G3.out.trans g4)
    have A4 := Lib.hid (A3.out.grow g4)
    have HP4 := Lib.hid (HP3.out.grow g4)
    have FB4 := Lib.hid (And.intro (g4.cell FB3.out.1 (cell_lt FB3.out.1)) (g4.cell FB3.out.2 (cell_lt FB3.out.2)))
    have S34 := Lib.hid g4.size
    clear hvk g4 p0 p1 p2 p3
    have HTW := Lib.hid hTw
    have KC9 := Lib.hid (show kc ≤ maxLen ∧ u.ks.length ≤ kc by
      rcases HVK.out.2 with ⟨e, e0⟩ | ⟨g, cap, cur, e, _, _, h1, h2, _⟩
      · injection e with _ _ e
        subst e
        exact ⟨Nat.zero_le _, by omega⟩
      · injection e with _ _ e
        subst e
        exact ⟨h2, h1⟩)
    have hfar : ∀ y, y ≠ T → (w4.setCell ⟨T, 3, none⟩ (.slice ka u.ks.length kc)).heap[y]? = w4.heap[y]? := fun y hy => Below.heap_setCell _ _ _ _ hy
    have HTJ := Lib.hid (show (w4.setCell ⟨T, 3, none⟩ (.slice ka u.ks.length kc)).heap[T]? = some (.cells #[.int .i64 u.k, .int .i64 u.v, .slice u.da u.ds.length u.dc, .slice ka u.ks.length kc] 30 (0, 0)) by simp [World.setCell, Array.getElem?_modify, HTI.out])
    have G5 := Lib.hid (show Gw w (w4.setCell ⟨T, 3, none⟩ (.slice ka u.ks.length kc)) from Below.setCell G4.out hTw _)
    have HP5 := Lib.hid (show BoxP (w4.setCell ⟨T, 3, none⟩ (.slice ka u.ks.length kc)) P bd lv from (hfar P (by have := HP2.out.lt; have := HTE.out; omega)).trans HP4.out)
    have FB5 := Lib.hid (And.intro ((World.cell?_of_block (a := ⟨BF, 0, none⟩) (hfar BF (by have h := cell_lt FB2.out.1; have := HTE.out; simp at h; omega))).trans FB4.out.1) ((World.cell?_of_block (a := ⟨BB, 0, none⟩) (hfar BB (by have h := cell_lt FB2.out.2; have := HTE.out; simp at h; omega))).trans FB4.out.2))
    have HG0 := Lib.hid (show u.ks.length ≠ 0 → ∃ g, ka = some ⟨g, 0, none⟩ ∧ T < g ∧ RowS (w4.setCell ⟨T, 3, none⟩ (.slice ka u.ks.length kc)) g kc [] from fun hne => by
      rcases HVK.out.2 with ⟨e, e0⟩ | ⟨g, cap, cur, e, hb, hg, h1, h2, h3, _⟩
      · exact absurd e0 hne
      · injection e with e1 _ e2
        subst e2
        have hgT : T < g := by have := SA.out; omega
        exact ⟨g, e1, hgT, ⟨_, _, (hfar g (by omega)).trans hg, h3⟩, fun i hi => by simp at hi, fun z hz => by cases hz⟩)
    clear hfar HTI HTA
    go_upto_region 5 with (fail)
    generalize w4.setCell ⟨T, 3, none⟩ (.slice ka u.ks.length kc) = w5 at *
    clear t3 f3 HVK KC hTw
    have A5 := Lib.hid (A.out.grow G5.out)
    have HPT := Lib.hid (show P ≠ T ∧ P < w5.heap.size ∧ T < w5.heap.size from ⟨by have := HP2.out.lt; have := HTE.out; omega, HP5.out.lt, (Array.getElem?_eq_some_iff.1 HTJ.out).1⟩)
    clear HTE SA S34
    obtain ⟨p0, p1, p2, p3⟩ := A5.out.c
    go_wp2_with fail
    clear p0 p1 p2 p3
    go_loopw [48] (fun i wr => ∃ us : List LK, i = .int .i64 us.length ∧ us.length ≤ u.ks.length ∧ us.map LK.co = (coshs u.k 0 u.co.ks n (fr + bd)).take us.length ∧ wr.heap[T]? = some (.cells #[.int .i64 u.k, .int .i64 u.v, .slice u.da u.ds.length u.dc, .slice ka u.ks.length kc] 30 (0, 0)) ∧ BoxP wr P bd lv ∧ (wr.cell? ⟨BF, 0, none⟩ = some (.int .i64 fr) ∧ wr.cell? ⟨BB, 0, none⟩ = some (.int .i64 n)) ∧ (u.ks.length ≠ 0 → ∃ g, ka = some ⟨g, 0, none⟩ ∧ T < g ∧ RowS wr g kc us) ∧ (∀ x ∈ us, ∀ y ∈ x.bl, y ∈ u.bl ∨ w.heap.size ≤ y) ∧ Gw w wr) (fun i _ => u.ks.length - (intOf i).toNat)
    case atStart => exact ⟨[], rfl, Nat.zero_le _, rfl, HTJ.out, HP5.out, FB5.out, HG0.out, (fun x hx => by cases hx), G5.out⟩
    case round =>
      obtain ⟨us, rfl, hle, hty, hT, hP, hFB, hF, hbl, hg⟩ := hrel
      have HTY := Lib.hid hty
      have HT := Lib.hid hT
      have HP := Lib.hid hP
      have FBR := Lib.hid hFB
      have HBS := Lib.hid hbl
      have HG := Lib.hid hg
      have t3 : wr.cell? ⟨T, 3, none⟩ = some (.slice ka u.ks.length kc) := cell_of_row _ _ 3 _ _ _ hT
      by_cases hlt : us.length < u.ks.length
      · obtain ⟨g, rfl, hCg, hfill⟩ := hF (by omega)
        have HF := Lib.hid hfill
        have A6 := Lib.hid (A.out.grow hg)
        obtain ⟨p0, p1, p2, p3⟩ := A6.out.c
        obtain ⟨c0, c1⟩ := hP.c
        obtain ⟨bk, ok, ha, hkid⟩ := coAt.kid A6.out.2.kids us.length hlt
        have KB := Lib.hid (fun y (hy : y ∈ u.ks[us.length].bl) => kid_bl ha us.length hlt hy)
        rw [ha] at p3
        have hdk := dp_kid (u := u) us.length hlt
        have hb1 := bndK_le u.k us.length
        have hx1 : bxK u.k ≤ 1 := by unfold bxK; split <;> omega
        have KO' := impl_ofKid u wr.drew b o us.length bd lv (by omega) (by omega) (by omega) (A6.out.grow (Gw.refl wr).drew)
        obtain ⟨D, hD⟩ : ∃ D, D = bd + bndK u.k us.length := ⟨_, rfl⟩
        obtain ⟨Lv, hLv⟩ : ∃ Lv, Lv = lv + bxK u.k := ⟨_, rfl⟩
        rw [← hD, ← hLv] at KO'
        have KO := Lib.hid KO'
        have HD := Lib.hid hD
        have IHH := Lib.hid (show ∀ w2, Gw wr w2 → Calls Tryd.prog 108 #[.pointer (some ⟨bk, ok + us.length * 4, none⟩), .agg #[.int .i64 D, .int .i64 Lv], .func (.func 109) #[] #[.pointer (some ⟨BF, 0, none⟩), .pointer (some ⟨BB, 0, none⟩)]] w2 (SubP w2 u.ks[us.length] (u.ks[us.length].co.sh n (fr + D))) from fun w2 g2 =>
          ih u.ks[us.length] (List.getElem_mem hlt) w2 bk (ok + us.length * 4) D Lv BF BB n fr (hkid.grow g2) (all_kid HOK.out us.length hlt) (by omega) (by omega) HN.out HFR.out (g2.cell FBR.out.1 (cell_lt FBR.out.1)) (g2.cell FBR.out.2 (cell_lt FBR.out.2)))
        have HTL := Lib.hid (show T < wr.heap.size from (Array.getElem?_eq_some_iff.1 hT).1)
        have HGT := Lib.hid (show g ≠ T by omega)
        have HGB := Lib.hid (show g ≠ b by have := HBW.out; have := HTW.out; omega)
        have HGP := Lib.hid (show g ≠ P by have := HPE.out; have := HTW.out; omega)
        have HGU := Lib.hid (show g ∉ u.bl from fun e => by have := ok_bl_lt u w A.out.2 g e; have := HTW.out; omega)
        have HGF := Lib.hid (show BF ≠ g ∧ BB ≠ g from ⟨by have := HBW2.out.1; have := HTW.out; omega, by have := HBW2.out.2; have := HTW.out; omega⟩)
        have HGL := Lib.hid (show g < wr.heap.size by obtain ⟨⟨cs, e, h1, _⟩, _⟩ := hfill; exact (Array.getElem?_eq_some_iff.1 h1).1)
        have HCG := Lib.hid hCg
        have hlc : us.length < kc := by have := KC9.out.2; omega
        have q0 : (0 : Int) ≤ us.length := by omega
        have q1' : (us.length : Int) < u.ks.length := by omega
        clear hty hT hP hFB hF hbl hg hfill hCg ha hkid p0 p1 p2 KO' hD hLv hdk hb1 hx1
        go_upto_region 8 with (fail)
        refine wp_region_held_drew (S := fun W => W.cell? ⟨T, 3, none⟩ = some (.slice (some ⟨g, 0, none⟩) u.ks.length kc) ∧ W.cell? ⟨b, o + 3, none⟩ = some (.slice (some ⟨bk, ok, none⟩) u.ks.length u.cap) ∧ W.cell? ⟨P, 0, none⟩ = some (.int .i64 bd) ∧ W.cell? ⟨P, 1, none⟩ = some (.int .i64 lv)) (by kernel_rfl) ?_ (fun hHeld => ?_)
        · exact ⟨t3, p3, c0, c1⟩
        refine wpAnyH_take (i := 0) (oi := { dst := some 51, op := _, type := _, pos := _, after := _, guard := _ }) (v := .pointer (some ⟨T, 3, none⟩)) rfl (by kernel_rfl) (by kernel_rfl) (by kernel_rfl) (fun _ _ _ h => h) (Or.inl ⟨by rfl, ?_⟩) (by assumption) ?_
        · intro w hSw; obtain ⟨t3, p3, c0, c1⟩ := hSw; go_simp
        try simp only [Act.put, List.setIfInBounds_toArray, List.set_cons_zero, List.set_cons_succ]
        refine wpAnyH_take (i := 1) (oi := { dst := some 52, op := _, type := _, pos := _, after := _, guard := _ }) (v := .slice (some ⟨g, 0, none⟩) u.ks.length kc) rfl (by kernel_rfl) (by kernel_rfl) (by kernel_rfl) (fun _ _ _ h => h) (Or.inl ⟨by rfl, ?_⟩) (by assumption) ?_
        · intro w hSw; obtain ⟨t3, p3, c0, c1⟩ := hSw; go_simp
        try simp only [Act.put, List.setIfInBounds_toArray, List.set_cons_zero, List.set_cons_succ]
        refine wpAnyH_take (i := 2) (oi := { dst := some 53, op := _, type := _, pos := _, after := _, guard := _ }) (v := .int .i64 us.length) rfl (by kernel_rfl) (by kernel_rfl) (by kernel_rfl) (fun _ _ _ h => h) (Or.inl ⟨by rfl, ?_⟩) (by assumption) ?_
        · intro w hSw; obtain ⟨t3, p3, c0, c1⟩ := hSw; go_simp
        try simp only [Act.put, List.setIfInBounds_toArray, List.set_cons_zero, List.set_cons_succ]
        refine wpAnyH_take (i := 3) (oi := { dst := some 54, op := _, type := _, pos := _, after := _, guard := _ }) (v := .pointer (some ⟨b, o, none⟩)) rfl (by kernel_rfl) (by kernel_rfl) (by kernel_rfl) (fun _ _ _ h => h) (Or.inl ⟨by rfl, ?_⟩) (by assumption) ?_
        · intro w hSw; obtain ⟨t3, p3, c0, c1⟩ := hSw; go_simp
        try simp only [Act.put, List.setIfInBounds_toArray, List.set_cons_zero, List.set_cons_succ]
        refine wpAnyH_take (i := 4) (oi := { dst := some 55, op := _, type := _, pos := _, after := _, guard := _ }) (v := .pointer (some ⟨b, o, none⟩)) rfl (by kernel_rfl) (by kernel_rfl) (by kernel_rfl) (fun _ _ _ h => h) (Or.inl ⟨by rfl, ?_⟩) (by assumption) ?_
        · intro w hSw; obtain ⟨t3, p3, c0, c1⟩ := hSw; go_simp
        try simp only [Act.put, List.setIfInBounds_toArray, List.set_cons_zero, List.set_cons_succ]
        refine wpAnyH_take (i := 5) (oi := { dst := some 56, op := _, type := _, pos := _, after := _, guard := _ }) (v := .pointer (some ⟨b, o + 3, none⟩)) rfl (by kernel_rfl) (by kernel_rfl) (by kernel_rfl) (fun _ _ _ h => h) (Or.inl ⟨by rfl, ?_⟩) (by assumption) ?_
        · intro w hSw; obtain ⟨t3, p3, c0, c1⟩ := hSw; go_simp
        try simp only [Act.put, List.setIfInBounds_toArray, List.set_cons_zero, List.set_cons_succ]
        refine wpAnyH_take (i := 6) (oi := { dst := some 57, op := _, type := _, pos := _, after := _, guard := _ }) (v := .slice (some ⟨bk, ok, none⟩) u.ks.length u.cap) rfl (by kernel_rfl) (by kernel_rfl) (by kernel_rfl) (fun _ _ _ h => h) (Or.inl ⟨by rfl, ?_⟩) (by assumption) ?_
        · intro w hSw; obtain ⟨t3, p3, c0, c1⟩ := hSw; go_simp
        try simp only [Act.put, List.setIfInBounds_toArray, List.set_cons_zero, List.set_cons_succ]
        refine wpAnyH_take (i := 7) (oi := { dst := some 58, op := _, type := _, pos := _, after := _, guard := _ }) (v := .int .i64 us.length) rfl (by kernel_rfl) (by kernel_rfl) (by kernel_rfl) (fun _ _ _ h => h) (Or.inl ⟨by rfl, ?_⟩) (by assumption) ?_
        · intro w hSw; obtain ⟨t3, p3, c0, c1⟩ := hSw; go_simp
        try simp only [Act.put, List.setIfInBounds_toArray, List.set_cons_zero, List.set_cons_succ]
        refine wpAnyH_take (i := 8) (oi := { dst := some 59, op := _, type := _, pos := _, after := _, guard := _ }) (v := .pointer (some ⟨bk, ok + us.length * 4, none⟩)) rfl (by kernel_rfl) (by kernel_rfl) (by kernel_rfl) (fun _ _ _ h => h) (Or.inl ⟨by rfl, ?_⟩) (by assumption) ?_
        · intro w hSw; obtain ⟨t3, p3, c0, c1⟩ := hSw; go_simp
        try simp only [Act.put, List.setIfInBounds_toArray, List.set_cons_zero, List.set_cons_succ]
        refine wpAnyH_take (i := 9) (oi := { dst := some 60, op := _, type := _, pos := _, after := _, guard := _ }) (v := .agg #[.int .i64 bd, .int .i64 lv]) rfl (by kernel_rfl) (by kernel_rfl) (by kernel_rfl) (fun _ _ _ h => h) (Or.inl ⟨by rfl, ?_⟩) (by assumption) ?_
        · intro w hSw; obtain ⟨t3, p3, c0, c1⟩ := hSw; go_simp
        try simp only [Act.put, List.setIfInBounds_toArray, List.set_cons_zero, List.set_cons_succ]
        refine wpAnyH_take (i := 10) (oi := { dst := some 61, op := _, type := _, pos := _, after := _, guard := _ }) (v := .pointer (some ⟨b, o, none⟩)) rfl (by kernel_rfl) (by kernel_rfl) (by kernel_rfl) (fun _ _ _ h => h) (Or.inl ⟨by rfl, ?_⟩) (by assumption) ?_
        · intro w hSw; obtain ⟨t3, p3, c0, c1⟩ := hSw; go_simp
        try simp only [Act.put, List.setIfInBounds_toArray, List.set_cons_zero, List.set_cons_succ]
        refine wpAnyH_take (i := 11) (oi := { dst := some 62, op := _, type := _, pos := _, after := _, guard := _ }) (v := .int .i64 us.length) rfl (by kernel_rfl) (by kernel_rfl) (by kernel_rfl) (fun _ _ _ h => h) (Or.inl ⟨by rfl, ?_⟩) (by assumption) ?_
        · intro w hSw; obtain ⟨t3, p3, c0, c1⟩ := hSw; go_simp
        try simp only [Act.put, List.setIfInBounds_toArray, List.set_cons_zero, List.set_cons_succ]
        refine wpAnyH_take (i := 13) (oi := { dst := some 64, op := _, type := _, pos := _, after := _, guard := _ }) (v := .func (.func 109) #[] #[.pointer (some ⟨BF, 0, none⟩), .pointer (some ⟨BB, 0, none⟩)]) rfl (by kernel_rfl) (by kernel_rfl) (by kernel_rfl) (fun _ _ _ h => h) (Or.inl ⟨by rfl, ?_⟩) (by assumption) ?_
        · intro w hSw; obtain ⟨t3, p3, c0, c1⟩ := hSw; go_simp
        try simp only [Act.put, List.setIfInBounds_toArray, List.set_cons_zero, List.set_cons_succ]
        refine wpAnyH_ready (rs := [12]) (by kernel_rfl) (by simp) ?_
        refine AllReadyH.cons (o := { dst := some 63, op := _, type := _, pos := _, after := _, guard := _ }) rfl (fun K hK => ?_) AllReadyH.nil
        go_simp
        go_at_call 121
        refine KO.out.mono ?_
        rintro e w2 ⟨rfl, g2⟩
        have g2' : Gw wr w2 := gw_drewL g2
        have kt := g2'.cell t3 (cell_lt t3)
        have kp := g2'.cell p3 (cell_lt p3)
        have k0 := g2'.cell c0 (cell_lt c0)
        have k1 := g2'.cell c1 (cell_lt c1)
        go_wp2_with fail
        refine hK.out _ _ ⟨kt, kp, k0, k1⟩ (fun hHeld => ?_)
        clear hK K
        try simp only [Act.put, List.setIfInBounds_toArray, List.set_cons_zero, List.set_cons_succ]
        have IH := Lib.hid (IHH.out w2 g2')
        refine wpAnyH_ready (rs := [14]) (by kernel_rfl) (by simp) ?_
        refine AllReadyH.cons (o := { dst := some 65, op := _, type := _, pos := _, after := _, guard := _ }) rfl (fun K hK => ?_) AllReadyH.nil
        go_simp
        go_at_call 108
        refine IH.out.mono ?_
        rintro e w3 ⟨xb, xo, x, rfl, hx, hxc, hbl, hg3, _⟩
        have g3 : Gw wr w3 := g2'.trans hg3
        have HXC := Lib.hid hxc
        have HBL := Lib.hid hbl
        have OX := Lib.hid hx.2
        obtain ⟨e0, e1, e2, e3⟩ := hx.c
        have kt := g3.cell t3 (cell_lt t3)
        have kp := g3.cell p3 (cell_lt p3)
        have k0 := g3.cell c0 (cell_lt c0)
        have k1 := g3.cell c1 (cell_lt c1)
        go_wp2_with fail
        refine hK.out _ _ ⟨kt, kp, k0, k1⟩ (fun hHeld => ?_)
        clear hK K hx hxc hbl hg3
        try simp only [Act.put, List.setIfInBounds_toArray, List.set_cons_zero, List.set_cons_succ]
        refine wpAnyH_take (i := 15) (oi := { dst := some 66, op := _, type := _, pos := _, after := _, guard := _ }) (v := .pointer (some ⟨xb, xo, none⟩)) rfl (by kernel_rfl) (by kernel_rfl) (by kernel_rfl) (fun _ _ _ h => h) (Or.inl ⟨by rfl, ?_⟩) (by assumption) ?_
        · intro w hSw; obtain ⟨t3, p3, c0, c1⟩ := hSw; go_simp
        try simp only [Act.put, List.setIfInBounds_toArray, List.set_cons_zero, List.set_cons_succ]
        refine wpAnyH_ready (rs := [16]) (by kernel_rfl) (by simp) ?_
        refine AllReadyH.cons (o := { dst := some 67, op := _, type := _, pos := _, after := _, guard := _ }) rfl (fun K hK => ?_) AllReadyH.nil
        go_simp
        refine hK _ _ ⟨kt, kp, k0, k1⟩ (fun hHeld => ?_)
        clear hK K
        try simp only [Act.put, List.setIfInBounds_toArray, List.set_cons_zero, List.set_cons_succ]
        refine wpAnyH_take (i := 17) (oi := { dst := some 68, op := _, type := _, pos := _, after := _, guard := _ }) (v := .pointer (some ⟨g, us.length * 4, none⟩)) rfl (by kernel_rfl) (by kernel_rfl) (by kernel_rfl) (fun _ _ _ h => h) (Or.inl ⟨by rfl, ?_⟩) (by assumption) ?_
        · intro w hSw; obtain ⟨t3, p3, c0, c1⟩ := hSw; go_simp
        try simp only [Act.put, List.setIfInBounds_toArray, List.set_cons_zero, List.set_cons_succ]
        have hF1 := HF.out.grow g3
        obtain ⟨⟨v0, x0⟩, y0⟩ := hF1.room hlc 0 (by omega)
        obtain ⟨⟨v1, x1⟩, y1⟩ := hF1.room hlc 1 (by omega)
        obtain ⟨⟨v2, x2⟩, y2⟩ := hF1.room hlc 2 (by omega)
        obtain ⟨⟨v3, x3⟩, y3⟩ := hF1.room hlc 3 (by omega)
        rw [Nat.add_zero] at x0 y0
        have HF1 := Lib.hid hF1
        clear hF1
        refine wpAnyH_ready (rs := [18]) (by kernel_rfl) (by simp) ?_
        refine AllReadyH.cons (o := { dst := none, op := _, type := _, pos := _, after := _, guard := _ }) rfl (fun K hK => ?_) AllReadyH.nil
        go_simp
        refine hK _ _ ⟨(far4 (fun e => HGT.out e.symm)).trans kt, (far4 (fun e => HGB.out e.symm)).trans kp, (far4 (fun e => HGP.out e.symm)).trans k0, (far4 (fun e => HGP.out e.symm)).trans k1⟩ (fun hHeld => ?_)
        clear hK K
        try simp only [Act.put, List.setIfInBounds_toArray, List.set_cons_zero, List.set_cons_succ]
        refine wpAnyH_done (by kernel_rfl) ?_ _
        go_wp2_with fail
        go_roundw
        case rel =>
          have hl1 : us.length + 1 = (us ++ [x]).length := by simp
          have hwg : w.heap.size ≤ g := by have := HTW.out; have := HCG.out; omega
          have hfar : ∀ y, y ≠ g → ∀ a c d e : Value, ((((w3.setCell ⟨g, us.length * 4, none⟩ a).setCell ⟨g, us.length * 4 + 1, none⟩ c).setCell ⟨g, us.length * 4 + 2, none⟩ d).setCell ⟨g, us.length * 4 + 3, none⟩ e).heap[y]? = w3.heap[y]? := fun y hy a c d e => by
            rw [Below.heap_setCell _ _ _ _ hy, Below.heap_setCell _ _ _ _ hy, Below.heap_setCell _ _ _ _ hy, Below.heap_setCell _ _ _ _ hy]
          have hwr : wr.heap.size ≤ w2.heap.size := g2'.size
          have hgx : g ∉ x.bl := fun e => by
            rcases HBL.out g e with h1 | h1
            · exact HGU.out (KB.out g h1)
            · have := HGL.out; omega
          refine ⟨us ++ [x], by rw [← hl1]; rfl, by simp; omega, ?_, ?_, ?_, ⟨?_, ?_⟩, fun _ => ⟨g, rfl, HCG.out, ?_⟩, ?_, ?_⟩
          · rw [← hl1, List.map_append, HTY.out, List.take_add_one, shs_get u.k n (fr + bd) u.co.ks 0 us.length (by rw [u.co_len]; exact hlt), u.co_kid us.length hlt]
            show _ ++ [x.co] = _
            rw [HXC.out, HD.out, Nat.zero_add, show fr + ((bd + bndK u.k us.length : Nat) : Int) = fr + (bd : Int) + (bndK u.k us.length : Nat) by omega]
            rfl
          · exact (hfar T (fun e => HGT.out e.symm) _ _ _ _).trans ((g3.block _ HTL.out).trans HT.out)
          · exact (hfar P (fun e => HGP.out e.symm) _ _ _ _).trans ((g3.block _ HP.out.lt).trans HP.out)
          · exact (World.cell?_of_block (a := ⟨BF, 0, none⟩) (hfar BF (HGF.out.1) _ _ _ _)).trans (g3.cell FBR.out.1 (cell_lt FBR.out.1))
          · exact (World.cell?_of_block (a := ⟨BB, 0, none⟩) (hfar BB (HGF.out.2) _ _ _ _)).trans (g3.cell FBR.out.2 (cell_lt FBR.out.2))
          · exact HF1.out.put hlc OX.out hgx
          · intro z hz y hy
            rcases List.mem_append.1 hz with hz | hz
            · exact HBS.out z hz y hy
            · obtain rfl : z = x := by simpa using hz
              rcases HBL.out y hy with h1 | h1
              · exact .inl (KB.out y h1)
              · exact .inr (by have := HG.out.size; omega)
          · exact (((Below.setCell (HG.out.trans g3) hwg _).setCell hwg _).setCell hwg _).setCell hwg _
        case measure => simp [intOf]; omega
      · have hall : us.length = u.ks.length := by omega
        have OKX : coSl wr ka kc us := by
          by_cases hn0 : u.ks.length = 0
          · obtain rfl : us = [] := List.eq_nil_of_length_eq_zero (by omega)
            exact ⟨Nat.zero_le _, KC9.out.1, .inl rfl⟩
          · obtain ⟨g, rfl, hCg, hf⟩ := hF hn0
            exact ⟨by have := KC9.out.2; omega, KC9.out.1, .inr ⟨g, 0, rfl, hf.2.1⟩⟩
        have OA := (A.out.grow hg).2
        obtain ⟨⟨ok1, ok2, ok3⟩, _⟩ := (LK.ok_iff _).1 OA
        have OX : (LK.mk u.k u.v u.da u.dc u.ds ka kc us).Ok wr := (LK.ok_iff _).2 ⟨⟨ok1, ok2, ok3⟩, OKX⟩
        have hT' := hT
        rw [← hall] at hT'
        have FIN := Lib.hid (show coAt wr T 0 (LK.mk u.k u.v u.da u.dc u.ds ka kc us) from ⟨fun j v hv => by
          rw [cell_of_row _ _ _ _ _ _ hT', Nat.zero_add]
          have : (#[.int .i64 u.k, .int .i64 u.v, .slice u.da u.ds.length u.dc, .slice ka us.length kc] : Array Value).toList = coE (LK.mk u.k u.v u.da u.dc u.ds ka kc us) := rfl
          rw [← Array.getElem?_toList, this]
          exact hv, OX⟩)
        have CO := Lib.hid (show (LK.mk u.k u.v u.da u.dc u.ds ka kc us).co = u.co.sh n (fr + bd) by
          rw [LK.co_eq, sh_eq]
          show Co.mk u.k u.v u.ds (us.map LK.co) = _
          rw [HTY.out, hall, List.take_of_length_le (by rw [shs_len, u.co_len]; exact Nat.le_refl _), u.co_k, u.co_v, u.co_ds, VE.out])
        have BLS := Lib.hid (show ∀ y ∈ (LK.mk u.k u.v u.da u.dc u.ds ka kc us).bl, y ∈ u.bl ∨ w.heap.size ≤ y from fun y hy => by
          rw [LK.bl_eq] at hy
          rcases List.mem_append.1 hy with hy | hy
          · exact .inl (by rw [LK.bl_eq]; exact List.mem_append.2 (.inl hy))
          · have hy' : y ∈ nbl LK.bl ka us := hy
            by_cases hne : us = []
            · subst hne; simp [nbl] at hy'
            · obtain ⟨g, rfl, hCg, hf⟩ := hF (fun e => hne (List.eq_nil_of_length_eq_zero (by omega)))
              rw [nb_ne hne] at hy'
              rcases List.mem_cons.1 hy' with rfl | hy'
              · exact .inr (by have := HTW.out; omega)
              · obtain ⟨z, hz, hzy⟩ := List.mem_flatMap.1 hy'
                exact HBS.out z hz y hzy)
        have q1' : ¬ ((us.length : Int) < u.ks.length) := by omega
        clear hty hT hP hFB hF hbl hg OKX OA ok1 ok2 ok3 OX hT' t3 hle hlt
        go_wp2_with fail
        go_ret
        exact ⟨T, 0, _, rfl, FIN.out, CO.out, BLS.out, HG.out, HTW.out⟩)

theorem sb_all (u : LK) : KSub u := by
  refine LK.ind (P := KSub) (fun k v da dc ds a c ks ih => ?_) u
  exact sb_of (.mk k v da dc ds a c ks) ih

end Go.Proofs.YtfbgkbgoooepmaaDoor.Con
