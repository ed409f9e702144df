/-
  Contracts of the model's l08State and of the program's isMachineState. Condition: the book and the core term lie in memory, and the table of forms reads as the program's text lays it.
-/
import Derived.Test.YtkpbiifikkbaeaaDoorBkI
import Derived.Test.YtkpbiifikkbaeaaDoorCoEr
namespace Go.Proofs.YtkpbiifikkbaeaaDoor.Con
open Go.RowKit
set_option linter.unusedVariables false

/-- A machine state. -/
def msC (ts : List Co) (t : Co) : Bool := bkC ts && (closC t && (t.all erH && (t.all (refH ts.length) && ts.all fun d => d.all erH)))
theorem bk_clos {ts : List Co} (h : bkC ts = true) : ts.length ≤ 24 ∧ ∀ t ∈ ts, closC t = true := by
  unfold bkC at h
  rw [Bool.and_eq_true, List.all_eq_true] at h
  obtain ⟨h1, h2⟩ := h
  unfold inV at h1
  simp only [decide_eq_true_eq] at h1
  exact ⟨by omega, fun t ht => by have := h2 t ht; rw [Bool.and_eq_true] at this; exact this.1⟩
theorem clos_ok {t : Co} (h : closC t = true) : okC t = true := by unfold closC at h; rw [Bool.and_eq_true] at h; exact h.1

set_option maxRecDepth 100000 in
set_option maxHeartbeats 1000000 in
theorem spec_l08State (u : LB) (c : LK) (w : World) (b bc oc : Nat) (h : bOk w u) (hB : BoxB w b u) (hc : coAt w bc oc c) : Calls Tryd.prog 49 #[.pointer (some ⟨b, 0, none⟩), .pointer (some ⟨bc, oc, none⟩)] w (BoolGw (msC u.cs c.co) w) := by
  have hl := h.len
  have HL := Lib.hid (show u.cs.length = u.ks.length by simp [LB.cs])
  have OB := Lib.hid h
  have BB := Lib.hid hB
  have CC := Lib.hid hc
  have KB0 := spec_l06Book u w b h hB
  clear h hB hc
  cases h1 : bkC u.cs with
  | false =>
    rw [h1] at KB0
    have KB := Lib.hid KB0
    have F := Lib.hid (show msC u.cs c.co = false by unfold msC; rw [h1]; rfl)
    clear KB0 h1 hl
    go_enter Tryd.func49, Tryd.ntmps49
    go_wp2_with fail
    refine KB.out.mono ?_
    rintro e w1 ⟨rfl, g1⟩
    go_wp2_with fail
    go_ret
    exact ⟨ret_b F.out.symm, g1⟩
  | true =>
  rw [h1] at KB0
  have KB := Lib.hid KB0
  have H1 := Lib.hid h1
  clear KB0 h1
  cases h2 : closC c.co with
  | false =>
    have KC0 := fun (w1 : World) (g : Gw w w1) => spec_l06Closed c w1 bc oc (CC.out.grow g)
    rw [h2] at KC0
    have KC := Lib.hid KC0
    have F := Lib.hid (show msC u.cs c.co = false by unfold msC; rw [H1.out, h2]; rfl)
    clear KC0 h2 hl
    go_enter Tryd.func49, Tryd.ntmps49
    go_wp2_with fail
    refine KB.out.mono ?_
    rintro e w1 ⟨rfl, g1⟩
    go_wp2_with fail
    refine (KC.out w1 g1).mono ?_
    rintro e w2 ⟨rfl, g2⟩
    go_wp2_with fail
    go_ret
    exact ⟨ret_b F.out.symm, g1.trans g2⟩
  | true =>
  have KC0 := fun (w1 : World) (g : Gw w w1) => spec_l06Closed c w1 bc oc (CC.out.grow g)
  rw [h2] at KC0
  have KC := Lib.hid KC0
  have H2 := Lib.hid h2
  clear KC0 h2
  cases h3 : c.co.all erH with
  | false =>
    have KE0 := fun (w1 : World) (g : Gw w w1) => ker_all c w1 bc oc (CC.out.grow g)
    rw [h3] at KE0
    have KE := Lib.hid KE0
    have F := Lib.hid (show msC u.cs c.co = false by unfold msC; rw [H1.out, H2.out, h3]; rfl)
    clear KE0 h3 hl
    go_enter Tryd.func49, Tryd.ntmps49
    go_wp2_with fail
    refine KB.out.mono ?_
    rintro e w1 ⟨rfl, g1⟩
    go_wp2_with fail
    refine (KC.out w1 g1).mono ?_
    rintro e w2 ⟨rfl, g2⟩
    go_wp2_with fail
    refine (KE.out w2 (g1.trans g2)).mono ?_
    rintro e w3 ⟨rfl, g3⟩
    go_wp2_with fail
    go_ret
    exact ⟨ret_b F.out.symm, (g1.trans g2).trans g3⟩
  | true =>
  have KE0 := fun (w1 : World) (g : Gw w w1) => ker_all c w1 bc oc (CC.out.grow g)
  rw [h3] at KE0
  have KE := Lib.hid KE0
  have H3 := Lib.hid h3
  clear KE0 h3
  have KR0 := fun (w1 : World) (g : Gw w w1) => krf_all (u.ks.length : Int) c w1 bc oc (CC.out.grow g)
  cases h4 : c.co.all (refH (u.ks.length : Int)) with
  | false =>
    rw [h4] at KR0
    have KR := Lib.hid KR0
    have F := Lib.hid (show msC u.cs c.co = false by unfold msC; rw [H1.out, H2.out, H3.out, HL.out, h4]; rfl)
    clear KR0 h4
    go_enter Tryd.func49, Tryd.ntmps49
    go_wp2_with fail
    refine KB.out.mono ?_
    rintro e w1 ⟨rfl, g1⟩
    go_wp2_with fail
    refine (KC.out w1 g1).mono ?_
    rintro e w2 ⟨rfl, g2⟩
    go_wp2_with fail
    refine (KE.out w2 (g1.trans g2)).mono ?_
    rintro e w3 ⟨rfl, g3⟩
    have G3 := Lib.hid ((g1.trans g2).trans g3)
    have p0 := (BB.out.grow G3.out).c
    clear g1 g2 g3
    go_wp2_with fail
    refine (KR.out w3 G3.out).mono ?_
    rintro e w4 ⟨rfl, g4⟩
    go_wp2_with fail
    go_ret
    exact ⟨ret_b F.out.symm, G3.out.trans g4⟩
  | true =>
  rw [h4] at KR0
  have KR := Lib.hid KR0
  have F := Lib.hid (show msC u.cs c.co = u.cs.all fun d => d.all erH by unfold msC; rw [H1.out, H2.out, H3.out, HL.out, h4]; simp)
  clear KR0 h4
  go_enter Tryd.func49, Tryd.ntmps49
  go_wp2_with fail
  refine KB.out.mono ?_
  rintro e w1 ⟨rfl, g1⟩
  go_wp2_with fail
  refine (KC.out w1 g1).mono ?_
  rintro e w2 ⟨rfl, g2⟩
  go_wp2_with fail
  refine (KE.out w2 (g1.trans g2)).mono ?_
  rintro e w3 ⟨rfl, g3⟩
  have G3 := Lib.hid ((g1.trans g2).trans g3)
  have p0 := (BB.out.grow G3.out).c
  clear g1 g2 g3
  go_wp2_with fail
  refine (KR.out w3 G3.out).mono ?_
  rintro e w4 ⟨rfl, g4⟩
  have G4 := Lib.hid (G3.out.trans g4)
  clear g4 p0
  go_wp2_with fail
  go_loopw [5] (fun i wr => ∃ j : Nat, j ≤ u.ks.length ∧ i = .int .i64 j ∧ (∀ x (hx : x < u.ks.length), x < j → u.ks[x].co.all erH = true) ∧ Gw w wr) (fun i _ => u.ks.length - (intOf i).toNat)
  case atStart => exact ⟨0, by omega, rfl, (fun x _ h => absurd h (by omega)), G4.out⟩
  case round =>
    obtain ⟨j, hj, rfl, hall, hg⟩ := hrel
    have HALL := Lib.hid hall
    have HG := Lib.hid hg
    have p0 := (BB.out.grow hg).c
    clear hall
    by_cases hlt : j < u.ks.length
    · obtain ⟨bk, ok, ha, hkid⟩ := coAt.kid (OB.out.grow hg) j hlt
      rw [ha] at p0
      have q0 : (0 : Int) ≤ j := by omega
      have q1 : (j : Int) < u.ks.length := by omega
      have KK0 := ker_all u.ks[j] wr bk (ok + j * 4) hkid
      clear ha hkid hg
      cases he : u.ks[j].co.all erH with
      | false =>
        rw [he] at KK0
        have KK := Lib.hid KK0
        have FF := Lib.hid (show msC u.cs c.co = false by
          rw [F.out]
          exact List.all_eq_false.2 ⟨u.ks[j].co, by rw [LB.cs]; exact List.mem_map_of_mem (List.getElem_mem hlt), by rw [he]; simp⟩)
        clear KK0 he
        go_wp2_with fail
        refine KK.out.mono ?_
        rintro e w5 ⟨rfl, g5⟩
        clear p0
        go_wp2_with fail
        go_ret
        exact ⟨ret_b FF.out.symm, HG.out.trans g5⟩
      | true =>
        rw [he] at KK0
        have KK := Lib.hid KK0
        have HE := Lib.hid he
        clear KK0 he
        go_wp2_with fail
        refine KK.out.mono ?_
        rintro e w5 ⟨rfl, g5⟩
        have G5 := Lib.hid (HG.out.trans g5)
        clear p0 g5
        go_wp2_with fail
        go_roundw
        case rel =>
          refine ⟨j + 1, by omega, by go_num, fun x hx hxj => ?_, G5.out⟩
          by_cases e : x = j
          · subst e; exact HE.out
          · exact HALL.out x hx (by omega)
        case measure => simp [intOf]; omega
    · have q1 : ¬ ((j : Int) < u.ks.length) := by omega
      have FF := Lib.hid (show msC u.cs c.co = true by
        rw [F.out, List.all_eq_true]
        intro d hd
        rw [LB.cs] at hd
        obtain ⟨z, hz, rfl⟩ := List.mem_map.1 hd
        obtain ⟨i, hi, rfl⟩ := List.mem_iff_getElem.1 hz
        exact HALL.out i hi (by omega))
      clear hg
      go_wp2_with fail
      go_ret
      exact ⟨ret_b FF.out.symm, HG.out⟩

/-- The program's side. -/
theorem impl_ms1 (c : LK) (w : World) (h : c.Ok w) (hT : KTbl w) : Calls Tryd.prog 79 #[c.val] w (BoolGw (!(okC c.co && c.co.all erH)) w) := by
  have g0 := (Gw.refl w).alloc (c.obj 42)
  have BK := BoxK.new w c 42
  have KE := Lib.hid (impl_erased c _ (h.grow g0) (hT.grow g0))
  have G0 := Lib.hid g0
  clear h hT g0
  go_enter Tryd.func79, Tryd.ntmps79
  go_upto_region 1 with (fail)
  generalize w.alloc (.cells #[.int .i64 c.k, .int .i64 c.v, .slice c.da c.ds.length c.dc, .slice c.a c.ks.length c.cap] 42) = w1 at *
  obtain ⟨p0, p1, p2, p3⟩ := BK.c
  go_wp2_with fail
  refine KE.out.mono ?_
  rintro e w2 ⟨rfl, g2⟩
  clear p0 p1 p2 p3 BK
  go_wp2_with fail
  go_ret
  exact ⟨ret_b (Bool.not_and _ _).symm, G0.out.trans g2⟩
def nerC (t : Co) : Bool := !(okC t && t.all erH)
theorem impl_msIx (ks : List LK) (w : World) (a : Option Addr) (cap : Nat) (h : coSl w a cap ks) (hT : KTbl w) : Calls Tryd.prog 111 #[.slice a ks.length cap, .func (.func 79) #[] #[]] w fun e w' => ∃ r : Int, e = .returned (.int .i64 r) ∧ decide (0 ≤ r) = (ks.map LK.co).any nerC ∧ Gw w w' := by
  have hl : ks.length ≤ 9223372036854775807 := Nat.le_trans h.1 h.2.1
  have OB := Lib.hid h
  have TB := Lib.hid hT
  clear h hT
  go_enter Tryd.func111, Tryd.ntmps111
  go_wp2_with fail
  go_loopw [8] (fun i wr => ∃ j : Nat, j ≤ ks.length ∧ i = .int .i64 j ∧ (∀ i (hi : i < ks.length), i < j → nerC ks[i].co = false) ∧ Gw w wr) (fun i _ => ks.length - (intOf i).toNat)
  case atStart => exact ⟨0, by omega, rfl, fun i _ h => absurd h (by omega), Gw.refl _⟩
  case round =>
    obtain ⟨j, hj, rfl, hall, hg⟩ := hrel
    have HALL := Lib.hid hall
    have HG := Lib.hid hg
    clear hall
    by_cases hlt : j < ks.length
    · obtain ⟨b, o, rfl, hkid⟩ := coAt.kid (gSl.grow coLen coGr OB.out hg) j hlt
      obtain ⟨c0, c1, c2, c3⟩ := hkid.c
      have q0 : (0 : Int) ≤ j := by omega
      have q1 : (j : Int) < ks.length := by omega
      have KEY0 := impl_ms1 ks[j] wr hkid.2 (TB.out.grow hg)
      clear hkid hg
      cases he : nerC ks[j].co with
      | true =>
        have HE := Lib.hid he
        unfold nerC at he
        rw [he] at KEY0
        have KEY := Lib.hid KEY0
        clear KEY0 he
        go_wp2_with fail
        refine KEY.out.mono ?_
        rintro e w1 ⟨rfl, hg1⟩
        clear c0 c1 c2 c3
        go_wp2_with fail
        go_ret
        refine ⟨j, rfl, ?_, HG.out.trans hg1⟩
        rw [decide_eq_true (by omega)]
        exact (List.any_eq_true.2 ⟨ks[j].co, List.mem_map_of_mem (List.getElem_mem hlt), HE.out⟩).symm
      | false =>
        have HE := Lib.hid he
        unfold nerC at he
        rw [he] at KEY0
        have KEY := Lib.hid KEY0
        clear KEY0 he
        go_wp2_with fail
        refine KEY.out.mono ?_
        rintro e w1 ⟨rfl, hg1⟩
        have G1 := Lib.hid (HG.out.trans hg1)
        clear c0 c1 c2 c3 hg1
        go_wp2_with fail
        go_roundw
        case rel =>
          refine ⟨j + 1, by omega, by go_num, fun i hi hij => ?_, G1.out⟩
          by_cases e : i = j
          · subst e; exact HE.out
          · exact HALL.out i hi (by omega)
        case measure => simp [intOf]; omega
    · have q1 : ¬ ((j : Int) < ks.length) := by omega
      have FF := Lib.hid (show (ks.map LK.co).any nerC = false from List.any_eq_false.2 fun d hd => by
        obtain ⟨z, hz, rfl⟩ := List.mem_map.1 hd
        obtain ⟨i, hi, rfl⟩ := List.mem_iff_getElem.1 hz
        rw [HALL.out i hi (by omega)]; simp)
      clear hg
      go_wp2_with fail
      go_ret
      exact ⟨-1, rfl, by have e := FF.out; rw [List.any_map] at e; rw [e]; rfl, HG.out⟩
theorem impl_msAny (ks : List LK) (w : World) (a : Option Addr) (cap : Nat) (h : coSl w a cap ks) (hT : KTbl w) : Calls Tryd.prog 81 #[.slice a ks.length cap, .func (.func 79) #[] #[]] w (BoolGw ((ks.map LK.co).any nerC) w) := by
  have KEY := Lib.hid (impl_msIx ks w a cap h hT)
  clear h hT
  go_enter Tryd.func81, Tryd.ntmps81
  go_wp2_with fail
  refine KEY.out.mono ?_
  rintro e w1 ⟨r, rfl, hr, g1⟩
  have HR := Lib.hid hr
  clear hr
  go_wp2_with fail
  go_ret
  exact ⟨ret_b (by rw [← HR.out]), g1⟩
theorem ms_any {ts : List Co} (h : bkC ts = true) : (ts.any nerC) = !(ts.all fun d => d.all erH) := by
  have hc := (bk_clos h).2
  rw [Bool.eq_iff_iff]
  constructor
  · intro ha
    obtain ⟨d, hd, hn⟩ := List.any_eq_true.1 ha
    unfold nerC at hn
    rw [clos_ok (hc d hd)] at hn
    have : (ts.all fun d => d.all erH) = false := List.all_eq_false.2 ⟨d, hd, by simpa using hn⟩
    rw [this]; rfl
  · intro ha
    have h0 : (ts.all fun d => d.all erH) = false := by simpa using ha
    obtain ⟨d, hd, hn⟩ := List.all_eq_false.1 h0
    exact List.any_eq_true.2 ⟨d, hd, by unfold nerC; rw [clos_ok (hc d hd)]; simpa using hn⟩

/-- A valid book whose definitions are erased. -/
def ebC (ts : List Co) : Bool := bkC ts && ts.all fun d => d.all erH
theorem ms_eb (ts : List Co) (t : Co) : msC ts t = (ebC ts && (closC t && (t.all erH && t.all (refH ts.length)))) := by
  unfold msC ebC
  cases bkC ts <;> cases closC t <;> cases t.all erH <;> cases t.all (refH ts.length) <;> cases (ts.all fun d => d.all erH) <;> rfl
set_option maxRecDepth 100000 in
set_option maxHeartbeats 1000000 in
theorem impl_eb (u : LB) (w : World) (h : bOk w u) (hT : KTbl w) : Calls Tryd.prog 39 #[u.val] w (BoolGw (ebC u.cs) w) := by
  have hl := h.len
  have gA : Gw w (w.alloc (.cells #[.slice u.a u.ks.length u.cap] 39)) := (Gw.refl w).alloc _
  have BB := Lib.hid (BoxB.new w u 39)
  have OB := Lib.hid (h.grow gA)
  have TB := Lib.hid (hT.grow gA)
  have GA := Lib.hid gA
  clear h hT gA
  go_enter Tryd.func39, Tryd.ntmps39
  go_upto_region 2 with (fail)
  generalize (w.alloc (.cells #[.slice u.a u.ks.length u.cap] 39)) = w1 at *
  have p0 := BB.out.c
  have KB0 := impl_validBook u w1 OB.out TB.out
  cases h1 : bkC u.cs with
  | false =>
    rw [h1] at KB0
    have KB := Lib.hid KB0
    have F := Lib.hid (show ebC u.cs = false by unfold ebC; rw [h1]; rfl)
    clear KB0 h1 hl
    go_wp2_with fail
    refine KB.out.mono ?_
    rintro e w2 ⟨rfl, g2⟩
    clear p0
    go_wp2_with fail
    go_ret
    exact ⟨ret_b F.out.symm, GA.out.trans g2⟩
  | true =>
  rw [h1] at KB0
  have KB := Lib.hid KB0
  have H1 := Lib.hid h1
  have F := Lib.hid (show ebC u.cs = (u.cs.all fun d => d.all erH) by unfold ebC; rw [h1]; simp)
  clear KB0 h1
  go_wp2_with fail
  refine KB.out.mono ?_
  rintro e w2 ⟨rfl, g2⟩
  have G2 := Lib.hid g2
  have p1 := (BB.out.grow g2).c
  have KA0 := impl_msAny u.ks w2 u.a u.cap (OB.out.grow g2) (TB.out.grow g2)
  rw [show (u.ks.map LK.co).any nerC = !(u.cs.all fun d => d.all erH) from ms_any H1.out, ← F.out] at KA0
  have KA := Lib.hid KA0
  clear g2 p0 KB KA0
  go_wp2_with fail
  refine KA.out.mono ?_
  rintro e w3 ⟨rfl, g3⟩
  clear p1
  go_wp2_with fail
  go_ret
  exact ⟨ret_b (by simp), GA.out.trans (G2.out.trans g3)⟩

set_option maxRecDepth 100000 in
set_option maxHeartbeats 1000000 in
theorem impl_ms (u : LB) (c : LK) (w : World) (h : bOk w u) (hc : c.Ok w) (hT : KTbl w) : Calls Tryd.prog 52 #[u.val, c.val] w (BoolGw (msC u.cs c.co) w) := by
  have HL := Lib.hid (show u.cs.length = u.ks.length by simp [LB.cs])
  have hl := h.len
  have gA : Gw w ((w.alloc (.cells #[.slice u.a u.ks.length u.cap] 39)).alloc (c.obj 42)) := ((Gw.refl w).alloc _).alloc _
  have BB := Lib.hid ((BoxB.new w u 39).grow ((Gw.refl _).alloc (c.obj 42)))
  have hBK := BoxK.new (w.alloc (.cells #[.slice u.a u.ks.length u.cap] 39)) c 42
  rw [World.size_alloc] at hBK
  have BK := Lib.hid hBK
  have OB := Lib.hid (h.grow gA)
  have OC := Lib.hid (hc.grow gA)
  have TB := Lib.hid (hT.grow gA)
  have GA := Lib.hid gA
  clear h hc hT gA hBK
  go_enter Tryd.func52, Tryd.ntmps52
  go_upto_region 1 with (fail)
  generalize ((w.alloc (.cells #[.slice u.a u.ks.length u.cap] 39)).alloc (.cells #[.int .i64 c.k, .int .i64 c.v, .slice c.da c.ds.length c.dc, .slice c.a c.ks.length c.cap] 42)) = w1 at *
  have p0 := BB.out.c
  have KB0 := impl_eb u w1 OB.out TB.out
  cases h1 : ebC u.cs with
  | false =>
    rw [h1] at KB0
    have KB := Lib.hid KB0
    have F := Lib.hid (show msC u.cs c.co = false by rw [ms_eb, h1]; rfl)
    clear KB0 h1 hl
    go_wp2_with fail
    refine KB.out.mono ?_
    rintro e w2 ⟨rfl, g2⟩
    clear p0
    go_wp2_with fail
    go_ret
    exact ⟨ret_b F.out.symm, GA.out.trans g2⟩
  | true =>
  rw [h1] at KB0
  have KB := Lib.hid KB0
  have H1 := Lib.hid h1
  clear KB0 h1
  go_wp2_with fail
  refine KB.out.mono ?_
  rintro e w3 ⟨rfl, g3⟩
  have G3 := Lib.hid g3
  clear g3 p0 KB
  obtain ⟨c0, c1, c2, c3⟩ := (BK.out.grow G3.out).c
  have KC0 := impl_closed c w3 (OC.out.grow G3.out) (TB.out.grow G3.out)
  cases h3 : closC c.co with
  | false =>
    rw [h3] at KC0
    have KC := Lib.hid KC0
    have F := Lib.hid (show msC u.cs c.co = false by unfold msC; rw [h3]; simp)
    clear KC0 h3
    go_wp2_with fail
    refine KC.out.mono ?_
    rintro e w4 ⟨rfl, g4⟩
    clear c0 c1 c2 c3
    go_wp2_with fail
    go_ret
    exact ⟨ret_b F.out.symm, GA.out.trans (G3.out.trans g4)⟩
  | true =>
  rw [h3] at KC0
  have KC := Lib.hid KC0
  have H3 := Lib.hid h3
  clear KC0 h3
  go_wp2_with fail
  refine KC.out.mono ?_
  rintro e w4 ⟨rfl, g4⟩
  have G4 := Lib.hid (G3.out.trans g4)
  clear g4 KC c0 c1 c2 c3
  obtain ⟨c0, c1, c2, c3⟩ := (BK.out.grow G4.out).c
  have KE0 := impl_erased c w4 (OC.out.grow G4.out) (TB.out.grow G4.out)
  rw [clos_ok H3.out, Bool.true_and] at KE0
  cases h4 : c.co.all erH with
  | false =>
    rw [h4] at KE0
    have KE := Lib.hid KE0
    have F := Lib.hid (show msC u.cs c.co = false by unfold msC; rw [h4]; simp)
    clear KE0 h4
    go_wp2_with fail
    refine KE.out.mono ?_
    rintro e w5 ⟨rfl, g5⟩
    clear c0 c1 c2 c3
    go_wp2_with fail
    go_ret
    exact ⟨ret_b F.out.symm, GA.out.trans (G4.out.trans g5)⟩
  | true =>
  rw [h4] at KE0
  have KE := Lib.hid KE0
  have H4 := Lib.hid h4
  clear KE0 h4
  go_wp2_with fail
  refine KE.out.mono ?_
  rintro e w5 ⟨rfl, g5⟩
  have G5 := Lib.hid (G4.out.trans g5)
  clear g5 KE c0 c1 c2 c3
  have p0 := (BB.out.grow G5.out).c
  have AC := (BK.out.grow G5.out).at (OC.out.grow G5.out)
  have KN := Lib.hid (impl_allNamed c (u.ks.length : Int) w5 _ 0 AC (by have := (okC_good (clos_ok H3.out)).2.1; omega))
  have F := Lib.hid (show msC u.cs c.co = c.co.all (namH (u.ks.length : Int)) by
    rw [ms_eb, H1.out, H3.out, H4.out, HL.out, named_closed H3.out]
    simp)
  clear AC
  go_wp2_with fail
  refine KN.out.mono ?_
  rintro e w6 ⟨rfl, g6⟩
  clear p0
  go_wp2_with fail
  go_ret
  exact ⟨ret_b F.out.symm, GA.out.trans (G5.out.trans g6)⟩

end Go.Proofs.YtkpbiifikkbaeaaDoor.Con
