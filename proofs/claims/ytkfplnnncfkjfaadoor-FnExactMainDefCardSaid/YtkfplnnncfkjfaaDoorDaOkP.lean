/-
  Contract of the program's ValidDatas. No condition but that the declarations lie in memory.
-/
import Derived.Test.YtkfplnnncfkjfaaDoorDaOkS
import Derived.Test.YtkfplnnncfkjfaaDoorDaDec
import Derived.Test.YtkfplnnncfkjfaaDoorStrSet
namespace Go.Proofs.YtkfplnnncfkjfaaDoor.Con
open Go.RowKit
set_option linter.unusedVariables false

/-- A constructor in a block of its own. -/
def CBox (W : World) (b : Nat) (c : LC) : Prop := W.heap[b]? = some (.cells #[.string c.n, .slice c.a c.xs.length c.cap] 131 (0, 0))
theorem CBox.c {W : World} {b : Nat} {c : LC} (h : CBox W b c) : W.cell? ⟨b, 0, none⟩ = some (.string c.n) ∧ W.cell? ⟨b, 1, none⟩ = some (.slice c.a c.xs.length c.cap) :=
  ⟨cell_of_row _ _ 0 _ _ _ h, cell_of_row _ _ 1 _ _ _ h⟩
theorem CBox.lt {W : World} {b : Nat} {c : LC} (h : CBox W b c) : b < W.heap.size := (Array.getElem?_eq_some_iff.1 h).1
theorem CBox.grow {W W' : World} {b : Nat} {c : LC} (h : CBox W b c) (g : Gw W W') : CBox W' b c := (g.block b h.lt).trans h

theorem mk_run (w : World) : (Instr.makeMap 134 none).run Tryd.prog w = .ok (.map (some w.heap.size)) (w.alloc (.map #[] 0)) := by kernel_rfl

/-- The two sets. -/
def Sets (w : World) (B : Nat) (l s : List ByteArray) : Prop := SMap w B l ∧ SMap w (B + 1) s
theorem Sets.grow {w w' : World} {B : Nat} {l s : List ByteArray} (h : Sets w B l s) (g : Gw w w') : Sets w' B l s := ⟨h.1.grow g, h.2.grow g⟩

set_option maxHeartbeats 2000000 in
set_option maxRecDepth 100000 in
theorem impl_ok (ds : List LD) (w : World) (a : Option Addr) (cap : Nat) (h : dsOk w a cap ds) : Calls Tryd.prog 63 #[.slice a ds.length cap] w (BoolGw (datasB (ds.map dty)) w) := by
  have hl : ds.length ≤ 9223372036854775807 := Nat.le_trans h.1 h.2.1
  have hrow := Lib.hid h.2.2
  have HD := Lib.hid h
  clear h
  by_cases h4 : ds.length ≤ 4
  · have HTOT := Lib.hid (show datasB (ds.map dty) = okDs (ds.map LN.n) (ds.map dty) [] [] by unfold datasB; rw [fst_dty]; simp [h4])
    have S0 := Lib.hid (show Sets ((w.alloc (.map #[] 0)).alloc (.map #[] 0)) w.heap.size [] [] from ⟨(SMap.new w).grow ((Gw.refl _).alloc _), by have := SMap.new (w.alloc (.map #[] 0)); rwa [show (w.alloc (.map #[] 0)).heap.size = w.heap.size + 1 from by simp] at this⟩)
    have G0 := Lib.hid (show Gw w ((w.alloc (.map #[] 0)).alloc (.map #[] 0)) from ((Gw.refl w).alloc _).alloc _)
    have mk := mk_run
    go_enter Tryd.func63, Tryd.ntmps63
    go_wp2_with fail
    obtain ⟨B, hBB⟩ : ∃ B, B = w.heap.size := ⟨_, rfl⟩
    rw [← hBB] at S0 ⊢
    have HBB := Lib.hid hBB
    clear hBB
    generalize (w.alloc (.map #[] 0)).alloc (.map #[] 0) = w0 at *
    go_loopw [16] (fun i wr => ∃ (j : Nat) (s : List ByteArray), j ≤ ds.length ∧ i = .int .i64 j ∧ Sets wr B ((ds.map LN.n).take j) s ∧ Gw w wr ∧ datasB (ds.map dty) = okDs (ds.map LN.n) ((ds.map dty).drop j) ((ds.map LN.n).take j) s) (fun i _ => ds.length - (intOf i).toNat)
    case atStart => exact ⟨0, [], by omega, rfl, by simpa using S0.out, G0.out, by simpa using HTOT.out⟩
    case round =>
      obtain ⟨wo, rfl⟩ : ∃ wo : World, wo = wr := ⟨_, rfl⟩
      obtain ⟨j, s, hj, rfl, hst, hb, htot⟩ := hrel
      have TOT := Lib.hid htot
      clear htot
      by_cases hlt : j < ds.length
      · obtain ⟨b, o, ea, hr⟩ := hrow.out.resolve_left (fun e => by subst e; simp at hlt)
        obtain ⟨c0, c1, hdj⟩ := (hr.grow hb (fun _ h => h.grow hb)) j hlt
        subst ea
        have q0 : (0 : Int) ≤ j := by omega
        have q1 : (j : Int) < ds.length := by omega
        have HDW := Lib.hid (hr j hlt).2.2
        have HST := Lib.hid hst
        clear hr hst hdj
        obtain ⟨d, hd⟩ : ∃ d, d = ds[j] := ⟨_, rfl⟩
        rw [← hd] at c0 c1 HDW
        have EQD := Lib.hid hd
        clear hd
        have hnm : d.n.size ≤ 9223372036854775807 := HDW.out.1
        have hll : d.xs.length ≤ 9223372036854775807 := Nat.le_trans HDW.out.2.1 HDW.out.2.2.1
        have FAILH := Lib.hid (show hB ((ds.map LN.n).take j) (dty d) = false → datasB (ds.map dty) = false from fun h => by rw [TOT.out, drop_dty hlt, ← EQD.out]; exact okDs_no h)
        have FAILC := Lib.hid (show okCs (ds.map LN.n) (d.xs.map cty) s = none → datasB (ds.map dty) = false from fun h => by
          cases hh : hB ((ds.map LN.n).take j) (dty d) with
          | false => exact FAILH.out hh
          | true => rw [TOT.out, drop_dty hlt, ← EQD.out]; exact okDs_none h)
        have DB := Lib.hid (show DBox (wo.alloc (.cells #[.string d.n, .slice d.a d.xs.length d.cap] 106)) wo.heap.size d from heap_alloc_new wo _)
        have G1 := Lib.hid ((Gw.refl wo).alloc (.cells #[.string d.n, .slice d.a d.xs.length d.cap] 106))
        go_upto_region 7 with (fail)
        clear c0 c1
        have DNE1 := Lib.hid (show wo.heap.size ≠ B from fun e => by have := HST.out.1.lt; omega)
        generalize wo.alloc (.cells #[.string d.n, .slice d.a d.xs.length d.cap] 106) = w1 at *
        generalize wo.heap.size = D at *
        have HB1 := Lib.hid (hb.trans G1.out)
        have ST1 := Lib.hid (HST.out.grow G1.out)
        clear hb
        obtain ⟨d0, d1⟩ := DB.out.c
        cases hu : dataB d.n with
        | false =>
          have key := impl_dataName d.n hnm w1
          rw [hu] at key
          have KEY := Lib.hid key
          have HU := Lib.hid hu
          clear key hu
          go_wp2_with fail
          refine KEY.out.mono ?_
          rintro e w2 ⟨rfl, hg2⟩
          have HB2 := Lib.hid (HB1.out.trans hg2)
          clear d0 d1 hg2
          go_wp2_with fail
          go_ret
          exact ⟨ret_b (FAILH.out (hB_up (d := dty d) HU.out)).symm, HB2.out⟩
        | true =>
          have key := impl_dataName d.n hnm w1
          rw [hu] at key
          have KEY := Lib.hid key
          have HDA := Lib.hid hu
          clear key hu
          go_wp2_with fail
          refine KEY.out.mono ?_
          rintro e w2 ⟨rfl, hg2⟩
          have HB2 := Lib.hid (HB1.out.trans hg2)
          have DB2 := Lib.hid (DB.out.grow hg2)
          have ST2 := Lib.hid (ST1.out.grow hg2)
          obtain ⟨e0, e1⟩ := DB2.out.c
          have lk := ST2.out.1.look d.n
          clear d0 d1 hg2
          cases hsn : hasB ((ds.map LN.n).take j) d.n with
          | true =>
            rw [hsn] at lk
            have HSN := Lib.hid hsn
            clear hsn
            go_wp2_with fail
            go_ret
            exact ⟨ret_b (FAILH.out (hB_seen (d := dty d) HSN.out)).symm, HB2.out⟩
          | false =>
            rw [hsn] at lk
            have HSN := Lib.hid hsn
            clear hsn
            by_cases hlen : 1 ≤ d.xs.length ∧ d.xs.length ≤ 4
            · have HHB := Lib.hid (show hB ((ds.map LN.n).take j) (dty d) = true from hB_yes (d := dty d) HDA.out HSN.out (by simpa [dty] using hlen))
              obtain ⟨hl1, hl4⟩ := hlen
              have hd1 : ((d.xs.length : Int) == 0) = false := beq_eq_false_iff_ne.2 (by omega)
              have hd4 : decide ((4 : Int) < d.xs.length) = false := decide_eq_false (by omega)
              obtain ⟨w3, hput, hset3, hch3⟩ := ST2.out.1.put HSN.out
              have DB3 := Lib.hid (show DBox w3 D d from (hch3.2.2.2.2 D DB2.out.lt DNE1.out).trans DB2.out)
              have HB3 := Lib.hid (show Gw w w3 from Below.trans HB2.out (hch3.gw (B := w.heap.size) HB2.out.size fun x hx e => by have := HBB.out; omega))
              have ST3 := Lib.hid (show Sets w3 B ((ds.map LN.n).take (j + 1)) s from ⟨by rw [take_nm hlt, ← EQD.out]; exact hset3, ST2.out.2.same (hch3.2.2.2.2 _ ST2.out.2.lt (by omega))⟩)
              obtain ⟨f0, f1⟩ := DB3.out.c
              obtain ⟨b2, o2, ea2, hr2⟩ := HDW.out.2.2.2.resolve_left (fun e => by rw [e] at hl1; simp at hl1)
              rw [ea2] at f1
              have HR2 := Lib.hid hr2
              clear hset3 hch3 ea2 hr2
              go_wp2_with fail
              clear e0 e1 f0 f1 lk hput
              go_loopw [48] (fun i wr => ∃ (k : Nat) (s' : List ByteArray), k ≤ d.xs.length ∧ i = .int .i64 k ∧ Sets wr B ((ds.map LN.n).take (j + 1)) s' ∧ Gw w wr ∧ okCs (ds.map LN.n) (d.xs.map cty) s = okCs (ds.map LN.n) ((d.xs.map cty).drop k) s') (fun i _ => d.xs.length - (intOf i).toNat)
              case atStart => exact ⟨0, s, by omega, rfl, ST3.out, HB3.out, by simp⟩
              case round =>
                obtain ⟨k, s', hk, rfl, hst, hb, htk⟩ := hrel
                have TK := Lib.hid htk
                have HB4 := Lib.hid hb
                have ST4 := Lib.hid hst
                clear htk hb hst
                by_cases hkl : k < d.xs.length
                · obtain ⟨f0, f1, hck⟩ := (HR2.out.grow HB4.out (fun _ h => h.grow HB4.out)) k hkl
                  obtain ⟨c, hc⟩ : ∃ c, c = d.xs[k] := ⟨_, rfl⟩
                  rw [← hc] at f0 f1 hck
                  have EQC := Lib.hid hc
                  have hnc : c.n.size ≤ 9223372036854775807 := hck.1
                  have HCK := Lib.hid hck
                  have p0 : (0 : Int) ≤ k := by omega
                  have p1 : (k : Int) < d.xs.length := by omega
                  have CB := Lib.hid (show CBox (wr.alloc (.cells #[.string c.n, .slice c.a c.xs.length c.cap] 131)) wr.heap.size c from heap_alloc_new wr _)
                  have G5 := Lib.hid ((Gw.refl wr).alloc (.cells #[.string c.n, .slice c.a c.xs.length c.cap] 131))
                  clear hc hck
                  go_upto_region 13 with (fail)
                  clear f0 f1
                  have CNE := Lib.hid (show wr.heap.size ≠ B + 1 from fun e => by have := ST4.out.2.lt; omega)
                  generalize wr.alloc (.cells #[.string c.n, .slice c.a c.xs.length c.cap] 131) = w5 at *
                  have HB5 := Lib.hid (HB4.out.trans G5.out)
                  have ST5 := Lib.hid (ST4.out.grow G5.out)
                  have HCW := Lib.hid (HCK.out.grow G5.out)
                  generalize wr.heap.size = C at *
                  obtain ⟨d0, d1⟩ := CB.out.c
                  cases hu : upperB c.n with
                  | false =>
                    have key := impl_upper c.n hnc w5
                    rw [hu] at key
                    have KEY5 := Lib.hid key
                    have HU := Lib.hid hu
                    clear key hu
                    go_wp2_with fail
                    refine KEY5.out.mono ?_
                    rintro e w6 ⟨rfl, hg6⟩
                    have HB6 := Lib.hid (HB5.out.trans hg6)
                    clear d0 d1 hg6
                    go_wp2_with fail
                    go_ret
                    exact ⟨ret_b (FAILC.out (by rw [TK.out, drop_cty hkl, ← EQC.out]; exact okCs_no1 (cB_up (c := cty c) HU.out))).symm, HB6.out⟩
                  | true =>
                    have key := impl_upper c.n hnc w5
                    rw [hu] at key
                    have KEY5 := Lib.hid key
                    have HU := Lib.hid hu
                    clear key hu
                    go_wp2_with fail
                    refine KEY5.out.mono ?_
                    rintro e w6 ⟨rfl, hg6⟩
                    have HB6 := Lib.hid (HB5.out.trans hg6)
                    have CB6 := Lib.hid (CB.out.grow hg6)
                    have ST6 := Lib.hid (ST5.out.grow hg6)
                    have HCW6 := Lib.hid (HCW.out.grow hg6)
                    obtain ⟨d0, d1⟩ := CB6.out.c
                    have lk := ST6.out.2.look c.n
                    clear hg6
                    cases hsn : hasB s' c.n with
                    | true =>
                      rw [hsn] at lk
                      have HSN2 := Lib.hid hsn
                      clear hsn
                      go_wp2_with fail
                      go_ret
                      exact ⟨ret_b (FAILC.out (by rw [TK.out, drop_cty hkl, ← EQC.out]; exact okCs_no2 (c := cty c) HSN2.out)).symm, HB6.out⟩
                    | false =>
                      rw [hsn] at lk
                      have HSN2 := Lib.hid hsn
                      clear hsn
                      have key := impl_fields ds c.xs w6 _ c.a cap c.cap (dsOk.grow HD.out HB6.out) HCW6.out.2
                      cases hf : fsB (ds.map LN.n) (c.xs.map LT.ty) with
                      | false =>
                        rw [hf] at key
                        have KEYF := Lib.hid key
                        have CF := Lib.hid (show cB (ds.map LN.n) (cty c) = false from cB_eq (c := cty c) HU.out hf)
                        clear key hf
                        go_wp2_with fail
                        refine KEYF.out.mono ?_
                        rintro e w7 ⟨rfl, hg7⟩
                        have HB7 := Lib.hid (HB6.out.trans hg7)
                        clear d0 d1 hg7 lk
                        go_wp2_with fail
                        go_ret
                        exact ⟨ret_b (FAILC.out (by rw [TK.out, drop_cty hkl, ← EQC.out]; exact okCs_no1 CF.out)).symm, HB7.out⟩
                      | true =>
                        rw [hf] at key
                        have KEYF := Lib.hid key
                        have CF := Lib.hid (show cB (ds.map LN.n) (cty c) = true from cB_eq (c := cty c) HU.out hf)
                        clear key hf
                        go_wp2_with fail
                        refine KEYF.out.mono ?_
                        rintro e w7 ⟨rfl, hg7⟩
                        have HB7 := Lib.hid (HB6.out.trans hg7)
                        have CB7 := Lib.hid (CB6.out.grow hg7)
                        have ST7 := Lib.hid (ST6.out.grow hg7)
                        clear d0 d1 hg7 lk
                        obtain ⟨d0, d1⟩ := CB7.out.c
                        obtain ⟨w8, hput, hset8, hch8⟩ := ST7.out.2.put HSN2.out
                        have HB8 := Lib.hid (show Gw w w8 from Below.trans HB7.out (hch8.gw (B := w.heap.size) HB7.out.size fun x hx e => by have := HBB.out; omega))
                        have ST8 := Lib.hid (show Sets w8 B ((ds.map LN.n).take (j + 1)) (s' ++ [c.n]) from ⟨ST7.out.1.same (hch8.2.2.2.2 _ ST7.out.1.lt (by omega)), hset8⟩)
                        have TK8 := Lib.hid (show okCs (ds.map LN.n) (d.xs.map cty) s = okCs (ds.map LN.n) ((d.xs.map cty).drop (k + 1)) (s' ++ [c.n]) from by
                          rw [TK.out, drop_cty hkl, ← EQC.out, okCs_yes (c := cty c) CF.out HSN2.out]; rfl)
                        clear hset8 hch8
                        go_wp2_with fail
                        clear d0 d1 hput
                        go_roundw
                        case rel => exact ⟨k + 1, s' ++ [c.n], by omega, by go_num, ST8.out, HB8.out, TK8.out⟩
                        case measure => simp [intOf]; omega
                · obtain rfl : k = d.xs.length := by omega
                  have TE := Lib.hid (show okCs (ds.map LN.n) (dty d).2 s = some s' by rw [show (dty d).2 = d.xs.map cty from rfl, TK.out, List.drop_eq_nil_of_le (by simp)]; rfl)
                  go_wp2_with fail
                  go_roundw
                  case rel => exact ⟨j + 1, s', by omega, by go_num, ST4.out, HB4.out, by rw [TOT.out, drop_dty hlt, okDs_yes (t := s') (by rw [← EQD.out]; exact HHB.out) (by rw [← EQD.out]; exact TE.out), take_nm hlt]⟩
                  case measure => simp [intOf]; omega
            · have HLN := Lib.hid hlen
              by_cases hl1 : 1 ≤ d.xs.length
              · have hd1 : ((d.xs.length : Int) == 0) = false := beq_eq_false_iff_ne.2 (by omega)
                have hd4 : decide ((4 : Int) < d.xs.length) = true := decide_eq_true (by omega)
                clear hlen
                go_wp2_with fail
                go_ret
                exact ⟨ret_b (FAILH.out (hB_len (d := dty d) (by simpa [dty] using HLN.out))).symm, HB2.out⟩
              · have hd1 : ((d.xs.length : Int) == 0) = true := beq_iff_eq.2 (by omega)
                clear hlen
                go_wp2_with fail
                go_ret
                exact ⟨ret_b (FAILH.out (hB_len (d := dty d) (by simpa [dty] using HLN.out))).symm, HB2.out⟩
      · obtain rfl : j = ds.length := by omega
        have HB := Lib.hid hb
        clear hb
        go_wp2_with fail
        go_ret
        exact ⟨ret_b (by rw [TOT.out, List.drop_eq_nil_of_le (by simp)]; rfl), HB.out⟩
  · have HL := Lib.hid (show datasB (ds.map dty) = false by unfold datasB; simp [h4])
    go_enter Tryd.func63, Tryd.ntmps63
    go_wp2_with fail
    go_ret
    exact ⟨ret_b HL.out.symm, Gw.refl _⟩

end Go.Proofs.YtkfplnnncfkjfaaDoor.Con
