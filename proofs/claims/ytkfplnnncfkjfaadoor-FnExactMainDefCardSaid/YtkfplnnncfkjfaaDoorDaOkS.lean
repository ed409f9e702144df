/-
  Contract of the model's l02Ok: declarations are valid together. No condition but that they lie in memory.
-/
import Derived.Test.YtkfplnnncfkjfaaDoorDaVal
import Derived.Test.YtkfplnnncfkjfaaDoorTyStk
import Derived.Laws.IdiomStrings
import Derived.BigQuiet
import Derived.Deep.Cut
namespace Go.Proofs.YtkfplnnncfkjfaaDoor.Con
open Go.RowKit
set_option linter.unusedVariables false

/-- A datum in a block of its own. -/
def DBox (W : World) (b : Nat) (d : LD) : Prop := W.heap[b]? = some (.cells #[.string d.n, .slice d.a d.xs.length d.cap] 106 (0, 0))
theorem DBox.c {W : World} {b : Nat} {d : LD} (h : DBox W b d) : W.cell? ⟨b, 0, none⟩ = some (.string d.n) ∧ W.cell? ⟨b, 1, none⟩ = some (.slice d.a d.xs.length d.cap) :=
  ⟨cell_of_row _ _ 0 _ _ _ h, cell_of_row _ _ 1 _ _ _ h⟩
theorem DBox.lt {W : World} {b : Nat} {d : LD} (h : DBox W b d) : b < W.heap.size := (Array.getElem?_eq_some_iff.1 h).1
theorem DBox.grow {W W' : World} {b : Nat} {d : LD} (h : DBox W b d) (g : Gw W W') : DBox W' b d := (g.block b h.lt).trans h

theorem hB_up {dn : List ByteArray} {d : DD} (h : dataB d.1 = false) : hB dn d = false := by unfold hB; rw [h]; rfl
theorem hB_seen {dn : List ByteArray} {d : DD} (h : hasB dn d.1 = true) : hB dn d = false := by unfold hB; rw [h]; simp
theorem hB_len {dn : List ByteArray} {d : DD} (h : ¬ (1 ≤ d.2.length ∧ d.2.length ≤ 4)) : hB dn d = false := by
  unfold hB; rw [Bool.eq_false_iff]; intro k; simp at k; exact h ⟨k.1.2, k.2⟩
theorem hB_yes {dn : List ByteArray} {d : DD} (h1 : dataB d.1 = true) (h2 : hasB dn d.1 = false) (h3 : 1 ≤ d.2.length ∧ d.2.length ≤ 4) : hB dn d = true := by
  unfold hB; rw [h1, h2]; simp [h3]
theorem okDs_no {ns : List ByteArray} {d : DD} {ds : List DD} {dn s : List ByteArray} (h : hB dn d = false) : okDs ns (d :: ds) dn s = false := by simp [okDs, h]
theorem okDs_none {ns : List ByteArray} {d : DD} {ds : List DD} {dn s : List ByteArray} (h : okCs ns d.2 s = none) : okDs ns (d :: ds) dn s = false := by simp [okDs, h]
theorem okDs_yes {ns : List ByteArray} {d : DD} {ds : List DD} {dn s t : List ByteArray} (h : hB dn d = true) (h2 : okCs ns d.2 s = some t) : okDs ns (d :: ds) dn s = okDs ns ds (dn ++ [d.1]) t := by simp [okDs, h, h2]

theorem drop_dty {ds : List LD} {j : Nat} (h : j < ds.length) : (ds.map dty).drop j = dty ds[j] :: (ds.map dty).drop (j + 1) := by
  rw [List.drop_eq_getElem_cons (by simpa using h)]; simp
theorem drop_cty {cs : List LC} {j : Nat} (h : j < cs.length) : (cs.map cty).drop j = cty cs[j] :: (cs.map cty).drop (j + 1) := by
  rw [List.drop_eq_getElem_cons (by simpa using h)]; simp
theorem take_nm {ds : List LD} {j : Nat} (h : j < ds.length) : (ds.map LN.n).take (j + 1) = (ds.map LN.n).take j ++ [(dty ds[j]).1] := by
  rw [List.take_succ_eq_append_getElem (by simpa using h)]; simp [dty]

/-- The name of a datum comes up before, if and only if its first place is another. -/
theorem ix_before {ds : List LD} {j : Nat} (hj : j < ds.length) {r : Int} (h : IsIx ds[j].n (ds.map LN.n) r) : (r != (j : Int)) = hasB ((ds.map LN.n).take j) ds[j].n := by
  have hjm : (ds.map LN.n)[j]? = some ds[j].n := by rw [List.getElem?_map, List.getElem?_eq_getElem hj]; rfl
  rcases h with ⟨i, rfl, h1, h2⟩ | ⟨rfl, h1⟩
  · by_cases e : i = j
    · subst e
      have : hasB ((ds.map LN.n).take i) ds[i].n = false := hasB_false.2 fun hm => by
        obtain ⟨q, hq, e⟩ := List.mem_take_iff_getElem.1 hm
        exact h2 q (by omega) (by rw [← e]; exact List.getElem?_eq_getElem _)
      rw [this]; simp
    · have hlt : i < j := Nat.lt_of_le_of_ne (Nat.le_of_not_lt fun hh => h2 j hh hjm) e
      have : hasB ((ds.map LN.n).take j) ds[j].n = true := hasB_iff.2 (List.mem_take_iff_getElem.2 ⟨i, by have := (List.getElem?_eq_some_iff.1 h1).1; omega, (List.getElem?_eq_some_iff.1 h1).2⟩)
      rw [this]; simp; omega
  · exact absurd hjm (h1 j)

theorem strs_map_snoc (s : List ByteArray) (n : ByteArray) : (s ++ [n]).map Value.string = s.map Value.string ++ [.string n] := by simp

def Own (w : World) (B : Nat) (v : Value) (s : List ByteArray) : Prop := w.ownsRow B 9 1 v s.length (s.map Value.string)
theorem Own.grow {w w' : World} {B : Nat} {v : Value} {s : List ByteArray} (h : Own w B v s) (g : Gw w w') : Own w' B v s := by
  obtain ⟨hl, h⟩ := h
  refine ⟨hl, ?_⟩
  rcases h with h | ⟨b, cap, cur, rfl, hb, hg, hr⟩
  · exact .inl h
  · exact .inr ⟨b, cap, cur, rfl, hb, (g.block b (Array.getElem?_eq_some_iff.1 hg).1).trans hg, hr⟩
theorem Own.form {w : World} {B : Nat} {v : Value} {s : List ByteArray} (h : Own w B v s) : ∃ a c, v = .slice a s.length c := by
  rcases h.2 with ⟨rfl, h0⟩ | ⟨b, cap, cur, rfl, _⟩
  · exact ⟨none, 0, by rw [h0]⟩
  · exact ⟨_, _, rfl⟩
theorem Own.cell {w : World} {B : Nat} {a : Option Addr} {c : Nat} {s : List ByteArray} (h : Own w B (.slice a s.length c) s) (j : Nat) (hj : j < s.length) : ∃ b, a = some ⟨b, 0, none⟩ ∧ w.cell? ⟨b, j, none⟩ = some (.string s[j]) ∧ s.length ≤ c ∧ c ≤ maxLen := by
  rcases h.2 with ⟨_, h0⟩ | ⟨b, cap, cur, hv, hb, hg, hc, hm, _⟩
  · omega
  · injection hv with h1 _ h3
    subst h1 h3
    exact ⟨b, rfl, by rw [World.ownsRow.cellAt h j (by omega)]; simp [hj], hc, hm⟩
theorem one_newS {w : World} {x : Value} {t : TypeId} (j : Nat) (u : Value) (h : [x][j]? = some u) : (w.alloc (.cells #[x] t)).cell? ((⟨w.heap.size, 0, none⟩ : Addr).add j) = some u := by
  match j, h with
  | 0, h => simp at h; subst h; simp [Addr.add]
  | (j + 1), h => simp at h
theorem Own.app {w : World} {B m : Nat} {v : Value} {s : List ByteArray} {xs : List Value} (h : w.ownsRow B 9 1 v m xs) (hx : xs = s.map Value.string) (hn : m = s.length) : Own w B v s := by
  subst hx; subst hn; exact h

set_option maxHeartbeats 2000000 in
set_option maxRecDepth 100000 in
theorem spec_ok (ds : List LD) (w : World) (a : Option Addr) (cap : Nat) (h : dsOk w a cap ds) : Calls Tryd.prog 57 #[.slice a ds.length cap] w (BoolGw (datasB (ds.map dty)) w) := by
  obtain ⟨i0, hi, hz0, hz1, hz2⟩ := info_parts (P := Tryd.prog) (e := 9) (z := .string ⟨#[]⟩) (size := 1) (bytes := 16) (by kernel_rfl)
  have HI := Lib.hid hi
  have HZ0 := Lib.hid hz0
  have HZ1 := Lib.hid hz1
  have HZ2 := Lib.hid hz2
  have hl : ds.length ≤ 9223372036854775807 := Nat.le_trans h.1 h.2.1
  have hrow := Lib.hid h.2.2
  have HD := Lib.hid h
  have HMADE := Lib.hid (World.ownsRow_made (base := w.heap.size) (e := 9) (size := 1) w #[] 0 (Nat.le_refl _) (Nat.zero_le _) rfl)
  clear hi hz0 hz1 hz2 h
  by_cases h4 : ds.length ≤ 4
  · have HTOT := Lib.hid (show datasB (ds.map dty) = okDs (ds.map LN.n) (ds.map dty) [] [] by unfold datasB; rw [fst_dty]; simp [h4])
    go_enter Tryd.func57, Tryd.ntmps57
    go_wp2_with fail
    go_loopw [3, 4] (fun v i wr => ∃ (j : Nat) (s : List ByteArray), j ≤ ds.length ∧ i = .int .i64 j ∧ Own wr w.heap.size v s ∧ Below w.heap.size w wr ∧ s.length ≤ 4 * j ∧ datasB (ds.map dty) = okDs (ds.map LN.n) ((ds.map dty).drop j) ((ds.map LN.n).take j) s) (fun _ i _ => ds.length - (intOf i).toNat)
    case atStart => exact ⟨0, [], by omega, rfl, HMADE.out, (Below.refl _ _).alloc (Nat.le_refl _) _, by simp, by simpa using HTOT.out⟩
    case round =>
      obtain ⟨wo, rfl⟩ : ∃ wo : World, wo = wr := ⟨_, rfl⟩
      obtain ⟨j, s, hj, rfl, hown, hb, hs, htot⟩ := hrel
      have TOT := Lib.hid htot
      clear htot
      by_cases hlt : j < ds.length
      · obtain ⟨b, o, ea, hr⟩ := hrow.out.resolve_left (fun e => by subst e; simp at hlt)
        obtain ⟨c0, c1, hdj⟩ := (hr.grow hb (fun _ h => h.grow hb)) j hlt
        subst ea
        have q0 : (0 : Int) ≤ j := by omega
        have q1 : (j : Int) < ds.length := by omega
        have HDJ := Lib.hid hdj
        have HDW := Lib.hid (hr j hlt).2.2
        have HOWN := Lib.hid hown
        clear hr hdj hown
        obtain ⟨d, hd⟩ : ∃ d, d = ds[j] := ⟨_, rfl⟩
        rw [← hd] at c0 c1 HDJ HDW
        have EQD := Lib.hid hd
        clear hd
        have hnm : d.n.size ≤ 9223372036854775807 := HDJ.out.1
        have FAILH := Lib.hid (show hB ((ds.map LN.n).take j) (dty d) = false → datasB (ds.map dty) = false from fun h => by rw [TOT.out, drop_dty hlt, ← EQD.out]; exact okDs_no h)
        have FAILC := Lib.hid (show okCs (ds.map LN.n) (d.xs.map cty) s = none → datasB (ds.map dty) = false from fun h => by
          cases hh : hB ((ds.map LN.n).take j) (dty d) with
          | false => exact FAILH.out hh
          | true => rw [TOT.out, drop_dty hlt, ← EQD.out]; exact okDs_none h)
        have DB := Lib.hid (show DBox (wo.alloc (.cells #[.string d.n, .slice d.a d.xs.length d.cap] 106)) wo.heap.size d from heap_alloc_new wo _)
        have G1 := Lib.hid ((Gw.refl wo).alloc (.cells #[.string d.n, .slice d.a d.xs.length d.cap] 106))
        have SZ := Lib.hid hb.size
        go_upto_region 8 with (fail)
        clear c0 c1
        generalize wo.alloc (.cells #[.string d.n, .slice d.a d.xs.length d.cap] 106) = w1 at *
        have HB1 := Lib.hid (Below.trans hb (G1.out.mono SZ.out))
        have HB := Lib.hid hb
        clear hb
        obtain ⟨d0, d1⟩ := DB.out.c
        cases hu : upperB d.n with
        | false =>
          have key := spec_upper d.n hnm w1
          rw [hu] at key
          have KEY := Lib.hid key
          have HU := Lib.hid hu
          clear key hu
          go_wp2_with fail
          refine KEY.out.mono ?_
          rintro e w2 ⟨rfl, hg2⟩
          have HB2 := Lib.hid (Below.trans HB1.out (hg2.mono HB1.out.size))
          clear d0 d1 hg2
          go_wp2_with fail
          go_ret
          exact ⟨ret_b (FAILH.out (hB_up (by unfold dataB; rw [show upperB (dty d).1 = false from HU.out]; rfl))).symm, HB2.out⟩
        | true =>
          have key := spec_upper d.n hnm w1
          rw [hu] at key
          have KEY := Lib.hid key
          have HU := Lib.hid hu
          clear key hu
          cases hI : (d.n.toList == [73, 110, 116]) with
          | true =>
            have HIN := Lib.hid hI
            go_wp2_with fail
            refine KEY.out.mono ?_
            rintro e w2 ⟨rfl, hg2⟩
            have HB2 := Lib.hid (Below.trans HB1.out (hg2.mono HB1.out.size))
            obtain ⟨e0, e1⟩ := (DB.out.grow hg2).c
            clear d0 d1 hg2
            go_wp2_with fail
            go_ret
            exact ⟨ret_b (FAILH.out (hB_up (by unfold dataB; rw [show ((dty d).1.toList == [73, 110, 116]) = true from HIN.out]; simp))).symm, HB2.out⟩
          | false =>
            have HDA := Lib.hid (show dataB d.n = true by unfold dataB; rw [HU.out, hI]; rfl)
            go_wp2_with fail
            refine KEY.out.mono ?_
            rintro e w2 ⟨rfl, hg2⟩
            have HB2 := Lib.hid (Below.trans HB1.out (hg2.mono HB1.out.size))
            have DB2 := Lib.hid (DB.out.grow hg2)
            have GW2 := Lib.hid (G1.out.trans hg2)
            obtain ⟨e0, e1⟩ := DB2.out.c
            clear d0 d1 hg2
            have key := spec_named ds w2 _ cap d.n (dsOk.grow HD.out HB2.out)
            have KEY2 := Lib.hid key
            clear key
            go_wp2_with fail
            refine KEY2.out.mono ?_
            rintro e w3 ⟨r, rfl, hr, hg3⟩
            rw [EQD.out] at hr
            have hbf := ix_before hlt hr
            rw [← EQD.out] at hbf
            have HB3 := Lib.hid (Below.trans HB2.out (hg3.mono HB2.out.size))
            have DB3 := Lib.hid (DB2.out.grow hg3)
            have GW3 := Lib.hid (GW2.out.trans hg3)
            clear e0 e1 hr hg3
            obtain ⟨e0, e1⟩ := DB3.out.c
            have hll : d.xs.length ≤ 9223372036854775807 := Nat.le_trans HDJ.out.2.1 HDJ.out.2.2.1
            cases hsn : hasB ((ds.map LN.n).take j) d.n with
            | true =>
              rw [hsn] at hbf
              have HSN := Lib.hid hsn
              clear hsn
              go_wp2_with fail
              go_ret
              exact ⟨ret_b (FAILH.out (hB_seen (d := dty d) HSN.out)).symm, HB3.out⟩
            | false =>
              rw [hsn] at hbf
              have HSN := Lib.hid hsn
              clear hsn
              by_cases hlen : 1 ≤ d.xs.length ∧ d.xs.length ≤ 4
              · have HHB := Lib.hid (show hB ((ds.map LN.n).take j) (dty d) = true from hB_yes (d := dty d) HDA.out HSN.out (by simpa [dty] using hlen))
                obtain ⟨hl1, hl4⟩ := hlen
                have hd1 : decide ((d.xs.length : Int) < 1) = false := decide_eq_false (by omega)
                have hd4 : decide ((4 : Int) < d.xs.length) = false := decide_eq_false (by omega)
                go_wp2_with fail
                clear e0 e1
                go_loopw [3, 6] (fun v i w4 => ∃ (k : Nat) (s' : List ByteArray), k ≤ d.xs.length ∧ i = .int .i64 k ∧ Own w4 w.heap.size v s' ∧ Below w.heap.size w w4 ∧ DBox w4 wo.heap.size d ∧ s'.length ≤ 4 * j + k ∧ okCs (ds.map LN.n) (d.xs.map cty) s = okCs (ds.map LN.n) ((d.xs.map cty).drop k) s') (fun _ i _ => d.xs.length - (intOf i).toNat)
                case atStart => exact ⟨0, s, by omega, rfl, HOWN.out.grow GW3.out, HB3.out, DB3.out, by omega, by simp⟩
                case round =>
                  obtain ⟨k, s', hk, rfl, hown, hb, hdb, hs', htk⟩ := hrel
                  have TK := Lib.hid htk
                  have HB4 := Lib.hid hb
                  have DB4 := Lib.hid hdb
                  obtain ⟨av, cv, rfl⟩ := hown.form
                  have HOWN4 := Lib.hid hown
                  obtain ⟨e0, e1⟩ := hdb.c
                  clear htk hb hdb hown
                  by_cases hkl : k < d.xs.length
                  · have hcs := (HDW.out.grow HB4.out).2
                    obtain ⟨b2, o2, ea2, hr2⟩ := hcs.2.2.resolve_left (fun e => by rw [e] at hkl; simp at hkl)
                    obtain ⟨f0, f1, hck⟩ := hr2 k hkl
                    have E2 := Lib.hid ea2
                    rw [ea2] at e1
                    obtain ⟨c, hc⟩ : ∃ c, c = d.xs[k] := ⟨_, rfl⟩
                    rw [← hc] at f0 f1 hck
                    have EQC := Lib.hid hc
                    have key := spec_cons ds c wr _ cap (dsOk.grow HD.out HB4.out) hck
                    have F0 := Lib.hid f0
                    have E1 := Lib.hid e1
                    have p0 : (0 : Int) ≤ k := by omega
                    have p1 : (k : Int) < d.xs.length := by omega
                    clear hcs hr2 ea2 hc hck
                    cases hcb : cB (ds.map LN.n) (cty c) with
                    | false =>
                      rw [hcb] at key
                      have KEYC := Lib.hid key
                      have CB := Lib.hid hcb
                      clear key hcb
                      go_wp2_with fail
                      refine KEYC.out.mono ?_
                      rintro e w5 ⟨rfl, hg5⟩
                      clear e0 e1 f0 f1
                      go_wp2_with fail
                      go_ret
                      exact ⟨ret_b (FAILC.out (by rw [TK.out, drop_cty hkl, ← EQC.out]; exact okCs_no1 CB.out)).symm, Below.trans HB4.out (hg5.mono HB4.out.size)⟩
                    | true =>
                      rw [hcb] at key
                      have KEYC := Lib.hid key
                      have CB := Lib.hid hcb
                      clear key hcb
                      go_wp2_with fail
                      refine KEYC.out.mono ?_
                      rintro e w5 ⟨rfl, hg5⟩
                      have HB5 := Lib.hid (Below.trans HB4.out (hg5.mono HB4.out.size))
                      have DB5 := Lib.hid (DB4.out.grow hg5)
                      have HOWN5 := Lib.hid (HOWN4.out.grow hg5)
                      have F5 := Lib.hid (hg5.cell F0.out (cell_lt F0.out))
                      clear e0 e1 f0 f1 hg5
                      go_wp2_with fail
                      go_loopw [7] (fun i w6 => ∃ m : Nat, m ≤ s'.length ∧ i = .int .i64 m ∧ Gw w5 w6 ∧ ∀ x (hx : x < s'.length), x < m → s'[x] ≠ c.n) (fun i _ => s'.length - (intOf i).toNat)
                      case atStart => exact ⟨0, by omega, rfl, Gw.refl _, fun x _ h => absurd h (by omega)⟩
                      case round =>
                        obtain ⟨m, hm, rfl, hg6, hall⟩ := hrel
                        have HB6 := Lib.hid (Below.trans HB5.out (hg6.mono HB5.out.size))
                        have DB6 := Lib.hid (DB5.out.grow hg6)
                        have F6 := Lib.hid (hg6.cell F5.out (cell_lt F5.out))
                        have HOWN6 := Lib.hid (HOWN5.out.grow hg6)
                        have HG6 := Lib.hid hg6
                        clear hg6
                        have HALL := Lib.hid hall
                        clear hall
                        obtain ⟨e0, e1⟩ := DB6.out.c
                        have f0 := F6.out
                        rw [E2.out] at e1
                        by_cases hml : m < s'.length
                        · obtain ⟨bv, rfl, g0, hsc, hcm⟩ := HOWN6.out.cell m hml
                          have r0 : (0 : Int) ≤ m := by omega
                          have r1 : (m : Int) < s'.length := by omega
                          unfold maxLen at hcm
                          by_cases he : s'[m] = c.n
                          · have hd : (s'[m].toList == c.n.toList) = true := by rw [he]; simp
                            have HE := Lib.hid (show c.n ∈ s' from he ▸ List.getElem_mem hml)
                            clear he
                            go_wp2_with (go_quiet (fail))
                            go_ret
                            exact ⟨ret_b (FAILC.out (by rw [TK.out, drop_cty hkl, ← EQC.out]; exact okCs_no2 (hasB_iff.2 HE.out))).symm, HB6.out.trans ((Gw.refl _).drewN _ |>.mono HB6.out.size)⟩
                          · have hd := toList_ne he
                            have HE := Lib.hid he
                            clear he
                            go_wp2_with (go_quiet (fail))
                            go_roundw
                            case rel =>
                              refine ⟨m + 1, by omega, by go_num, HG6.out.drewN _, fun x hx hi => ?_⟩
                              by_cases e : x = m
                              · subst e; exact HE.out
                              · exact HALL.out x hx (by omega)
                            case measure => simp [intOf]; omega
                        · obtain rfl : m = s'.length := by omega
                          have HNO := Lib.hid (show hasB s' c.n = false from hasB_false.2 fun hm => by
                            obtain ⟨x, hx, e⟩ := List.mem_iff_getElem.1 hm
                            exact HALL.out x hx hx e)
                          have hown6 := HOWN6.out
                          go_wp2_with (at_builtin; refine wpList_append_own _ rfl _ _ 39 rfl (w.heap.size) 9 i0 (.string ⟨#[]⟩) 1 16 Tryd.underlying39 HI.out HZ0.out HZ1.out HZ2.out rfl (by decide) _ _ _ rfl (World.ownsRow.alloc hown6 _) ⟨wr.heap.size, 0, none⟩ 1 1 [.string c.n] rfl rfl one_newS (fun u hu => by simp at hu; subst hu; rfl) (by unfold maxLen; omega) (by omega) (by have := HB6.out.size; simp; omega) ?_)
                          intro v' w7 hown7 hgrow _
                          have OWN7 := Lib.hid (show Own w7 w.heap.size v' (s' ++ [c.n]) from Own.app hown7 (strs_map_snoc _ _).symm (by simp))
                          have HB7 := Lib.hid ((HB6.out.alloc HB6.out.size _).grown hgrow (by have := HB6.out.size; simp; omega) (fun j hj => (hown6.lt j hj).1))
                          have DB7 := Lib.hid (show DBox w7 wo.heap.size d from (hgrow.block _ (Nat.lt_of_lt_of_le DB6.out.lt (by simp)) (fun e => own_ne hown6 DB6.out (by decide) e.symm)).trans ((Below.heap_alloc _ _ _ DB6.out.lt).trans DB6.out))
                          have TK7 := Lib.hid (show okCs (ds.map LN.n) (d.xs.map cty) s = okCs (ds.map LN.n) ((d.xs.map cty).drop (k + 1)) (s' ++ [c.n]) from by
                            rw [TK.out, drop_cty hkl, ← EQC.out, okCs_yes (c := cty c) CB.out HNO.out]; rfl)
                          clear e0 e1 f0 hown6 hown7 hgrow
                          go_wp2_with fail
                          go_roundw
                          case rel => exact ⟨k + 1, s' ++ [c.n], by omega, by go_num, OWN7.out, HB7.out, DB7.out, by simp; omega, TK7.out⟩
                          case measure => simp [intOf]; omega
                  · obtain rfl : k = d.xs.length := by omega
                    have TE := Lib.hid (show okCs (ds.map LN.n) (dty d).2 s = some s' by rw [show (dty d).2 = d.xs.map cty from rfl, TK.out, List.drop_eq_nil_of_le (by simp)]; rfl)
                    go_wp2_with fail
                    clear e0 e1
                    go_roundw
                    case rel => exact ⟨j + 1, s', by omega, by go_num, HOWN4.out, HB4.out, by omega, by rw [TOT.out, drop_dty hlt, okDs_yes (t := s') (by rw [← EQD.out]; exact HHB.out) (by rw [← EQD.out]; exact TE.out), take_nm hlt]⟩
                    case measure => simp [intOf]; omega
              · have HLN := Lib.hid hlen
                by_cases hl1 : 1 ≤ d.xs.length
                · have hd1 : decide ((d.xs.length : Int) < 1) = false := decide_eq_false (by omega)
                  have hd4 : decide ((4 : Int) < d.xs.length) = true := decide_eq_true (by omega)
                  clear hlen
                  go_wp2_with fail
                  go_ret
                  exact ⟨ret_b (FAILH.out (hB_len (d := dty d) (by simpa [dty] using HLN.out))).symm, HB3.out⟩
                · have hd1 : decide ((d.xs.length : Int) < 1) = true := decide_eq_true (by omega)
                  clear hlen
                  go_wp2_with fail
                  go_ret
                  exact ⟨ret_b (FAILH.out (hB_len (d := dty d) (by simpa [dty] using HLN.out))).symm, HB3.out⟩
      · obtain rfl : j = ds.length := by omega
        have HB := Lib.hid hb
        clear hb
        go_wp2_with fail
        go_ret
        exact ⟨ret_b (by rw [TOT.out, List.drop_eq_nil_of_le (by simp)]; rfl), HB.out⟩
  · have HL := Lib.hid (show datasB (ds.map dty) = false by unfold datasB; simp [h4])
    go_enter Tryd.func57, Tryd.ntmps57
    go_wp2_with fail
    go_ret
    exact ⟨ret_b HL.out.symm, Gw.refl _⟩

end Go.Proofs.YtkfplnnncfkjfaaDoor.Con
