/-
  The program's table of forms, and contracts of fitsName, fitsType, fitsNames, hasForm. Condition: the table reads as the program's text lays it, and the term lies in memory.
  Contracts of slices.Contains on texts, of fitsNames and hasForm of the program. Condition: the table reads as the program's text lays it, and the term lies in memory.
  Contracts of the program's TermSize and ValidTerm. Condition: the table of forms reads as the program's text lays it, and the term lies in memory.
-/
import Derived.Test.YtkfplnnncfkjfaaDoorTmNds
import Derived.Test.YtkfplnnncfkjfaaDoorTyValid
import Derived.LaidMore
import Derived.Test.YtkfplnnncfkjfaaDoorTm
import Derived.Deep.Cut
namespace Go.Proofs.YtkfplnnncfkjfaaDoor.Con
open Go.RowKit
set_option linter.unusedVariables false

structure FM where
  lo : Int
  hi : Int
  nm : Int
  ty : Bool
  mn : Int
  kl : Int
  kh : Int
instance : Inhabited FM := ⟨⟨0, 0, 0, false, 0, 0, 0⟩⟩
abbrev FM.val (f : FM) : Value := .agg #[.int .i64 f.lo, .int .i64 f.hi, .int .i64 f.nm, .bool f.ty, .int .i64 f.mn, .int .i64 f.kl, .int .i64 f.kh]
def FM.cells (f : FM) : List Value := [.int .i64 f.lo, .int .i64 f.hi, .int .i64 f.nm, .bool f.ty, .int .i64 f.mn, .int .i64 f.kl, .int .i64 f.kh]
def FM.dat {H : Type} (f : FM) : DataW H := .agg [.lit (.int .i64 f.lo), .lit (.int .i64 f.hi), .lit (.int .i64 f.nm), .lit (.bool f.ty), .lit (.int .i64 f.mn), .lit (.int .i64 f.kl), .lit (.int .i64 f.kh)]
def fmL : List FM := [⟨0, 0, 0, false, 0, 0, 0⟩, ⟨0, 0, 1, false, 0, 0, 0⟩, ⟨(-2147483648), 2147483647, 0, false, 0, 0, 0⟩, ⟨1, 6, 0, false, 0, 2, 2⟩, ⟨0, 0, 1, true, 0, 1, 1⟩, ⟨0, 0, 0, false, 0, 2, 2⟩, ⟨0, 0, 0, false, 0, 1, 1⟩, ⟨0, 0, 1, false, 0, 2, 2⟩, ⟨0, 0, 2, false, 0, 0, 3⟩, ⟨0, 0, 0, false, 0, 2, 5⟩, ⟨0, 0, 2, false, 3, 1, 1⟩, ⟨0, 0, 0, false, 0, 3, 3⟩]
def fmAt (i : Nat) : FM := fmL.getD i default

/-- The table lies in block g. -/
def TblAt (g : Nat) (w : World) : Prop := g < w.heap.size ∧ ∀ i, i < 12 → ∀ j v, (fmAt i).cells[j]? = some v → w.cell? ⟨g, i * 7 + j, none⟩ = some v
theorem TblAt.grow {g : Nat} {w w' : World} (h : TblAt g w) (gr : Gw w w') : TblAt g w' := ⟨Nat.lt_of_lt_of_le h.1 gr.size, fun i hi j v hv => gr.cell (h.2 i hi j v hv) h.1⟩

theorem cell_at7 {l : List Value} {n j : Nat} {x : Value} (hj : j < 7) (h : List.take 1 (List.drop j (List.take 7 (List.drop n l))) = [x]) : l[n + j]? = some x := by
  have h0 : (List.take 1 (List.drop j (List.take 7 (List.drop n l))))[0]? = some x := by rw [h]; rfl
  simpa [List.getElem?_take, List.getElem?_drop, hj] using h0

theorem forms_cell {P : Program} {W : World} {name : String} {g t e ki kn kb : Nat} {f0 f1 f2 f3 f4 f5 f6 : Field} (hG : P.globalNamed name = some g) (hT : (P.globals[g]?).map (·.type) = some t)
    (hU : P.underlying t = some (.array 12 e)) (hE : P.underlying e = some (.struct #[f0, f1, f2, f3, f4, f5, f6])) (t0 : f0.type = ki) (t1 : f1.type = ki) (t2 : f2.type = kn) (t3 : f3.type = kb) (t4 : f4.type = kn) (t5 : f5.type = kn) (t6 : f6.type = kn)
    (o0 : f0.offset = 0) (o1 : f1.offset = 1) (o2 : f2.offset = 2) (o3 : f3.offset = 3) (o4 : f4.offset = 4) (o5 : f5.offset = 5) (o6 : f6.offset = 6)
    (uk : P.underlying ki = some (.int .i64)) (un : P.underlying kn = some (.int .i64)) (ub : P.underlying kb = some .bool) (ck : P.cellsOf ki = 1) (cn : P.cellsOf kn = 1) (cb : P.cellsOf kb = 1) (hC : P.cellsOf e = 7)
    (h : laidMet P [(name, .agg (fmL.map FM.dat))] W) : TblAt g W := by
  obtain ⟨ps, ⟨g', t', cs, fuel, p, q, hg, ht, hv, hd, _, _⟩, _, _⟩ := h
  obtain rfl := Option.some.inj (hG.symm.trans hg)
  obtain rfl := Option.some.inj (hT.symm.trans ht)
  obtain ⟨xs, m, _, ex, _, hl, hel⟩ := DataW.trod_array hU hd
  refine ⟨?_, fun i hi j v hv' => ?_⟩
  · unfold World.var? at hv
    rw [hg] at hv
    simp only [Option.bind_some] at hv
    cases hh : W.heap[g]? with
    | none => rw [hh] at hv; cases hv
    | some o => exact (Array.getElem?_eq_some_iff.1 hh).1
  have hx := hel i hi
  rw [hC, List.getElem?_eq_getElem (by omega)] at hx
  have e3 : (xs.map (·.1)) = fmL.map FM.dat := (DataW.agg.inj (Prod.mk.inj ex).1).symm
  have e4 : (xs.map (·.1))[i]? = (fmL.map (FM.dat (H := Unit)))[i]? := by rw [e3]
  have hi' : i < fmL.length := hi
  rw [List.getElem?_map, List.getElem?_map, List.getElem?_eq_getElem (by omega : i < xs.length), List.getElem?_eq_getElem hi'] at e4
  simp only [Option.map_some, Option.some.injEq] at e4
  have hf : fmAt i = fmL[i] := by unfold fmAt; rw [List.getD, List.getElem?_eq_getElem hi']; rfl
  obtain ⟨ys, m2, _, ey, hly, hly2, hfy⟩ := DataW.trod_struct hE hx
  match ys, hly2 with
  | [y0, y1, y2, y3, y4, y5, y6], _ =>
  have g0 := hfy 0 f0 rfl
  have g1 := hfy 1 f1 rfl
  have g2 := hfy 2 f2 rfl
  have g3 := hfy 3 f3 rfl
  have g4 := hfy 4 f4 rfl
  have g5 := hfy 5 f5 rfl
  have g6 := hfy 6 f6 rfl
  rw [t0, o0, ck] at g0
  rw [t1, o1, ck] at g1
  rw [t2, o2, cn] at g2
  rw [t3, o3, cb] at g3
  rw [t4, o4, cn] at g4
  rw [t5, o5, cn] at g5
  rw [t6, o6, cn] at g6
  simp only [List.getElem?_cons_zero, List.getElem?_cons_succ] at g0 g1 g2 g3 g4 g5 g6
  obtain ⟨v0, a0, b0, _⟩ := DataW.trod_int uk g0
  obtain ⟨v1, a1, b1, _⟩ := DataW.trod_int uk g1
  obtain ⟨v2, a2, b2, _⟩ := DataW.trod_int un g2
  obtain ⟨v3, a3, b3⟩ := DataW.trod_bool ub g3
  obtain ⟨v4, a4, b4, _⟩ := DataW.trod_int un g4
  obtain ⟨v5, a5, b5, _⟩ := DataW.trod_int un g5
  obtain ⟨v6, a6, b6, _⟩ := DataW.trod_int un g6
  rw [ey] at e4
  subst b0 b1 b2 b3 b4 b5 b6
  have e5 := DataW.agg.inj e4
  simp only [List.map_cons, List.map_nil, List.cons.injEq, DataW.lit.injEq, Lit.int.injEq, Lit.bool.injEq, true_and, and_true] at e5
  obtain ⟨c0, c1, c2, c3, c4, c5, c6⟩ := e5
  rw [World.var?_cell hg hv, ← Array.getElem?_toList]
  rw [hf] at hv'
  match j, hv' with
  | 0, hv' => rw [cell_at7 (by decide) a0, c0]; exact hv'
  | 1, hv' => rw [cell_at7 (by decide) a1, c1]; exact hv'
  | 2, hv' => rw [cell_at7 (by decide) a2, c2]; exact hv'
  | 3, hv' => rw [cell_at7 (by decide) a3, c3]; exact hv'
  | 4, hv' => rw [cell_at7 (by decide) a4, c4]; exact hv'
  | 5, hv' => rw [cell_at7 (by decide) a5, c5]; exact hv'
  | 6, hv' => rw [cell_at7 (by decide) a6, c6]; exact hv'
  | n + 7, hv' => exact absurd hv' (by simp [FM.cells])

def nmF (k : Int) (n : ByteArray) : Bool := if k = 1 then lowerB n else if k = 2 then upperB n else n.toList.isEmpty
def tyF (b : Bool) (t : Ty) : Bool := if b = true then validB t else noTy t
def nsF (mn : Int) (ns : List ByteArray) : Bool := decide ((ns.length : Int) ≤ mn) && distB ns
def formB (f : FM) (m : Int) (n : ByteArray) (t : Ty) (ns : List ByteArray) (l : Nat) : Bool := inI l f.kl f.kh && (nmF f.nm n && (tyF f.ty t && (nsF f.mn ns && inI m f.lo f.hi)))
theorem nsF0 (ns : List ByteArray) : nsF 0 ns = decide (ns.length = 0) := by
  unfold nsF
  cases ns with
  | nil => rfl
  | cons x xs => have : ¬ (((x :: xs).length : Int) ≤ 0) := by simp only [List.length_cons]; omega
                 rw [decide_eq_false this]; simp
theorem nsF3 (ns : List ByteArray) : nsF 3 ns = (decide (ns.length ≤ 3) && distB ns) := by
  unfold nsF
  congr 1
  by_cases h : ns.length ≤ 3
  · have : (ns.length : Int) ≤ 3 := by omega
    rw [decide_eq_true h, decide_eq_true this]
  · have : ¬ (ns.length : Int) ≤ 3 := by omega
    rw [decide_eq_false h, decide_eq_false this]
theorem head_form (i : Nat) (h1 : 1 ≤ i) (h2 : i ≤ 11) (m : Int) (n : ByteArray) (t : Ty) (ns : List ByteArray) (l : Nat) : headM i m n t ns l = formB (fmAt i) m n t ns l := by
  unfold headM formB fldM
  match i, h1, h2 with
  | 1, _, _ => rw [show (fmAt 1).mn = 0 from rfl, nsF0]; rfl
  | 2, _, _ => rw [show (fmAt 2).mn = 0 from rfl, nsF0]; rfl
  | 3, _, _ => rw [show (fmAt 3).mn = 0 from rfl, nsF0]; rfl
  | 4, _, _ => rw [show (fmAt 4).mn = 0 from rfl, nsF0]; rfl
  | 5, _, _ => rw [show (fmAt 5).mn = 0 from rfl, nsF0]; rfl
  | 6, _, _ => rw [show (fmAt 6).mn = 0 from rfl, nsF0]; rfl
  | 7, _, _ => rw [show (fmAt 7).mn = 0 from rfl, nsF0]; rfl
  | 8, _, _ => rw [show (fmAt 8).mn = 0 from rfl, nsF0]; rfl
  | 9, _, _ => rw [show (fmAt 9).mn = 0 from rfl, nsF0]; rfl
  | 10, _, _ => rw [show (fmAt 10).mn = 3 from rfl, nsF3]; rfl
  | 11, _, _ => rw [show (fmAt 11).mn = 0 from rfl, nsF0]; rfl

theorem form_no1 {f : FM} {m : Int} {n : ByteArray} {t : Ty} {ns : List ByteArray} {l : Nat} (h : ¬ f.lo ≤ m ∨ ¬ m ≤ f.hi) : formB f m n t ns l = false := by
  have : inI m f.lo f.hi = false := by unfold inI; rcases h with h | h <;> simp [h]
  unfold formB; rw [this]; simp
theorem form_no2 {f : FM} {m : Int} {n : ByteArray} {t : Ty} {ns : List ByteArray} {l : Nat} (h : ¬ f.kl ≤ l ∨ ¬ (l : Int) ≤ f.kh) : formB f m n t ns l = false := by
  have : inI l f.kl f.kh = false := by unfold inI; rcases h with h | h <;> simp [h]
  unfold formB; rw [this]; rfl
theorem form_no3 {f : FM} {m : Int} {n : ByteArray} {t : Ty} {ns : List ByteArray} {l : Nat} (h : nmF f.nm n = false) : formB f m n t ns l = false := by unfold formB; rw [h]; simp
theorem form_no4 {f : FM} {m : Int} {n : ByteArray} {t : Ty} {ns : List ByteArray} {l : Nat} (h : tyF f.ty t = false) : formB f m n t ns l = false := by unfold formB; rw [h]; simp
theorem form_yes {f : FM} {m : Int} {n : ByteArray} {t : Ty} {ns : List ByteArray} {l : Nat} {b : Bool} (h1 : f.lo ≤ m) (h2 : m ≤ f.hi) (h3 : f.kl ≤ l) (h4 : (l : Int) ≤ f.kh) (h5 : nmF f.nm n = true) (h6 : tyF f.ty t = true) (h7 : nsF f.mn ns = b) : formB f m n t ns l = b := by
  unfold formB inI; rw [h5, h6, h7]; simp [h1, h2, h3, h4]
theorem head_out {k m : Int} {n : ByteArray} {t : Ty} {ns : List ByteArray} {l : Nat} (h : k < 1 ∨ 11 < k) : headM k m n t ns l = false := by
  cases hb : inI l (kidsLo k) (kidsHi k) with
  | true => have := kids_kind hb; omega
  | false => unfold headM; rw [hb]; rfl

theorem impl_fitsName (f : FM) (n : ByteArray) (hn : n.size ≤ 9223372036854775807) (w : World) : Calls Tryd.prog 124 #[f.val, .string n] w (BoolGw (nmF f.nm n) w) := by
  have G := Lib.hid ((Gw.refl w).alloc (.cells #[.int .i64 f.lo, .int .i64 f.hi, .int .i64 f.nm, .bool f.ty, .int .i64 f.mn, .int .i64 f.kl, .int .i64 f.kh] 167))
  by_cases h1 : f.nm = 1
  · have F := Lib.hid (show nmF f.nm n = lowerB n by unfold nmF; rw [if_pos h1])
    have q1 : (f.nm == 1) = true := by simpa using h1
    clear h1
    go_enter Tryd.func124, Tryd.ntmps124
    go_wp2_with fail
    refine (impl_lower n hn _).mono ?_
    rintro e w1 ⟨rfl, g1⟩
    go_wp2_with fail
    go_ret
    exact ⟨ret_b F.out.symm, G.out.trans g1⟩
  · by_cases h2 : f.nm = 2
    · have F := Lib.hid (show nmF f.nm n = upperB n by unfold nmF; rw [if_neg h1, if_pos h2])
      have q1 : (f.nm == 1) = false := by simpa using h1
      have q2 : (f.nm == 2) = true := by simpa using h2
      clear h1 h2
      go_enter Tryd.func124, Tryd.ntmps124
      go_wp2_with fail
      refine (impl_upper n hn _).mono ?_
      rintro e w1 ⟨rfl, g1⟩
      go_wp2_with fail
      go_ret
      exact ⟨ret_b F.out.symm, G.out.trans g1⟩
    · have F := Lib.hid (show nmF f.nm n = n.toList.isEmpty by unfold nmF; rw [if_neg h1, if_neg h2])
      have q1 : (f.nm == 1) = false := by simpa using h1
      have q2 : (f.nm == 2) = false := by simpa using h2
      clear h1 h2
      cases hb : n.toList.isEmpty with
      | false =>
        rw [hb] at F
        go_enter Tryd.func124, Tryd.ntmps124
        go_wp2_with fail
        go_ret
        exact ⟨ret_b F.out.symm, G.out⟩
      | true =>
        rw [hb] at F
        go_enter Tryd.func124, Tryd.ntmps124
        go_wp2_with fail
        go_ret
        exact ⟨ret_b F.out.symm, G.out⟩

theorem impl_fitsType (f : FM) (t : LT) (w : World) (h : t.Ok w) : Calls Tryd.prog 125 #[f.val, t.val] w (BoolGw (tyF f.ty t.ty) w) := by
  have hn : t.n.size ≤ 9223372036854775807 := h.nm
  have hl : t.ks.length ≤ 9223372036854775807 := Nat.le_trans h.kids.1 h.kids.2.1
  have g := ((Gw.refl w).alloc (.cells #[.int .i64 f.lo, .int .i64 f.hi, .int .i64 f.nm, .bool f.ty, .int .i64 f.mn, .int .i64 f.kl, .int .i64 f.kh] 167)).alloc (.cells #[.int .i64 t.k, .string t.n, .slice t.a t.ks.length t.cap] 47)
  have HO := Lib.hid (h.grow g)
  have G := Lib.hid g
  clear g h
  cases hb : f.ty with
  | true =>
    have F := Lib.hid (show tyF true t.ty = validB t.ty from rfl)
    go_enter Tryd.func125, Tryd.ntmps125
    go_wp2_with fail
    refine (impl_valid t _ (by first | exact HO.out | (rw [← hb]; exact HO.out))).mono ?_
    rintro e w1 ⟨rfl, g1⟩
    go_wp2_with fail
    go_ret
    exact ⟨ret_b F.out.symm, by first | exact G.out.trans g1 | (rw [← hb] at g1; exact G.out.trans g1)⟩
  | false =>
    have F := Lib.hid (show tyF false t.ty = noTy t.ty from rfl)
    rw [noTy_eq] at F
    rw [hb] at G
    cases h0 : (t.k == 0) with
    | false =>
      rw [h0] at F
      go_enter Tryd.func125, Tryd.ntmps125
      go_wp2_with (go_quiet (fail))
      go_ret
      exact ⟨ret_b (by rw [F.out]; simp), by first | exact G.out | exact G.out.drewN _⟩
    | true =>
      rw [h0] at F
      cases h1 : t.n.toList.isEmpty with
      | false =>
        rw [h1] at F
        go_enter Tryd.func125, Tryd.ntmps125
        go_wp2_with (go_quiet (fail))
        go_ret
        exact ⟨ret_b (by rw [F.out]; simp), by first | exact G.out | exact G.out.drewN _⟩
      | true =>
        rw [h1] at F
        go_enter Tryd.func125, Tryd.ntmps125
        go_wp2_with (go_quiet (fail))
        go_ret
        exact ⟨ret_b (by rw [F.out]; cases t.ks with | nil => simp | cons x xs => simp; omega), by first | exact G.out | exact G.out.drewN _⟩

end Go.Proofs.YtkfplnnncfkjfaaDoor.Con

namespace Go.Proofs.YtkfplnnncfkjfaaDoor.Con
open Go.RowKit
set_option linter.unusedVariables false

set_option maxRecDepth 100000 in
theorem impl_indexS (ns : List ByteArray) (n : Nat) (hn : ns.length = n) (nm : ByteArray) (w : World) (a : Option Addr) (cap : Nat) (h : strSl w a cap ns) :
    Calls Tryd.prog 127 #[.slice a n cap, .string nm] w fun e w' => ∃ r, e = .returned (.int .i64 r) ∧ decide (0 ≤ r) = hasB ns nm ∧ Gw w w' := by
  subst hn
  have hl : ns.length ≤ 9223372036854775807 := Nat.le_trans h.1 h.2.1
  have HR := Lib.hid h.2.2
  clear h
  go_enter Tryd.func127, Tryd.ntmps127
  go_wp2_with fail
  go_loopw [8] (fun i wr => ∃ j : Nat, j ≤ ns.length ∧ i = .int .i64 j ∧ Gw w wr ∧ ∀ x (hx : x < ns.length), x < j → ns[x] ≠ nm) (fun i _ => ns.length - (intOf i).toNat)
  case atStart => exact ⟨0, by omega, rfl, Gw.refl _, fun x _ h => absurd h (by omega)⟩
  case round =>
    obtain ⟨j, hj, rfl, hg, hall⟩ := hrel
    have HALL := Lib.hid hall
    clear hall
    by_cases hlt : j < ns.length
    · obtain ⟨b, o, rfl, hr⟩ := HR.out.resolve_left (fun e => by subst e; simp at hlt)
      obtain ⟨c0, _⟩ := strRow_get (hr.grow sLen sGr hg) j hlt
      have q0 : (0 : Int) ≤ j := by omega
      have q1 : (j : Int) < ns.length := by omega
      clear hr
      by_cases he : ns[j] = nm
      · have hd : (nm.toList == ns[j].toList) = true := by rw [he]; simp
        have HE := Lib.hid (show hasB ns nm = true from hasB_iff.2 (he ▸ List.getElem_mem hlt))
        clear he
        go_wp2_with (go_quiet (fail))
        go_ret
        exact ⟨_, rfl, by rw [HE.out]; simp, by first | exact hg | exact hg.drewN _⟩
      · have hd : (nm.toList == ns[j].toList) = false := toList_ne (fun e => he e.symm)
        have HE := Lib.hid he
        clear he
        go_wp2_with (go_quiet (fail))
        go_roundw
        case rel =>
          refine ⟨j + 1, by omega, by go_num, by first | exact hg | exact hg.drewN _, fun x hx hi => ?_⟩
          by_cases e : x = j
          · subst e; exact HE.out
          · exact HALL.out x hx (by omega)
        case measure => simp [intOf]; omega
    · obtain rfl : j = ns.length := by omega
      go_wp2_with fail
      go_ret
      refine ⟨_, rfl, ?_, hg⟩
      have : hasB ns nm = false := hasB_false.2 fun hm => by
        obtain ⟨i, hi, e⟩ := List.mem_iff_getElem.1 hm
        exact HALL.out i hi hi e
      rw [this]; simp

theorem impl_containsS (ns : List ByteArray) (n : Nat) (hn : ns.length = n) (nm : ByteArray) (w : World) (a : Option Addr) (cap : Nat) (h : strSl w a cap ns) :
    Calls Tryd.prog 103 #[.slice a n cap, .string nm] w (BoolGw (hasB ns nm) w) := by
  have KEY := Lib.hid (impl_indexS ns n hn nm w a cap h)
  clear h
  go_enter Tryd.func103, Tryd.ntmps103
  go_wp2_with fail
  refine KEY.out.mono ?_
  rintro e w1 ⟨r, rfl, hr, g1⟩
  have HR := Lib.hid hr
  clear hr
  go_wp2_with fail
  go_ret
  exact ⟨ret_b (by rw [← HR.out]), g1⟩

set_option maxRecDepth 100000 in
set_option maxHeartbeats 1000000 in
theorem impl_fitsNames (f : FM) (ns : List ByteArray) (w : World) (a : Option Addr) (cap : Nat) (h : strSl w a cap ns) : Calls Tryd.prog 126 #[f.val, .slice a ns.length cap] w (BoolGw (nsF f.mn ns) w) := by
  have hl : ns.length ≤ 9223372036854775807 := Nat.le_trans h.1 h.2.1
  have hlc : ns.length ≤ cap := h.1
  have hcc : cap ≤ 9223372036854775807 := h.2.1
  have HS := Lib.hid h
  have G := Lib.hid ((Gw.refl w).alloc (.cells #[.int .i64 f.lo, .int .i64 f.hi, .int .i64 f.nm, .bool f.ty, .int .i64 f.mn, .int .i64 f.kl, .int .i64 f.kh] 167))
  clear h
  by_cases hm : (ns.length : Int) ≤ f.mn
  rotate_left
  · have F := Lib.hid (show nsF f.mn ns = false by unfold nsF; rw [decide_eq_false hm]; rfl)
    have hm2 : f.mn < ns.length := by omega
    go_enter Tryd.func126, Tryd.ntmps126
    go_wp2_with fail
    go_ret
    exact ⟨ret_b F.out.symm, G.out⟩
  have F := Lib.hid (show nsF f.mn ns = distB ns by unfold nsF; rw [decide_eq_true hm]; rfl)
  go_enter Tryd.func126, Tryd.ntmps126
  go_wp2_with fail
  clear hm
  go_loopw [14] (fun i wr => ∃ j : Nat, j ≤ ns.length ∧ i = .int .i64 j ∧ Gw w wr ∧ ∀ x, x < j → dsB ns x = true) (fun i _ => ns.length - (intOf i).toNat)
  case atStart => exact ⟨0, by omega, rfl, G.out, fun x h => absurd h (by omega)⟩
  case round =>
    obtain ⟨j, hj, rfl, hg, hall⟩ := hrel
    have HALL := Lib.hid hall
    have HG := Lib.hid hg
    clear hall hg
    by_cases hlt : j < ns.length
    · obtain ⟨b, o, rfl, hr⟩ := HS.out.2.2.resolve_left (fun e => by subst e; simp at hlt)
      obtain ⟨c0, hk⟩ := strRow_get (hr.grow sLen sGr HG.out) j hlt
      have hk2 : ns[j].size ≤ 9223372036854775807 := hk
      have q0 : (0 : Int) ≤ j := by omega
      have q1 : (j : Int) < ns.length := by omega
      have q2 : (j : Int) ≤ cap := by omega
      have HT := Lib.hid (HS.out.take j)
      have HL := Lib.hid (show (ns.take j).length = j by rw [List.length_take]; omega)
      have HD := Lib.hid (dsB_eq hlt)
      clear hr hk
      go_wp2_with fail
      refine (impl_lower ns[j] hk2 _).mono ?_
      rintro e w2 ⟨rfl, g2⟩
      have G2 := Lib.hid (HG.out.trans g2)
      clear g2 c0
      cases hb : lowerB ns[j] with
      | false =>
        have HB := Lib.hid hb
        clear hb
        go_wp2_with fail
        go_ret
        exact ⟨ret_b (by rw [F.out]; exact (distB_bad hlt (by rw [HD.out, HB.out]; rfl)).symm), G2.out⟩
      | true =>
        have HB := Lib.hid hb
        clear hb
        go_wp2_with fail
        refine (impl_containsS (ns.take j) j HL.out ns[j] _ (some ⟨b, o, none⟩) cap (HT.out.grow G2.out)).mono ?_
        rintro e w3 ⟨rfl, g3⟩
        have G3 := Lib.hid (G2.out.trans g3)
        clear g3
        cases hh : hasB (ns.take j) ns[j] with
        | true =>
          have HH := Lib.hid hh
          clear hh
          go_wp2_with fail
          go_ret
          exact ⟨ret_b (by rw [F.out]; exact (distB_bad hlt (by rw [HD.out, HB.out, HH.out]; rfl)).symm), G3.out⟩
        | false =>
          have HH := Lib.hid hh
          clear hh
          go_wp2_with fail
          go_roundw
          case rel =>
            refine ⟨j + 1, by omega, by go_num, G3.out, fun x hx => ?_⟩
            by_cases e : x = j
            · subst e; rw [HD.out, HB.out, HH.out]; rfl
            · exact HALL.out x (by omega)
          case measure => simp [intOf]; omega
    · obtain rfl : j = ns.length := by omega
      go_wp2_with fail
      go_ret
      exact ⟨ret_b (by rw [F.out, distB_all HALL.out]), HG.out⟩

/-- A block holds a form. -/
def BoxF (W : World) (b : Nat) (f : FM) : Prop := ∃ e, W.heap[b]? = some (.cells #[.int .i64 f.lo, .int .i64 f.hi, .int .i64 f.nm, .bool f.ty, .int .i64 f.mn, .int .i64 f.kl, .int .i64 f.kh] e (0, 0))
theorem BoxF.lt {W : World} {b : Nat} {f : FM} (h : BoxF W b f) : b < W.heap.size := by
  obtain ⟨e, h⟩ := h
  exact (Array.getElem?_eq_some_iff.1 h).1
theorem BoxF.grow {W W' : World} {b : Nat} {f : FM} (h : BoxF W b f) (g : Gw W W') : BoxF W' b f := by
  have := h.lt
  obtain ⟨e, h⟩ := h
  exact ⟨e, (g.block b this).trans h⟩
theorem BoxF.c {W : World} {b : Nat} {f : FM} (h : BoxF W b f) : W.cell? ⟨b, 0, none⟩ = some (.int .i64 f.lo) ∧ W.cell? ⟨b, 1, none⟩ = some (.int .i64 f.hi) ∧ W.cell? ⟨b, 2, none⟩ = some (.int .i64 f.nm) ∧
    W.cell? ⟨b, 3, none⟩ = some (.bool f.ty) ∧ W.cell? ⟨b, 4, none⟩ = some (.int .i64 f.mn) ∧ W.cell? ⟨b, 5, none⟩ = some (.int .i64 f.kl) ∧ W.cell? ⟨b, 6, none⟩ = some (.int .i64 f.kh) := by
  obtain ⟨e, h⟩ := h
  exact ⟨cell_of_row _ _ 0 _ _ _ h, cell_of_row _ _ 1 _ _ _ h, cell_of_row _ _ 2 _ _ _ h, cell_of_row _ _ 3 _ _ _ h, cell_of_row _ _ 4 _ _ _ h, cell_of_row _ _ 5 _ _ _ h, cell_of_row _ _ 6 _ _ _ h⟩

abbrev Tbl (w : World) : Prop := TblAt 0 w

set_option maxRecDepth 100000 in
set_option maxHeartbeats 2000000 in
theorem impl_form (u : LM) (w : World) (h : u.Ok w) (hT : Tbl w) : Calls Tryd.prog 102 #[u.val] w (BoolGw (headM u.k u.m u.n u.t.ty u.ns u.ks.length) w) := by
  have hn : u.n.size ≤ 9223372036854775807 := h.nm
  have hll : u.ks.length ≤ 9223372036854775807 := Nat.le_trans h.kids.1 h.kids.2.1
  have g0 := (Gw.refl w).alloc (.cells #[.int .i64 u.k, .int .i64 u.m, .string u.n, .int .i64 u.t.k, .string u.t.n, .slice u.t.a u.t.ks.length u.t.cap, .slice u.na u.ns.length u.nc, .slice u.a u.ks.length u.cap] 50)
  have G0 := Lib.hid g0
  by_cases h1 : u.k < 1
  · have F := Lib.hid (head_out (k := u.k) (m := u.m) (n := u.n) (t := u.t.ty) (ns := u.ns) (l := u.ks.length) (.inl h1))
    clear h hT g0
    go_enter Tryd.func102, Tryd.ntmps102
    go_wp2_with fail
    go_ret
    exact ⟨ret_b F.out.symm, G0.out⟩
  by_cases h2 : 11 < u.k
  · have F := Lib.hid (head_out (k := u.k) (m := u.m) (n := u.n) (t := u.t.ty) (ns := u.ns) (l := u.ks.length) (.inr h2))
    clear h hT g0
    go_enter Tryd.func102, Tryd.ntmps102
    go_wp2_with fail
    go_ret
    exact ⟨ret_b F.out.symm, G0.out⟩
  obtain ⟨i, hi⟩ : ∃ i : Nat, u.k = i := ⟨u.k.toNat, by omega⟩
  have i1 : 1 ≤ i := by omega
  have i2 : i ≤ 11 := by omega
  have HH := Lib.hid (head_form i i1 i2 u.m u.n u.t.ty u.ns u.ks.length)
  obtain ⟨f, hf⟩ : ∃ f, f = fmAt i := ⟨_, rfl⟩
  have hT2 := hT.grow g0
  have t0 := hT2.2 i (by omega) 0 _ rfl
  have t1 := hT2.2 i (by omega) 1 _ rfl
  have t2 := hT2.2 i (by omega) 2 _ rfl
  have t3 := hT2.2 i (by omega) 3 _ rfl
  have t4 := hT2.2 i (by omega) 4 _ rfl
  have t5 := hT2.2 i (by omega) 5 _ rfl
  have t6 := hT2.2 i (by omega) 6 _ rfl
  rw [← hf] at t0 t1 t2 t3 t4 t5 t6 HH
  rw [Nat.add_zero] at t0
  have BX := Lib.hid (BoxM.new w u 50)
  have OK := Lib.hid (h.grow g0)
  have HI := Lib.hid hi
  show Calls Tryd.prog 102 #[.agg #[.int .i64 u.k, .int .i64 u.m, .string u.n, .int .i64 u.t.k, .string u.t.n, .slice u.t.a u.t.ks.length u.t.cap, .slice u.na u.ns.length u.nc, .slice u.a u.ks.length u.cap]] w _
  rw [hi]
  have r0 : (1 : Int) ≤ i := by omega
  have r1 : (i : Int) ≤ 11 := by omega
  have r2 : (i : Int) < 12 := by omega
  have r3 : (0 : Int) ≤ i := by omega
  have r4 : ¬ (i : Int) < 1 := by omega
  have r5 : ¬ (11 : Int) < i := by omega
  clear h hT hT2 hf h1 h2
  rw [hi] at g0 G0 t0 t1 t2 t3 t4 t5 t6 BX OK
  clear hi g0
  go_enter Tryd.func102, Tryd.ntmps102
  go_upto_region 4 with (fail)
  have BX4 := BX.out.grow ((Gw.refl _).alloc (.cells #[.int .i64 f.lo, .int .i64 f.hi, .int .i64 f.nm, .bool f.ty, .int .i64 f.mn, .int .i64 f.kl, .int .i64 f.kh] 167))
  have BF4 : BoxF ((w.alloc (.cells #[.int .i64 i, .int .i64 u.m, .string u.n, .int .i64 u.t.k, .string u.t.n, .slice u.t.a u.t.ks.length u.t.cap, .slice u.na u.ns.length u.nc, .slice u.a u.ks.length u.cap] 50)).alloc (.cells #[.int .i64 f.lo, .int .i64 f.hi, .int .i64 f.nm, .bool f.ty, .int .i64 f.mn, .int .i64 f.kl, .int .i64 f.kh] 167)) (w.heap.size + 1) f := ⟨_, heap_alloc_at _ _ _ _ rfl (by simp)⟩
  have G4 := G0.out.alloc (.cells #[.int .i64 f.lo, .int .i64 f.hi, .int .i64 f.nm, .bool f.ty, .int .i64 f.mn, .int .i64 f.kl, .int .i64 f.kh] 167)
  have OK4 := OK.out.grow ((Gw.refl _).alloc (.cells #[.int .i64 f.lo, .int .i64 f.hi, .int .i64 f.nm, .bool f.ty, .int .i64 f.mn, .int .i64 f.kl, .int .i64 f.kh] 167))
  clear t0 t1 t2 t3 t4 t5 t6 BX OK G0
  generalize ((w.alloc (.cells #[.int .i64 i, .int .i64 u.m, .string u.n, .int .i64 u.t.k, .string u.t.n, .slice u.t.a u.t.ks.length u.t.cap, .slice u.na u.ns.length u.nc, .slice u.a u.ks.length u.cap] 50)).alloc (.cells #[.int .i64 f.lo, .int .i64 f.hi, .int .i64 f.nm, .bool f.ty, .int .i64 f.mn, .int .i64 f.kl, .int .i64 f.kh] 167)) = W4 at *
  obtain ⟨p0, p1, p2, p3, p4, p5, p6, p7⟩ := BX4.c
  obtain ⟨f0, f1, f2, f3, f4, f5, f6⟩ := BF4.c
  have BX := Lib.hid BX4
  have BF := Lib.hid BF4
  have G := Lib.hid G4
  have OK := Lib.hid OK4
  clear BX4 BF4 G4 OK4
  by_cases ha : f.lo ≤ u.m
  rotate_left
  · have FF := Lib.hid (form_no1 (f := f) (m := u.m) (n := u.n) (t := u.t.ty) (ns := u.ns) (l := u.ks.length) (.inl ha))
    go_wp2_with fail
    go_ret
    exact ⟨ret_b (by rw [HH.out, FF.out]), G.out⟩
  by_cases hb : u.m ≤ f.hi
  rotate_left
  · have FF := Lib.hid (form_no1 (f := f) (m := u.m) (n := u.n) (t := u.t.ty) (ns := u.ns) (l := u.ks.length) (.inr hb))
    go_wp2_with fail
    go_ret
    exact ⟨ret_b (by rw [HH.out, FF.out]), G.out⟩
  by_cases hc : f.kl ≤ u.ks.length
  rotate_left
  · have FF := Lib.hid (form_no2 (f := f) (m := u.m) (n := u.n) (t := u.t.ty) (ns := u.ns) (l := u.ks.length) (.inl hc))
    go_wp2_with fail
    go_ret
    exact ⟨ret_b (by rw [HH.out, FF.out]), G.out⟩
  by_cases hd : (u.ks.length : Int) ≤ f.kh
  rotate_left
  · have FF := Lib.hid (form_no2 (f := f) (m := u.m) (n := u.n) (t := u.t.ty) (ns := u.ns) (l := u.ks.length) (.inr hd))
    go_wp2_with fail
    go_ret
    exact ⟨ret_b (by rw [HH.out, FF.out]), G.out⟩
  go_wp2_with fail
  refine (impl_fitsName f u.n hn _).mono ?_
  rintro e w1 ⟨rfl, g1⟩
  replace BX := Lib.hid (BX.out.grow g1)
  replace BF := Lib.hid (BF.out.grow g1)
  replace G := Lib.hid (G.out.trans g1)
  replace OK := Lib.hid (OK.out.grow g1)
  clear p0 p1 p2 p3 p4 p5 p6 p7 f0 f1 f2 f3 f4 f5 f6 g1
  obtain ⟨p0, p1, p2, p3, p4, p5, p6, p7⟩ := BX.out.c
  obtain ⟨f0, f1, f2, f3, f4, f5, f6⟩ := BF.out.c
  cases hN : nmF f.nm u.n with
  | false =>
    have FF := Lib.hid (form_no3 (f := f) (m := u.m) (n := u.n) (t := u.t.ty) (ns := u.ns) (l := u.ks.length) hN)
    clear hN
    go_wp2_with fail
    go_ret
    exact ⟨ret_b (by rw [HH.out, FF.out]), G.out⟩
  | true =>
  have HN := Lib.hid hN
  clear hN
  go_wp2_with fail
  refine (impl_fitsType f u.t _ OK.out.ty).mono ?_
  rintro e w2 ⟨rfl, g1⟩
  replace BX := Lib.hid (BX.out.grow g1)
  replace BF := Lib.hid (BF.out.grow g1)
  replace G := Lib.hid (G.out.trans g1)
  replace OK := Lib.hid (OK.out.grow g1)
  clear p0 p1 p2 p3 p4 p5 p6 p7 f0 f1 f2 f3 f4 f5 f6 g1
  obtain ⟨p0, p1, p2, p3, p4, p5, p6, p7⟩ := BX.out.c
  obtain ⟨f0, f1, f2, f3, f4, f5, f6⟩ := BF.out.c
  cases hT : tyF f.ty u.t.ty with
  | false =>
    have FF := Lib.hid (form_no4 (f := f) (m := u.m) (n := u.n) (t := u.t.ty) (ns := u.ns) (l := u.ks.length) hT)
    clear hT
    go_wp2_with fail
    go_ret
    exact ⟨ret_b (by rw [HH.out, FF.out]), G.out⟩
  | true =>
  have HT := Lib.hid hT
  clear hT
  go_wp2_with fail
  refine (impl_fitsNames f u.ns _ u.na u.nc OK.out.nms).mono ?_
  rintro e w3 ⟨rfl, g1⟩
  have FF := Lib.hid (form_yes (f := f) (m := u.m) (n := u.n) (t := u.t.ty) (ns := u.ns) (l := u.ks.length) ha hb hc hd HN.out HT.out rfl)
  go_wp2_with fail
  go_ret
  exact ⟨ret_b (by rw [HH.out, FF.out]), G.out.trans g1⟩

end Go.Proofs.YtkfplnnncfkjfaaDoor.Con

namespace Go.Proofs.YtkfplnnncfkjfaaDoor.Con
open Go.RowKit
set_option linter.unusedVariables false

/-- The two boxes of the closure: the counter and the closure itself. -/
def SzCaps (w : World) (CN CV n : Nat) : Prop := w.heap[CN]? = some (.cells #[.int .i64 n] 2 (0, 0)) ∧ w.heap[CV]? = some (.cells #[.func (.func 101) #[] #[.pointer (some ⟨CN, 0, none⟩), .pointer (some ⟨CV, 0, none⟩)]] 141 (0, 0))
def SzPost (w : World) (CN CV n d : Nat) (c : Bool) (u : LM) (e : Ending) (w' : World) : Prop :=
  ∃ r : Bool, e = .returned (.bool r) ∧ (r = true ↔ goodM u.tm c (25 - d) (160 - n)) ∧ Chg w w' (fun b => b = CN) ∧ (r = true → SzCaps w' CN CV (n + u.tm.nn))
def SzC (u : LM) : Prop := ∀ (w0 w : World) (d n CN CV : Nat) (c : Bool), u.Ok w0 → Tbl w0 → Gw w0 w → SzCaps w CN CV n → w0.heap.size ≤ CN → CN ≠ CV → n ≤ 160 → d ≤ 25 →
  Calls Tryd.prog 101 #[u.val, .int .i64 d, .bool c, .pointer (some ⟨CN, 0, none⟩), .pointer (some ⟨CV, 0, none⟩)] w (SzPost w CN CV n d c u)

theorem sz_false {w w' : World} {CN CV n d : Nat} {c : Bool} {u : LM} (h : ¬ goodM u.tm c (25 - d) (160 - n)) (hc : Chg w w' (fun b => b = CN)) : SzPost w CN CV n d c u (.returned (.bool false)) w' :=
  ⟨false, rfl, by simp [h], hc, fun h => by cases h⟩

theorem SzCaps.keep {w w' : World} {CN CV n : Nat} (h : SzCaps w CN CV n) (g : Gw w w') : SzCaps w' CN CV n :=
  ⟨(g.block _ (Array.getElem?_eq_some_iff.1 h.1).1).trans h.1, (g.block _ (Array.getElem?_eq_some_iff.1 h.2).1).trans h.2⟩

set_option maxRecDepth 100000 in
set_option maxHeartbeats 4000000 in
theorem sz_of (u : LM) (ih : ∀ t ∈ u.ks, SzC t) : SzC u := by
  intro w0 w d n CN CV c hu hT g0 hcap hCN hne hn hd
  have HU := Lib.hid hu
  have HT := Lib.hid hT
  have HG := Lib.hid g0
  have hll : u.ks.length ≤ 9223372036854775807 := Nat.le_trans hu.kids.1 hu.kids.2.1
  have hltN : CN < w.heap.size := (Array.getElem?_eq_some_iff.1 hcap.1).1
  have hltV : CV < w.heap.size := (Array.getElem?_eq_some_iff.1 hcap.2).1
  have x0 : w.cell? ⟨CN, 0, none⟩ = some (.int .i64 n) := cell_of_row _ _ 0 _ _ _ hcap.1
  have y0 : w.frozen? ⟨CN, 0, none⟩ = false := by simp [World.frozen?, hcap.1]
  have CA := Lib.hid hcap
  clear hu hT g0 hcap
  go_enter Tryd.func101, Tryd.ntmps101
  go_upto_region 2 with (fail)
  have e1 : (n : Int) + 1 = ((n + 1 : Nat) : Int) := by omega
  have hS : SzCaps ((w.setCell ⟨CN, 0, none⟩ (.int .i64 ((n : Int) + 1))).alloc (.cells #[.int .i64 u.k, .int .i64 u.m, .string u.n, .int .i64 u.t.k, .string u.t.n, .slice u.t.a u.t.ks.length u.t.cap, .slice u.na u.ns.length u.nc, .slice u.a u.ks.length u.cap] 50)) CN CV (n + 1) := by
    refine ⟨?_, ?_⟩
    · rw [Below.heap_alloc _ _ _ (by simpa [World.setCell] using hltN), ← e1]
      exact set_at CA.out.1
    · rw [Below.heap_alloc _ _ _ (by simpa [World.setCell] using hltV), Below.heap_setCell _ _ _ _ (by simpa using fun e => hne e.symm)]
      exact CA.out.2
  have hX : BoxM ((w.setCell ⟨CN, 0, none⟩ (.int .i64 ((n : Int) + 1))).alloc (.cells #[.int .i64 u.k, .int .i64 u.m, .string u.n, .int .i64 u.t.k, .string u.t.n, .slice u.t.a u.t.ks.length u.t.cap, .slice u.na u.ns.length u.nc, .slice u.a u.ks.length u.cap] 50)) w.heap.size u := by
    have := BoxM.new (w.setCell ⟨CN, 0, none⟩ (.int .i64 ((n : Int) + 1))) u 50
    rwa [show (w.setCell ⟨CN, 0, none⟩ (.int .i64 ((n : Int) + 1))).heap.size = w.heap.size by simp [World.setCell]] at this
  have hC : Chg w ((w.setCell ⟨CN, 0, none⟩ (.int .i64 ((n : Int) + 1))).alloc (.cells #[.int .i64 u.k, .int .i64 u.m, .string u.n, .int .i64 u.t.k, .string u.t.n, .slice u.t.a u.t.ks.length u.t.cap, .slice u.na u.ns.length u.nc, .slice u.a u.ks.length u.cap] 50)) (fun b => b = CN) := (Chg.set (Chg.of_gw (Gw.refl w) (fun b => b = CN)) ⟨CN, 0, none⟩ _ (fun _ => rfl)).alloc _
  have BNE := Lib.hid (show ¬ CN = w.heap.size by omega)
  clear x0 y0 CA e1
  rw [show (n : Int) + 1 = ((n + 1 : Nat) : Int) by omega] at hS hX hC ⊢
  generalize (w.setCell ⟨CN, 0, none⟩ (.int .i64 ((n + 1 : Nat) : Int))).alloc (.cells #[.int .i64 u.k, .int .i64 u.m, .string u.n, .int .i64 u.t.k, .string u.t.n, .slice u.t.a u.t.ks.length u.t.cap, .slice u.na u.ns.length u.nc, .slice u.a u.ks.length u.cap] 50) = w1 at *
  have SC := Lib.hid hS
  have BX := Lib.hid hX
  have HC := Lib.hid hC
  have H0 := Lib.hid (show Gw w0 w1 from Below.trans HG.out (hC.gw HG.out.size (fun b hb e => by omega)))
  have x0 : w1.cell? ⟨CN, 0, none⟩ = some (.int .i64 ((n + 1 : Nat) : Int)) := cell_of_row _ _ 0 _ _ _ hS.1
  obtain ⟨p0, p1, p2, p3, p4, p5, p6, p7⟩ := hX.c
  clear hS hX hC
  by_cases h1 : n + 1 ≤ 160
  rotate_left
  · have F := Lib.hid (ndM_no3 (t := u.tm) (c := c) (d := 25 - d) (l := 160 - n) (.inr (by omega)))
    have q1 : (160 : Int) < ((n + 1 : Nat) : Int) := by omega
    go_wp2_with fail
    go_ret
    exact sz_false F.out HC.out
  have q1 : ¬ (160 : Int) < ((n + 1 : Nat) : Int) := by omega
  by_cases h2 : d ≤ 24
  rotate_left
  · have F := Lib.hid (ndM_no3 (t := u.tm) (c := c) (d := 25 - d) (l := 160 - n) (.inl (by omega)))
    have q2 : (24 : Int) < d := by omega
    go_wp2_with fail
    go_ret
    exact sz_false F.out HC.out
  have q2 : ¬ (24 : Int) < d := by omega
  cases hk : ((u.k == 10) == c) with
  | false =>
    have F := Lib.hid (ndM_no1 (t := u.tm) (c := c) (d := 25 - d) (l := 160 - n) (by rw [LM.tm_k]; exact hk))
    cases c with
    | true =>
      have q3 : (u.k == 10) = false := by simpa using hk
      clear hk
      go_wp2_with fail
      go_ret
      exact sz_false F.out HC.out
    | false =>
      have q3 : (u.k == 10) = true := by simpa using hk
      clear hk
      go_wp2_with fail
      go_ret
      exact sz_false F.out HC.out
  | true =>
  have Q0 := Lib.hid hk
  have q3 : (u.k == 10) = c := by simpa using hk
  have hcc : (c != c) = false := by simp
  clear hk
  go_wp2_with fail
  refine (impl_form u _ (HU.out.grow H0.out) (HT.out.grow H0.out)).mono ?_
  rintro e w2 ⟨rfl, g2⟩
  replace SC := Lib.hid (SC.out.keep g2)
  replace BX := Lib.hid (BX.out.grow g2)
  replace HC := Lib.hid (HC.out.trans (Chg.of_gw g2 _) (fun _ _ h => h))
  replace H0 := Lib.hid (H0.out.trans g2)
  clear x0 p0 p1 p2 p3 p4 p5 p6 p7 g2
  obtain ⟨p0, p1, p2, p3, p4, p5, p6, p7⟩ := BX.out.c
  cases hF : headM u.k u.m u.n u.t.ty u.ns u.ks.length with
  | false =>
    have F := Lib.hid (ndM_no2 (t := u.tm) (c := c) (d := 25 - d) (l := 160 - n) (by rw [LM.tm_k, LM.tm_m, LM.tm_n, LM.tm_t, LM.tm_ns, LM.tm_len]; exact hF))
    clear hF
    go_wp2_with fail
    go_ret
    exact sz_false F.out HC.out
  | true =>
  have HH := Lib.hid hF
  clear hF
  go_wp2_with fail
  clear p0 p1 p2 p3 p4 p5 p6 p7 hcc
  go_loopw [34] (fun i wr => ∃ j : Nat, j ≤ u.ks.length ∧ i = .int .i64 j ∧ Chg w wr (fun b => b = CN) ∧ SzCaps wr CN CV (n + nsum u j) ∧ BoxM wr w.heap.size u ∧ nsum u j ≤ 160 - n ∧ KidsOk u (25 - d) j) (fun i _ => u.ks.length - (intOf i).toNat)
  case atStart => exact ⟨0, Nat.zero_le _, rfl, HC.out, by simpa [nsum, nns, Tm.nn.nns] using SC.out, BX.out, by simp [nsum, nns, Tm.nn.nns]; omega, fun i _ h => absurd h (by omega)⟩
  case round =>
    obtain ⟨j, hj, rfl, hc, hs, hb, hle, hall⟩ := hrel
    replace HC := Lib.hid hc
    have SC3 := Lib.hid hs
    have BX3 := Lib.hid hb
    have HALL := Lib.hid hall
    have H3 := Lib.hid (show Gw w0 wr from Below.trans HG.out (hc.gw HG.out.size (fun b hb e => by omega)))
    clear hc hs hb hall
    by_cases hlt : j < u.ks.length
    · obtain ⟨bk, ok, ha, hkid⟩ := tmAt.kid (HU.out.grow H3.out).kids j hlt
      have HA := Lib.hid ha
      obtain ⟨c0, c1, c2, c3, c4, c5, c6, c7⟩ := hkid.c
      have HKO := Lib.hid ((tmAt.kid HU.out.kids j hlt).choose_spec.choose_spec.2.2)
      have r0 : (0 : Int) ≤ j := by omega
      have r1 : (j : Int) < u.ks.length := by omega
      rw [ha]
      clear hkid ha
      go_upto_region 7 with (fail)
      have hKB := BoxM.new wr u.ks[j] 50
      have gA : Gw wr (wr.alloc (.cells #[.int .i64 u.ks[j].k, .int .i64 u.ks[j].m, .string u.ks[j].n, .int .i64 u.ks[j].t.k, .string u.ks[j].t.n, .slice u.ks[j].t.a u.ks[j].t.ks.length u.ks[j].t.cap, .slice u.ks[j].na u.ks[j].ns.length u.ks[j].nc, .slice u.ks[j].a u.ks[j].ks.length u.ks[j].cap] 50)) := (Gw.refl wr).alloc _
      clear c0 c1 c2 c3 c4 c5 c6 c7
      generalize wr.alloc (.cells #[.int .i64 u.ks[j].k, .int .i64 u.ks[j].m, .string u.ks[j].n, .int .i64 u.ks[j].t.k, .string u.ks[j].t.n, .slice u.ks[j].t.a u.ks[j].t.ks.length u.ks[j].t.cap, .slice u.ks[j].na u.ks[j].ns.length u.ks[j].nc, .slice u.ks[j].a u.ks[j].ks.length u.ks[j].cap] 50) = W at *
      have f0 : W.cell? ⟨CV, 0, none⟩ = some (.func (.func 101) #[] #[.pointer (some ⟨CN, 0, none⟩), .pointer (some ⟨CV, 0, none⟩)]) := cell_of_row _ _ 0 _ _ _ (SC3.out.keep gA).2
      obtain ⟨z0, z1, z2, z3, z4, z5, z6, z7⟩ := hKB.c
      obtain ⟨p0, p1, p2, p3, p4, p5, p6, p7⟩ := (BX3.out.grow gA).c
      have E1 := Lib.hid (show 25 - (d + 1) = 25 - d - 1 by omega)
      have E2 := Lib.hid (show 160 - (n + nsum u j) = 160 - n - nsum u j by omega)
      have HNS := Lib.hid (nsum_succ u j hlt)
      have key : ∀ c', c' = flg u.k j → Calls Tryd.prog 101 #[u.ks[j].val, .int .i64 ((d : Int) + 1), .bool c', .pointer (some ⟨CN, 0, none⟩), .pointer (some ⟨CV, 0, none⟩)] W (SzPost W CN CV (n + nsum u j) (d + 1) (flg u.k j) u.ks[j]) := fun c' hc => by
        rw [show (d : Int) + 1 = ((d + 1 : Nat) : Int) by omega, hc]
        exact ih u.ks[j] (List.getElem_mem hlt) w0 W (d + 1) (n + nsum u j) CN CV (flg u.k j) HKO.out HT.out (H3.out.trans gA) (SC3.out.keep gA) hCN hne (by omega) (by omega)
      have KEY := Lib.hid key
      clear key hKB
      cases h9 : (u.k == 9) with
      | false =>
        have C := Lib.hid (show false = flg u.k j by unfold flg; rw [h9]; rfl)
        go_wp2_with fail
        clear z0 z1 z2 z3 z4 z5 z6 z7
        refine (KEY.out _ (by exact C.out)).mono ?_
        rintro e w4 ⟨r, rfl, hr, hc4, hcap4⟩
        have BX4 := Lib.hid ((BX3.out.grow gA).same (hc4.2.2.2.2 _ ((BX3.out.grow gA).lt) (fun e => BNE.out e.symm)))
        have C4 := Lib.hid (HC.out.trans ((Chg.of_gw gA _).trans hc4 (fun _ _ h => h)) (fun _ _ h => h))
        clear hc4 gA p0 p1 p2 p3 p4 p5 p6 p7 KEY f0
        cases r with
        | false =>
          have F := Lib.hid (kid_no (c := c) (d := 25 - d) (l := 160 - n) hlt (fun g => by have := hr.2 (by rw [E1.out, E2.out]; exact g); cases this))
          clear hr hcap4
          go_wp2_with fail
          go_ret
          exact sz_false F.out C4.out
        | true =>
          have GOOD := Lib.hid (show goodM u.ks[j].tm (flg u.k j) (25 - d - 1) (160 - n - nsum u j) by rw [← E1.out, ← E2.out]; exact hr.1 rfl)
          have CAP4 := Lib.hid (hcap4 rfl)
          clear hr hcap4
          go_wp2_with fail
          go_roundw
          case rel =>
            refine ⟨j + 1, by omega, by go_num, C4.out, by have := CAP4.out; rw [HNS.out]; rwa [Nat.add_assoc] at this, BX4.out, by have := GOOD.out.2.2; have := HNS.out; omega, fun x hx hi => ?_⟩
            by_cases e : x = j
            · subst e; exact ⟨GOOD.out.1, GOOD.out.2.1⟩
            · exact HALL.out x hx (by omega)
          case measure => simp [intOf]; omega
      | true =>
        have C := Lib.hid (show decide (0 < j) = flg u.k j by unfold flg; rw [h9]; simp)
        go_wp2_with fail
        clear z0 z1 z2 z3 z4 z5 z6 z7
        refine (KEY.out _ (by exact C.out)).mono ?_
        rintro e w4 ⟨r, rfl, hr, hc4, hcap4⟩
        have BX4 := Lib.hid ((BX3.out.grow gA).same (hc4.2.2.2.2 _ ((BX3.out.grow gA).lt) (fun e => BNE.out e.symm)))
        have C4 := Lib.hid (HC.out.trans ((Chg.of_gw gA _).trans hc4 (fun _ _ h => h)) (fun _ _ h => h))
        clear hc4 gA p0 p1 p2 p3 p4 p5 p6 p7 KEY f0
        cases r with
        | false =>
          have F := Lib.hid (kid_no (c := c) (d := 25 - d) (l := 160 - n) hlt (fun g => by have := hr.2 (by rw [E1.out, E2.out]; exact g); cases this))
          clear hr hcap4
          go_wp2_with fail
          go_ret
          exact sz_false F.out C4.out
        | true =>
          have GOOD := Lib.hid (show goodM u.ks[j].tm (flg u.k j) (25 - d - 1) (160 - n - nsum u j) by rw [← E1.out, ← E2.out]; exact hr.1 rfl)
          have CAP4 := Lib.hid (hcap4 rfl)
          clear hr hcap4
          go_wp2_with fail
          go_roundw
          case rel =>
            refine ⟨j + 1, by omega, by go_num, C4.out, by have := CAP4.out; rw [HNS.out]; rwa [Nat.add_assoc] at this, BX4.out, by have := GOOD.out.2.2; have := HNS.out; omega, fun x hx hi => ?_⟩
            by_cases e : x = j
            · subst e; exact ⟨GOOD.out.1, GOOD.out.2.1⟩
            · exact HALL.out x hx (by omega)
          case measure => simp [intOf]; omega
    · obtain rfl : j = u.ks.length := by omega
      have F := Lib.hid (kid_all (c := c) (d := 25 - d) (l := 160 - n) Q0.out HH.out (by omega) hle HALL.out)
      have FN := Lib.hid (nsum_all u)
      go_wp2_with fail
      go_ret
      exact ⟨true, rfl, by simp [F.out], HC.out, fun _ => by rw [← FN.out]; exact SC3.out⟩

theorem tbl_of {w : World} (h : laidMet Tryd.prog [("loop.example/g01074/impl.nodeForms", .agg (fmL.map FM.dat))] w) : Tbl w :=
  forms_cell (t := 168) (e := 167) (ki := 2) (kn := 3) (kb := 4) (by kernel_rfl) (by kernel_rfl) Tryd.underlying168 Tryd.underlying167 rfl rfl rfl rfl rfl rfl rfl rfl rfl rfl rfl rfl rfl rfl Tryd.underlying2 Tryd.underlying3 Tryd.underlying4 (by kernel_rfl) (by kernel_rfl) (by kernel_rfl) (by kernel_rfl) h

theorem sz_all (u : LM) : SzC u := by
  refine LM.ind (P := SzC) (fun k m n t na nc ns a cap ks ih => ?_) u
  exact sz_of (.mk k m n t na nc ns a cap ks) ih

set_option maxRecDepth 100000 in
theorem impl_sizeTm (u : LM) (w : World) (h : u.Ok w) (hT : Tbl w) : Calls Tryd.prog 77 #[u.val] w (IntGw (szT u.tm) w) := by
  have gW : Gw w (((w.alloc (.cells #[.int .i64 u.k, .int .i64 u.m, .string u.n, .int .i64 u.t.k, .string u.t.n, .slice u.t.a u.t.ks.length u.t.cap, .slice u.na u.ns.length u.nc, .slice u.a u.ks.length u.cap] 50)).alloc (.cells #[.int .i64 0] 2)).alloc (.cells #[.func (.func 101) #[] #[.pointer (some ⟨w.heap.size + 1, 0, none⟩), .pointer (some ⟨w.heap.size + 1 + 1, 0, none⟩)]] 141)) := (((Gw.refl w).alloc _).alloc _).alloc _
  have hB : BoxM (((w.alloc (.cells #[.int .i64 u.k, .int .i64 u.m, .string u.n, .int .i64 u.t.k, .string u.t.n, .slice u.t.a u.t.ks.length u.t.cap, .slice u.na u.ns.length u.nc, .slice u.a u.ks.length u.cap] 50)).alloc (.cells #[.int .i64 0] 2)).alloc (.cells #[.func (.func 101) #[] #[.pointer (some ⟨w.heap.size + 1, 0, none⟩), .pointer (some ⟨w.heap.size + 1 + 1, 0, none⟩)]] 141)) w.heap.size u := ((BoxM.new w u 50).grow ((Gw.refl _).alloc _)).grow ((Gw.refl _).alloc _)
  have hS : SzCaps (((w.alloc (.cells #[.int .i64 u.k, .int .i64 u.m, .string u.n, .int .i64 u.t.k, .string u.t.n, .slice u.t.a u.t.ks.length u.t.cap, .slice u.na u.ns.length u.nc, .slice u.a u.ks.length u.cap] 50)).alloc (.cells #[.int .i64 0] 2)).alloc (.cells #[.func (.func 101) #[] #[.pointer (some ⟨w.heap.size + 1, 0, none⟩), .pointer (some ⟨w.heap.size + 1 + 1, 0, none⟩)]] 141)) (w.heap.size + 1) (w.heap.size + 1 + 1) 0 := by
    refine ⟨?_, heap_alloc_at _ _ _ _ rfl (by simp)⟩
    rw [Below.heap_alloc _ _ _ (by simp)]
    exact heap_alloc_at _ _ _ _ rfl (by simp)
  have hsz : (((w.alloc (.cells #[.int .i64 u.k, .int .i64 u.m, .string u.n, .int .i64 u.t.k, .string u.t.n, .slice u.t.a u.t.ks.length u.t.cap, .slice u.na u.ns.length u.nc, .slice u.a u.ks.length u.cap] 50)).alloc (.cells #[.int .i64 0] 2)).alloc (.cells #[.func (.func 101) #[] #[.pointer (some ⟨w.heap.size + 1, 0, none⟩), .pointer (some ⟨w.heap.size + 1 + 1, 0, none⟩)]] 141)).heap.size = w.heap.size + 3 := by simp
  have key := sz_all u w (((w.alloc (.cells #[.int .i64 u.k, .int .i64 u.m, .string u.n, .int .i64 u.t.k, .string u.t.n, .slice u.t.a u.t.ks.length u.t.cap, .slice u.na u.ns.length u.nc, .slice u.a u.ks.length u.cap] 50)).alloc (.cells #[.int .i64 0] 2)).alloc (.cells #[.func (.func 101) #[] #[.pointer (some ⟨w.heap.size + 1, 0, none⟩), .pointer (some ⟨w.heap.size + 1 + 1, 0, none⟩)]] 141)) 1 0 (w.heap.size + 1) (w.heap.size + 1 + 1) false h hT gW hS (by omega) (by omega) (by omega) (by omega)
  have f0 : (((w.alloc (.cells #[.int .i64 u.k, .int .i64 u.m, .string u.n, .int .i64 u.t.k, .string u.t.n, .slice u.t.a u.t.ks.length u.t.cap, .slice u.na u.ns.length u.nc, .slice u.a u.ks.length u.cap] 50)).alloc (.cells #[.int .i64 0] 2)).alloc (.cells #[.func (.func 101) #[] #[.pointer (some ⟨w.heap.size + 1, 0, none⟩), .pointer (some ⟨w.heap.size + 1 + 1, 0, none⟩)]] 141)).cell? ⟨w.heap.size + 1 + 1, 0, none⟩ = some (.func (.func 101) #[] #[.pointer (some ⟨w.heap.size + 1, 0, none⟩), .pointer (some ⟨w.heap.size + 1 + 1, 0, none⟩)]) := cell_of_row _ _ 0 _ _ _ hS.2
  obtain ⟨p0, p1, p2, p3, p4, p5, p6, p7⟩ := hB.c
  have KEY := Lib.hid key
  have G := Lib.hid gW
  clear key h hT hB hS gW
  go_enter Tryd.func77, Tryd.ntmps77
  go_upto_region 4 with (fail)
  generalize (((w.alloc (.cells #[.int .i64 u.k, .int .i64 u.m, .string u.n, .int .i64 u.t.k, .string u.t.n, .slice u.t.a u.t.ks.length u.t.cap, .slice u.na u.ns.length u.nc, .slice u.a u.ks.length u.cap] 50)).alloc (.cells #[.int .i64 0] 2)).alloc (.cells #[.func (.func 101) #[] #[.pointer (some ⟨w.heap.size + 1, 0, none⟩), .pointer (some ⟨w.heap.size + 1 + 1, 0, none⟩)]] 141)) = W at *
  go_wp2_with fail
  refine KEY.out.mono ?_
  rintro e w1 ⟨r, rfl, hr, hc, hcap⟩
  have G1 := Lib.hid (show Gw w w1 from Below.trans G.out (hc.gw (by omega) (fun b hb e => by omega)))
  clear hc p0 p1 p2 p3 p4 p5 p6 p7 f0 KEY hsz
  cases r with
  | false =>
    have F := Lib.hid (szT_no (t := u.tm) (decide_eq_false fun g => by have := hr.2 g; cases this))
    clear hr hcap
    go_wp2_with fail
    go_ret
    exact ⟨ret_int F.out.symm, G1.out⟩
  | true =>
    have F := Lib.hid (szT_yes (t := u.tm) (decide_eq_true (hr.1 rfl)))
    have c0 : w1.cell? ⟨w.heap.size + 1, 0, none⟩ = some (.int .i64 ((0 + u.tm.nn : Nat) : Int)) := cell_of_row _ _ 0 _ _ _ (hcap rfl).1
    rw [Nat.zero_add] at c0
    clear hr hcap
    go_wp2_with fail
    go_ret
    exact ⟨ret_int F.out.symm, G1.out⟩

theorem impl_validTm (u : LM) (w : World) (h : u.Ok w) (hT : Tbl w) : Calls Tryd.prog 43 #[u.val] w (BoolGw (okT u.tm) w) := by
  have g0 := (Gw.refl w).alloc (.cells #[.int .i64 u.k, .int .i64 u.m, .string u.n, .int .i64 u.t.k, .string u.t.n, .slice u.t.a u.t.ks.length u.t.cap, .slice u.na u.ns.length u.nc, .slice u.a u.ks.length u.cap] 50)
  have KEY := Lib.hid (impl_sizeTm u _ (h.grow g0) (hT.grow g0))
  have G := Lib.hid g0
  clear h hT g0
  go_enter Tryd.func43, Tryd.ntmps43
  go_wp2_with fail
  refine KEY.out.mono ?_
  rintro e w1 ⟨rfl, g1⟩
  cases hok : okT u.tm with
  | false =>
    have HOK := Lib.hid hok
    rw [szT_no hok]
    clear hok
    go_wp2_with fail
    go_ret
    exact ⟨ret_b (by first | exact HOK.out.symm | rfl), G.out.trans g1⟩
  | true =>
    have HOK := Lib.hid hok
    rw [szT_yes hok]
    have hp := nn_pos u.tm
    have q : (0 : Int) < u.tm.nn := by omega
    clear hok
    go_wp2_with fail
    go_ret
    exact ⟨ret_b (by (try rw [HOK.out]); (first | rfl | exact decide_eq_true (by omega))), G.out.trans g1⟩

end Go.Proofs.YtkfplnnncfkjfaaDoor.Con
