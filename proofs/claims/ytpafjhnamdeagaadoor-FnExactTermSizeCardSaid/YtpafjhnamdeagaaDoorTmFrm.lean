/-
  The program's table of forms, and contracts of fitsName, fitsType, fitsNames, hasForm. Condition: the table reads as the program's text lays it, and the term lies in memory.
-/
import Derived.Test.YtpafjhnamdeagaaDoorTmNds
import Derived.Test.YtpafjhnamdeagaaDoorTyValid
import Derived.LaidMore
namespace Go.Proofs.YtpafjhnamdeagaaDoor.Con
open Go.RowKit
set_option linter.unusedVariables false

structure FM where
  lo : Int
  hi : Int
  nm : Int
  ty : Bool
  mn : Int
  kl : Int
  kh : Int
instance : Inhabited FM := ⟨⟨0, 0, 0, false, 0, 0, 0⟩⟩
abbrev FM.val (f : FM) : Value := .agg #[.int .i64 f.lo, .int .i64 f.hi, .int .i64 f.nm, .bool f.ty, .int .i64 f.mn, .int .i64 f.kl, .int .i64 f.kh]
def FM.cells (f : FM) : List Value := [.int .i64 f.lo, .int .i64 f.hi, .int .i64 f.nm, .bool f.ty, .int .i64 f.mn, .int .i64 f.kl, .int .i64 f.kh]
def FM.dat {H : Type} (f : FM) : DataW H := .agg [.lit (.int .i64 f.lo), .lit (.int .i64 f.hi), .lit (.int .i64 f.nm), .lit (.bool f.ty), .lit (.int .i64 f.mn), .lit (.int .i64 f.kl), .lit (.int .i64 f.kh)]
def fmL : List FM := [⟨0, 0, 0, false, 0, 0, 0⟩, ⟨0, 0, 1, false, 0, 0, 0⟩, ⟨(-2147483648), 2147483647, 0, false, 0, 0, 0⟩, ⟨1, 6, 0, false, 0, 2, 2⟩, ⟨0, 0, 1, true, 0, 1, 1⟩, ⟨0, 0, 0, false, 0, 2, 2⟩, ⟨0, 0, 0, false, 0, 1, 1⟩, ⟨0, 0, 1, false, 0, 2, 2⟩, ⟨0, 0, 2, false, 0, 0, 3⟩, ⟨0, 0, 0, false, 0, 2, 5⟩, ⟨0, 0, 2, false, 3, 1, 1⟩, ⟨0, 0, 0, false, 0, 3, 3⟩]
def fmAt (i : Nat) : FM := fmL.getD i default

/-- The table lies in block g. -/
def TblAt (g : Nat) (w : World) : Prop := g < w.heap.size ∧ ∀ i, i < 12 → ∀ j v, (fmAt i).cells[j]? = some v → w.cell? ⟨g, i * 7 + j, none⟩ = some v
theorem TblAt.grow {g : Nat} {w w' : World} (h : TblAt g w) (gr : Gw w w') : TblAt g w' := ⟨Nat.lt_of_lt_of_le h.1 gr.size, fun i hi j v hv => gr.cell (h.2 i hi j v hv) h.1⟩

theorem cell_at7 {l : List Value} {n j : Nat} {x : Value} (hj : j < 7) (h : List.take 1 (List.drop j (List.take 7 (List.drop n l))) = [x]) : l[n + j]? = some x := by
  have h0 : (List.take 1 (List.drop j (List.take 7 (List.drop n l))))[0]? = some x := by rw [h]; rfl
  simpa [List.getElem?_take, List.getElem?_drop, hj] using h0

theorem forms_cell {P : Program} {W : World} {name : String} {g t e ki kn kb : Nat} {f0 f1 f2 f3 f4 f5 f6 : Field} (hG : P.globalNamed name = some g) (hT : (P.globals[g]?).map (·.type) = some t)
    (hU : P.underlying t = some (.array 12 e)) (hE : P.underlying e = some (.struct #[f0, f1, f2, f3, f4, f5, f6])) (t0 : f0.type = ki) (t1 : f1.type = ki) (t2 : f2.type = kn) (t3 : f3.type = kb) (t4 : f4.type = kn) (t5 : f5.type = kn) (t6 : f6.type = kn)
    (o0 : f0.offset = 0) (o1 : f1.offset = 1) (o2 : f2.offset = 2) (o3 : f3.offset = 3) (o4 : f4.offset = 4) (o5 : f5.offset = 5) (o6 : f6.offset = 6)
    (uk : P.underlying ki = some (.int .i64)) (un : P.underlying kn = some (.int .i64)) (ub : P.underlying kb = some .bool) (ck : P.cellsOf ki = 1) (cn : P.cellsOf kn = 1) (cb : P.cellsOf kb = 1) (hC : P.cellsOf e = 7)
    (h : laidMet P [(name, .agg (fmL.map FM.dat))] W) : TblAt g W := by
  obtain ⟨ps, ⟨g', t', cs, fuel, p, q, hg, ht, hv, hd, _, _⟩, _, _⟩ := h
  obtain rfl := Option.some.inj (hG.symm.trans hg)
  obtain rfl := Option.some.inj (hT.symm.trans ht)
  obtain ⟨xs, m, _, ex, _, hl, hel⟩ := DataW.trod_array hU hd
  refine ⟨?_, fun i hi j v hv' => ?_⟩
  · unfold World.var? at hv
    rw [hg] at hv
    simp only [Option.bind_some] at hv
    cases hh : W.heap[g]? with
    | none => rw [hh] at hv; cases hv
    | some o => exact (Array.getElem?_eq_some_iff.1 hh).1
  have hx := hel i hi
  rw [hC, List.getElem?_eq_getElem (by omega)] at hx
  have e3 : (xs.map (·.1)) = fmL.map FM.dat := (DataW.agg.inj (Prod.mk.inj ex).1).symm
  have e4 : (xs.map (·.1))[i]? = (fmL.map (FM.dat (H := Unit)))[i]? := by rw [e3]
  have hi' : i < fmL.length := hi
  rw [List.getElem?_map, List.getElem?_map, List.getElem?_eq_getElem (by omega : i < xs.length), List.getElem?_eq_getElem hi'] at e4
  simp only [Option.map_some, Option.some.injEq] at e4
  have hf : fmAt i = fmL[i] := by unfold fmAt; rw [List.getD, List.getElem?_eq_getElem hi']; rfl
  obtain ⟨ys, m2, _, ey, hly, hly2, hfy⟩ := DataW.trod_struct hE hx
  match ys, hly2 with
  | [y0, y1, y2, y3, y4, y5, y6], _ =>
  have g0 := hfy 0 f0 rfl
  have g1 := hfy 1 f1 rfl
  have g2 := hfy 2 f2 rfl
  have g3 := hfy 3 f3 rfl
  have g4 := hfy 4 f4 rfl
  have g5 := hfy 5 f5 rfl
  have g6 := hfy 6 f6 rfl
  rw [t0, o0, ck] at g0
  rw [t1, o1, ck] at g1
  rw [t2, o2, cn] at g2
  rw [t3, o3, cb] at g3
  rw [t4, o4, cn] at g4
  rw [t5, o5, cn] at g5
  rw [t6, o6, cn] at g6
  simp only [List.getElem?_cons_zero, List.getElem?_cons_succ] at g0 g1 g2 g3 g4 g5 g6
  obtain ⟨v0, a0, b0, _⟩ := DataW.trod_int uk g0
  obtain ⟨v1, a1, b1, _⟩ := DataW.trod_int uk g1
  obtain ⟨v2, a2, b2, _⟩ := DataW.trod_int un g2
  obtain ⟨v3, a3, b3⟩ := DataW.trod_bool ub g3
  obtain ⟨v4, a4, b4, _⟩ := DataW.trod_int un g4
  obtain ⟨v5, a5, b5, _⟩ := DataW.trod_int un g5
  obtain ⟨v6, a6, b6, _⟩ := DataW.trod_int un g6
  rw [ey] at e4
  subst b0 b1 b2 b3 b4 b5 b6
  have e5 := DataW.agg.inj e4
  simp only [List.map_cons, List.map_nil, List.cons.injEq, DataW.lit.injEq, Lit.int.injEq, Lit.bool.injEq, true_and, and_true] at e5
  obtain ⟨c0, c1, c2, c3, c4, c5, c6⟩ := e5
  rw [World.var?_cell hg hv, ← Array.getElem?_toList]
  rw [hf] at hv'
  match j, hv' with
  | 0, hv' => rw [cell_at7 (by decide) a0, c0]; exact hv'
  | 1, hv' => rw [cell_at7 (by decide) a1, c1]; exact hv'
  | 2, hv' => rw [cell_at7 (by decide) a2, c2]; exact hv'
  | 3, hv' => rw [cell_at7 (by decide) a3, c3]; exact hv'
  | 4, hv' => rw [cell_at7 (by decide) a4, c4]; exact hv'
  | 5, hv' => rw [cell_at7 (by decide) a5, c5]; exact hv'
  | 6, hv' => rw [cell_at7 (by decide) a6, c6]; exact hv'
  | n + 7, hv' => exact absurd hv' (by simp [FM.cells])

def nmF (k : Int) (n : ByteArray) : Bool := if k = 1 then lowerB n else if k = 2 then upperB n else n.toList.isEmpty
def tyF (b : Bool) (t : Ty) : Bool := if b = true then validB t else noTy t
def nsF (mn : Int) (ns : List ByteArray) : Bool := decide ((ns.length : Int) ≤ mn) && distB ns
def formB (f : FM) (m : Int) (n : ByteArray) (t : Ty) (ns : List ByteArray) (l : Nat) : Bool := inI l f.kl f.kh && (nmF f.nm n && (tyF f.ty t && (nsF f.mn ns && inI m f.lo f.hi)))
theorem nsF0 (ns : List ByteArray) : nsF 0 ns = decide (ns.length = 0) := by
  unfold nsF
  cases ns with
  | nil => rfl
  | cons x xs => have : ¬ (((x :: xs).length : Int) ≤ 0) := by simp only [List.length_cons]; omega
                 rw [decide_eq_false this]; simp
theorem nsF3 (ns : List ByteArray) : nsF 3 ns = (decide (ns.length ≤ 3) && distB ns) := by
  unfold nsF
  congr 1
  by_cases h : ns.length ≤ 3
  · have : (ns.length : Int) ≤ 3 := by omega
    rw [decide_eq_true h, decide_eq_true this]
  · have : ¬ (ns.length : Int) ≤ 3 := by omega
    rw [decide_eq_false h, decide_eq_false this]
theorem head_form (i : Nat) (h1 : 1 ≤ i) (h2 : i ≤ 11) (m : Int) (n : ByteArray) (t : Ty) (ns : List ByteArray) (l : Nat) : headM i m n t ns l = formB (fmAt i) m n t ns l := by
  unfold headM formB fldM
  match i, h1, h2 with
  | 1, _, _ => rw [show (fmAt 1).mn = 0 from rfl, nsF0]; rfl
  | 2, _, _ => rw [show (fmAt 2).mn = 0 from rfl, nsF0]; rfl
  | 3, _, _ => rw [show (fmAt 3).mn = 0 from rfl, nsF0]; rfl
  | 4, _, _ => rw [show (fmAt 4).mn = 0 from rfl, nsF0]; rfl
  | 5, _, _ => rw [show (fmAt 5).mn = 0 from rfl, nsF0]; rfl
  | 6, _, _ => rw [show (fmAt 6).mn = 0 from rfl, nsF0]; rfl
  | 7, _, _ => rw [show (fmAt 7).mn = 0 from rfl, nsF0]; rfl
  | 8, _, _ => rw [show (fmAt 8).mn = 0 from rfl, nsF0]; rfl
  | 9, _, _ => rw [show (fmAt 9).mn = 0 from rfl, nsF0]; rfl
  | 10, _, _ => rw [show (fmAt 10).mn = 3 from rfl, nsF3]; rfl
  | 11, _, _ => rw [show (fmAt 11).mn = 0 from rfl, nsF0]; rfl

theorem form_no1 {f : FM} {m : Int} {n : ByteArray} {t : Ty} {ns : List ByteArray} {l : Nat} (h : ¬ f.lo ≤ m ∨ ¬ m ≤ f.hi) : formB f m n t ns l = false := by
  have : inI m f.lo f.hi = false := by unfold inI; rcases h with h | h <;> simp [h]
  unfold formB; rw [this]; simp
theorem form_no2 {f : FM} {m : Int} {n : ByteArray} {t : Ty} {ns : List ByteArray} {l : Nat} (h : ¬ f.kl ≤ l ∨ ¬ (l : Int) ≤ f.kh) : formB f m n t ns l = false := by
  have : inI l f.kl f.kh = false := by unfold inI; rcases h with h | h <;> simp [h]
  unfold formB; rw [this]; rfl
theorem form_no3 {f : FM} {m : Int} {n : ByteArray} {t : Ty} {ns : List ByteArray} {l : Nat} (h : nmF f.nm n = false) : formB f m n t ns l = false := by unfold formB; rw [h]; simp
theorem form_no4 {f : FM} {m : Int} {n : ByteArray} {t : Ty} {ns : List ByteArray} {l : Nat} (h : tyF f.ty t = false) : formB f m n t ns l = false := by unfold formB; rw [h]; simp
theorem form_yes {f : FM} {m : Int} {n : ByteArray} {t : Ty} {ns : List ByteArray} {l : Nat} {b : Bool} (h1 : f.lo ≤ m) (h2 : m ≤ f.hi) (h3 : f.kl ≤ l) (h4 : (l : Int) ≤ f.kh) (h5 : nmF f.nm n = true) (h6 : tyF f.ty t = true) (h7 : nsF f.mn ns = b) : formB f m n t ns l = b := by
  unfold formB inI; rw [h5, h6, h7]; simp [h1, h2, h3, h4]
theorem head_out {k m : Int} {n : ByteArray} {t : Ty} {ns : List ByteArray} {l : Nat} (h : k < 1 ∨ 11 < k) : headM k m n t ns l = false := by
  cases hb : inI l (kidsLo k) (kidsHi k) with
  | true => have := kids_kind hb; omega
  | false => unfold headM; rw [hb]; rfl

theorem impl_fitsName (f : FM) (n : ByteArray) (hn : n.size ≤ 9223372036854775807) (w : World) : Calls Tryd.prog 73 #[f.val, .string n] w (BoolGw (nmF f.nm n) w) := by
  have G := Lib.hid ((Gw.refl w).alloc (.cells #[.int .i64 f.lo, .int .i64 f.hi, .int .i64 f.nm, .bool f.ty, .int .i64 f.mn, .int .i64 f.kl, .int .i64 f.kh] 116))
  by_cases h1 : f.nm = 1
  · have F := Lib.hid (show nmF f.nm n = lowerB n by unfold nmF; rw [if_pos h1])
    have q1 : (f.nm == 1) = true := by simpa using h1
    clear h1
    go_enter Tryd.func73, Tryd.ntmps73
    go_wp2_with fail
    refine (impl_lower n hn _).mono ?_
    rintro e w1 ⟨rfl, g1⟩
    go_wp2_with fail
    go_ret
    exact ⟨ret_b F.out.symm, G.out.trans g1⟩
  · by_cases h2 : f.nm = 2
    · have F := Lib.hid (show nmF f.nm n = upperB n by unfold nmF; rw [if_neg h1, if_pos h2])
      have q1 : (f.nm == 1) = false := by simpa using h1
      have q2 : (f.nm == 2) = true := by simpa using h2
      clear h1 h2
      go_enter Tryd.func73, Tryd.ntmps73
      go_wp2_with fail
      refine (impl_upper n hn _).mono ?_
      rintro e w1 ⟨rfl, g1⟩
      go_wp2_with fail
      go_ret
      exact ⟨ret_b F.out.symm, G.out.trans g1⟩
    · have F := Lib.hid (show nmF f.nm n = n.toList.isEmpty by unfold nmF; rw [if_neg h1, if_neg h2])
      have q1 : (f.nm == 1) = false := by simpa using h1
      have q2 : (f.nm == 2) = false := by simpa using h2
      clear h1 h2
      cases hb : n.toList.isEmpty with
      | false =>
        rw [hb] at F
        go_enter Tryd.func73, Tryd.ntmps73
        go_wp2_with fail
        go_ret
        exact ⟨ret_b F.out.symm, G.out⟩
      | true =>
        rw [hb] at F
        go_enter Tryd.func73, Tryd.ntmps73
        go_wp2_with fail
        go_ret
        exact ⟨ret_b F.out.symm, G.out⟩

theorem impl_fitsType (f : FM) (t : LT) (w : World) (h : t.Ok w) : Calls Tryd.prog 74 #[f.val, t.val] w (BoolGw (tyF f.ty t.ty) w) := by
  have hn : t.n.size ≤ 9223372036854775807 := h.nm
  have hl : t.ks.length ≤ 9223372036854775807 := Nat.le_trans h.kids.1 h.kids.2.1
  have g := ((Gw.refl w).alloc (.cells #[.int .i64 f.lo, .int .i64 f.hi, .int .i64 f.nm, .bool f.ty, .int .i64 f.mn, .int .i64 f.kl, .int .i64 f.kh] 116)).alloc (.cells #[.int .i64 t.k, .string t.n, .slice t.a t.ks.length t.cap] 33)
  have HO := Lib.hid (h.grow g)
  have G := Lib.hid g
  clear g h
  cases hb : f.ty with
  | true =>
    have F := Lib.hid (show tyF true t.ty = validB t.ty from rfl)
    go_enter Tryd.func74, Tryd.ntmps74
    go_wp2_with fail
    refine (impl_valid t _ (by first | exact HO.out | (rw [← hb]; exact HO.out))).mono ?_
    rintro e w1 ⟨rfl, g1⟩
    go_wp2_with fail
    go_ret
    exact ⟨ret_b F.out.symm, by first | exact G.out.trans g1 | (rw [← hb] at g1; exact G.out.trans g1)⟩
  | false =>
    have F := Lib.hid (show tyF false t.ty = noTy t.ty from rfl)
    rw [noTy_eq] at F
    rw [hb] at G
    cases h0 : (t.k == 0) with
    | false =>
      rw [h0] at F
      go_enter Tryd.func74, Tryd.ntmps74
      go_wp2_with (go_quiet (fail))
      go_ret
      exact ⟨ret_b (by rw [F.out]; simp), by first | exact G.out | exact G.out.drewN _⟩
    | true =>
      rw [h0] at F
      cases h1 : t.n.toList.isEmpty with
      | false =>
        rw [h1] at F
        go_enter Tryd.func74, Tryd.ntmps74
        go_wp2_with (go_quiet (fail))
        go_ret
        exact ⟨ret_b (by rw [F.out]; simp), by first | exact G.out | exact G.out.drewN _⟩
      | true =>
        rw [h1] at F
        go_enter Tryd.func74, Tryd.ntmps74
        go_wp2_with (go_quiet (fail))
        go_ret
        exact ⟨ret_b (by rw [F.out]; cases t.ks with | nil => simp | cons x xs => simp; omega), by first | exact G.out | exact G.out.drewN _⟩

end Go.Proofs.YtpafjhnamdeagaaDoor.Con
