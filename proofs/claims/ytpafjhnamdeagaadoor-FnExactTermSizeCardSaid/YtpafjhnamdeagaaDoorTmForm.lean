/-
  Contracts of slices.Contains on texts, of fitsNames and hasForm of the program. Condition: the table reads as the program's text lays it, and the term lies in memory.
-/
import Derived.Test.YtpafjhnamdeagaaDoorTmFrm
namespace Go.Proofs.YtpafjhnamdeagaaDoor.Con
open Go.RowKit
set_option linter.unusedVariables false

set_option maxRecDepth 100000 in
theorem impl_indexS (ns : List ByteArray) (n : Nat) (hn : ns.length = n) (nm : ByteArray) (w : World) (a : Option Addr) (cap : Nat) (h : strSl w a cap ns) :
    Calls Tryd.prog 78 #[.slice a n cap, .string nm] w fun e w' => ∃ r, e = .returned (.int .i64 r) ∧ decide (0 ≤ r) = hasB ns nm ∧ Gw w w' := by
  subst hn
  have hl : ns.length ≤ 9223372036854775807 := Nat.le_trans h.1 h.2.1
  have HR := Lib.hid h.2.2
  clear h
  go_enter Tryd.func78, Tryd.ntmps78
  go_wp2_with fail
  go_loopw [8] (fun i wr => ∃ j : Nat, j ≤ ns.length ∧ i = .int .i64 j ∧ Gw w wr ∧ ∀ x (hx : x < ns.length), x < j → ns[x] ≠ nm) (fun i _ => ns.length - (intOf i).toNat)
  case atStart => exact ⟨0, by omega, rfl, Gw.refl _, fun x _ h => absurd h (by omega)⟩
  case round =>
    obtain ⟨j, hj, rfl, hg, hall⟩ := hrel
    have HALL := Lib.hid hall
    clear hall
    by_cases hlt : j < ns.length
    · obtain ⟨b, o, rfl, hr⟩ := HR.out.resolve_left (fun e => by subst e; simp at hlt)
      obtain ⟨c0, _⟩ := strRow_get (hr.grow sLen sGr hg) j hlt
      have q0 : (0 : Int) ≤ j := by omega
      have q1 : (j : Int) < ns.length := by omega
      clear hr
      by_cases he : ns[j] = nm
      · have hd : (nm.toList == ns[j].toList) = true := by rw [he]; simp
        have HE := Lib.hid (show hasB ns nm = true from hasB_iff.2 (he ▸ List.getElem_mem hlt))
        clear he
        go_wp2_with (go_quiet (fail))
        go_ret
        exact ⟨_, rfl, by rw [HE.out]; simp, by first | exact hg | exact hg.drewN _⟩
      · have hd : (nm.toList == ns[j].toList) = false := toList_ne (fun e => he e.symm)
        have HE := Lib.hid he
        clear he
        go_wp2_with (go_quiet (fail))
        go_roundw
        case rel =>
          refine ⟨j + 1, by omega, by go_num, by first | exact hg | exact hg.drewN _, fun x hx hi => ?_⟩
          by_cases e : x = j
          · subst e; exact HE.out
          · exact HALL.out x hx (by omega)
        case measure => simp [intOf]; omega
    · obtain rfl : j = ns.length := by omega
      go_wp2_with fail
      go_ret
      refine ⟨_, rfl, ?_, hg⟩
      have : hasB ns nm = false := hasB_false.2 fun hm => by
        obtain ⟨i, hi, e⟩ := List.mem_iff_getElem.1 hm
        exact HALL.out i hi hi e
      rw [this]; simp

theorem impl_containsS (ns : List ByteArray) (n : Nat) (hn : ns.length = n) (nm : ByteArray) (w : World) (a : Option Addr) (cap : Nat) (h : strSl w a cap ns) :
    Calls Tryd.prog 45 #[.slice a n cap, .string nm] w (BoolGw (hasB ns nm) w) := by
  have KEY := Lib.hid (impl_indexS ns n hn nm w a cap h)
  clear h
  go_enter Tryd.func45, Tryd.ntmps45
  go_wp2_with fail
  refine KEY.out.mono ?_
  rintro e w1 ⟨r, rfl, hr, g1⟩
  have HR := Lib.hid hr
  clear hr
  go_wp2_with fail
  go_ret
  exact ⟨ret_b (by rw [← HR.out]), g1⟩

set_option maxRecDepth 100000 in
set_option maxHeartbeats 1000000 in
theorem impl_fitsNames (f : FM) (ns : List ByteArray) (w : World) (a : Option Addr) (cap : Nat) (h : strSl w a cap ns) : Calls Tryd.prog 75 #[f.val, .slice a ns.length cap] w (BoolGw (nsF f.mn ns) w) := by
  have hl : ns.length ≤ 9223372036854775807 := Nat.le_trans h.1 h.2.1
  have hlc : ns.length ≤ cap := h.1
  have hcc : cap ≤ 9223372036854775807 := h.2.1
  have HS := Lib.hid h
  have G := Lib.hid ((Gw.refl w).alloc (.cells #[.int .i64 f.lo, .int .i64 f.hi, .int .i64 f.nm, .bool f.ty, .int .i64 f.mn, .int .i64 f.kl, .int .i64 f.kh] 116))
  clear h
  by_cases hm : (ns.length : Int) ≤ f.mn
  rotate_left
  · have F := Lib.hid (show nsF f.mn ns = false by unfold nsF; rw [decide_eq_false hm]; rfl)
    have hm2 : f.mn < ns.length := by omega
    go_enter Tryd.func75, Tryd.ntmps75
    go_wp2_with fail
    go_ret
    exact ⟨ret_b F.out.symm, G.out⟩
  have F := Lib.hid (show nsF f.mn ns = distB ns by unfold nsF; rw [decide_eq_true hm]; rfl)
  go_enter Tryd.func75, Tryd.ntmps75
  go_wp2_with fail
  clear hm
  go_loopw [14] (fun i wr => ∃ j : Nat, j ≤ ns.length ∧ i = .int .i64 j ∧ Gw w wr ∧ ∀ x, x < j → dsB ns x = true) (fun i _ => ns.length - (intOf i).toNat)
  case atStart => exact ⟨0, by omega, rfl, G.out, fun x h => absurd h (by omega)⟩
  case round =>
    obtain ⟨j, hj, rfl, hg, hall⟩ := hrel
    have HALL := Lib.hid hall
    have HG := Lib.hid hg
    clear hall hg
    by_cases hlt : j < ns.length
    · obtain ⟨b, o, rfl, hr⟩ := HS.out.2.2.resolve_left (fun e => by subst e; simp at hlt)
      obtain ⟨c0, hk⟩ := strRow_get (hr.grow sLen sGr HG.out) j hlt
      have hk2 : ns[j].size ≤ 9223372036854775807 := hk
      have q0 : (0 : Int) ≤ j := by omega
      have q1 : (j : Int) < ns.length := by omega
      have q2 : (j : Int) ≤ cap := by omega
      have HT := Lib.hid (HS.out.take j)
      have HL := Lib.hid (show (ns.take j).length = j by rw [List.length_take]; omega)
      have HD := Lib.hid (dsB_eq hlt)
      clear hr hk
      go_wp2_with fail
      refine (impl_lower ns[j] hk2 _).mono ?_
      rintro e w2 ⟨rfl, g2⟩
      have G2 := Lib.hid (HG.out.trans g2)
      clear g2 c0
      cases hb : lowerB ns[j] with
      | false =>
        have HB := Lib.hid hb
        clear hb
        go_wp2_with fail
        go_ret
        exact ⟨ret_b (by rw [F.out]; exact (distB_bad hlt (by rw [HD.out, HB.out]; rfl)).symm), G2.out⟩
      | true =>
        have HB := Lib.hid hb
        clear hb
        go_wp2_with fail
        refine (impl_containsS (ns.take j) j HL.out ns[j] _ (some ⟨b, o, none⟩) cap (HT.out.grow G2.out)).mono ?_
        rintro e w3 ⟨rfl, g3⟩
        have G3 := Lib.hid (G2.out.trans g3)
        clear g3
        cases hh : hasB (ns.take j) ns[j] with
        | true =>
          have HH := Lib.hid hh
          clear hh
          go_wp2_with fail
          go_ret
          exact ⟨ret_b (by rw [F.out]; exact (distB_bad hlt (by rw [HD.out, HB.out, HH.out]; rfl)).symm), G3.out⟩
        | false =>
          have HH := Lib.hid hh
          clear hh
          go_wp2_with fail
          go_roundw
          case rel =>
            refine ⟨j + 1, by omega, by go_num, G3.out, fun x hx => ?_⟩
            by_cases e : x = j
            · subst e; rw [HD.out, HB.out, HH.out]; rfl
            · exact HALL.out x (by omega)
          case measure => simp [intOf]; omega
    · obtain rfl : j = ns.length := by omega
      go_wp2_with fail
      go_ret
      exact ⟨ret_b (by rw [F.out, distB_all HALL.out]), HG.out⟩

/-- A block holds a term. -/
def BoxM (W : World) (b : Nat) (u : LM) : Prop := ∃ e, W.heap[b]? = some (.cells #[.int .i64 u.k, .int .i64 u.m, .string u.n, .int .i64 u.t.k, .string u.t.n, .slice u.t.a u.t.ks.length u.t.cap, .slice u.na u.ns.length u.nc, .slice u.a u.ks.length u.cap] e (0, 0))
theorem BoxM.new (W : World) (u : LM) (e : TypeId) : BoxM (W.alloc (.cells #[.int .i64 u.k, .int .i64 u.m, .string u.n, .int .i64 u.t.k, .string u.t.n, .slice u.t.a u.t.ks.length u.t.cap, .slice u.na u.ns.length u.nc, .slice u.a u.ks.length u.cap] e)) W.heap.size u := ⟨e, heap_alloc_new W _⟩
theorem BoxM.lt {W : World} {b : Nat} {u : LM} (h : BoxM W b u) : b < W.heap.size := by
  obtain ⟨e, h⟩ := h
  exact (Array.getElem?_eq_some_iff.1 h).1
theorem BoxM.same {W W' : World} {b : Nat} {u : LM} (h : BoxM W b u) (hs : W'.heap[b]? = W.heap[b]?) : BoxM W' b u := by
  obtain ⟨e, h⟩ := h
  exact ⟨e, hs.trans h⟩
theorem BoxM.grow {W W' : World} {b : Nat} {u : LM} (h : BoxM W b u) (g : Gw W W') : BoxM W' b u := h.same (g.block b h.lt)
theorem BoxM.c {W : World} {b : Nat} {u : LM} (h : BoxM W b u) : W.cell? ⟨b, 0, none⟩ = some (.int .i64 u.k) ∧ W.cell? ⟨b, 1, none⟩ = some (.int .i64 u.m) ∧ W.cell? ⟨b, 2, none⟩ = some (.string u.n) ∧
    W.cell? ⟨b, 3, none⟩ = some (.int .i64 u.t.k) ∧ W.cell? ⟨b, 4, none⟩ = some (.string u.t.n) ∧ W.cell? ⟨b, 5, none⟩ = some (.slice u.t.a u.t.ks.length u.t.cap) ∧
    W.cell? ⟨b, 6, none⟩ = some (.slice u.na u.ns.length u.nc) ∧ W.cell? ⟨b, 7, none⟩ = some (.slice u.a u.ks.length u.cap) := by
  obtain ⟨e, h⟩ := h
  exact ⟨cell_of_row _ _ 0 _ _ _ h, cell_of_row _ _ 1 _ _ _ h, cell_of_row _ _ 2 _ _ _ h, cell_of_row _ _ 3 _ _ _ h, cell_of_row _ _ 4 _ _ _ h, cell_of_row _ _ 5 _ _ _ h, cell_of_row _ _ 6 _ _ _ h, cell_of_row _ _ 7 _ _ _ h⟩

/-- A block holds a form. -/
def BoxF (W : World) (b : Nat) (f : FM) : Prop := ∃ e, W.heap[b]? = some (.cells #[.int .i64 f.lo, .int .i64 f.hi, .int .i64 f.nm, .bool f.ty, .int .i64 f.mn, .int .i64 f.kl, .int .i64 f.kh] e (0, 0))
theorem BoxF.lt {W : World} {b : Nat} {f : FM} (h : BoxF W b f) : b < W.heap.size := by
  obtain ⟨e, h⟩ := h
  exact (Array.getElem?_eq_some_iff.1 h).1
theorem BoxF.grow {W W' : World} {b : Nat} {f : FM} (h : BoxF W b f) (g : Gw W W') : BoxF W' b f := by
  have := h.lt
  obtain ⟨e, h⟩ := h
  exact ⟨e, (g.block b this).trans h⟩
theorem BoxF.c {W : World} {b : Nat} {f : FM} (h : BoxF W b f) : W.cell? ⟨b, 0, none⟩ = some (.int .i64 f.lo) ∧ W.cell? ⟨b, 1, none⟩ = some (.int .i64 f.hi) ∧ W.cell? ⟨b, 2, none⟩ = some (.int .i64 f.nm) ∧
    W.cell? ⟨b, 3, none⟩ = some (.bool f.ty) ∧ W.cell? ⟨b, 4, none⟩ = some (.int .i64 f.mn) ∧ W.cell? ⟨b, 5, none⟩ = some (.int .i64 f.kl) ∧ W.cell? ⟨b, 6, none⟩ = some (.int .i64 f.kh) := by
  obtain ⟨e, h⟩ := h
  exact ⟨cell_of_row _ _ 0 _ _ _ h, cell_of_row _ _ 1 _ _ _ h, cell_of_row _ _ 2 _ _ _ h, cell_of_row _ _ 3 _ _ _ h, cell_of_row _ _ 4 _ _ _ h, cell_of_row _ _ 5 _ _ _ h, cell_of_row _ _ 6 _ _ _ h⟩

abbrev Tbl (w : World) : Prop := TblAt 0 w

set_option maxRecDepth 100000 in
set_option maxHeartbeats 2000000 in
theorem impl_form (u : LM) (w : World) (h : u.Ok w) (hT : Tbl w) : Calls Tryd.prog 42 #[u.val] w (BoolGw (headM u.k u.m u.n u.t.ty u.ns u.ks.length) w) := by
  have hn : u.n.size ≤ 9223372036854775807 := h.nm
  have hll : u.ks.length ≤ 9223372036854775807 := Nat.le_trans h.kids.1 h.kids.2.1
  have g0 := (Gw.refl w).alloc (.cells #[.int .i64 u.k, .int .i64 u.m, .string u.n, .int .i64 u.t.k, .string u.t.n, .slice u.t.a u.t.ks.length u.t.cap, .slice u.na u.ns.length u.nc, .slice u.a u.ks.length u.cap] 36)
  have G0 := Lib.hid g0
  by_cases h1 : u.k < 1
  · have F := Lib.hid (head_out (k := u.k) (m := u.m) (n := u.n) (t := u.t.ty) (ns := u.ns) (l := u.ks.length) (.inl h1))
    clear h hT g0
    go_enter Tryd.func42, Tryd.ntmps42
    go_wp2_with fail
    go_ret
    exact ⟨ret_b F.out.symm, G0.out⟩
  by_cases h2 : 11 < u.k
  · have F := Lib.hid (head_out (k := u.k) (m := u.m) (n := u.n) (t := u.t.ty) (ns := u.ns) (l := u.ks.length) (.inr h2))
    clear h hT g0
    go_enter Tryd.func42, Tryd.ntmps42
    go_wp2_with fail
    go_ret
    exact ⟨ret_b F.out.symm, G0.out⟩
  obtain ⟨i, hi⟩ : ∃ i : Nat, u.k = i := ⟨u.k.toNat, by omega⟩
  have i1 : 1 ≤ i := by omega
  have i2 : i ≤ 11 := by omega
  have HH := Lib.hid (head_form i i1 i2 u.m u.n u.t.ty u.ns u.ks.length)
  obtain ⟨f, hf⟩ : ∃ f, f = fmAt i := ⟨_, rfl⟩
  have hT2 := hT.grow g0
  have t0 := hT2.2 i (by omega) 0 _ rfl
  have t1 := hT2.2 i (by omega) 1 _ rfl
  have t2 := hT2.2 i (by omega) 2 _ rfl
  have t3 := hT2.2 i (by omega) 3 _ rfl
  have t4 := hT2.2 i (by omega) 4 _ rfl
  have t5 := hT2.2 i (by omega) 5 _ rfl
  have t6 := hT2.2 i (by omega) 6 _ rfl
  rw [← hf] at t0 t1 t2 t3 t4 t5 t6 HH
  rw [Nat.add_zero] at t0
  have BX := Lib.hid (BoxM.new w u 36)
  have OK := Lib.hid (h.grow g0)
  have HI := Lib.hid hi
  show Calls Tryd.prog 42 #[.agg #[.int .i64 u.k, .int .i64 u.m, .string u.n, .int .i64 u.t.k, .string u.t.n, .slice u.t.a u.t.ks.length u.t.cap, .slice u.na u.ns.length u.nc, .slice u.a u.ks.length u.cap]] w _
  rw [hi]
  have r0 : (1 : Int) ≤ i := by omega
  have r1 : (i : Int) ≤ 11 := by omega
  have r2 : (i : Int) < 12 := by omega
  have r3 : (0 : Int) ≤ i := by omega
  have r4 : ¬ (i : Int) < 1 := by omega
  have r5 : ¬ (11 : Int) < i := by omega
  clear h hT hT2 hf h1 h2
  rw [hi] at g0 G0 t0 t1 t2 t3 t4 t5 t6 BX OK
  clear hi g0
  go_enter Tryd.func42, Tryd.ntmps42
  go_upto_region 4 with (fail)
  have BX4 := BX.out.grow ((Gw.refl _).alloc (.cells #[.int .i64 f.lo, .int .i64 f.hi, .int .i64 f.nm, .bool f.ty, .int .i64 f.mn, .int .i64 f.kl, .int .i64 f.kh] 116))
  have BF4 : BoxF ((w.alloc (.cells #[.int .i64 i, .int .i64 u.m, .string u.n, .int .i64 u.t.k, .string u.t.n, .slice u.t.a u.t.ks.length u.t.cap, .slice u.na u.ns.length u.nc, .slice u.a u.ks.length u.cap] 36)).alloc (.cells #[.int .i64 f.lo, .int .i64 f.hi, .int .i64 f.nm, .bool f.ty, .int .i64 f.mn, .int .i64 f.kl, .int .i64 f.kh] 116)) (w.heap.size + 1) f := ⟨_, heap_alloc_at _ _ _ _ rfl (by simp)⟩
  have G4 := G0.out.alloc (.cells #[.int .i64 f.lo, .int .i64 f.hi, .int .i64 f.nm, .bool f.ty, .int .i64 f.mn, .int .i64 f.kl, .int .i64 f.kh] 116)
  have OK4 := OK.out.grow ((Gw.refl _).alloc (.cells #[.int .i64 f.lo, .int .i64 f.hi, .int .i64 f.nm, .bool f.ty, .int .i64 f.mn, .int .i64 f.kl, .int .i64 f.kh] 116))
  clear t0 t1 t2 t3 t4 t5 t6 BX OK G0
  generalize ((w.alloc (.cells #[.int .i64 i, .int .i64 u.m, .string u.n, .int .i64 u.t.k, .string u.t.n, .slice u.t.a u.t.ks.length u.t.cap, .slice u.na u.ns.length u.nc, .slice u.a u.ks.length u.cap] 36)).alloc (.cells #[.int .i64 f.lo, .int .i64 f.hi, .int .i64 f.nm, .bool f.ty, .int .i64 f.mn, .int .i64 f.kl, .int .i64 f.kh] 116)) = W4 at *
  obtain ⟨p0, p1, p2, p3, p4, p5, p6, p7⟩ := BX4.c
  obtain ⟨f0, f1, f2, f3, f4, f5, f6⟩ := BF4.c
  have BX := Lib.hid BX4
  have BF := Lib.hid BF4
  have G := Lib.hid G4
  have OK := Lib.hid OK4
  clear BX4 BF4 G4 OK4
  by_cases ha : f.lo ≤ u.m
  rotate_left
  · have FF := Lib.hid (form_no1 (f := f) (m := u.m) (n := u.n) (t := u.t.ty) (ns := u.ns) (l := u.ks.length) (.inl ha))
    go_wp2_with fail
    go_ret
    exact ⟨ret_b (by rw [HH.out, FF.out]), G.out⟩
  by_cases hb : u.m ≤ f.hi
  rotate_left
  · have FF := Lib.hid (form_no1 (f := f) (m := u.m) (n := u.n) (t := u.t.ty) (ns := u.ns) (l := u.ks.length) (.inr hb))
    go_wp2_with fail
    go_ret
    exact ⟨ret_b (by rw [HH.out, FF.out]), G.out⟩
  by_cases hc : f.kl ≤ u.ks.length
  rotate_left
  · have FF := Lib.hid (form_no2 (f := f) (m := u.m) (n := u.n) (t := u.t.ty) (ns := u.ns) (l := u.ks.length) (.inl hc))
    go_wp2_with fail
    go_ret
    exact ⟨ret_b (by rw [HH.out, FF.out]), G.out⟩
  by_cases hd : (u.ks.length : Int) ≤ f.kh
  rotate_left
  · have FF := Lib.hid (form_no2 (f := f) (m := u.m) (n := u.n) (t := u.t.ty) (ns := u.ns) (l := u.ks.length) (.inr hd))
    go_wp2_with fail
    go_ret
    exact ⟨ret_b (by rw [HH.out, FF.out]), G.out⟩
  go_wp2_with fail
  refine (impl_fitsName f u.n hn _).mono ?_
  rintro e w1 ⟨rfl, g1⟩
  replace BX := Lib.hid (BX.out.grow g1)
  replace BF := Lib.hid (BF.out.grow g1)
  replace G := Lib.hid (G.out.trans g1)
  replace OK := Lib.hid (OK.out.grow g1)
  clear p0 p1 p2 p3 p4 p5 p6 p7 f0 f1 f2 f3 f4 f5 f6 g1
  obtain ⟨p0, p1, p2, p3, p4, p5, p6, p7⟩ := BX.out.c
  obtain ⟨f0, f1, f2, f3, f4, f5, f6⟩ := BF.out.c
  cases hN : nmF f.nm u.n with
  | false =>
    have FF := Lib.hid (form_no3 (f := f) (m := u.m) (n := u.n) (t := u.t.ty) (ns := u.ns) (l := u.ks.length) hN)
    clear hN
    go_wp2_with fail
    go_ret
    exact ⟨ret_b (by rw [HH.out, FF.out]), G.out⟩
  | true =>
  have HN := Lib.hid hN
  clear hN
  go_wp2_with fail
  refine (impl_fitsType f u.t _ OK.out.ty).mono ?_
  rintro e w2 ⟨rfl, g1⟩
  replace BX := Lib.hid (BX.out.grow g1)
  replace BF := Lib.hid (BF.out.grow g1)
  replace G := Lib.hid (G.out.trans g1)
  replace OK := Lib.hid (OK.out.grow g1)
  clear p0 p1 p2 p3 p4 p5 p6 p7 f0 f1 f2 f3 f4 f5 f6 g1
  obtain ⟨p0, p1, p2, p3, p4, p5, p6, p7⟩ := BX.out.c
  obtain ⟨f0, f1, f2, f3, f4, f5, f6⟩ := BF.out.c
  cases hT : tyF f.ty u.t.ty with
  | false =>
    have FF := Lib.hid (form_no4 (f := f) (m := u.m) (n := u.n) (t := u.t.ty) (ns := u.ns) (l := u.ks.length) hT)
    clear hT
    go_wp2_with fail
    go_ret
    exact ⟨ret_b (by rw [HH.out, FF.out]), G.out⟩
  | true =>
  have HT := Lib.hid hT
  clear hT
  go_wp2_with fail
  refine (impl_fitsNames f u.ns _ u.na u.nc OK.out.nms).mono ?_
  rintro e w3 ⟨rfl, g1⟩
  have FF := Lib.hid (form_yes (f := f) (m := u.m) (n := u.n) (t := u.t.ty) (ns := u.ns) (l := u.ks.length) ha hb hc hd HN.out HT.out rfl)
  go_wp2_with fail
  go_ret
  exact ⟨ret_b (by rw [HH.out, FF.out]), G.out.trans g1⟩

end Go.Proofs.YtpafjhnamdeagaaDoor.Con
