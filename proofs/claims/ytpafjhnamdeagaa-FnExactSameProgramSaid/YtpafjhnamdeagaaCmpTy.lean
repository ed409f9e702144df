/-
  Contracts of EqualFunc over types and of the comparer's closure at types: they answer whether two are equal, while the map holds pairs of rows that are equal or still in comparison.
-/
import Derived.Test.YtpafjhnamdeagaaSmMapType
import Derived.Test.YtpafjhnamdeagaaDa
import Derived.Test.YtpafjhnamdeagaaTySmS
import Derived.LoopTactic
import Derived.Deep.QuietTactic
import Derived.BigQuiet
import Derived.Deep.RegionHeld3
import Derived.Deep.Cut
namespace Go.Proofs.Ytpafjhnamdeagaa.Con.KType
open Go.RowKit Go.Proofs.Ytpafjhnamdeagaa.Con
set_option linter.unusedVariables false

theorem toList_neK {a b : ByteArray} (h : ¬ a = b) : (a.toList == b.toList) = false := by
  simp only [beq_eq_false_iff_ne, ne_eq]
  exact fun e => h (by rw [ByteArray.toList_eq, ByteArray.toList_eq] at e; exact ByteArray.ext (Array.ext' e))
theorem tLen (x : LT) : (tc x).length = 3 := rfl
theorem tyFr : gFr LT.Ok LT.bl := fun _ _ _ h hb => h.frame hb
theorem tc_inj {x y : LT} (h : tc x = tc y) : x.k = y.k ∧ x.n = y.n ∧ x.a = y.a ∧ x.ks.length = y.ks.length ∧ x.cap = y.cap := by
  unfold tc at h
  simp only [List.cons.injEq, Value.int.injEq, Value.string.injEq, Value.slice.injEq, true_and, and_true] at h
  exact ⟨h.1, h.2.1, h.2.2.1, h.2.2.2.1, h.2.2.2.2⟩
theorem LT.ext' {x y : LT} (h1 : x.k = y.k) (h2 : x.n = y.n) (h3 : x.a = y.a) (h4 : x.cap = y.cap) (h5 : x.ks = y.ks) : x = y := by
  obtain ⟨k, n, a, c, ks⟩ := x
  obtain ⟨k', n', a', c', ks'⟩ := y
  obtain rfl : k = k' := h1
  obtain rfl : n = n' := h2
  obtain rfl : a = a' := h3
  obtain rfl : c = c' := h4
  obtain rfl : ks = ks' := h5
  rfl
theorem tyUq : gUniq tc LT.Ok := fun w x => by
  refine LT.ind (P := fun x => ∀ y : LT, x.Ok w → y.Ok w → tc x = tc y → x = y) (fun k n a c ks ih y hx hy he => ?_) x
  obtain ⟨h1, h2, h3, h4, h5⟩ := tc_inj he
  refine LT.ext' h1 h2 h3 h5 ?_
  have e1 := hx.kids.2.2
  have e2 := hy.kids.2.2
  replace h4 : ks.length = y.ks.length := h4
  replace h3 : a = y.a := h3
  show ks = y.ks
  refine List.ext_getElem h4 fun i hi hi' => ?_
  obtain ⟨b, o, ha, hr⟩ := e1.resolve_left (fun e => by replace e : ks = [] := e; rw [e] at hi; simp at hi)
  obtain ⟨b', o', ha', hr'⟩ := e2.resolve_left (fun e => by rw [e] at hi'; simp at hi')
  replace ha : a = some ⟨b, o, none⟩ := ha
  rw [ha, ha'] at h3
  injection h3 with h3
  injection h3 with e3 e4
  subst e3 e4
  obtain ⟨c0, c1, c2, ho⟩ := rowOk_get hr i hi
  obtain ⟨d0, d1, d2, ho'⟩ := rowOk_get hr' i hi'
  have f0 := c0.symm.trans d0
  have f1 := c1.symm.trans d1
  have f2 := c2.symm.trans d2
  refine ih ks[i] (List.getElem_mem hi) y.ks[i] ho ho' ?_
  exact List.cons_eq_cons.2 ⟨Option.some.inj f0, List.cons_eq_cons.2 ⟨Option.some.inj f1, List.cons_eq_cons.2 ⟨Option.some.inj f2, rfl⟩⟩⟩

theorem row_g {w : World} {ks : List LT} {b o : Nat} (h : rowOk w ks b o) : gRow 3 tc LT.Ok w ks b o := fun i hi => by
  obtain ⟨c0, c1, c2, ho⟩ := rowOk_get h i hi
  refine ⟨fun j v hv => ?_, ho⟩
  match j, hv with
  | 0, hv => exact c0.trans hv
  | 1, hv => exact c1.trans hv
  | 2, hv => exact c2.trans hv
  | n + 3, hv => exact absurd hv (by simp [tc])
theorem cl_szl (ks : List LT) : cl LT.sz ks + ks.length = LT.sz.szl ks := by
  induction ks with
  | nil => rfl
  | cons t ts ih =>
    unfold cl at ih ⊢
    simp only [List.map_cons, List.sum_cons, List.length_cons, LT.sz.szl]
    omega
theorem cl_kids (x : LT) (h : 0 < x.ks.length) : 2 * cl LT.sz x.ks + 1 ≤ 2 * x.sz := by
  have h1 := cl_szl x.ks
  have h2 := x.sz_eq
  omega

def FOk (w : World) (x : LT) : Prop := x.Ok w ∧ ∀ c ∈ x.bl, Free w c
theorem FOk.keep {w w' : World} {x : LT} (h : FOk w x) (hk : ∀ c, Free w c → w'.heap[c]? = w.heap[c]?) : FOk w' x :=
  ⟨tyFr _ _ _ h.1 fun c hc => hk c (h.2 c hc), fun c hc => (h.2 c hc).same (hk c (h.2 c hc))⟩
abbrev Mp (w : World) (M : Nat) (S : Value → Prop) : Prop := KMp 3 tc LT.Ok LT.bl (fun x y => x.ty = y.ty) w M S
abbrev Bg (w : World) (S : Value → Prop) (n : Nat) : Prop := KBig 3 tc LT.Ok LT.bl LT.sz w S n
abbrev RF (w : World) (b o : Nat) (xs : List LT) : Prop := RowF 3 tc LT.Ok LT.bl w b o xs
abbrev AllEq (xs ys : List LT) : Prop := All2 (fun x y : LT => x.ty = y.ty) xs ys
theorem free_gw {w w' : World} (g : Gw w w') : ∀ c, Free w c → w'.heap[c]? = w.heap[c]? := fun c h => g.block c h.lt
theorem Mp.gw {w w' : World} {M : Nat} {S : Value → Prop} (h : Mp w M S) (g : Gw w w') : Mp w' M S := by
  have h2 := h
  obtain ⟨es, cl, hm, _⟩ := h2
  exact KMp.stays tyFr h (g.block _ (Array.getElem?_eq_some_iff.1 hm).1) (free_gw g)
theorem Mp.free {w w' : World} {M : Nat} {S : Value → Prop} (h : Mp w M S) (hc : Chg w w' (fun b => b = M)) : ∀ c, Free w c → w'.heap[c]? = w.heap[c]? := fun c hf => by
  obtain ⟨es, cl, hm, _⟩ := h
  exact kfree_keep hm hc hf

/-- The row of a type's kids. -/
theorem FOk.row {w : World} {x : LT} (h : FOk w x) (hl : 0 < x.ks.length) : ∃ b o, x.a = some ⟨b, o, none⟩ ∧ RF w b o x.ks := by
  obtain ⟨b, o, ha, hr⟩ := h.1.kids.2.2.resolve_left (fun e => by rw [e] at hl; simp at hl)
  have hne : x.ks.isEmpty = false := by cases hx : x.ks with | nil => rw [hx] at hl; simp at hl | cons => rfl
  have hbl : x.bl = b :: bls x.ks := by rw [LT.bl_eq, hne, ha]; rfl
  exact ⟨b, o, ha, row_g hr, h.2 b (by rw [hbl]; simp), fun u hu c hc => h.2 c (by rw [hbl]; exact List.mem_cons_of_mem _ (bl_sub hu c hc))⟩
theorem RF.el {w : World} {b o : Nat} {xs : List LT} (h : RF w b o xs) (i : Nat) (hi : i < xs.length) : w.cell? ⟨b, o + i * 3, none⟩ = some (.int .i64 xs[i].k) ∧ w.cell? ⟨b, o + i * 3 + 1, none⟩ = some (.string xs[i].n) ∧ w.cell? ⟨b, o + i * 3 + 2, none⟩ = some (.slice xs[i].a xs[i].ks.length xs[i].cap) ∧ FOk w xs[i] :=
  ⟨(h.1 i hi).1 0 _ rfl, (h.1 i hi).1 1 _ rfl, (h.1 i hi).1 2 _ rfl, (h.1 i hi).2, h.2.2 _ (List.getElem_mem hi)⟩

/-- The four boxes of the closure. -/
def Caps (w : World) (M CK CN CM CF : Nat) : Prop := w.heap[CK]? = some (.cells #[.func (.func 66) #[] #[]] 106 (0, 0)) ∧ w.heap[CN]? = some (.cells #[.func (.func 65) #[] #[]] 68 (0, 0)) ∧
  w.heap[CM]? = some (.cells #[.map (some M)] 141 (0, 0)) ∧ w.heap[CF]? = some (.cells #[.func (.func 94) #[] #[.pointer (some ⟨CK, 0, none⟩), .pointer (some ⟨CN, 0, none⟩), .pointer (some ⟨CM, 0, none⟩), .pointer (some ⟨CF, 0, none⟩)]] 68 (0, 0))
theorem Caps.keep {w w' : World} {M CK CN CM CF : Nat} (h : Caps w M CK CN CM CF) (hk : ∀ c, Free w c → w'.heap[c]? = w.heap[c]?) : Caps w' M CK CN CM CF :=
  ⟨(hk _ ⟨_, _, h.1⟩).trans h.1, (hk _ ⟨_, _, h.2.1⟩).trans h.2.1, (hk _ ⟨_, _, h.2.2.1⟩).trans h.2.2.1, (hk _ ⟨_, _, h.2.2.2⟩).trans h.2.2.2⟩

def CmpPost (w : World) (M : Nat) (S : Value → Prop) (x y : LT) (e : Ending) (w' : World) : Prop := ∃ r : Bool, e = .returned (.bool r) ∧ (r = true ↔ x.ty = y.ty) ∧ Chg w w' (fun b => b = M) ∧ (r = true → Mp w' M S)
def RowPost (w : World) (M : Nat) (S : Value → Prop) (xs ys : List LT) (e : Ending) (w' : World) : Prop := ∃ r : Bool, e = .returned (.bool r) ∧ (r = true ↔ AllEq xs ys) ∧ Chg w w' (fun b => b = M) ∧ (r = true → Mp w' M S)
def CmpC (x : LT) : Prop := ∀ (y : LT) (w : World) (M CK CN CM CF : Nat) (S : Value → Prop), FOk w x → FOk w y → Caps w M CK CN CM CF → Mp w M S → Bg w S (2 * x.sz) →
  Calls Try.prog 94 #[x.val, y.val, .pointer (some ⟨CK, 0, none⟩), .pointer (some ⟨CN, 0, none⟩), .pointer (some ⟨CM, 0, none⟩), .pointer (some ⟨CF, 0, none⟩)] w (CmpPost w M S x y)
theorem cmp_false {w w' : World} {M : Nat} {S : Value → Prop} {x y : LT} (h : ¬ x.ty = y.ty) (hc : Chg w w' (fun b => b = M)) : CmpPost w M S x y (.returned (.bool false)) w' := ⟨false, rfl, by simp [h], hc, fun h => by cases h⟩
theorem cmp_true {w w' : World} {M : Nat} {S : Value → Prop} {x y : LT} (h : x.ty = y.ty) (hc : Chg w w' (fun b => b = M)) (hm : Mp w' M S) : CmpPost w M S x y (.returned (.bool true)) w' := ⟨true, rfl, by simp [h], hc, fun _ => hm⟩

theorem impl_kids (x : LT) (w : World) : Calls Try.prog 66 #[x.val] w fun e w' => e = .returned (.slice x.a x.ks.length x.cap) ∧ Gw w w' := by
  have G := Lib.hid ((Gw.refl w).alloc (.cells #[.int .i64 x.k, .string x.n, .slice x.a x.ks.length x.cap] 33))
  go_enter Try.func66, Try.ntmps66
  go_wp2_with fail
  go_ret
  exact ⟨rfl, G.out⟩

theorem impl_node (x y : LT) (w : World) : Calls Try.prog 65 #[x.val, y.val] w fun e w' => ∃ r : Bool, e = .returned (.bool r) ∧ (r = true ↔ x.k = y.k ∧ x.n = y.n) ∧ Gw w w' := by
  have G := Lib.hid (((Gw.refl w).alloc (.cells #[.int .i64 x.k, .string x.n, .slice x.a x.ks.length x.cap] 33)).alloc (.cells #[.int .i64 y.k, .string y.n, .slice y.a y.ks.length y.cap] 33))
  by_cases h1 : x.k = y.k
  · have q1 : (x.k == y.k) = true := by simpa using h1
    by_cases h2 : x.n = y.n
    · have q2 : (x.n.toList == y.n.toList) = true := by rw [h2]; simp
      have F := Lib.hid (show x.k = y.k ∧ x.n = y.n from ⟨h1, h2⟩)
      clear h1 h2
      go_enter Try.func65, Try.ntmps65
      go_wp2_with (go_quiet (fail))
      go_ret
      exact ⟨_, rfl, by simpa using F.out, by first | exact G.out | exact G.out.drewN _⟩
    · have q2 := toList_neK h2
      have F := Lib.hid (show ¬ (x.k = y.k ∧ x.n = y.n) from fun h => h2 h.2)
      clear h1 h2
      go_enter Try.func65, Try.ntmps65
      go_wp2_with (go_quiet (fail))
      go_ret
      exact ⟨_, rfl, by simpa using F.out, by first | exact G.out | exact G.out.drewN _⟩
  · have q1 : (x.k == y.k) = false := by simpa using h1
    have F := Lib.hid (show ¬ (x.k = y.k ∧ x.n = y.n) from fun h => h1 h.1)
    clear h1
    go_enter Try.func65, Try.ntmps65
    go_wp2_with (go_quiet (fail))
    go_ret
    exact ⟨_, rfl, by simpa using F.out, by first | exact G.out | exact G.out.drewN _⟩

set_option maxRecDepth 100000 in
set_option maxHeartbeats 2000000 in
theorem eqf (xs ys : List LT) (ih : ∀ u ∈ xs, CmpC u) (n : Nat) (hx : xs.length = n) (hy : ys.length = n) (hn : n ≤ 9223372036854775807) (w : World) (b o b' o' c c' M CK CN CM CF : Nat) (S : Value → Prop) (hcx : n ≤ c) (hcy : n ≤ c') (hxr : RF w b o xs) (hyr : RF w b' o' ys) (hcap : Caps w M CK CN CM CF) (hmp : Mp w M S) (hbig : ∀ u ∈ xs, Bg w S (2 * u.sz)) :
    Calls Try.prog 40 #[.slice (some ⟨b, o, none⟩) n c, .slice (some ⟨b', o', none⟩) n c', .func (.func 94) #[] #[.pointer (some ⟨CK, 0, none⟩), .pointer (some ⟨CN, 0, none⟩), .pointer (some ⟨CM, 0, none⟩), .pointer (some ⟨CF, 0, none⟩)]] w (RowPost w M S xs ys) := by
  have HX := Lib.hid hx
  have HY := Lib.hid hy
  have RX := Lib.hid hxr
  have RY := Lib.hid hyr
  have CP := Lib.hid hcap
  have MP := Lib.hid hmp
  have BG := Lib.hid hbig
  have hnn : ((n : Int) != (n : Int)) = false := by simp
  clear hx hy hxr hyr hcap hmp hbig
  go_enter Try.func40, Try.ntmps40
  go_wp2_with fail
  clear hnn
  go_loopw [17] (fun i wr => ∃ j : Nat, j ≤ n ∧ i = .int .i64 j ∧ Chg w wr (fun b => b = M) ∧ Mp wr M S ∧ ∀ i (hx : i < xs.length) (hy : i < ys.length), i < j → xs[i].ty = ys[i].ty) (fun i _ => n - (intOf i).toNat)
  case atStart => exact ⟨0, Nat.zero_le _, rfl, Chg.of_gw (Gw.refl _) _, MP.out, fun i _ _ h => absurd h (by omega)⟩
  case round =>
    obtain ⟨j, hj, rfl, hc, hm, hall⟩ := hrel
    have HC := Lib.hid hc
    have HM := Lib.hid hm
    have HALL := Lib.hid hall
    have hk := MP.out.free hc
    have RX3 := Lib.hid (RX.out.keep tyFr hk)
    have RY3 := Lib.hid (RY.out.keep tyFr hk)
    have CP3 := Lib.hid (CP.out.keep hk)
    have BG3 := Lib.hid (fun u hu => (BG.out u hu).keep tyFr hk)
    clear hc hm hall hk
    by_cases hlt : j < n
    · have hx := HX.out
      have hy := HY.out
      have hjx : j < xs.length := by omega
      have hjy : j < ys.length := by omega
      obtain ⟨c0, c1, c2, fx⟩ := RF.el RX3.out j hjx
      obtain ⟨d0, d1, d2, fy⟩ := RF.el RY3.out j hjy
      have FX := Lib.hid fx
      have FY := Lib.hid fy
      have r0 : (0 : Int) ≤ j := by omega
      have r1 : (j : Int) < n := by omega
      have lX : b < wr.heap.size := cell_lt c0
      have lY : b' < wr.heap.size := cell_lt d0
      clear fx fy hx hy
      go_upto_region 7 with (fail)
      have b1 := (Box.new wr xs[j] 33).grow ((Gw.refl _).alloc (.cells #[.int .i64 ys[j].k, .string ys[j].n, .slice ys[j].a ys[j].ks.length ys[j].cap] 33))
      have b2 := Box.new (wr.alloc (.cells #[.int .i64 xs[j].k, .string xs[j].n, .slice xs[j].a xs[j].ks.length xs[j].cap] 33)) ys[j] 33
      rw [World.size_alloc] at b2
      have gA : Gw wr ((wr.alloc (.cells #[.int .i64 xs[j].k, .string xs[j].n, .slice xs[j].a xs[j].ks.length xs[j].cap] 33)).alloc (.cells #[.int .i64 ys[j].k, .string ys[j].n, .slice ys[j].a ys[j].ks.length ys[j].cap] 33)) := ((Gw.refl wr).alloc _).alloc _
      clear c0 c1 c2 d0 d1 d2 lX lY
      generalize ((wr.alloc (.cells #[.int .i64 xs[j].k, .string xs[j].n, .slice xs[j].a xs[j].ks.length xs[j].cap] 33)).alloc (.cells #[.int .i64 ys[j].k, .string ys[j].n, .slice ys[j].a ys[j].ks.length ys[j].cap] 33)) = W at *
      have hk := free_gw gA
      have KEY := Lib.hid (ih xs[j] (List.getElem_mem hjx) ys[j] W M CK CN CM CF S (FX.out.keep hk) (FY.out.keep hk) (CP3.out.keep hk) (HM.out.gw gA) ((BG3.out _ (List.getElem_mem hjx)).keep tyFr hk))
      have GA := Lib.hid (HC.out.trans (Chg.of_gw gA (fun b => b = M)) (fun _ _ h => h))
      obtain ⟨z0, z1, z2⟩ := b1.c
      obtain ⟨y0, y1, y2⟩ := b2.c
      clear hk gA b1 b2
      go_wp2_with fail
      refine KEY.out.mono ?_
      rintro e w4 ⟨r, rfl, hr, hc4, hm4⟩
      have C4 := Lib.hid (GA.out.trans hc4 (fun _ _ h => h))
      clear z0 z1 z2 y0 y1 y2 KEY hc4
      cases r with
      | false =>
        have F := Lib.hid (show ¬ AllEq xs ys from fun h => by have := hr.2 (h.2 j hjx hjy); cases this)
        clear hr hm4
        go_wp2_with fail
        go_ret
        exact ⟨false, rfl, by simp [F.out], C4.out, fun h => by cases h⟩
      | true =>
        have HE := Lib.hid (hr.1 rfl)
        have HM4 := Lib.hid (hm4 rfl)
        clear hr hm4
        go_wp2_with fail
        go_roundw
        case rel =>
          refine ⟨j + 1, by omega, by go_num, C4.out, HM4.out, fun i hx hy hi => ?_⟩
          by_cases e : i = j
          · subst e; exact HE.out
          · exact HALL.out i hx hy (by omega)
        case measure => simp [intOf]; omega
    · obtain rfl : j = n := by omega
      have F := Lib.hid (show AllEq xs ys from ⟨HX.out.trans HY.out.symm, fun i hx hy => HALL.out i hx hy (by have := HX.out; omega)⟩)
      go_wp2_with fail
      go_ret
      exact ⟨true, rfl, by simp [F.out], HC.out, fun _ => HM.out⟩

theorem eqf' (xs ys : List LT) (ih : ∀ u ∈ xs, CmpC u) (n m : Nat) (hnm : n = m) (hx : n = xs.length ∨ xs.length = n) (hy : m = ys.length ∨ ys.length = m) (hn : n ≤ 9223372036854775807) (w : World) (b o b' o' c c' M CK CN CM CF : Nat) (S : Value → Prop) (hcx : n ≤ c) (hcy : m ≤ c') (hxr : RF w b o xs) (hyr : RF w b' o' ys) (hcap : Caps w M CK CN CM CF) (hmp : Mp w M S) (hbig : ∀ u ∈ xs, Bg w S (2 * u.sz)) :
    Calls Try.prog 40 #[.slice (some ⟨b, o, none⟩) n c, .slice (some ⟨b', o', none⟩) m c', .func (.func 94) #[] #[.pointer (some ⟨CK, 0, none⟩), .pointer (some ⟨CN, 0, none⟩), .pointer (some ⟨CM, 0, none⟩), .pointer (some ⟨CF, 0, none⟩)]] w (RowPost w M S xs ys) := by
  subst hnm
  exact eqf xs ys ih n (by omega) (by omega) hn w b o b' o' c c' M CK CN CM CF S hcx hcy hxr hyr hcap hmp hbig

set_option maxRecDepth 100000 in
set_option maxHeartbeats 1000000 in
theorem cmp_of (x : LT) (ih : ∀ u ∈ x.ks, CmpC u) : CmpC x := by
  intro y w M CK CN CM CF S hx hy hcap hmp hbig
  have hlx : x.ks.length ≤ 9223372036854775807 := Nat.le_trans hx.1.kids.1 hx.1.kids.2.1
  have hly : y.ks.length ≤ 9223372036854775807 := Nat.le_trans hy.1.kids.1 hy.1.kids.2.1
  have gA : Gw w ((w.alloc (.cells #[.int .i64 x.k, .string x.n, .slice x.a x.ks.length x.cap] 33)).alloc (.cells #[.int .i64 y.k, .string y.n, .slice y.a y.ks.length y.cap] 33)) := ((Gw.refl w).alloc _).alloc _
  have b1 := (Box.new w x 33).grow ((Gw.refl _).alloc (.cells #[.int .i64 y.k, .string y.n, .slice y.a y.ks.length y.cap] 33))
  have b2 := Box.new (w.alloc (.cells #[.int .i64 x.k, .string x.n, .slice x.a x.ks.length x.cap] 33)) y 33
  rw [World.size_alloc] at b2
  have hk := free_gw gA
  have FX := Lib.hid (hx.keep hk)
  have FY := Lib.hid (hy.keep hk)
  have CP := Lib.hid (hcap.keep hk)
  have MP := Lib.hid (hmp.gw gA)
  have BG := Lib.hid (hbig.keep tyFr hk)
  have HC := Lib.hid (Chg.of_gw gA (fun b => b = M))
  clear hx hy hcap hmp hbig hk gA
  go_enter Try.func94, Try.ntmps94
  go_upto_region 1 with (fail)
  generalize ((w.alloc (.cells #[.int .i64 x.k, .string x.n, .slice x.a x.ks.length x.cap] 33)).alloc (.cells #[.int .i64 y.k, .string y.n, .slice y.a y.ks.length y.cap] 33)) = W1 at *
  have k0 : W1.cell? ⟨CK, 0, none⟩ = some (.func (.func 66) #[] #[]) := cell_of_row _ _ 0 _ _ _ CP.out.1
  have lK : CK < W1.heap.size := (Array.getElem?_eq_some_iff.1 CP.out.1).1
  have l1 := b1.lt
  have l2 := b2.lt
  obtain ⟨z0, z1, z2⟩ := b1.c
  obtain ⟨y0, y1, y2⟩ := b2.c
  go_region_held3 (fun W => W.cell? ⟨CK, 0, none⟩ = some (.func (.func 66) #[] #[]) ∧ W.cell? ⟨w.heap.size, 0, none⟩ = some (.int .i64 x.k) ∧ W.cell? ⟨w.heap.size, 1, none⟩ = some (.string x.n) ∧ W.cell? ⟨w.heap.size, 2, none⟩ = some (.slice x.a x.ks.length x.cap) ∧ W.cell? ⟨w.heap.size + 1, 0, none⟩ = some (.int .i64 y.k) ∧ W.cell? ⟨w.heap.size + 1, 1, none⟩ = some (.string y.n) ∧ W.cell? ⟨w.heap.size + 1, 2, none⟩ = some (.slice y.a y.ks.length y.cap))
    (first | exact ⟨k0, z0, z1, z2, y0, y1, y2⟩ | exact ⟨(k2 _ _ lK).trans k0, (k2 _ _ l1).trans z0, (k2 _ _ l1).trans z1, (k2 _ _ l1).trans z2, (k2 _ _ l2).trans y0, (k2 _ _ l2).trans y1, (k2 _ _ l2).trans y2⟩ | exact ⟨(k3 _ _ lK).trans k0, (k3 _ _ l1).trans z0, (k3 _ _ l1).trans z1, (k3 _ _ l1).trans z2, (k3 _ _ l2).trans y0, (k3 _ _ l2).trans y1, (k3 _ _ l2).trans y2⟩)
    (first
      | (go_at_call_of 66 (Value.agg #[.int .i64 x.k, .string x.n, .slice x.a x.ks.length x.cap]); refine (impl_kids x _).mono ?_; rintro e w2 ⟨rfl, g2⟩; have k2 : ∀ b o, b < W1.heap.size → w2.cell? ⟨b, o, none⟩ = W1.cell? ⟨b, o, none⟩ := fun b o h => (bcell g2).1 b o h)
      | (go_at_call_of 66 (Value.agg #[.int .i64 y.k, .string y.n, .slice y.a y.ks.length y.cap]); refine (impl_kids y _).mono ?_; rintro e w3 ⟨rfl, g3⟩; have k3 : ∀ b o, b < W1.heap.size → w3.cell? ⟨b, o, none⟩ = W1.cell? ⟨b, o, none⟩ := fun b o h => ((bcell g3).1 b o (Nat.lt_of_lt_of_le h g2.size)).trans (k2 b o h)))
  have gB : Gw W1 w3 := ((Gw.refl W1).drew.trans g2).trans g3
  have hk := free_gw gB
  replace FX := Lib.hid (FX.out.keep hk)
  replace FY := Lib.hid (FY.out.keep hk)
  replace CP := Lib.hid (CP.out.keep hk)
  replace MP := Lib.hid (MP.out.gw gB)
  replace BG := Lib.hid (BG.out.keep tyFr hk)
  replace HC := Lib.hid (HC.out.trans (Chg.of_gw gB (fun b => b = M)) (fun _ _ h => h))
  replace b1 := b1.grow gB
  replace b2 := b2.grow gB
  clear k0 lK l1 l2 z0 z1 z2 y0 y1 y2 k2 k3 g2 g3 gB hk
  obtain ⟨z0, z1, z2⟩ := b1.c
  obtain ⟨y0, y1, y2⟩ := b2.c
  have n0 : w3.cell? ⟨CN, 0, none⟩ = some (.func (.func 65) #[] #[]) := cell_of_row _ _ 0 _ _ _ CP.out.2.1
  by_cases hl : x.ks.length = y.ks.length
  rotate_left
  · have q1 : ((x.ks.length : Int) != (y.ks.length : Int)) = true := by simp; omega
    have F := Lib.hid (sy_ne_l hl)
    go_wp2_with fail
    go_ret
    exact cmp_false F.out HC.out
  have q1 : ((x.ks.length : Int) != (y.ks.length : Int)) = false := by simp; omega
  have HL := Lib.hid hl
  clear hl
  go_wp2_with fail
  refine (impl_node x y _).mono ?_
  rintro e w4 ⟨r, rfl, hr, g4⟩
  have hk := free_gw g4
  replace FX := Lib.hid (FX.out.keep hk)
  replace FY := Lib.hid (FY.out.keep hk)
  replace CP := Lib.hid (CP.out.keep hk)
  replace MP := Lib.hid (MP.out.gw g4)
  replace BG := Lib.hid (BG.out.keep tyFr hk)
  replace HC := Lib.hid (HC.out.trans (Chg.of_gw g4 (fun b => b = M)) (fun _ _ h => h))
  clear z0 z1 z2 y0 y1 y2 n0 b1 b2 g4 hk
  cases r with
  | false =>
    have F := Lib.hid (show ¬ x.ty = y.ty from fun h => by
      have := hr.2 ⟨Classical.byContradiction fun e => sy_ne_k e h, Classical.byContradiction fun e => sy_ne_n e h⟩
      cases this)
    clear hr
    go_wp2_with fail
    go_ret
    exact cmp_false F.out HC.out
  | true =>
  have HR := Lib.hid (hr.1 rfl)
  clear hr
  by_cases h0 : x.ks.length = 0
  · have q2 : ((x.ks.length : Int) == 0) = true := by simp; exact List.eq_nil_of_length_eq_zero h0
    have F := Lib.hid (show x.ty = y.ty from sy_eq_of HR.out.1 HR.out.2 HL.out fun i hx _ => by omega)
    go_wp2_with fail
    go_ret
    exact cmp_true F.out HC.out MP.out
  have q2 : ((x.ks.length : Int) == 0) = false := by simp; exact fun e => h0 (by rw [e]; rfl)
  have hp : (0 : Int) < x.ks.length := by omega
  have hp2 : (0 : Int) < y.ks.length := by have := HL.out; omega
  obtain ⟨bx, ox, hax, rx⟩ := FX.out.row (by omega)
  obtain ⟨by', oy, hay, ry⟩ := FY.out.row (by have := HL.out; omega)
  rw [hax, hay]
  have RX := Lib.hid rx
  have RY := Lib.hid ry
  have HP := Lib.hid (show 0 < x.ks.length by omega)
  obtain ⟨n, hn⟩ : ∃ n, n = x.ks.length := ⟨_, rfl⟩
  obtain ⟨m, hm⟩ : ∃ m, m = y.ks.length := ⟨_, rfl⟩
  have HN := Lib.hid hn
  have HM := Lib.hid hm
  rw [← hn] at hp q2 ⊢
  rw [← hm] at hp2 ⊢
  have hpn : 0 < n := by omega
  have hpm : 0 < m := by omega
  clear rx ry hax hay h0 hn hm q1
  go_upto_region 6 with (fail)
  go_region_held3 (fun W => True) (first | exact trivial) (first | fail)
  have gB : Gw w4 ((w4.alloc (.cells #[.pointer (some ⟨bx, ox, none⟩), .pointer (some ⟨by', oy, none⟩), .int .i64 n] 144)).drew) := ((Gw.refl w4).alloc _).drew
  have hk := free_gw gB
  replace FX := Lib.hid (FX.out.keep hk)
  replace FY := Lib.hid (FY.out.keep hk)
  replace CP := Lib.hid (CP.out.keep hk)
  replace MP := Lib.hid (MP.out.gw gB)
  replace BG := Lib.hid (BG.out.keep tyFr hk)
  replace HC := Lib.hid (HC.out.trans (Chg.of_gw gB (fun b => b = M)) (fun _ _ h => h))
  replace RX := Lib.hid (RX.out.keep tyFr hk)
  replace RY := Lib.hid (RY.out.keep tyFr hk)
  have hkey : ((w4.alloc (.cells #[.pointer (some ⟨bx, ox, none⟩), .pointer (some ⟨by', oy, none⟩), .int .i64 n] 144)).drew).heap[w4.heap.size]? = some (.cells #[.pointer (some ⟨bx, ox, none⟩), .pointer (some ⟨by', oy, none⟩), .int .i64 n] 144 (0, 0)) := heap_alloc_new w4 _
  have c0 : ((w4.alloc (.cells #[.pointer (some ⟨bx, ox, none⟩), .pointer (some ⟨by', oy, none⟩), .int .i64 n] 144)).drew).cell? ⟨w4.heap.size, 0, none⟩ = some (.pointer (some ⟨bx, ox, none⟩)) := cell_of_row _ _ 0 _ _ _ hkey
  have c1 : ((w4.alloc (.cells #[.pointer (some ⟨bx, ox, none⟩), .pointer (some ⟨by', oy, none⟩), .int .i64 n] 144)).drew).cell? ⟨w4.heap.size, 1, none⟩ = some (.pointer (some ⟨by', oy, none⟩)) := cell_of_row _ _ 1 _ _ _ hkey
  have c2 : ((w4.alloc (.cells #[.pointer (some ⟨bx, ox, none⟩), .pointer (some ⟨by', oy, none⟩), .int .i64 n] 144)).drew).cell? ⟨w4.heap.size, 2, none⟩ = some (.int .i64 n) := cell_of_row _ _ 2 _ _ _ hkey
  clear gB hk hkey
  generalize ((w4.alloc (.cells #[.pointer (some ⟨bx, ox, none⟩), .pointer (some ⟨by', oy, none⟩), .int .i64 n] 144)).drew) = W5 at *
  have m0 : W5.cell? ⟨CM, 0, none⟩ = some (.map (some M)) := cell_of_row _ _ 0 _ _ _ CP.out.2.2.1
  obtain ⟨es, cl0, hm, hE⟩ := MP.out
  have hK : ∀ e ∈ es.toList, KeyE W5 e := fun e he => by
    obtain ⟨hv, b1, o1, b2, o2, xs', ys', k1, _, k3, k4, _⟩ := hE e he
    exact ⟨hv, _, _, _, k1, k3.2.1, k4.2.1⟩
  obtain ⟨c, hl, ht, hf⟩ := look_run (a := ⟨bx, ox, none⟩) (b := ⟨by', oy, none⟩) n hm hK RX.out.2.1 RY.out.2.1
  have HE := Lib.hid hE
  have HMM := Lib.hid hm
  have CLK := Lib.hid (cl_kids x (by have := HN.out; omega))
  have LL := Lib.hid (show x.ks.length = y.ks.length from HL.out)
  clear hE hK hm
  unfold kl at hl
  cases c with
  | true =>
    have hall : AllEq x.ks y.ks := kfound tLen tyUq HE.out RX.out RY.out LL.out BG.out CLK.out (by rw [← HN.out]; exact ht rfl)
    have F := Lib.hid (show x.ty = y.ty from sy_eq_of HR.out.1 HR.out.2 LL.out hall.2)
    clear ht hf hall
    go_wp2_with fail
    go_ret
    exact cmp_true F.out HC.out MP.out
  | false =>
    have hput : (Instr.mapUpdate 141 (.map (some M)) (.agg #[.pointer (some ⟨bx, ox, none⟩), .pointer (some ⟨by', oy, none⟩), .int .i64 n]) (.bool true)).run Try.prog W5 = .ok () (kput W5 M es cl0 (kl ⟨bx, ox, none⟩ ⟨by', oy, none⟩ n)) := put_run HMM.out (hf rfl)
    have hk := fun c (hc : Free W5 c) => kfree_keep HMM.out (kput_chg (es := es) (cl := cl0) (v := kl ⟨bx, ox, none⟩ ⟨by', oy, none⟩ n)) hc
    have hmp6 := kput_mp (S := S) tyFr HMM.out HE.out RX.out RY.out LL.out
    have hbg6 : ∀ u ∈ x.ks, KBig 3 tc LT.Ok LT.bl LT.sz W5 (fun v => S v ∨ v = kl ⟨bx, ox, none⟩ ⟨by', oy, none⟩ x.ks.length) (2 * u.sz) := fun u hu => KBig.put BG.out RX.out hu CLK.out
    rw [← HN.out] at hmp6 hbg6
    have C6 := Lib.hid (HC.out.trans (kput_chg (w := W5) (es := es) (cl := cl0) (v := kl ⟨bx, ox, none⟩ ⟨by', oy, none⟩ n)) (fun _ _ h => h))
    have CP6 := Lib.hid (CP.out.keep hk)
    have RX6 := Lib.hid (RX.out.keep tyFr hk)
    have RY6 := Lib.hid (RY.out.keep tyFr hk)
    have MP6 := Lib.hid hmp6
    have BG6 := Lib.hid (fun u hu => (hbg6 u hu).keep tyFr hk)
    clear ht hf hk hmp6 hbg6
    generalize kput W5 M es cl0 (kl ⟨bx, ox, none⟩ ⟨by', oy, none⟩ n) = W6 at *
    have f0 : W6.cell? ⟨CF, 0, none⟩ = some (.func (.func 94) #[] #[.pointer (some ⟨CK, 0, none⟩), .pointer (some ⟨CN, 0, none⟩), .pointer (some ⟨CM, 0, none⟩), .pointer (some ⟨CF, 0, none⟩)]) := cell_of_row _ _ 0 _ _ _ CP6.out.2.2.2
    have CXY := Lib.hid (show n ≤ x.cap ∧ m ≤ y.cap from ⟨by rw [HN.out]; exact FX.out.1.kids.1, by rw [HM.out]; exact FY.out.1.kids.1⟩)
    have hnm : n = m := by rw [HN.out, HM.out]; exact LL.out
    have KEY := Lib.hid (eqf' x.ks y.ks ih n m hnm (.inl HN.out) (.inl HM.out) (by rw [HN.out]; exact hlx) W6 bx ox by' oy x.cap y.cap M CK CN CM CF _ CXY.out.1 CXY.out.2 RX6.out RY6.out CP6.out MP6.out BG6.out)
    clear hnm
    go_wp2_with fail
    refine KEY.out.mono ?_
    rintro e w7 ⟨r, rfl, hr, hc7, hm7⟩
    have C7 := Lib.hid (C6.out.trans hc7 (fun _ _ h => h))
    have hk7 := Mp.free MP6.out hc7
    have RX7 := Lib.hid (RX6.out.keep tyFr hk7)
    have RY7 := Lib.hid (RY6.out.keep tyFr hk7)
    clear hk7 hc7 hl hput c0 c1 c2 m0 f0
    cases r with
    | false =>
      have F := Lib.hid (show ¬ x.ty = y.ty from fun h => by
        have : AllEq x.ks y.ks := ⟨LL.out, fun i hx hy => Classical.byContradiction fun e => sy_ne_kid i hx hy e h⟩
        have := hr.2 this
        cases this)
      clear hr hm7
      go_wp2_with fail
      go_ret
      exact cmp_false F.out C7.out
    | true =>
      have HA := Lib.hid (hr.1 rfl)
      have F := Lib.hid (show x.ty = y.ty from sy_eq_of HR.out.1 HR.out.2 LL.out (hr.1 rfl).2)
      have M7 := hm7 rfl
      rw [HN.out] at M7
      have M8 := Lib.hid (KMp.shut tLen tyUq M7 RX7.out RY7.out HA.out)
      clear hr hm7 M7
      go_wp2_with fail
      go_ret
      exact cmp_true F.out C7.out M8.out

theorem cmp_all (x : LT) : CmpC x := by
  refine LT.ind (P := CmpC) (fun k n a c ks ih => ?_) x
  exact cmp_of (.mk k n a c ks) ih

end Go.Proofs.Ytpafjhnamdeagaa.Con.KType
