/-
  Contracts of EqualFunc over core terms, of listComparer and of treeComparer at core terms: they answer whether two are equal, while the maps hold pairs of rows that are equal or still in comparison.
-/
import Derived.Test.YtkpbiifikkbaeaaSmMapCore
import Derived.Test.YtkpbiifikkbaeaaKcNum
namespace Go.Proofs.Ytkpbiifikkbaeaa.Con.KCore
open Go.RowKit Go.Proofs.Ytkpbiifikkbaeaa.Con
set_option linter.unusedVariables false

theorem coE_inj {x y : LK} (h : coE x = coE y) : x.k = y.k ∧ x.v = y.v ∧ x.da = y.da ∧ x.ds.length = y.ds.length ∧ x.dc = y.dc ∧ x.a = y.a ∧ x.ks.length = y.ks.length ∧ x.cap = y.cap := by
  unfold coE at h
  simp only [List.cons.injEq, Value.int.injEq, Value.slice.injEq, true_and, and_true] at h
  obtain ⟨h1, h2, ⟨h3, h4, h5⟩, h6, h7, h8⟩ := h
  exact ⟨h1, h2, h3, h4, h5, h6, h7, h8⟩
theorem numUq {w : World} {a : Option Addr} {c : Nat} {xs ys : List Int} (hx : numSl w a c xs) (hy : numSl w a c ys) (hl : xs.length = ys.length) : xs = ys := by
  refine List.ext_getElem hl fun i hi hi' => ?_
  obtain ⟨b, o, ha, hr⟩ := hx.2.2.resolve_left (fun e => by rw [e] at hi; simp at hi)
  obtain ⟨b', o', ha', hr'⟩ := hy.2.2.resolve_left (fun e => by rw [e] at hi'; simp at hi')
  rw [ha] at ha'
  injection ha' with ha'
  injection ha' with e1 e2
  subst e1 e2
  have f := (numRow_get hr i hi).1.symm.trans (numRow_get hr' i hi').1
  injection f with f
  injection f
theorem coUq : gUniq coE LK.Ok := fun w x => by
  refine LK.ind (P := fun x => ∀ y : LK, x.Ok w → y.Ok w → coE x = coE y → x = y) (fun k v da dc ds a c ks ih y hx hy he => ?_) x
  obtain ⟨h1, h2, h3, h4, h5, h6, h7, h8⟩ := coE_inj he
  have hs : ds = y.ds := by
    have e := hy.dat
    rw [← h3, ← h5] at e
    exact numUq hx.dat e h4
  have hk : ks = y.ks := by
    refine List.ext_getElem h7 fun i hi hi' => ?_
    obtain ⟨b, o, ha, hr⟩ := hx.kids.2.2.resolve_left (fun e => by replace e : ks = [] := e; rw [e] at hi; simp at hi)
    obtain ⟨b', o', ha', hr'⟩ := hy.kids.2.2.resolve_left (fun e => by rw [e] at hi'; simp at hi')
    rw [← h6] at ha'
    rw [ha] at ha'
    injection ha' with ha'
    injection ha' with e1 e2
    subst e1 e2
    refine ih ks[i] (List.getElem_mem hi) y.ks[i] (hr i hi).2 (hr' i hi').2 (List.ext_getElem rfl fun j hj hj' => ?_)
    exact Option.some.inj (((hr i hi).1 j _ (List.getElem?_eq_getElem hj)).symm.trans ((hr' i hi').1 j _ (List.getElem?_eq_getElem hj')))
  rw [y.eta]
  replace h1 : k = y.k := h1
  replace h2 : v = y.v := h2
  replace h3 : da = y.da := h3
  replace h5 : dc = y.dc := h5
  replace h6 : a = y.a := h6
  replace h8 : c = y.cap := h8
  subst h1 h2 h3 h5 h6 h8 hs hk
  rfl

theorem cl_sm (ks : List LK) : cl LK.sz ks + ks.length = sm LK.sz ks := by
  induction ks with
  | nil => rfl
  | cons t ts ih =>
    unfold cl at ih ⊢
    rw [sm_cons]
    simp only [List.map_cons, List.sum_cons, List.length_cons]
    omega
theorem cl_kids (x : LK) (h : 0 < x.ks.length) : 2 * cl LK.sz x.ks + 1 ≤ 2 * x.sz := by
  have h1 := cl_sm x.ks
  have h2 := x.sz_eq
  omega

def FOk (w : World) (x : LK) : Prop := x.Ok w ∧ ∀ c ∈ x.bl, Free w c
theorem FOk.keep {w w' : World} {x : LK} (h : FOk w x) (hk : ∀ c, Free w c → w'.heap[c]? = w.heap[c]?) : FOk w' x :=
  ⟨coFr _ _ _ h.1 fun c hc => hk c (h.2 c hc), fun c hc => (h.2 c hc).same (hk c (h.2 c hc))⟩
theorem FOk.new {B : Nat} {w : World} {t : LK} (h : t.New B w) : FOk w t := ⟨h.1, fun c hc => (h.2.2 c hc).2⟩
abbrev Mp (w : World) (M : Nat) (S : Value → Prop) : Prop := KMp 4 coE LK.Ok LK.bl (fun x y : LK => x.co = y.co) w M S
abbrev Bg (w : World) (S : Value → Prop) (n : Nat) : Prop := KBig 4 coE LK.Ok LK.bl LK.sz w S n
abbrev RF (w : World) (b o : Nat) (xs : List LK) : Prop := RowF 4 coE LK.Ok LK.bl w b o xs
abbrev AllEq (xs ys : List LK) : Prop := All2 (fun x y : LK => x.co = y.co) xs ys
theorem free_gw {w w' : World} (g : Gw w w') : ∀ c, Free w c → w'.heap[c]? = w.heap[c]? := fun c h => g.block c h.lt
theorem FOk.row {w : World} {x : LK} (h : FOk w x) (hl : 0 < x.ks.length) : ∃ b o, x.a = some ⟨b, o, none⟩ ∧ RF w b o x.ks := by
  obtain ⟨b, o, ha, hr⟩ := h.1.kids.2.2.resolve_left (fun e => by rw [e] at hl; simp at hl)
  have hne : x.ks.isEmpty = false := by cases hx : x.ks with | nil => rw [hx] at hl; simp at hl | cons => rfl
  have hin : ∀ c, c ∈ nbl LK.bl x.a x.ks → Free w c := fun c hc => h.2 c (by rw [LK.bl_eq]; exact List.mem_append_right _ hc)
  exact ⟨b, o, ha, hr, hin b (by unfold nbl; rw [hne, ha]; simp), fun u hu c hc => hin c (nbl_sub hu c hc)⟩
theorem FOk.lf {w : World} {x : LK} (h : FOk w x) : x.ks.length ≤ x.cap ∧ x.cap ≤ maxLen ∧ (0 < x.ks.length → ∃ b o, x.a = some ⟨b, o, none⟩ ∧ RF w b o x.ks) := ⟨h.1.kids.1, h.1.kids.2.1, fun hp => h.row hp⟩
theorem FOk.nf {w : World} {x : LK} (h : FOk w x) : KNum.LF w x.da x.dc x.ds := by
  refine ⟨h.1.dat.1, h.1.dat.2.1, fun hl => ?_⟩
  obtain ⟨b, o, ha, hr⟩ := h.1.dat.2.2.resolve_left (fun e => by rw [e] at hl; simp at hl)
  have hne : x.ds.isEmpty = false := by cases hx : x.ds with | nil => rw [hx] at hl; simp at hl | cons => rfl
  have hin : ∀ c, c ∈ nbl nB x.da x.ds → Free w c := fun c hc => h.2 c (by rw [LK.bl_eq]; exact List.mem_append_left _ hc)
  exact ⟨b, o, ha, hr, hin b (by unfold nbl; rw [hne, ha]; simp), fun u hu c hc => by cases hc⟩
theorem RF.el {w : World} {b o : Nat} {xs : List LK} (h : RF w b o xs) (i : Nat) (hi : i < xs.length) : w.cell? ⟨b, o + i * 4, none⟩ = some (.int .i64 xs[i].k) ∧ w.cell? ⟨b, o + i * 4 + 1, none⟩ = some (.int .i64 xs[i].v) ∧ w.cell? ⟨b, o + i * 4 + 2, none⟩ = some (.slice xs[i].da xs[i].ds.length xs[i].dc) ∧ w.cell? ⟨b, o + i * 4 + 3, none⟩ = some (.slice xs[i].a xs[i].ks.length xs[i].cap) ∧ FOk w xs[i] :=
  ⟨(h.1 i hi).1 0 _ rfl, (h.1 i hi).1 1 _ rfl, (h.1 i hi).1 2 _ rfl, (h.1 i hi).1 3 _ rfl, (h.1 i hi).2, h.2.2 _ (List.getElem_mem hi)⟩
def nodeEq (x y : LK) : Prop := x.k = y.k ∧ x.v = y.v ∧ x.ds = y.ds
theorem same_iff (x y : LK) : x.co = y.co ↔ nodeEq x y ∧ AllEq x.ks y.ks := by
  rw [LK.co_eq, LK.co_eq y]
  constructor
  · intro h
    injection h with h1 h2 h3 h4
    have hl : x.ks.length = y.ks.length := by have := congrArg List.length h4; simpa using this
    refine ⟨⟨h1, h2, h3⟩, hl, fun i hx hy => ?_⟩
    have e1 : (x.ks.map LK.co)[i]'(by simpa using hx) = (y.ks.map LK.co)[i]'(by simpa using hy) := by simp only [h4]
    simpa using e1
  · rintro ⟨⟨h1, h2, h3⟩, hl, h4⟩
    rw [h1, h2, h3]
    congr 1
    refine List.ext_getElem (by simpa using hl) fun i hi hi' => ?_
    simp only [List.length_map] at hi hi'
    simpa using h4 i hi hi'

def CmpPost (k : Kb) (I : World → Prop) (T : Nat → Prop) (w : World) (S : Value → Prop) (x y : LK) (e : Ending) (w' : World) : Prop := ∃ r : Bool, e = .returned (.bool r) ∧ (r = true ↔ x.co = y.co) ∧ Chg w w' T ∧ (r = true → I w' ∧ Mp w' k.M S)
def RowPost (k : Kb) (I : World → Prop) (T : Nat → Prop) (w : World) (S : Value → Prop) (xs ys : List LK) (e : Ending) (w' : World) : Prop := ∃ r : Bool, e = .returned (.bool r) ∧ (r = true ↔ AllEq xs ys) ∧ Chg w w' T ∧ (r = true → I w' ∧ Mp w' k.M S)
def CmpC (k : Kb) (I : World → Prop) (T : Nat → Prop) (x : LK) : Prop := ∀ (y : LK) (w : World) (S : Value → Prop), FOk w x → FOk w y → I w → Mp w k.M S → Bg w S (2 * LK.sz x) →
  Calls Try.prog 50 #[x.val, y.val, .pointer (some ⟨k.CN, 0, none⟩), .pointer (some ⟨k.CL, 0, none⟩), .pointer (some ⟨k.CK, 0, none⟩)] w (CmpPost k I T w S x y)

set_option maxRecDepth 100000 in
set_option maxHeartbeats 2000000 in
theorem eqf (k : Kb) (I : World → Prop) (T : Nat → Prop) (R : Srr k.M I T) (xs ys : List LK) (ih : ∀ u ∈ xs, CmpC k I T u) (n : Nat) (hx : xs.length = n) (hy : ys.length = n) (hn : n ≤ 9223372036854775807) (w : World) (b o b' o' c c' : Nat) (S : Value → Prop) (hcx : n ≤ c) (hcy : n ≤ c') (hxr : RF w b o xs) (hyr : RF w b' o' ys) (hI : I w) (hmp : Mp w k.M S) (hbig : ∀ u ∈ xs, Bg w S (2 * LK.sz u)) :
    Calls Try.prog 54 #[.slice (some ⟨b, o, none⟩) n c, .slice (some ⟨b', o', none⟩) n c', .func (.func 50) #[] #[.pointer (some ⟨k.CN, 0, none⟩), .pointer (some ⟨k.CL, 0, none⟩), .pointer (some ⟨k.CK, 0, none⟩)]] w (RowPost k I T w S xs ys) := by
  have HX := Lib.hid hx
  have HY := Lib.hid hy
  have RX := Lib.hid hxr
  have RY := Lib.hid hyr
  have EN := Lib.hid (show I w ∧ Mp w k.M S from ⟨hI, hmp⟩)
  have BG := Lib.hid hbig
  have RR := Lib.hid R
  have hnn : ((n : Int) != (n : Int)) = false := by simp
  clear hx hy hxr hyr hI hmp hbig R
  go_enter Try.func54, Try.ntmps54
  go_wp2_with fail
  clear hnn
  go_loopw [17] (fun i wr => ∃ j : Nat, j ≤ n ∧ i = .int .i64 j ∧ Chg w wr T ∧ (I wr ∧ Mp wr k.M S) ∧ ∀ i (hx : i < xs.length) (hy : i < ys.length), i < j → xs[i].co = ys[i].co) (fun i _ => n - (intOf i).toNat)
  case atStart => exact ⟨0, Nat.zero_le _, rfl, Chg.of_gw (Gw.refl _) _, EN.out, fun i _ _ h => absurd h (by omega)⟩
  case round =>
    obtain ⟨j, hj, rfl, hc, hm, hall⟩ := hrel
    have HC := Lib.hid hc
    have HM := Lib.hid hm
    have HALL := Lib.hid hall
    have hk := RR.out.free EN.out.1 EN.out.2 hc
    have RX3 := Lib.hid (RX.out.keep coFr hk)
    have RY3 := Lib.hid (RY.out.keep coFr hk)
    have BG3 := Lib.hid (fun u hu => (BG.out u hu).keep coFr hk)
    clear hc hm hall hk
    by_cases hlt : j < n
    · have hx := HX.out
      have hy := HY.out
      have hjx : j < xs.length := by omega
      have hjy : j < ys.length := by omega
      obtain ⟨c0, c1, c2, c3, fx⟩ := RF.el RX3.out j hjx
      obtain ⟨d0, d1, d2, d3, fy⟩ := RF.el RY3.out j hjy
      have FX := Lib.hid fx
      have FY := Lib.hid fy
      have r0 : (0 : Int) ≤ j := by omega
      have r1 : (j : Int) < n := by omega
      have lX : b < wr.heap.size := cell_lt c0
      have lY : b' < wr.heap.size := cell_lt d0
      clear fx fy hx hy
      go_upto_region 7 with (fail)
      have b1 := (BoxK.new wr xs[j] 36).grow ((Gw.refl _).alloc (.cells #[.int .i64 ys[j].k, .int .i64 ys[j].v, .slice ys[j].da ys[j].ds.length ys[j].dc, .slice ys[j].a ys[j].ks.length ys[j].cap] 36))
      have b2 := BoxK.new (wr.alloc (.cells #[.int .i64 xs[j].k, .int .i64 xs[j].v, .slice xs[j].da xs[j].ds.length xs[j].dc, .slice xs[j].a xs[j].ks.length xs[j].cap] 36)) ys[j] 36
      rw [World.size_alloc] at b2
      have gA : Gw wr ((wr.alloc (.cells #[.int .i64 xs[j].k, .int .i64 xs[j].v, .slice xs[j].da xs[j].ds.length xs[j].dc, .slice xs[j].a xs[j].ks.length xs[j].cap] 36)).alloc (.cells #[.int .i64 ys[j].k, .int .i64 ys[j].v, .slice ys[j].da ys[j].ds.length ys[j].dc, .slice ys[j].a ys[j].ks.length ys[j].cap] 36)) := ((Gw.refl wr).alloc _).alloc _
      clear c0 c1 c2 c3 d0 d1 d2 d3 lX lY
      generalize ((wr.alloc (.cells #[.int .i64 xs[j].k, .int .i64 xs[j].v, .slice xs[j].da xs[j].ds.length xs[j].dc, .slice xs[j].a xs[j].ks.length xs[j].cap] 36)).alloc (.cells #[.int .i64 ys[j].k, .int .i64 ys[j].v, .slice ys[j].da ys[j].ds.length ys[j].dc, .slice ys[j].a ys[j].ks.length ys[j].cap] 36)) = W at *
      have hk := free_gw gA
      have KEY := Lib.hid (ih xs[j] (List.getElem_mem hjx) ys[j] W S (FX.out.keep hk) (FY.out.keep hk) (RR.out.gw HM.out.1 gA) (KMp.gw coFr HM.out.2 gA) ((BG3.out _ (List.getElem_mem hjx)).keep coFr hk))
      have GA := Lib.hid (HC.out.trans (Chg.of_gw gA T) (fun _ _ h => h))
      obtain ⟨z0, z1, z2, z3⟩ := b1.c
      obtain ⟨y0, y1, y2, y3⟩ := b2.c
      clear hk gA b1 b2
      go_wp2_with fail
      refine KEY.out.mono ?_
      rintro e w4 ⟨r, rfl, hr, hc4, hm4⟩
      have C4 := Lib.hid (GA.out.trans hc4 (fun _ _ h => h))
      clear z0 z1 z2 z3 y0 y1 y2 y3 KEY hc4
      cases r with
      | false =>
        have F := Lib.hid (show ¬ AllEq xs ys from fun h => by have := hr.2 (h.2 j hjx hjy); cases this)
        clear hr hm4
        go_wp2_with fail
        go_ret
        exact ⟨false, rfl, by simp [F.out], C4.out, fun h => by cases h⟩
      | true =>
        have HE := Lib.hid (hr.1 rfl)
        have HM4 := Lib.hid (hm4 rfl)
        clear hr hm4
        go_wp2_with fail
        go_roundw
        case rel =>
          refine ⟨j + 1, by omega, by go_num, C4.out, HM4.out, fun i hx hy hi => ?_⟩
          by_cases e : i = j
          · subst e; exact HE.out
          · exact HALL.out i hx hy (by omega)
        case measure => simp [intOf]; omega
    · obtain rfl : j = n := by omega
      have F := Lib.hid (show AllEq xs ys from ⟨HX.out.trans HY.out.symm, fun i hx hy => HALL.out i hx hy (by have := HX.out; omega)⟩)
      go_wp2_with fail
      go_ret
      exact ⟨true, rfl, by simp [F.out], HC.out, fun _ => HM.out⟩

theorem eqf' (k : Kb) (I : World → Prop) (T : Nat → Prop) (R : Srr k.M I T) (xs ys : List LK) (ih : ∀ u ∈ xs, CmpC k I T u) (n m : Nat) (hnm : n = m) (hx : n = xs.length) (hy : m = ys.length) (hn : n ≤ 9223372036854775807) (w : World) (b o b' o' c c' : Nat) (S : Value → Prop) (hcx : n ≤ c) (hcy : m ≤ c') (hxr : RF w b o xs) (hyr : RF w b' o' ys) (hI : I w) (hmp : Mp w k.M S) (hbig : ∀ u ∈ xs, Bg w S (2 * LK.sz u)) :
    Calls Try.prog 54 #[.slice (some ⟨b, o, none⟩) n c, .slice (some ⟨b', o', none⟩) m c', .func (.func 50) #[] #[.pointer (some ⟨k.CN, 0, none⟩), .pointer (some ⟨k.CL, 0, none⟩), .pointer (some ⟨k.CK, 0, none⟩)]] w (RowPost k I T w S xs ys) := by
  subst hnm
  exact eqf k I T R xs ys ih n hx.symm hy.symm hn w b o b' o' c c' S hcx hcy hxr hyr hI hmp hbig

/-- A list to be compared. -/
def LF (w : World) (a : Option Addr) (c : Nat) (xs : List LK) : Prop := xs.length ≤ c ∧ c ≤ maxLen ∧ (0 < xs.length → ∃ b o, a = some ⟨b, o, none⟩ ∧ RF w b o xs)
/-- The two boxes of the closure of listComparer. -/
def LCaps (k : Kb) (w : World) : Prop := w.heap[k.CM]? = some (.cells #[.map (some k.M)] 97 (0, 0)) ∧ w.heap[k.CS]? = some (.cells #[.func (.func 50) #[] #[.pointer (some ⟨k.CN, 0, none⟩), .pointer (some ⟨k.CL, 0, none⟩), .pointer (some ⟨k.CK, 0, none⟩)]] 53 (0, 0))
theorem LCaps.keep {k : Kb} {w w' : World} (h : LCaps k w) (hk : ∀ c, Free w c → w'.heap[c]? = w.heap[c]?) : LCaps k w' := ⟨(hk _ ⟨_, _, h.1⟩).trans h.1, (hk _ ⟨_, _, h.2⟩).trans h.2⟩
theorem row_false {k : Kb} {I : World → Prop} {T : Nat → Prop} {w w' : World} {S : Value → Prop} {xs ys : List LK} (h : ¬ AllEq xs ys) (hc : Chg w w' T) : RowPost k I T w S xs ys (.returned (.bool false)) w' := ⟨false, rfl, by simp [h], hc, fun h => by cases h⟩
theorem row_true {k : Kb} {I : World → Prop} {T : Nat → Prop} {w w' : World} {S : Value → Prop} {xs ys : List LK} (h : AllEq xs ys) (hc : Chg w w' T) (hm : I w' ∧ Mp w' k.M S) : RowPost k I T w S xs ys (.returned (.bool true)) w' := ⟨true, rfl, by simp [h], hc, fun _ => hm⟩

set_option maxRecDepth 100000 in
set_option maxHeartbeats 1000000 in
theorem list_of (k : Kb) (I : World → Prop) (T : Nat → Prop) (R : Srr k.M I T) (HC : ∀ w, I w → LCaps k w) (xs ys : List LK) (ih : ∀ u ∈ xs, CmpC k I T u) (w : World) (ax ay : Option Addr) (cx cy : Nat) (S : Value → Prop) (hx : LF w ax cx xs) (hy : LF w ay cy ys) (hI : I w) (hmp : Mp w k.M S) (hbig : 0 < xs.length → Bg w S (2 * cl LK.sz xs + 1)) :
    Calls Try.prog 53 #[.slice ax xs.length cx, .slice ay ys.length cy, .pointer (some ⟨k.CM, 0, none⟩), .pointer (some ⟨k.CS, 0, none⟩)] w (RowPost k I T w S xs ys) := by
  have hlx : xs.length ≤ 9223372036854775807 := Nat.le_trans hx.1 hx.2.1
  have hly : ys.length ≤ 9223372036854775807 := Nat.le_trans hy.1 hy.2.1
  have EN := Lib.hid (show I w ∧ Mp w k.M S from ⟨hI, hmp⟩)
  have RR := Lib.hid R
  have CP := Lib.hid (HC w hI)
  have HCC := Lib.hid HC
  have FX := Lib.hid hx
  have FY := Lib.hid hy
  have BG := Lib.hid hbig
  clear hI hmp R HC hx hy hbig
  obtain ⟨n, hn⟩ : ∃ n, n = xs.length := ⟨_, rfl⟩
  obtain ⟨m, hm⟩ : ∃ m, m = ys.length := ⟨_, rfl⟩
  have HN := Lib.hid hn
  have HM := Lib.hid hm
  rw [← hn] at hlx ⊢
  rw [← hm] at hly ⊢
  clear hn hm
  by_cases hl : n = m
  rotate_left
  · have q1 : ((n : Int) != (m : Int)) = true := by simp; omega
    have F := Lib.hid (show ¬ AllEq xs ys from fun e => hl (by rw [HN.out, HM.out]; exact e.1))
    clear hl
    go_enter Try.func53, Try.ntmps53
    go_wp2_with fail
    go_ret
    exact row_false F.out (Chg.of_gw (Gw.refl _) _)
  have q1 : ((n : Int) != (m : Int)) = false := by simp; omega
  have HL := Lib.hid hl
  clear hl
  by_cases h0 : n = 0
  · have q2 : ((n : Int) == 0) = true := by simp; exact h0
    have F := Lib.hid (show AllEq xs ys from ⟨by rw [← HN.out, ← HM.out]; exact HL.out, fun i hx => absurd hx (by rw [← HN.out]; omega)⟩)
    clear h0
    go_enter Try.func53, Try.ntmps53
    go_wp2_with fail
    go_ret
    exact row_true F.out (Chg.of_gw (Gw.refl _) _) EN.out
  have q2 : ((n : Int) == 0) = false := by simp; exact h0
  have hp : (0 : Int) < n := by omega
  have hp2 : (0 : Int) < m := by have := HL.out; omega
  have hpn : 0 < n := by omega
  have hpm : 0 < m := by omega
  obtain ⟨bx, ox, hax, rx⟩ := FX.out.2.2 (by rw [← HN.out]; exact hpn)
  obtain ⟨by', oy, hay, ry⟩ := FY.out.2.2 (by rw [← HM.out]; exact hpm)
  have BG := Lib.hid (BG.out (by rw [← HN.out]; exact hpn))
  rw [hax, hay]
  have RX := Lib.hid rx
  have RY := Lib.hid ry
  have CXY := Lib.hid (show n ≤ cx ∧ m ≤ cy from ⟨by rw [HN.out]; exact FX.out.1, by rw [HM.out]; exact FY.out.1⟩)
  clear rx ry hax hay h0
  go_enter Try.func53, Try.ntmps53
  go_upto_region 5 with (fail)
  go_region_held3 (fun W => True) (first | exact trivial) (first | fail)
  have gB : Gw w ((w.alloc (.cells #[.pointer (some ⟨bx, ox, none⟩), .pointer (some ⟨by', oy, none⟩), .int .i64 n] 99)).drew) := ((Gw.refl w).alloc _).drew
  have hk := free_gw gB
  replace EN := Lib.hid (show I _ ∧ Mp _ k.M S from ⟨RR.out.gw EN.out.1 gB, KMp.gw coFr EN.out.2 gB⟩)
  replace CP := Lib.hid (CP.out.keep hk)
  replace BG := Lib.hid (BG.out.keep coFr hk)
  have HC := Lib.hid (Chg.of_gw gB T)
  replace RX := Lib.hid (RX.out.keep coFr hk)
  replace RY := Lib.hid (RY.out.keep coFr hk)
  have hkey : ((w.alloc (.cells #[.pointer (some ⟨bx, ox, none⟩), .pointer (some ⟨by', oy, none⟩), .int .i64 n] 99)).drew).heap[w.heap.size]? = some (.cells #[.pointer (some ⟨bx, ox, none⟩), .pointer (some ⟨by', oy, none⟩), .int .i64 n] 99 (0, 0)) := heap_alloc_new w _
  have c0 : ((w.alloc (.cells #[.pointer (some ⟨bx, ox, none⟩), .pointer (some ⟨by', oy, none⟩), .int .i64 n] 99)).drew).cell? ⟨w.heap.size, 0, none⟩ = some (.pointer (some ⟨bx, ox, none⟩)) := cell_of_row _ _ 0 _ _ _ hkey
  have c1 : ((w.alloc (.cells #[.pointer (some ⟨bx, ox, none⟩), .pointer (some ⟨by', oy, none⟩), .int .i64 n] 99)).drew).cell? ⟨w.heap.size, 1, none⟩ = some (.pointer (some ⟨by', oy, none⟩)) := cell_of_row _ _ 1 _ _ _ hkey
  have c2 : ((w.alloc (.cells #[.pointer (some ⟨bx, ox, none⟩), .pointer (some ⟨by', oy, none⟩), .int .i64 n] 99)).drew).cell? ⟨w.heap.size, 2, none⟩ = some (.int .i64 n) := cell_of_row _ _ 2 _ _ _ hkey
  clear gB hk hkey
  generalize ((w.alloc (.cells #[.pointer (some ⟨bx, ox, none⟩), .pointer (some ⟨by', oy, none⟩), .int .i64 n] 99)).drew) = W5 at *
  have m0 : W5.cell? ⟨k.CM, 0, none⟩ = some (.map (some k.M)) := cell_of_row _ _ 0 _ _ _ CP.out.1
  obtain ⟨es, cl0, hm, hE⟩ := EN.out.2
  have hK : ∀ e ∈ es.toList, KeyE W5 e := fun e he => by
    obtain ⟨hv, b1, o1, b2, o2, xs', ys', k1, _, k3, k4, _⟩ := hE e he
    exact ⟨hv, _, _, _, k1, k3.2.1, k4.2.1⟩
  obtain ⟨c, hl, ht, hf⟩ := look_run (a := ⟨bx, ox, none⟩) (b := ⟨by', oy, none⟩) n hm hK RX.out.2.1 RY.out.2.1
  have HE := Lib.hid hE
  have HMM := Lib.hid hm
  have LL := Lib.hid (show xs.length = ys.length by rw [← HN.out, ← HM.out]; exact HL.out)
  clear hE hK hm
  unfold kl at hl
  cases c with
  | true =>
    have hall : AllEq xs ys := kfound coLen coUq HE.out RX.out RY.out LL.out BG.out (Nat.le_refl _) (by rw [← HN.out]; exact ht rfl)
    have F := Lib.hid hall
    clear ht hf hall
    go_wp2_with fail
    go_ret
    exact row_true F.out HC.out EN.out
  | false =>
    have hput : (Instr.mapUpdate 97 (.map (some k.M)) (.agg #[.pointer (some ⟨bx, ox, none⟩), .pointer (some ⟨by', oy, none⟩), .int .i64 n]) (.bool true)).run Try.prog W5 = .ok () (kput W5 k.M es cl0 (kl ⟨bx, ox, none⟩ ⟨by', oy, none⟩ n)) := put_run HMM.out (hf rfl)
    have hk := fun c (hc : Free W5 c) => kfree_keep HMM.out (kput_chg (es := es) (cl := cl0) (v := kl ⟨bx, ox, none⟩ ⟨by', oy, none⟩ n)) hc
    have hmp6 := kput_mp (S := S) coFr HMM.out HE.out RX.out RY.out LL.out
    have hbg6 : ∀ u ∈ xs, KBig 4 coE LK.Ok LK.bl LK.sz W5 (fun v => S v ∨ v = kl ⟨bx, ox, none⟩ ⟨by', oy, none⟩ xs.length) (2 * LK.sz u) := fun u hu => KBig.put BG.out RX.out hu (Nat.le_refl _)
    rw [← HN.out] at hmp6 hbg6
    have C6 := Lib.hid (HC.out.trans (kput_chg (w := W5) (es := es) (cl := cl0) (v := kl ⟨bx, ox, none⟩ ⟨by', oy, none⟩ n)) (fun x _ h => by rw [h]; exact RR.out.own))
    have I6 := Lib.hid (RR.out.put EN.out.1 (kput_chg (w := W5) (es := es) (cl := cl0) (v := kl ⟨bx, ox, none⟩ ⟨by', oy, none⟩ n)) hk)
    have CP6 := Lib.hid (CP.out.keep hk)
    have RX6 := Lib.hid (RX.out.keep coFr hk)
    have RY6 := Lib.hid (RY.out.keep coFr hk)
    have MP6 := Lib.hid hmp6
    have BG6 := Lib.hid (fun u hu => (hbg6 u hu).keep coFr hk)
    clear ht hf hk hmp6 hbg6
    generalize kput W5 k.M es cl0 (kl ⟨bx, ox, none⟩ ⟨by', oy, none⟩ n) = W6 at *
    have f0 : W6.cell? ⟨k.CS, 0, none⟩ = some (.func (.func 50) #[] #[.pointer (some ⟨k.CN, 0, none⟩), .pointer (some ⟨k.CL, 0, none⟩), .pointer (some ⟨k.CK, 0, none⟩)]) := cell_of_row _ _ 0 _ _ _ CP6.out.2
    have KEY := Lib.hid (eqf' k I T RR.out xs ys ih n m HL.out HN.out HM.out (by rw [HN.out]; exact Nat.le_trans FX.out.1 FX.out.2.1) W6 bx ox by' oy cx cy _ CXY.out.1 CXY.out.2 RX6.out RY6.out I6.out MP6.out BG6.out)
    go_wp2_with fail
    refine KEY.out.mono ?_
    rintro e w7 ⟨r, rfl, hr, hc7, hm7⟩
    have C7 := Lib.hid (C6.out.trans hc7 (fun _ _ h => h))
    have hk7 := RR.out.free I6.out MP6.out hc7
    have RX7 := Lib.hid (RX6.out.keep coFr hk7)
    have RY7 := Lib.hid (RY6.out.keep coFr hk7)
    clear hk7 hc7 hl hput c0 c1 c2 m0 f0
    cases r with
    | false =>
      have F := Lib.hid (show ¬ AllEq xs ys from fun h => by have := hr.2 h; cases this)
      clear hr hm7
      go_wp2_with fail
      go_ret
      exact row_false F.out C7.out
    | true =>
      have HA := Lib.hid (hr.1 rfl)
      have M7 := (hm7 rfl).2
      rw [HN.out] at M7
      have M8 := Lib.hid (show I w7 ∧ Mp w7 k.M S from ⟨(hm7 rfl).1, KMp.shut coLen coUq M7 RX7.out RY7.out HA.out⟩)
      clear hr hm7 M7
      go_wp2_with fail
      go_ret
      exact row_true HA.out C7.out M8.out

/-- The boxes of treeComparer's closure. -/
def TCaps (k : Kb) (w : World) : Prop := w.heap[k.CN]? = some (.cells #[.func (.func 39) #[] #[.pointer (some ⟨k.CD, 0, none⟩)]] 53 (0, 0)) ∧ w.heap[k.CL]? = some (.cells #[.func (.func 53) #[] #[.pointer (some ⟨k.CM, 0, none⟩), .pointer (some ⟨k.CS, 0, none⟩)]] 95 (0, 0)) ∧ w.heap[k.CK]? = some (.cells #[.func (.func 40) #[] #[]] 85 (0, 0)) ∧ LCaps k w
theorem TCaps.keep {k : Kb} {w w' : World} (h : TCaps k w) (hk : ∀ c, Free w c → w'.heap[c]? = w.heap[c]?) : TCaps k w' :=
  ⟨(hk _ ⟨_, _, h.1⟩).trans h.1, (hk _ ⟨_, _, h.2.1⟩).trans h.2.1, (hk _ ⟨_, _, h.2.2.1⟩).trans h.2.2.1, h.2.2.2.keep hk⟩

theorem impl_kids (x : LK) (w : World) : Calls Try.prog 40 #[x.val] w fun e w' => e = .returned (.slice x.a x.ks.length x.cap) ∧ Gw w w' := by
  have G := Lib.hid ((Gw.refl w).alloc (.cells #[.int .i64 x.k, .int .i64 x.v, .slice x.da x.ds.length x.dc, .slice x.a x.ks.length x.cap] 36))
  go_enter Try.func40, Try.ntmps40
  go_wp2_with fail
  go_ret
  exact ⟨rfl, G.out⟩

/-- What compares two nodes without their kids. -/
structure NodeC (k : Kb) (I : World → Prop) (T : Nat → Prop) : Prop where
  yes : ∀ (x y : LK) (w : World) (S : Value → Prop), FOk w x → FOk w y → I w → Mp w k.M S → nodeEq x y → Calls Try.prog 39 #[x.val, y.val, .pointer (some ⟨k.CD, 0, none⟩)] w fun e w' => e = .returned (.bool true) ∧ Chg w w' T ∧ I w' ∧ Mp w' k.M S
  no : ∀ (x y : LK) (w : World) (S : Value → Prop), FOk w x → FOk w y → I w → Mp w k.M S → ¬ nodeEq x y → Calls Try.prog 39 #[x.val, y.val, .pointer (some ⟨k.CD, 0, none⟩)] w fun e w' => e = .returned (.bool false) ∧ Chg w w' T

set_option maxRecDepth 100000 in
set_option maxHeartbeats 2000000 in
theorem cmp_of (k : Kb) (I : World → Prop) (T : Nat → Prop) (R : Srr k.M I T) (HT : ∀ w, I w → TCaps k w) (HN : NodeC k I T) (x : LK) (ih : ∀ u ∈ x.ks, CmpC k I T u) : CmpC k I T x := by
  intro y w S hx hy hI hmp hbig
  have gA : Gw w ((w.alloc (.cells #[.int .i64 x.k, .int .i64 x.v, .slice x.da x.ds.length x.dc, .slice x.a x.ks.length x.cap] 36)).alloc (.cells #[.int .i64 y.k, .int .i64 y.v, .slice y.da y.ds.length y.dc, .slice y.a y.ks.length y.cap] 36)) := ((Gw.refl w).alloc _).alloc _
  have b1 := (BoxK.new w x 36).grow ((Gw.refl _).alloc (.cells #[.int .i64 y.k, .int .i64 y.v, .slice y.da y.ds.length y.dc, .slice y.a y.ks.length y.cap] 36))
  have b2 := BoxK.new (w.alloc (.cells #[.int .i64 x.k, .int .i64 x.v, .slice x.da x.ds.length x.dc, .slice x.a x.ks.length x.cap] 36)) y 36
  rw [World.size_alloc] at b2
  have hk := free_gw gA
  have FX := Lib.hid (hx.keep hk)
  have FY := Lib.hid (hy.keep hk)
  have EN := Lib.hid (show I _ ∧ Mp _ k.M S from ⟨R.gw hI gA, KMp.gw coFr hmp gA⟩)
  have BG := Lib.hid (hbig.keep coFr hk)
  have HC := Lib.hid (Chg.of_gw gA T)
  have RR := Lib.hid R
  have HTT := Lib.hid HT
  clear hx hy hI hmp hbig hk gA R HT
  go_enter Try.func50, Try.ntmps50
  go_upto_region 1 with (fail)
  generalize ((w.alloc (.cells #[.int .i64 x.k, .int .i64 x.v, .slice x.da x.ds.length x.dc, .slice x.a x.ks.length x.cap] 36)).alloc (.cells #[.int .i64 y.k, .int .i64 y.v, .slice y.da y.ds.length y.dc, .slice y.a y.ks.length y.cap] 36)) = W1 at *
  have CP := Lib.hid (HTT.out W1 EN.out.1)
  have n0 : W1.cell? ⟨k.CN, 0, none⟩ = some (.func (.func 39) #[] #[.pointer (some ⟨k.CD, 0, none⟩)]) := cell_of_row _ _ 0 _ _ _ CP.out.1
  have l0 : W1.cell? ⟨k.CL, 0, none⟩ = some (.func (.func 53) #[] #[.pointer (some ⟨k.CM, 0, none⟩), .pointer (some ⟨k.CS, 0, none⟩)]) := cell_of_row _ _ 0 _ _ _ CP.out.2.1
  have k0 : W1.cell? ⟨k.CK, 0, none⟩ = some (.func (.func 40) #[] #[]) := cell_of_row _ _ 0 _ _ _ CP.out.2.2.1
  have fN : Free W1 k.CN := ⟨_, _, CP.out.1⟩
  have fL : Free W1 k.CL := ⟨_, _, CP.out.2.1⟩
  have fK : Free W1 k.CK := ⟨_, _, CP.out.2.2.1⟩
  have f1 : Free W1 w.heap.size := by obtain ⟨e, h⟩ := b1; exact ⟨_, _, h⟩
  have f2 : Free W1 (w.heap.size + 1) := by obtain ⟨e, h⟩ := b2; exact ⟨_, _, h⟩
  obtain ⟨z0, z1, z2, z3⟩ := b1.c
  obtain ⟨y0, y1, y2, y3⟩ := b2.c
  clear b1 b2
  by_cases hne : nodeEq x y
  · have HNE := Lib.hid hne
    have HY := Lib.hid HN.yes
    clear hne HN
    go_region_held3 (fun W => W.cell? ⟨k.CN, 0, none⟩ = some (.func (.func 39) #[] #[.pointer (some ⟨k.CD, 0, none⟩)]) ∧ W.cell? ⟨k.CL, 0, none⟩ = some (.func (.func 53) #[] #[.pointer (some ⟨k.CM, 0, none⟩), .pointer (some ⟨k.CS, 0, none⟩)]) ∧ W.cell? ⟨k.CK, 0, none⟩ = some (.func (.func 40) #[] #[]) ∧ W.cell? ⟨w.heap.size, 0, none⟩ = some (.int .i64 x.k) ∧ W.cell? ⟨w.heap.size, 1, none⟩ = some (.int .i64 x.v) ∧ W.cell? ⟨w.heap.size, 2, none⟩ = some (.slice x.da x.ds.length x.dc) ∧ W.cell? ⟨w.heap.size, 3, none⟩ = some (.slice x.a x.ks.length x.cap) ∧ W.cell? ⟨w.heap.size + 1, 0, none⟩ = some (.int .i64 y.k) ∧ W.cell? ⟨w.heap.size + 1, 1, none⟩ = some (.int .i64 y.v) ∧ W.cell? ⟨w.heap.size + 1, 2, none⟩ = some (.slice y.da y.ds.length y.dc) ∧ W.cell? ⟨w.heap.size + 1, 3, none⟩ = some (.slice y.a y.ks.length y.cap))
      (first | exact ⟨n0, l0, k0, z0, z1, z2, z3, y0, y1, y2, y3⟩ | exact ⟨(k2 _ _ fN).trans n0, (k2 _ _ fL).trans l0, (k2 _ _ fK).trans k0, (k2 _ _ f1).trans z0, (k2 _ _ f1).trans z1, (k2 _ _ f1).trans z2, (k2 _ _ f1).trans z3, (k2 _ _ f2).trans y0, (k2 _ _ f2).trans y1, (k2 _ _ f2).trans y2, (k2 _ _ f2).trans y3⟩ | exact ⟨(k3 _ _ fN).trans n0, (k3 _ _ fL).trans l0, (k3 _ _ fK).trans k0, (k3 _ _ f1).trans z0, (k3 _ _ f1).trans z1, (k3 _ _ f1).trans z2, (k3 _ _ f1).trans z3, (k3 _ _ f2).trans y0, (k3 _ _ f2).trans y1, (k3 _ _ f2).trans y2, (k3 _ _ f2).trans y3⟩ | exact ⟨(k4 _ _ fN).trans n0, (k4 _ _ fL).trans l0, (k4 _ _ fK).trans k0, (k4 _ _ f1).trans z0, (k4 _ _ f1).trans z1, (k4 _ _ f1).trans z2, (k4 _ _ f1).trans z3, (k4 _ _ f2).trans y0, (k4 _ _ f2).trans y1, (k4 _ _ f2).trans y2, (k4 _ _ f2).trans y3⟩ | exact ⟨(k5 _ _ fN).trans n0, (k5 _ _ fL).trans l0, (k5 _ _ fK).trans k0, (k5 _ _ f1).trans z0, (k5 _ _ f1).trans z1, (k5 _ _ f1).trans z2, (k5 _ _ f1).trans z3, (k5 _ _ f2).trans y0, (k5 _ _ f2).trans y1, (k5 _ _ f2).trans y2, (k5 _ _ f2).trans y3⟩)
      (first
        | (go_at_call 39; refine (HY.out x y _ S (by exact FX.out.keep (fun _ _ => rfl)) (by exact FY.out.keep (fun _ _ => rfl)) (by exact RR.out.gw EN.out.1 (Gw.refl W1).drew) (by exact KMp.gw coFr EN.out.2 (Gw.refl W1).drew) HNE.out).mono ?_; rintro e w2 ⟨rfl, c2, i2, m2⟩; have q2 : ∀ c, Free W1 c → w2.heap[c]? = W1.heap[c]? := fun c hc => RR.out.free (RR.out.gw EN.out.1 (Gw.refl W1).drew) (KMp.gw coFr EN.out.2 (Gw.refl W1).drew) c2 c (hc.same rfl); have k2 : ∀ b o, Free W1 b → w2.cell? ⟨b, o, none⟩ = W1.cell? ⟨b, o, none⟩ := fun b o h => World.cell?_of_block (a := ⟨b, o, none⟩) (q2 b h))
        | (go_at_call_of 40 (Value.agg #[.int .i64 x.k, .int .i64 x.v, .slice x.da x.ds.length x.dc, .slice x.a x.ks.length x.cap]); refine (impl_kids x _).mono ?_; rintro e w3 ⟨rfl, g3⟩; have q3 : ∀ c, Free W1 c → w3.heap[c]? = W1.heap[c]? := fun c hc => (g3.block c (hc.same (q2 c hc)).lt).trans (q2 c hc); have k3 : ∀ b o, Free W1 b → w3.cell? ⟨b, o, none⟩ = W1.cell? ⟨b, o, none⟩ := fun b o h => World.cell?_of_block (a := ⟨b, o, none⟩) (q3 b h))
        | (go_at_call_of 40 (Value.agg #[.int .i64 y.k, .int .i64 y.v, .slice y.da y.ds.length y.dc, .slice y.a y.ks.length y.cap]); refine (impl_kids y _).mono ?_; rintro e w4 ⟨rfl, g4⟩; have q4 : ∀ c, Free W1 c → w4.heap[c]? = W1.heap[c]? := fun c hc => (g4.block c (hc.same (q3 c hc)).lt).trans (q3 c hc); have k4 : ∀ b o, Free W1 b → w4.cell? ⟨b, o, none⟩ = W1.cell? ⟨b, o, none⟩ := fun b o h => World.cell?_of_block (a := ⟨b, o, none⟩) (q4 b h))
        | (go_at_call 53; refine (list_of k I T RR.out (by exact fun w h => (HTT.out w h).2.2.2) x.ks y.ks ih _ x.a y.a x.cap y.cap S (by exact (FX.out.keep q4).lf) (by exact (FY.out.keep q4).lf) (by exact RR.out.gw i2 (g3.trans g4)) (by exact KMp.gw coFr m2 (g3.trans g4)) (by exact fun hp => (BG.out.keep coFr q4).mono (cl_kids x hp))).mono ?_; rintro e w5 ⟨r, rfl, hr, c5, m5⟩; have q5 : ∀ c, Free W1 c → w5.heap[c]? = W1.heap[c]? := fun c hc => (RR.out.free (RR.out.gw i2 (g3.trans g4)) (KMp.gw coFr m2 (g3.trans g4)) c5 c (hc.same (q4 c hc))).trans (q4 c hc); have k5 : ∀ b o, Free W1 b → w5.cell? ⟨b, o, none⟩ = W1.cell? ⟨b, o, none⟩ := fun b o h => World.cell?_of_block (a := ⟨b, o, none⟩) (q5 b h)))
    have F := Lib.hid (show CmpPost k I T w S x y (.returned (.bool r)) w5 from ⟨r, rfl, hr.trans ⟨fun h => (same_iff x y).2 ⟨HNE.out, h⟩, fun h => ((same_iff x y).1 h).2⟩, (HC.out.trans (Chg.trans (Chg.trans (Chg.of_gw (Gw.refl W1).drew T) c2 (fun _ _ h => h)) (Chg.trans (Chg.of_gw (g3.trans g4) T) c5 (fun _ _ h => h)) (fun _ _ h => h)) (fun _ _ h => h)), m5⟩)
    clear k2 k3 k4 k5 q2 q3 q4 q5 c2 i2 m2 g3 g4 hr c5 m5 n0 l0 k0 z0 z1 z2 z3 y0 y1 y2 y3
    go_wp2_with fail
    go_ret
    exact F.out
  · have HNE := Lib.hid hne
    have HY := Lib.hid HN.no
    have F := Lib.hid (show ¬ x.co = y.co from fun h => hne ((same_iff x y).1 h).1)
    clear hne HN
    refine wp_region_held_drew (S := fun W => W.cell? ⟨k.CN, 0, none⟩ = some (.func (.func 39) #[] #[.pointer (some ⟨k.CD, 0, none⟩)]) ∧ W.cell? ⟨w.heap.size, 0, none⟩ = some (.int .i64 x.k) ∧ W.cell? ⟨w.heap.size, 1, none⟩ = some (.int .i64 x.v) ∧ W.cell? ⟨w.heap.size, 2, none⟩ = some (.slice x.da x.ds.length x.dc) ∧ W.cell? ⟨w.heap.size, 3, none⟩ = some (.slice x.a x.ks.length x.cap) ∧ W.cell? ⟨w.heap.size + 1, 0, none⟩ = some (.int .i64 y.k) ∧ W.cell? ⟨w.heap.size + 1, 1, none⟩ = some (.int .i64 y.v) ∧ W.cell? ⟨w.heap.size + 1, 2, none⟩ = some (.slice y.da y.ds.length y.dc) ∧ W.cell? ⟨w.heap.size + 1, 3, none⟩ = some (.slice y.a y.ks.length y.cap)) (by kernel_rfl) ?_ (fun hHeld => ?_)
    · exact ⟨n0, z0, z1, z2, z3, y0, y1, y2, y3⟩
    refine wpAnyH_take (i := 0) (oi := { dst := some 8, op := _, type := _, pos := _, after := _, guard := _ }) (v := .func (.func 39) #[] #[.pointer (some ⟨k.CD, 0, none⟩)]) rfl (by kernel_rfl) (by kernel_rfl) (by kernel_rfl) (fun _ _ _ h => h) (Or.inl ⟨by rfl, ?_⟩) (by assumption) ?_
    · intro w hSw; obtain ⟨n0, z0, z1, z2, z3, y0, y1, y2, y3⟩ := hSw; go_simp
    try simp only [Act.put, List.setIfInBounds_toArray, List.set_cons_zero, List.set_cons_succ]
    refine wpAnyH_take (i := 1) (oi := { dst := some 9, op := _, type := _, pos := _, after := _, guard := _ }) (v := .agg #[.int .i64 x.k, .int .i64 x.v, .slice x.da x.ds.length x.dc, .slice x.a x.ks.length x.cap]) rfl (by kernel_rfl) (by kernel_rfl) (by kernel_rfl) (fun _ _ _ h => h) (Or.inl ⟨by rfl, ?_⟩) (by assumption) ?_
    · intro w hSw; obtain ⟨n0, z0, z1, z2, z3, y0, y1, y2, y3⟩ := hSw; go_simp
    try simp only [Act.put, List.setIfInBounds_toArray, List.set_cons_zero, List.set_cons_succ]
    refine wpAnyH_take (i := 2) (oi := { dst := some 10, op := _, type := _, pos := _, after := _, guard := _ }) (v := .agg #[.int .i64 y.k, .int .i64 y.v, .slice y.da y.ds.length y.dc, .slice y.a y.ks.length y.cap]) rfl (by kernel_rfl) (by kernel_rfl) (by kernel_rfl) (fun _ _ _ h => h) (Or.inl ⟨by rfl, ?_⟩) (by assumption) ?_
    · intro w hSw; obtain ⟨n0, z0, z1, z2, z3, y0, y1, y2, y3⟩ := hSw; go_simp
    try simp only [Act.put, List.setIfInBounds_toArray, List.set_cons_zero, List.set_cons_succ]
    refine wpAnyH_ready (rs := [3]) (by kernel_rfl) (by simp) ?_
    refine AllReadyH.cons (o := { dst := some 11, op := _, type := _, pos := _, after := _, guard := _ }) rfl (fun K hK => ?_) AllReadyH.nil
    go_simp
    go_at_call 39
    refine (HY.out x y W1.drew S (FX.out.keep (fun _ _ => rfl)) (FY.out.keep (fun _ _ => rfl)) (RR.out.gw EN.out.1 (Gw.refl W1).drew) (KMp.gw coFr EN.out.2 (Gw.refl W1).drew) HNE.out).mono ?_
    rintro e w2 ⟨rfl, c2⟩
    have q2 : ∀ c, Free W1 c → w2.heap[c]? = W1.heap[c]? := fun c hc => RR.out.free (RR.out.gw EN.out.1 (Gw.refl W1).drew) (KMp.gw coFr EN.out.2 (Gw.refl W1).drew) c2 c (hc.same rfl)
    have k2 : ∀ b o, Free W1 b → w2.cell? ⟨b, o, none⟩ = W1.cell? ⟨b, o, none⟩ := fun b o h => World.cell?_of_block (a := ⟨b, o, none⟩) (q2 b h)
    go_wp2_with fail
    refine hK.out _ _ ⟨(k2 _ _ fN).trans n0, (k2 _ _ f1).trans z0, (k2 _ _ f1).trans z1, (k2 _ _ f1).trans z2, (k2 _ _ f1).trans z3, (k2 _ _ f2).trans y0, (k2 _ _ f2).trans y1, (k2 _ _ f2).trans y2, (k2 _ _ f2).trans y3⟩ (fun hHeld => ?_)
    clear hK K
    try simp only [Act.put, List.setIfInBounds_toArray, List.set_cons_zero, List.set_cons_succ]
    refine wpAnyH_take (i := 4) (oi := { dst := some 12, op := _, type := _, pos := _, after := _, guard := _ }) (v := .bool false) rfl (by kernel_rfl) (by kernel_rfl) (by kernel_rfl) (fun _ _ _ h => h) (Or.inl ⟨by rfl, ?_⟩) (by assumption) ?_
    · intro w hSw; (try dsimp only at hSw); go_simp
    try simp only [Act.put, List.setIfInBounds_toArray, List.set_cons_zero, List.set_cons_succ]
    refine wpAnyH_take (i := 5) (oi := { dst := some 13, op := _, type := _, pos := _, after := _, guard := _ }) (v := undef) rfl (by kernel_rfl) (by kernel_rfl) (by kernel_rfl) (fun _ _ _ h => h) (Or.inr ⟨by rfl, rfl⟩) (by assumption) ?_
    try simp only [Act.put, List.setIfInBounds_toArray, List.set_cons_zero, List.set_cons_succ]
    refine wpAnyH_take (i := 6) (oi := { dst := some 14, op := _, type := _, pos := _, after := _, guard := _ }) (v := undef) rfl (by kernel_rfl) (by kernel_rfl) (by kernel_rfl) (fun _ _ _ h => h) (Or.inr ⟨by rfl, rfl⟩) (by assumption) ?_
    try simp only [Act.put, List.setIfInBounds_toArray, List.set_cons_zero, List.set_cons_succ]
    refine wpAnyH_take (i := 7) (oi := { dst := some 15, op := _, type := _, pos := _, after := _, guard := _ }) (v := undef) rfl (by kernel_rfl) (by kernel_rfl) (by kernel_rfl) (fun _ _ _ h => h) (Or.inr ⟨by rfl, rfl⟩) (by assumption) ?_
    try simp only [Act.put, List.setIfInBounds_toArray, List.set_cons_zero, List.set_cons_succ]
    refine wpAnyH_take (i := 8) (oi := { dst := some 16, op := _, type := _, pos := _, after := _, guard := _ }) (v := undef) rfl (by kernel_rfl) (by kernel_rfl) (by kernel_rfl) (fun _ _ _ h => h) (Or.inr ⟨by rfl, rfl⟩) (by assumption) ?_
    try simp only [Act.put, List.setIfInBounds_toArray, List.set_cons_zero, List.set_cons_succ]
    refine wpAnyH_take (i := 9) (oi := { dst := some 17, op := _, type := _, pos := _, after := _, guard := _ }) (v := undef) rfl (by kernel_rfl) (by kernel_rfl) (by kernel_rfl) (fun _ _ _ h => h) (Or.inr ⟨by rfl, rfl⟩) (by assumption) ?_
    try simp only [Act.put, List.setIfInBounds_toArray, List.set_cons_zero, List.set_cons_succ]
    refine wpAnyH_take (i := 10) (oi := { dst := some 18, op := _, type := _, pos := _, after := _, guard := _ }) (v := undef) rfl (by kernel_rfl) (by kernel_rfl) (by kernel_rfl) (fun _ _ _ h => h) (Or.inr ⟨by rfl, rfl⟩) (by assumption) ?_
    try simp only [Act.put, List.setIfInBounds_toArray, List.set_cons_zero, List.set_cons_succ]
    refine wpAnyH_take (i := 11) (oi := { dst := some 19, op := _, type := _, pos := _, after := _, guard := _ }) (v := undef) rfl (by kernel_rfl) (by kernel_rfl) (by kernel_rfl) (fun _ _ _ h => h) (Or.inr ⟨by rfl, rfl⟩) (by assumption) ?_
    try simp only [Act.put, List.setIfInBounds_toArray, List.set_cons_zero, List.set_cons_succ]
    refine wpAnyH_take (i := 12) (oi := { dst := some 20, op := _, type := _, pos := _, after := _, guard := _ }) (v := undef) rfl (by kernel_rfl) (by kernel_rfl) (by kernel_rfl) (fun _ _ _ h => h) (Or.inr ⟨by rfl, rfl⟩) (by assumption) ?_
    try simp only [Act.put, List.setIfInBounds_toArray, List.set_cons_zero, List.set_cons_succ]
    refine wpAnyH_take (i := 13) (oi := { dst := some 21, op := _, type := _, pos := _, after := _, guard := _ }) (v := .bool false) rfl (by kernel_rfl) (by kernel_rfl) (by kernel_rfl) (fun _ _ _ h => h) (Or.inl ⟨by rfl, ?_⟩) (by assumption) ?_
    · intro w hSw; (try dsimp only at hSw); go_simp
    try simp only [Act.put, List.setIfInBounds_toArray, List.set_cons_zero, List.set_cons_succ]
    refine wpAnyH_take (i := 14) (oi := { dst := some 7, op := _, type := _, pos := _, after := _, guard := _ }) (v := .bool false) rfl (by kernel_rfl) (by kernel_rfl) (by kernel_rfl) (fun _ _ _ h => h) (Or.inl ⟨by rfl, ?_⟩) (by assumption) ?_
    · intro w hSw; (try dsimp only at hSw); go_simp
    try simp only [Act.put, List.setIfInBounds_toArray, List.set_cons_zero, List.set_cons_succ]
    refine wpAnyH_done (by kernel_rfl) ?_ _
    go_wp2_with fail
    go_ret
    exact ⟨false, rfl, by simp [F.out], HC.out.trans (Chg.trans (Chg.of_gw (Gw.refl W1).drew T) c2 (fun _ _ h => h)) (fun _ _ h => h), fun h => by cases h⟩

theorem cmp_ind (k : Kb) (I : World → Prop) (T : Nat → Prop) (R : Srr k.M I T) (HT : ∀ w, I w → TCaps k w) (HN : NodeC k I T) (x : LK) : CmpC k I T x := by
  refine LK.ind (P := CmpC k I T) (fun kk v da dc ds a c ks ih => ?_) x
  exact cmp_of k I T R HT HN (.mk kk v da dc ds a c ks) ih

def LcPost (k : Kb) (w : World) (e : Ending) (w' : World) : Prop := ∃ M CM CS, e = .returned (.func (.func 53) #[] #[.pointer (some ⟨CM, 0, none⟩), .pointer (some ⟨CS, 0, none⟩)]) ∧ LCaps { k with M := M, CM := CM, CS := CS } w' ∧ w'.heap[M]? = some (.map #[] 0) ∧ Gw w w' ∧ w.heap.size ≤ M

set_option maxRecDepth 100000 in
theorem impl_lc (k : Kb) (w : World) : Calls Try.prog 51 #[.func (.func 50) #[] #[.pointer (some ⟨k.CN, 0, none⟩), .pointer (some ⟨k.CL, 0, none⟩), .pointer (some ⟨k.CK, 0, none⟩)]] w (LcPost k w) := by
  have hmm := @run_makeMap Try.prog
  have gW : Gw w (((w.alloc (.cells #[.func (.func 50) #[] #[.pointer (some ⟨k.CN, 0, none⟩), .pointer (some ⟨k.CL, 0, none⟩), .pointer (some ⟨k.CK, 0, none⟩)]] 53)).alloc (.map #[] 0)).alloc (.cells #[.map (some (w.heap.size + 1))] 97)) := (((Gw.refl w).alloc _).alloc _).alloc _
  have e0 : (((w.alloc (.cells #[.func (.func 50) #[] #[.pointer (some ⟨k.CN, 0, none⟩), .pointer (some ⟨k.CL, 0, none⟩), .pointer (some ⟨k.CK, 0, none⟩)]] 53)).alloc (.map #[] 0)).alloc (.cells #[.map (some (w.heap.size + 1))] 97)).heap[w.heap.size]? = some (.cells #[.func (.func 50) #[] #[.pointer (some ⟨k.CN, 0, none⟩), .pointer (some ⟨k.CL, 0, none⟩), .pointer (some ⟨k.CK, 0, none⟩)]] 53 (0, 0)) := by
    rw [Below.heap_alloc _ _ _ (by simp <;> omega), Below.heap_alloc _ _ _ (by simp)]
    exact heap_alloc_new _ _
  have e1 : (((w.alloc (.cells #[.func (.func 50) #[] #[.pointer (some ⟨k.CN, 0, none⟩), .pointer (some ⟨k.CL, 0, none⟩), .pointer (some ⟨k.CK, 0, none⟩)]] 53)).alloc (.map #[] 0)).alloc (.cells #[.map (some (w.heap.size + 1))] 97)).heap[w.heap.size + 1]? = some (.map #[] 0) := by
    rw [Below.heap_alloc _ _ _ (by simp)]
    have := heap_alloc_new (w.alloc (.cells #[.func (.func 50) #[] #[.pointer (some ⟨k.CN, 0, none⟩), .pointer (some ⟨k.CL, 0, none⟩), .pointer (some ⟨k.CK, 0, none⟩)]] 53)) (.map #[] 0)
    rwa [World.size_alloc] at this
  have e2 : (((w.alloc (.cells #[.func (.func 50) #[] #[.pointer (some ⟨k.CN, 0, none⟩), .pointer (some ⟨k.CL, 0, none⟩), .pointer (some ⟨k.CK, 0, none⟩)]] 53)).alloc (.map #[] 0)).alloc (.cells #[.map (some (w.heap.size + 1))] 97)).heap[w.heap.size + 1 + 1]? = some (.cells #[.map (some (w.heap.size + 1))] 97 (0, 0)) := by
    have := heap_alloc_new ((w.alloc (.cells #[.func (.func 50) #[] #[.pointer (some ⟨k.CN, 0, none⟩), .pointer (some ⟨k.CL, 0, none⟩), .pointer (some ⟨k.CK, 0, none⟩)]] 53)).alloc (.map #[] 0)) (.cells #[.map (some (w.heap.size + 1))] 97)
    rwa [World.size_alloc, World.size_alloc] at this
  have F := Lib.hid (show LcPost k w (.returned (.func (.func 53) #[] #[.pointer (some ⟨w.heap.size + 1 + 1, 0, none⟩), .pointer (some ⟨w.heap.size, 0, none⟩)])) _ from ⟨_, _, _, rfl, ⟨e2, e0⟩, e1, gW, by omega⟩)
  clear gW e0 e1 e2
  go_enter Try.func51, Try.ntmps51
  go_wp2_with fail
  go_ret
  exact F.out

def TcPost (CD : Nat) (w : World) (e : Ending) (w' : World) : Prop := ∃ k : Kb, k.CD = CD ∧ e = .returned (.func (.func 50) #[] #[.pointer (some ⟨k.CN, 0, none⟩), .pointer (some ⟨k.CL, 0, none⟩), .pointer (some ⟨k.CK, 0, none⟩)]) ∧ TCaps k w' ∧ Mp w' k.M (fun _ => False) ∧ Gw w w' ∧ w.heap.size ≤ k.M

set_option maxRecDepth 100000 in
theorem impl_tree (CD : Nat) (w : World) : Calls Try.prog 38 #[.func (.func 39) #[] #[.pointer (some ⟨CD, 0, none⟩)], .func (.func 40) #[] #[]] w (TcPost CD w) := by
  have gW : Gw w (((w.alloc (.cells #[.func (.func 39) #[] #[.pointer (some ⟨CD, 0, none⟩)]] 53)).alloc (.cells #[.func (.func 40) #[] #[]] 85)).alloc (.cells #[.nilFunc] 95)) := (((Gw.refl w).alloc _).alloc _).alloc _
  have e0 : (((w.alloc (.cells #[.func (.func 39) #[] #[.pointer (some ⟨CD, 0, none⟩)]] 53)).alloc (.cells #[.func (.func 40) #[] #[]] 85)).alloc (.cells #[.nilFunc] 95)).heap[w.heap.size]? = some (.cells #[.func (.func 39) #[] #[.pointer (some ⟨CD, 0, none⟩)]] 53 (0, 0)) := by
    rw [Below.heap_alloc _ _ _ (by simp <;> omega), Below.heap_alloc _ _ _ (by simp)]
    exact heap_alloc_new _ _
  have e1 : (((w.alloc (.cells #[.func (.func 39) #[] #[.pointer (some ⟨CD, 0, none⟩)]] 53)).alloc (.cells #[.func (.func 40) #[] #[]] 85)).alloc (.cells #[.nilFunc] 95)).heap[w.heap.size + 1]? = some (.cells #[.func (.func 40) #[] #[]] 85 (0, 0)) := by
    rw [Below.heap_alloc _ _ _ (by simp)]
    have := heap_alloc_new (w.alloc (.cells #[.func (.func 39) #[] #[.pointer (some ⟨CD, 0, none⟩)]] 53)) (.cells #[.func (.func 40) #[] #[]] 85)
    rwa [World.size_alloc] at this
  have e2 : (((w.alloc (.cells #[.func (.func 39) #[] #[.pointer (some ⟨CD, 0, none⟩)]] 53)).alloc (.cells #[.func (.func 40) #[] #[]] 85)).alloc (.cells #[.nilFunc] 95)).heap[w.heap.size + 1 + 1]? = some (.cells #[.nilFunc] 95 (0, 0)) := by
    have := heap_alloc_new ((w.alloc (.cells #[.func (.func 39) #[] #[.pointer (some ⟨CD, 0, none⟩)]] 53)).alloc (.cells #[.func (.func 40) #[] #[]] 85)) (.cells #[.nilFunc] 95)
    rwa [World.size_alloc, World.size_alloc] at this
  go_enter Try.func38, Try.ntmps38
  go_upto_region 2 with (fail)
  generalize (((w.alloc (.cells #[.func (.func 39) #[] #[.pointer (some ⟨CD, 0, none⟩)]] 53)).alloc (.cells #[.func (.func 40) #[] #[]] 85)).alloc (.cells #[.nilFunc] 95)) = W at *
  have KEY := Lib.hid (impl_lc ⟨0, w.heap.size, w.heap.size + 1 + 1, w.heap.size + 1, 0, 0, CD⟩ W)
  have E0 := Lib.hid e0
  have E1 := Lib.hid e1
  have E2 := Lib.hid e2
  have GW := Lib.hid gW
  clear e0 e1 e2 gW
  go_wp2_with fail
  refine KEY.out.mono ?_
  rintro e w3 ⟨M, CM, CS, rfl, ⟨h1, h2⟩, hmp, g3, hM⟩
  have d0 := (g3.block _ (Array.getElem?_eq_some_iff.1 E0.out).1).trans E0.out
  have d1 := (g3.block _ (Array.getElem?_eq_some_iff.1 E1.out).1).trans E1.out
  have d2 := (g3.block _ (Array.getElem?_eq_some_iff.1 E2.out).1).trans E2.out
  have x4 : w3.cell? ⟨w.heap.size + 1 + 1, 0, none⟩ = some .nilFunc := cell_of_row _ _ 0 _ _ _ d2
  have z4 : w3.frozen? ⟨w.heap.size + 1 + 1, 0, none⟩ = false := by simp [World.frozen?, d2]
  have nM : M ≠ w.heap.size + 1 + 1 := fun e => by rw [e, d2] at hmp; cases hmp
  have nCM : CM ≠ w.heap.size + 1 + 1 := fun e => by rw [show ({ (⟨0, w.heap.size, w.heap.size + 1 + 1, w.heap.size + 1, 0, 0, CD⟩ : Kb) with M := M, CM := CM, CS := CS } : Kb).CM = w.heap.size + 1 + 1 from e, d2] at h1; injection h1 with h1; injection h1 with h1 h3; simp at h1
  have nCS : CS ≠ w.heap.size + 1 + 1 := fun e => by rw [show ({ (⟨0, w.heap.size, w.heap.size + 1 + 1, w.heap.size + 1, 0, 0, CD⟩ : Kb) with M := M, CM := CM, CS := CS } : Kb).CS = w.heap.size + 1 + 1 from e, d2] at h2; injection h2 with h2; injection h2 with h2 h3; simp at h2
  have F := Lib.hid (show TcPost CD w (.returned (.func (.func 50) #[] #[.pointer (some ⟨w.heap.size, 0, none⟩), .pointer (some ⟨w.heap.size + 1 + 1, 0, none⟩), .pointer (some ⟨w.heap.size + 1, 0, none⟩)])) (w3.setCell ⟨w.heap.size + 1 + 1, 0, none⟩ (.func (.func 53) #[] #[.pointer (some ⟨CM, 0, none⟩), .pointer (some ⟨CS, 0, none⟩)])) by
    refine ⟨⟨M, w.heap.size, w.heap.size + 1 + 1, w.heap.size + 1, CM, CS, CD⟩, rfl, rfl, ⟨(Below.heap_setCell _ _ _ _ (by simp <;> omega)).trans d0, by simp [World.setCell, Array.getElem?_modify, d2], (Below.heap_setCell _ _ _ _ (by simp <;> omega)).trans d1, (Below.heap_setCell _ _ _ _ nCM).trans h1, (Below.heap_setCell _ _ _ _ nCS).trans h2⟩, ?_, Below.setCell (GW.out.trans g3) (by simp <;> omega) _, Nat.le_trans GW.out.size hM⟩
    exact ⟨_, _, (Below.heap_setCell _ _ _ _ nM).trans hmp, fun e he => by simp at he⟩)
  clear h1 h2 hmp g3 hM d0 d1 d2 nM nCM nCS
  go_wp2_with fail
  go_ret
  exact F.out

end Go.Proofs.Ytkpbiifikkbaeaa.Con.KCore
