/-
  Contract of the program's SameProgram with its closures. Condition: all lies in blocks of cells.
-/
import Derived.Test.YtbbldkhlclfmkaaPgS
import Derived.Test.YtbbldkhlclfmkaaKnTerm
import Derived.Test.YtbbldkhlclfmkaaDfTo
import Derived.Deep.Cut
namespace Go.Proofs.Ytbbldkhlclfmkaa.Con.KProg
open Go.RowKit Go.Proofs.Ytbbldkhlclfmkaa.Con
set_option linter.unusedVariables false

structure Pk where
  k : Kb
  k' : Kb
  S1 : Nat
  S2 : Nat
  S3 : Nat
def PEnv (p : Pk) (w : World) : Prop := (KTerm.Env p.k p.k' w ∧ KTerm.Mp w p.k.M (fun _ => False)) ∧ p.k.M ≠ p.k'.M ∧ BoxV w p.S1 #[.func (.func 105) #[] #[.pointer (some ⟨p.k'.CN, 0, none⟩), .pointer (some ⟨p.k'.CL, 0, none⟩), .pointer (some ⟨p.k'.CK, 0, none⟩)]] ∧ BoxV w p.S2 #[.func (.func 112) #[] #[.pointer (some ⟨p.k.CN, 0, none⟩), .pointer (some ⟨p.k.CL, 0, none⟩), .pointer (some ⟨p.k.CK, 0, none⟩)]] ∧ BoxV w p.S3 #[.func (.func 61) #[] #[.pointer (some ⟨p.S1, 0, none⟩)]]
theorem box_free {w : World} {b : Nat} {vs : Array Value} (h : BoxV w b vs) : Free w b := by
  obtain ⟨e, h⟩ := h
  exact ⟨vs, e, h⟩
theorem PEnv.boxes {p : Pk} {w w' : World} (h : PEnv p w) (hk : ∀ c, Free w c → w'.heap[c]? = w.heap[c]?) (h2 : KTerm.Env p.k p.k' w' ∧ KTerm.Mp w' p.k.M (fun _ => False)) : PEnv p w' :=
  ⟨h2, h.2.1, h.2.2.1.same (hk _ (box_free h.2.2.1)), h.2.2.2.1.same (hk _ (box_free h.2.2.2.1)), h.2.2.2.2.same (hk _ (box_free h.2.2.2.2))⟩
theorem PEnv.gw {p : Pk} {w w' : World} (h : PEnv p w) (g : Gw w w') : PEnv p w' := h.boxes (KType.free_gw g) ⟨h.1.1.gw g, KMp.gw tmFr h.1.2 g⟩
theorem PEnv.free {p : Pk} {w w' : World} (h : PEnv p w) (hc : Chg w w' (KTerm.Tn p.k p.k')) : ∀ c, Free w c → w'.heap[c]? = w.heap[c]? := Srr.free (KTerm.esr p.k p.k' h.2.1) h.1.1 h.1.2 hc
theorem PEnv.s1 {p : Pk} {w : World} (h : PEnv p w) : w.cell? ⟨p.S1, 0, none⟩ = some (.func (.func 105) #[] #[.pointer (some ⟨p.k'.CN, 0, none⟩), .pointer (some ⟨p.k'.CL, 0, none⟩), .pointer (some ⟨p.k'.CK, 0, none⟩)]) := h.2.2.1.one
theorem PEnv.s2 {p : Pk} {w : World} (h : PEnv p w) : w.cell? ⟨p.S2, 0, none⟩ = some (.func (.func 112) #[] #[.pointer (some ⟨p.k.CN, 0, none⟩), .pointer (some ⟨p.k.CL, 0, none⟩), .pointer (some ⟨p.k.CK, 0, none⟩)]) := h.2.2.2.1.one
theorem PEnv.s3 {p : Pk} {w : World} (h : PEnv p w) : w.cell? ⟨p.S3, 0, none⟩ = some (.func (.func 61) #[] #[.pointer (some ⟨p.S1, 0, none⟩)]) := h.2.2.2.2.one
theorem PEnv.afterT {p : Pk} {w w' : World} (h : PEnv p w) (hc : Chg w w' (fun b => b = p.k'.M)) (hm : KType.TCaps p.k' w' ∧ KType.Mp w' p.k'.M (fun _ => False)) : PEnv p w' := by
  have hk : ∀ c, Free w c → w'.heap[c]? = w.heap[c]? := Srr.free (KType.tsr p.k') h.1.1.2.2.1 h.1.1.2.2.2 hc
  obtain ⟨es, cl, hx, hE⟩ := h.1.2
  have hM : w'.heap[p.k.M]? = w.heap[p.k.M]? := hc.2.2.2.2 _ (Array.getElem?_eq_some_iff.1 hx).1 h.2.1
  exact h.boxes hk ⟨h.1.1.cells hk hm.2, KMp.stays tmFr ⟨es, cl, hx, hE⟩ hM hk⟩

def PPost (p : Pk) (P : Prop) (w : World) (e : Ending) (w' : World) : Prop := ∃ r : Bool, e = .returned (.bool r) ∧ (r = true ↔ P) ∧ Chg w w' (KTerm.Tn p.k p.k') ∧ (r = true → PEnv p w')
theorem pp_false {p : Pk} {P : Prop} {w w' : World} (h : ¬ P) (hc : Chg w w' (KTerm.Tn p.k p.k')) : PPost p P w (.returned (.bool false)) w' := ⟨false, rfl, by simp [h], hc, fun h => by cases h⟩
theorem pp_true {p : Pk} {P : Prop} {w w' : World} (h : P) (hc : Chg w w' (KTerm.Tn p.k p.k')) (he : PEnv p w') : PPost p P w (.returned (.bool true)) w' := ⟨true, rfl, by simp [h], hc, fun _ => he⟩

/-- Elements and rows of them in blocks of cells. -/
abbrev FT (w : World) (x : LT) : Prop := KType.FOk w x
def ST (w : World) (a : Option Addr) (cap : Nat) (xs : List LT) : Prop := KType.FOk w (LT.mk 0 ⟨#[]⟩ a cap xs)
theorem ST.le {w : World} {a : Option Addr} {cap : Nat} {xs : List LT} (h : ST w a cap xs) : xs.length ≤ 9223372036854775807 := Nat.le_trans h.1.kids.1 h.1.kids.2.1
theorem ST.keep {w w' : World} {a : Option Addr} {cap : Nat} {xs : List LT} (h : ST w a cap xs) (hk : ∀ c, Free w c → w'.heap[c]? = w.heap[c]?) : ST w' a cap xs := KType.FOk.keep h hk
theorem ST.get {w : World} {a : Option Addr} {cap : Nat} {xs : List LT} (h : ST w a cap xs) (j : Nat) (hj : j < xs.length) : ∃ b o, a = some ⟨b, o, none⟩ ∧ w.cell? ⟨b, o + j * 3, none⟩ = some (.int .i64 xs[j].k) ∧ w.cell? ⟨b, o + j * 3 + 1, none⟩ = some (.string xs[j].n) ∧ w.cell? ⟨b, o + j * 3 + 2, none⟩ = some (.slice xs[j].a xs[j].ks.length xs[j].cap) ∧ FT w xs[j] := by
  obtain ⟨b, o, ea, hr⟩ := KType.FOk.row h (by show 0 < xs.length; omega)
  obtain ⟨c0, c1, c2, f⟩ := KType.RF.el hr j hj
  exact ⟨b, o, ea, c0, c1, c2, f⟩
def FN {α : Type} (ok : World → LN α → Prop) (cb : LN α → List Nat) (w : World) (x : LN α) : Prop := ok w x ∧ ∀ c ∈ cb x, Free w c
theorem FN.keep {α : Type} {ok : World → LN α → Prop} {cb : LN α → List Nat} (hf : Frames ok cb) {w w' : World} {x : LN α} (h : FN ok cb w x) (hk : ∀ c, Free w c → w'.heap[c]? = w.heap[c]?) : FN ok cb w' x :=
  ⟨hf _ _ _ h.1 fun b hb => hk b (h.2 b hb), fun b hb => by
    have hfb := h.2 b hb
    have e := hk b hfb
    obtain ⟨cs, t, hx⟩ := hfb
    exact ⟨cs, t, e.trans hx⟩⟩
def SN {α : Type} (ok : World → LN α → Prop) (cb : LN α → List Nat) (w : World) (a : Option Addr) (cap : Nat) (xs : List (LN α)) : Prop := nsl ok w a cap xs ∧ ∀ b ∈ nbl cb a xs, Free w b
theorem SN.le {α : Type} {ok : World → LN α → Prop} {cb : LN α → List Nat} {w : World} {a : Option Addr} {cap : Nat} {xs : List (LN α)} (h : SN ok cb w a cap xs) : xs.length ≤ 9223372036854775807 := Nat.le_trans h.1.1 h.1.2.1
theorem free_keep {w w' : World} {b : Nat} (h : Free w b) (hk : ∀ c, Free w c → w'.heap[c]? = w.heap[c]?) : Free w' b := by
  have e := hk b h
  obtain ⟨cs, t, hx⟩ := h
  exact ⟨cs, t, e.trans hx⟩
theorem SN.keep {α : Type} {ok : World → LN α → Prop} {cb : LN α → List Nat} (hf : Frames ok cb) {w w' : World} {a : Option Addr} {cap : Nat} {xs : List (LN α)} (h : SN ok cb w a cap xs) (hk : ∀ c, Free w c → w'.heap[c]? = w.heap[c]?) : SN ok cb w' a cap xs :=
  ⟨nsl.frame hf h.1 fun b hb => hk b (h.2 b hb), fun b hb => free_keep (h.2 b hb) hk⟩
theorem SN.get {α : Type} {ok : World → LN α → Prop} {cb : LN α → List Nat} {w : World} {a : Option Addr} {cap : Nat} {xs : List (LN α)} (h : SN ok cb w a cap xs) (j : Nat) (hj : j < xs.length) : ∃ b o, a = some ⟨b, o, none⟩ ∧ w.cell? ⟨b, o + j * 2, none⟩ = some (.string xs[j].n) ∧ w.cell? ⟨b, o + j * 2 + 1, none⟩ = some (.slice xs[j].a xs[j].xs.length xs[j].cap) ∧ FN ok cb w xs[j] := by
  obtain ⟨b, o, ea, hr⟩ := h.1.2.2.resolve_left (fun e => by subst e; simp at hj)
  obtain ⟨c0, c1, k⟩ := hr j hj
  exact ⟨b, o, ea, c0, c1, k, fun c hc => h.2 c (nbl_sub (List.getElem_mem hj) c hc)⟩
def FC (w : World) (x : LC) : Prop := FN cOk cbl w x
def FD (w : World) (x : LD) : Prop := FN dOk dbl w x
def SC (w : World) (a : Option Addr) (cap : Nat) (xs : List LC) : Prop := SN cOk cbl w a cap xs
def SD (w : World) (a : Option Addr) (cap : Nat) (xs : List LD) : Prop := SN dOk dbl w a cap xs
theorem FC.keep {w w' : World} {x : LC} (h : FC w x) (hk : ∀ c, Free w c → w'.heap[c]? = w.heap[c]?) : FC w' x := FN.keep cFrames h hk
theorem FD.keep {w w' : World} {x : LD} (h : FD w x) (hk : ∀ c, Free w c → w'.heap[c]? = w.heap[c]?) : FD w' x := FN.keep dFrames h hk
theorem SC.le {w : World} {a : Option Addr} {cap : Nat} {xs : List LC} (h : SC w a cap xs) : xs.length ≤ 9223372036854775807 := SN.le h
theorem SD.le {w : World} {a : Option Addr} {cap : Nat} {xs : List LD} (h : SD w a cap xs) : xs.length ≤ 9223372036854775807 := SN.le h
theorem SC.keep {w w' : World} {a : Option Addr} {cap : Nat} {xs : List LC} (h : SC w a cap xs) (hk : ∀ c, Free w c → w'.heap[c]? = w.heap[c]?) : SC w' a cap xs := SN.keep cFrames h hk
theorem SD.keep {w w' : World} {a : Option Addr} {cap : Nat} {xs : List LD} (h : SD w a cap xs) (hk : ∀ c, Free w c → w'.heap[c]? = w.heap[c]?) : SD w' a cap xs := SN.keep dFrames h hk
theorem SC.get {w : World} {a : Option Addr} {cap : Nat} {xs : List LC} (h : SC w a cap xs) (j : Nat) (hj : j < xs.length) : ∃ b o, a = some ⟨b, o, none⟩ ∧ w.cell? ⟨b, o + j * 2, none⟩ = some (.string xs[j].n) ∧ w.cell? ⟨b, o + j * 2 + 1, none⟩ = some (.slice xs[j].a xs[j].xs.length xs[j].cap) ∧ FC w xs[j] := SN.get h j hj
theorem SD.get {w : World} {a : Option Addr} {cap : Nat} {xs : List LD} (h : SD w a cap xs) (j : Nat) (hj : j < xs.length) : ∃ b o, a = some ⟨b, o, none⟩ ∧ w.cell? ⟨b, o + j * 2, none⟩ = some (.string xs[j].n) ∧ w.cell? ⟨b, o + j * 2 + 1, none⟩ = some (.slice xs[j].a xs[j].xs.length xs[j].cap) ∧ FD w xs[j] := SN.get h j hj
theorem FC.kids {w : World} {x : LC} (h : FC w x) : ST w x.a x.cap x.xs := ⟨LT.ok_mk (by show (0 : Nat) ≤ maxLen; exact Nat.zero_le _) (by show (-9223372036854775808 : Int) ≤ 0; omega) (by show (0 : Int) ≤ 9223372036854775807; omega) h.1.2, h.2⟩
theorem FD.kids {w : World} {x : LD} (h : FD w x) : SC w x.a x.cap x.xs := ⟨h.1.2, h.2⟩
def FF (w : World) (x : LF) : Prop := dfOk w x ∧ ∀ c ∈ dfB x, Free w c
def SF (w : World) (a : Option Addr) (cap : Nat) (xs : List LF) : Prop := dfSl w a cap xs ∧ ∀ b ∈ nbl dfB a xs, Free w b
theorem FF.keep {w w' : World} {x : LF} (h : FF w x) (hk : ∀ c, Free w c → w'.heap[c]? = w.heap[c]?) : FF w' x := ⟨dfFr _ _ _ h.1 fun b hb => hk b (h.2 b hb), fun b hb => free_keep (h.2 b hb) hk⟩
theorem SF.le {w : World} {a : Option Addr} {cap : Nat} {xs : List LF} (h : SF w a cap xs) : xs.length ≤ 9223372036854775807 := Nat.le_trans h.1.1 h.1.2.1
theorem SF.keep {w w' : World} {a : Option Addr} {cap : Nat} {xs : List LF} (h : SF w a cap xs) (hk : ∀ c, Free w c → w'.heap[c]? = w.heap[c]?) : SF w' a cap xs :=
  ⟨gSl.frame (by decide) dfLen dfFr h.1 fun b hb => hk b (h.2 b hb), fun b hb => free_keep (h.2 b hb) hk⟩
theorem SF.get {w : World} {a : Option Addr} {cap : Nat} {xs : List LF} (h : SF w a cap xs) (j : Nat) (hj : j < xs.length) : ∃ b o, a = some ⟨b, o, none⟩ ∧ w.cell? ⟨b, o + j * 12, none⟩ = some (.string xs[j].n) ∧ w.cell? ⟨b, o + j * 12 + 1, none⟩ = some (.int .i64 xs[j].t.k) ∧ w.cell? ⟨b, o + j * 12 + 2, none⟩ = some (.string xs[j].t.n) ∧ w.cell? ⟨b, o + j * 12 + 3, none⟩ = some (.slice xs[j].t.a xs[j].t.ks.length xs[j].t.cap) ∧ w.cell? ⟨b, o + j * 12 + 4, none⟩ = some (.int .i64 xs[j].u.k) ∧ w.cell? ⟨b, o + j * 12 + 5, none⟩ = some (.int .i64 xs[j].u.m) ∧ w.cell? ⟨b, o + j * 12 + 6, none⟩ = some (.string xs[j].u.n) ∧ w.cell? ⟨b, o + j * 12 + 7, none⟩ = some (.int .i64 xs[j].u.t.k) ∧ w.cell? ⟨b, o + j * 12 + 8, none⟩ = some (.string xs[j].u.t.n) ∧ w.cell? ⟨b, o + j * 12 + 9, none⟩ = some (.slice xs[j].u.t.a xs[j].u.t.ks.length xs[j].u.t.cap) ∧ w.cell? ⟨b, o + j * 12 + 10, none⟩ = some (.slice xs[j].u.na xs[j].u.ns.length xs[j].u.nc) ∧ w.cell? ⟨b, o + j * 12 + 11, none⟩ = some (.slice xs[j].u.a xs[j].u.ks.length xs[j].u.cap) ∧ FF w xs[j] := by
  obtain ⟨b, o, ea, hr⟩ := h.1.2.2.resolve_left (fun e => by subst e; simp at hj)
  obtain ⟨c0, c1, c2, c3, c4, c5, c6, c7, c8, c9, c10, c11, k⟩ := dfRow_get hr j hj
  exact ⟨b, o, ea, c0, c1, c2, c3, c4, c5, c6, c7, c8, c9, c10, c11, k, fun c hc => h.2 c (nbl_sub (List.getElem_mem hj) c hc)⟩
theorem FF.t {w : World} {x : LF} (h : FF w x) : KType.FOk w x.t := ⟨h.1.2.1, fun c hc => h.2 c (List.mem_append_left _ hc)⟩
theorem FF.u {w : World} {x : LF} (h : FF w x) : KTerm.FOk w x.u := ⟨h.1.2.2, fun c hc => h.2 c (List.mem_append_right _ hc)⟩

theorem cmp_T (p : Pk) (x y : LT) (w : World) (hx : FT w x) (hy : FT w y) (he : PEnv p w) : Calls Try.prog 105 #[x.val, y.val, .pointer (some ⟨p.k'.CN, 0, none⟩), .pointer (some ⟨p.k'.CL, 0, none⟩), .pointer (some ⟨p.k'.CK, 0, none⟩)] w (PPost p (x.ty = y.ty) w) := by
  refine (KType.cmp_all p.k' x y w (fun _ => False) hx hy he.1.1.2.2.1 he.1.1.2.2.2 (fun v hv => hv.elim)).mono ?_
  rintro e w' ⟨r, rfl, hr, hc, hm⟩
  exact ⟨r, rfl, hr, hc.mono (fun x hx => .inr hx), fun h => he.afterT hc (hm h)⟩
theorem cmp_U (p : Pk) (x y : LM) (w : World) (hx : KTerm.FOk w x) (hy : KTerm.FOk w y) (he : PEnv p w) : Calls Try.prog 112 #[x.val, y.val, .pointer (some ⟨p.k.CN, 0, none⟩), .pointer (some ⟨p.k.CL, 0, none⟩), .pointer (some ⟨p.k.CK, 0, none⟩)] w (PPost p (x.tm = y.tm) w) := by
  refine (KTerm.cmp_all p.k p.k' he.2.1 x y w (fun _ => False) hx hy he.1.1 he.1.2 (fun v hv => hv.elim)).mono ?_
  rintro e w' ⟨r, rfl, hr, hc, hm⟩
  exact ⟨r, rfl, hr, hc, fun h => he.boxes (he.free hc) (hm h)⟩

set_option maxRecDepth 100000 in
set_option maxHeartbeats 1000000 in
theorem eq_T (p : Pk) (xs ys : List LT) (w : World) (a a' : Option Addr) (cap cap' : Nat) (hx : ST w a cap xs) (hy : ST w a' cap' ys) (he : PEnv p w) :
    Calls Try.prog 62 #[.slice a xs.length cap, .slice a' ys.length cap', .func (.func 105) #[] #[.pointer (some ⟨p.k'.CN, 0, none⟩), .pointer (some ⟨p.k'.CL, 0, none⟩), .pointer (some ⟨p.k'.CK, 0, none⟩)]] w (PPost p (xs.map LT.ty = ys.map LT.ty) w) := by
  have hlx : xs.length ≤ 9223372036854775807 := hx.le
  have hly : ys.length ≤ 9223372036854775807 := hy.le
  have HX := Lib.hid hx
  have HY := Lib.hid hy
  have HE := Lib.hid he
  clear hx hy he
  obtain ⟨m, hm⟩ : ∃ m, m = ys.length := ⟨_, rfl⟩
  rw [← hm] at hly ⊢
  go_enter Try.func62, Try.ntmps62
  by_cases hnm : xs.length = m
  rotate_left
  · have z1 : ((xs.length : Int) != (m : Int)) = true := by simp; omega
    have F := Lib.hid (show ¬ xs.map LT.ty = ys.map LT.ty from fun e => hnm (by rw [hm]; exact (map_iff.1 e).1))
    clear hnm hm
    go_wp2_with fail
    go_ret
    exact pp_false F.out (Chg.of_gw (Gw.refl _) _)
  have HM := Lib.hid hm
  clear hm
  obtain rfl := hnm
  have z1 : ((xs.length : Int) != (xs.length : Int)) = false := by simp
  go_wp2_with fail
  clear z1
  go_loopw [17] (fun i wr => ∃ j : Nat, j ≤ xs.length ∧ i = .int .i64 j ∧ Chg w wr (KTerm.Tn p.k p.k') ∧ PEnv p wr ∧ ∀ i (hx : i < xs.length) (hy : i < ys.length), i < j → LT.ty xs[i] = LT.ty ys[i]) (fun i _ => xs.length - (intOf i).toNat)
  case atStart => exact ⟨0, Nat.zero_le _, rfl, Chg.of_gw (Gw.refl _) _, HE.out, fun i _ _ h => absurd h (by omega)⟩
  case round =>
    obtain ⟨j, hj, rfl, hc, hm, hall⟩ := hrel
    have HC := Lib.hid hc
    have HP := Lib.hid hm
    have HALL := Lib.hid hall
    have hk := HE.out.free hc
    have HX3 := Lib.hid (HX.out.keep hk)
    have HY3 := Lib.hid (HY.out.keep hk)
    clear hc hm hall hk
    by_cases hlt : j < xs.length
    · have hjy : j < ys.length := by have := HM.out; omega
      obtain ⟨b, o, rfl, c0, c1, c2, fx⟩ := HX3.out.get j hlt
      obtain ⟨b', o', rfl, d0, d1, d2, fy⟩ := HY3.out.get j hjy
      have FX := Lib.hid fx
      have FY := Lib.hid fy
      have r0 : (0 : Int) ≤ j := by omega
      have r1 : (j : Int) < xs.length := by omega
      have lX : b < wr.heap.size := cell_lt c0
      have lY : b' < wr.heap.size := cell_lt d0
      clear fx fy
      go_upto_region 7 with (fail)
      have b1 := (BoxV.new wr #[.int .i64 xs[j].k, .string xs[j].n, .slice xs[j].a xs[j].ks.length xs[j].cap] 29).grow ((Gw.refl _).alloc (.cells #[.int .i64 ys[j].k, .string ys[j].n, .slice ys[j].a ys[j].ks.length ys[j].cap] 29))
      have b2 := BoxV.new (wr.alloc (.cells #[.int .i64 xs[j].k, .string xs[j].n, .slice xs[j].a xs[j].ks.length xs[j].cap] 29)) #[.int .i64 ys[j].k, .string ys[j].n, .slice ys[j].a ys[j].ks.length ys[j].cap] 29
      rw [World.size_alloc] at b2
      have gA : Gw wr ((wr.alloc (.cells #[.int .i64 xs[j].k, .string xs[j].n, .slice xs[j].a xs[j].ks.length xs[j].cap] 29)).alloc (.cells #[.int .i64 ys[j].k, .string ys[j].n, .slice ys[j].a ys[j].ks.length ys[j].cap] 29)) := ((Gw.refl wr).alloc _).alloc _
      clear c0 c1 c2 d0 d1 d2 lX lY
      generalize ((wr.alloc (.cells #[.int .i64 xs[j].k, .string xs[j].n, .slice xs[j].a xs[j].ks.length xs[j].cap] 29)).alloc (.cells #[.int .i64 ys[j].k, .string ys[j].n, .slice ys[j].a ys[j].ks.length ys[j].cap] 29)) = W at *
      have KEY := Lib.hid (cmp_T p xs[j] ys[j] W (FX.out.keep (KType.free_gw gA)) (FY.out.keep (KType.free_gw gA)) (HP.out.gw gA))
      have GA := Lib.hid (HC.out.trans (Chg.of_gw gA (KTerm.Tn p.k p.k')) (fun _ _ h => h))
      obtain ⟨z0, z1, z2⟩ := b1.three
      obtain ⟨y0, y1, y2⟩ := b2.three
      clear gA b1 b2
      go_wp2_with fail
      refine KEY.out.mono ?_
      rintro e w4 ⟨r, rfl, hr, hc4, hm4⟩
      have C4 := Lib.hid (GA.out.trans hc4 (fun _ _ h => h))
      clear z0 z1 z2 y0 y1 y2 KEY hc4
      cases r with
      | false =>
        have F := Lib.hid (show ¬ xs.map LT.ty = ys.map LT.ty from fun h => by have := hr.2 ((map_iff.1 h).2 j hlt hjy); cases this)
        clear hr hm4
        go_wp2_with fail
        go_ret
        exact pp_false F.out C4.out
      | true =>
        have HEQ := Lib.hid (hr.1 rfl)
        have HM4 := Lib.hid (hm4 rfl)
        clear hr hm4
        go_wp2_with fail
        go_roundw
        case rel =>
          refine ⟨j + 1, by omega, by go_num, C4.out, HM4.out, fun i hx hy hi => ?_⟩
          by_cases e : i = j
          · subst e; exact HEQ.out
          · exact HALL.out i hx hy (by omega)
        case measure => simp [intOf]; omega
    · obtain rfl : j = xs.length := by omega
      have F := Lib.hid (show xs.map LT.ty = ys.map LT.ty from map_iff.2 ⟨HM.out, fun i hx hy => HALL.out i hx hy hx⟩)
      go_wp2_with fail
      go_ret
      exact pp_true F.out HC.out HP.out

set_option maxRecDepth 100000 in
theorem cmp_C (p : Pk) (x y : LC) (w : World) (hx : FC w x) (hy : FC w y) (he : PEnv p w) : Calls Try.prog 61 #[x.val, y.val, .pointer (some ⟨p.S1, 0, none⟩)] w (PPost p (cty x = cty y) w) := by
  have gA : Gw w ((w.alloc (.cells #[.string x.n, .slice x.a x.xs.length x.cap] 101)).alloc (.cells #[.string y.n, .slice y.a y.xs.length y.cap] 101)) := ((Gw.refl w).alloc _).alloc _
  have b1 := (BoxV.new w #[.string x.n, .slice x.a x.xs.length x.cap] 101).grow ((Gw.refl _).alloc (.cells #[.string y.n, .slice y.a y.xs.length y.cap] 101))
  have b2 := BoxV.new (w.alloc (.cells #[.string x.n, .slice x.a x.xs.length x.cap] 101)) #[.string y.n, .slice y.a y.xs.length y.cap] 101
  rw [World.size_alloc] at b2
  have HX := Lib.hid (hx.keep (KType.free_gw gA))
  have HY := Lib.hid (hy.keep (KType.free_gw gA))
  have HE := Lib.hid (he.gw gA)
  have GA := Lib.hid (Chg.of_gw gA (KTerm.Tn p.k p.k'))
  clear hx hy he gA
  go_enter Try.func61, Try.ntmps61
  go_upto_region 1 with (fail)
  generalize (w.alloc (.cells #[.string x.n, .slice x.a x.xs.length x.cap] 101)).alloc (.cells #[.string y.n, .slice y.a y.xs.length y.cap] 101) = W1 at *
  obtain ⟨p0, p1⟩ := b1.two
  obtain ⟨q0, q1⟩ := b2.two
  have s0 := HE.out.s1
  by_cases h3 : x.n = y.n
  rotate_left
  · have d3 := KType.toList_neK h3
    have F := Lib.hid (show ¬ cty x = cty y from fun e => h3 ((cty_iff x y).1 e).1)
    clear h3
    go_wp2_with fail
    go_ret
    exact pp_false F.out GA.out
  have d3 : (x.n.toList == y.n.toList) = true := by rw [h3]; simp
  have H3 := Lib.hid h3
  clear h3
  go_wp2_with fail
  refine (eq_T p x.xs y.xs _ x.a y.a x.cap y.cap HX.out.kids HY.out.kids HE.out).mono ?_
  rintro e w2 ⟨r, rfl, hr, hc, hm⟩
  have F := Lib.hid (show r = true ↔ cty x = cty y from hr.trans ⟨fun h => (cty_iff x y).2 ⟨H3.out, h⟩, fun h => ((cty_iff x y).1 h).2⟩)
  have C := Lib.hid (GA.out.trans hc (fun _ _ h => h))
  have HM := Lib.hid hm
  clear hr hc hm p0 p1 q0 q1 s0
  go_wp2_with fail
  go_ret
  exact ⟨r, rfl, F.out, C.out, HM.out⟩

set_option maxRecDepth 100000 in
set_option maxHeartbeats 1000000 in
theorem eq_C (p : Pk) (xs ys : List LC) (w : World) (a a' : Option Addr) (cap cap' : Nat) (hx : SC w a cap xs) (hy : SC w a' cap' ys) (he : PEnv p w) :
    Calls Try.prog 64 #[.slice a xs.length cap, .slice a' ys.length cap', .func (.func 61) #[] #[.pointer (some ⟨p.S1, 0, none⟩)]] w (PPost p (xs.map cty = ys.map cty) w) := by
  have hlx : xs.length ≤ 9223372036854775807 := hx.le
  have hly : ys.length ≤ 9223372036854775807 := hy.le
  have HX := Lib.hid hx
  have HY := Lib.hid hy
  have HE := Lib.hid he
  clear hx hy he
  obtain ⟨m, hm⟩ : ∃ m, m = ys.length := ⟨_, rfl⟩
  rw [← hm] at hly ⊢
  go_enter Try.func64, Try.ntmps64
  by_cases hnm : xs.length = m
  rotate_left
  · have z1 : ((xs.length : Int) != (m : Int)) = true := by simp; omega
    have F := Lib.hid (show ¬ xs.map cty = ys.map cty from fun e => hnm (by rw [hm]; exact (map_iff.1 e).1))
    clear hnm hm
    go_wp2_with fail
    go_ret
    exact pp_false F.out (Chg.of_gw (Gw.refl _) _)
  have HM := Lib.hid hm
  clear hm
  obtain rfl := hnm
  have z1 : ((xs.length : Int) != (xs.length : Int)) = false := by simp
  go_wp2_with fail
  clear z1
  go_loopw [17] (fun i wr => ∃ j : Nat, j ≤ xs.length ∧ i = .int .i64 j ∧ Chg w wr (KTerm.Tn p.k p.k') ∧ PEnv p wr ∧ ∀ i (hx : i < xs.length) (hy : i < ys.length), i < j → cty xs[i] = cty ys[i]) (fun i _ => xs.length - (intOf i).toNat)
  case atStart => exact ⟨0, Nat.zero_le _, rfl, Chg.of_gw (Gw.refl _) _, HE.out, fun i _ _ h => absurd h (by omega)⟩
  case round =>
    obtain ⟨j, hj, rfl, hc, hm, hall⟩ := hrel
    have HC := Lib.hid hc
    have HP := Lib.hid hm
    have HALL := Lib.hid hall
    have hk := HE.out.free hc
    have HX3 := Lib.hid (HX.out.keep hk)
    have HY3 := Lib.hid (HY.out.keep hk)
    clear hc hm hall hk
    by_cases hlt : j < xs.length
    · have hjy : j < ys.length := by have := HM.out; omega
      obtain ⟨b, o, rfl, c0, c1, fx⟩ := HX3.out.get j hlt
      obtain ⟨b', o', rfl, d0, d1, fy⟩ := HY3.out.get j hjy
      have FX := Lib.hid fx
      have FY := Lib.hid fy
      have r0 : (0 : Int) ≤ j := by omega
      have r1 : (j : Int) < xs.length := by omega
      have lX : b < wr.heap.size := cell_lt c0
      have lY : b' < wr.heap.size := cell_lt d0
      clear fx fy
      go_upto_region 7 with (fail)
      have b1 := (BoxV.new wr #[.string xs[j].n, .slice xs[j].a xs[j].xs.length xs[j].cap] 101).grow ((Gw.refl _).alloc (.cells #[.string ys[j].n, .slice ys[j].a ys[j].xs.length ys[j].cap] 101))
      have b2 := BoxV.new (wr.alloc (.cells #[.string xs[j].n, .slice xs[j].a xs[j].xs.length xs[j].cap] 101)) #[.string ys[j].n, .slice ys[j].a ys[j].xs.length ys[j].cap] 101
      rw [World.size_alloc] at b2
      have gA : Gw wr ((wr.alloc (.cells #[.string xs[j].n, .slice xs[j].a xs[j].xs.length xs[j].cap] 101)).alloc (.cells #[.string ys[j].n, .slice ys[j].a ys[j].xs.length ys[j].cap] 101)) := ((Gw.refl wr).alloc _).alloc _
      clear c0 c1 d0 d1 lX lY
      generalize ((wr.alloc (.cells #[.string xs[j].n, .slice xs[j].a xs[j].xs.length xs[j].cap] 101)).alloc (.cells #[.string ys[j].n, .slice ys[j].a ys[j].xs.length ys[j].cap] 101)) = W at *
      have KEY := Lib.hid (cmp_C p xs[j] ys[j] W (FX.out.keep (KType.free_gw gA)) (FY.out.keep (KType.free_gw gA)) (HP.out.gw gA))
      have GA := Lib.hid (HC.out.trans (Chg.of_gw gA (KTerm.Tn p.k p.k')) (fun _ _ h => h))
      obtain ⟨z0, z1⟩ := b1.two
      obtain ⟨y0, y1⟩ := b2.two
      clear gA b1 b2
      go_wp2_with fail
      refine KEY.out.mono ?_
      rintro e w4 ⟨r, rfl, hr, hc4, hm4⟩
      have C4 := Lib.hid (GA.out.trans hc4 (fun _ _ h => h))
      clear z0 z1 y0 y1 KEY hc4
      cases r with
      | false =>
        have F := Lib.hid (show ¬ xs.map cty = ys.map cty from fun h => by have := hr.2 ((map_iff.1 h).2 j hlt hjy); cases this)
        clear hr hm4
        go_wp2_with fail
        go_ret
        exact pp_false F.out C4.out
      | true =>
        have HEQ := Lib.hid (hr.1 rfl)
        have HM4 := Lib.hid (hm4 rfl)
        clear hr hm4
        go_wp2_with fail
        go_roundw
        case rel =>
          refine ⟨j + 1, by omega, by go_num, C4.out, HM4.out, fun i hx hy hi => ?_⟩
          by_cases e : i = j
          · subst e; exact HEQ.out
          · exact HALL.out i hx hy (by omega)
        case measure => simp [intOf]; omega
    · obtain rfl : j = xs.length := by omega
      have F := Lib.hid (show xs.map cty = ys.map cty from map_iff.2 ⟨HM.out, fun i hx hy => HALL.out i hx hy hx⟩)
      go_wp2_with fail
      go_ret
      exact pp_true F.out HC.out HP.out

set_option maxRecDepth 100000 in
theorem cmp_D (p : Pk) (x y : LD) (w : World) (hx : FD w x) (hy : FD w y) (he : PEnv p w) : Calls Try.prog 63 #[x.val, y.val, .pointer (some ⟨p.S3, 0, none⟩)] w (PPost p (dty x = dty y) w) := by
  have gA : Gw w ((w.alloc (.cells #[.string x.n, .slice x.a x.xs.length x.cap] 95)).alloc (.cells #[.string y.n, .slice y.a y.xs.length y.cap] 95)) := ((Gw.refl w).alloc _).alloc _
  have b1 := (BoxV.new w #[.string x.n, .slice x.a x.xs.length x.cap] 95).grow ((Gw.refl _).alloc (.cells #[.string y.n, .slice y.a y.xs.length y.cap] 95))
  have b2 := BoxV.new (w.alloc (.cells #[.string x.n, .slice x.a x.xs.length x.cap] 95)) #[.string y.n, .slice y.a y.xs.length y.cap] 95
  rw [World.size_alloc] at b2
  have HX := Lib.hid (hx.keep (KType.free_gw gA))
  have HY := Lib.hid (hy.keep (KType.free_gw gA))
  have HE := Lib.hid (he.gw gA)
  have GA := Lib.hid (Chg.of_gw gA (KTerm.Tn p.k p.k'))
  clear hx hy he gA
  go_enter Try.func63, Try.ntmps63
  go_upto_region 1 with (fail)
  generalize (w.alloc (.cells #[.string x.n, .slice x.a x.xs.length x.cap] 95)).alloc (.cells #[.string y.n, .slice y.a y.xs.length y.cap] 95) = W1 at *
  obtain ⟨p0, p1⟩ := b1.two
  obtain ⟨q0, q1⟩ := b2.two
  have s0 := HE.out.s3
  by_cases h3 : x.n = y.n
  rotate_left
  · have d3 := KType.toList_neK h3
    have F := Lib.hid (show ¬ dty x = dty y from fun e => h3 ((dty_iff x y).1 e).1)
    clear h3
    go_wp2_with fail
    go_ret
    exact pp_false F.out GA.out
  have d3 : (x.n.toList == y.n.toList) = true := by rw [h3]; simp
  have H3 := Lib.hid h3
  clear h3
  go_wp2_with fail
  refine (eq_C p x.xs y.xs _ x.a y.a x.cap y.cap HX.out.kids HY.out.kids HE.out).mono ?_
  rintro e w2 ⟨r, rfl, hr, hc, hm⟩
  have F := Lib.hid (show r = true ↔ dty x = dty y from hr.trans ⟨fun h => (dty_iff x y).2 ⟨H3.out, h⟩, fun h => ((dty_iff x y).1 h).2⟩)
  have C := Lib.hid (GA.out.trans hc (fun _ _ h => h))
  have HM := Lib.hid hm
  clear hr hc hm p0 p1 q0 q1 s0
  go_wp2_with fail
  go_ret
  exact ⟨r, rfl, F.out, C.out, HM.out⟩

set_option maxRecDepth 100000 in
set_option maxHeartbeats 1000000 in
theorem eq_D (p : Pk) (xs ys : List LD) (w : World) (a a' : Option Addr) (cap cap' : Nat) (hx : SD w a cap xs) (hy : SD w a' cap' ys) (he : PEnv p w) :
    Calls Try.prog 66 #[.slice a xs.length cap, .slice a' ys.length cap', .func (.func 63) #[] #[.pointer (some ⟨p.S3, 0, none⟩)]] w (PPost p (xs.map dty = ys.map dty) w) := by
  have hlx : xs.length ≤ 9223372036854775807 := hx.le
  have hly : ys.length ≤ 9223372036854775807 := hy.le
  have HX := Lib.hid hx
  have HY := Lib.hid hy
  have HE := Lib.hid he
  clear hx hy he
  obtain ⟨m, hm⟩ : ∃ m, m = ys.length := ⟨_, rfl⟩
  rw [← hm] at hly ⊢
  go_enter Try.func66, Try.ntmps66
  by_cases hnm : xs.length = m
  rotate_left
  · have z1 : ((xs.length : Int) != (m : Int)) = true := by simp; omega
    have F := Lib.hid (show ¬ xs.map dty = ys.map dty from fun e => hnm (by rw [hm]; exact (map_iff.1 e).1))
    clear hnm hm
    go_wp2_with fail
    go_ret
    exact pp_false F.out (Chg.of_gw (Gw.refl _) _)
  have HM := Lib.hid hm
  clear hm
  obtain rfl := hnm
  have z1 : ((xs.length : Int) != (xs.length : Int)) = false := by simp
  go_wp2_with fail
  clear z1
  go_loopw [17] (fun i wr => ∃ j : Nat, j ≤ xs.length ∧ i = .int .i64 j ∧ Chg w wr (KTerm.Tn p.k p.k') ∧ PEnv p wr ∧ ∀ i (hx : i < xs.length) (hy : i < ys.length), i < j → dty xs[i] = dty ys[i]) (fun i _ => xs.length - (intOf i).toNat)
  case atStart => exact ⟨0, Nat.zero_le _, rfl, Chg.of_gw (Gw.refl _) _, HE.out, fun i _ _ h => absurd h (by omega)⟩
  case round =>
    obtain ⟨j, hj, rfl, hc, hm, hall⟩ := hrel
    have HC := Lib.hid hc
    have HP := Lib.hid hm
    have HALL := Lib.hid hall
    have hk := HE.out.free hc
    have HX3 := Lib.hid (HX.out.keep hk)
    have HY3 := Lib.hid (HY.out.keep hk)
    clear hc hm hall hk
    by_cases hlt : j < xs.length
    · have hjy : j < ys.length := by have := HM.out; omega
      obtain ⟨b, o, rfl, c0, c1, fx⟩ := HX3.out.get j hlt
      obtain ⟨b', o', rfl, d0, d1, fy⟩ := HY3.out.get j hjy
      have FX := Lib.hid fx
      have FY := Lib.hid fy
      have r0 : (0 : Int) ≤ j := by omega
      have r1 : (j : Int) < xs.length := by omega
      have lX : b < wr.heap.size := cell_lt c0
      have lY : b' < wr.heap.size := cell_lt d0
      clear fx fy
      go_upto_region 7 with (fail)
      have b1 := (BoxV.new wr #[.string xs[j].n, .slice xs[j].a xs[j].xs.length xs[j].cap] 95).grow ((Gw.refl _).alloc (.cells #[.string ys[j].n, .slice ys[j].a ys[j].xs.length ys[j].cap] 95))
      have b2 := BoxV.new (wr.alloc (.cells #[.string xs[j].n, .slice xs[j].a xs[j].xs.length xs[j].cap] 95)) #[.string ys[j].n, .slice ys[j].a ys[j].xs.length ys[j].cap] 95
      rw [World.size_alloc] at b2
      have gA : Gw wr ((wr.alloc (.cells #[.string xs[j].n, .slice xs[j].a xs[j].xs.length xs[j].cap] 95)).alloc (.cells #[.string ys[j].n, .slice ys[j].a ys[j].xs.length ys[j].cap] 95)) := ((Gw.refl wr).alloc _).alloc _
      clear c0 c1 d0 d1 lX lY
      generalize ((wr.alloc (.cells #[.string xs[j].n, .slice xs[j].a xs[j].xs.length xs[j].cap] 95)).alloc (.cells #[.string ys[j].n, .slice ys[j].a ys[j].xs.length ys[j].cap] 95)) = W at *
      have KEY := Lib.hid (cmp_D p xs[j] ys[j] W (FX.out.keep (KType.free_gw gA)) (FY.out.keep (KType.free_gw gA)) (HP.out.gw gA))
      have GA := Lib.hid (HC.out.trans (Chg.of_gw gA (KTerm.Tn p.k p.k')) (fun _ _ h => h))
      obtain ⟨z0, z1⟩ := b1.two
      obtain ⟨y0, y1⟩ := b2.two
      clear gA b1 b2
      go_wp2_with fail
      refine KEY.out.mono ?_
      rintro e w4 ⟨r, rfl, hr, hc4, hm4⟩
      have C4 := Lib.hid (GA.out.trans hc4 (fun _ _ h => h))
      clear z0 z1 y0 y1 KEY hc4
      cases r with
      | false =>
        have F := Lib.hid (show ¬ xs.map dty = ys.map dty from fun h => by have := hr.2 ((map_iff.1 h).2 j hlt hjy); cases this)
        clear hr hm4
        go_wp2_with fail
        go_ret
        exact pp_false F.out C4.out
      | true =>
        have HEQ := Lib.hid (hr.1 rfl)
        have HM4 := Lib.hid (hm4 rfl)
        clear hr hm4
        go_wp2_with fail
        go_roundw
        case rel =>
          refine ⟨j + 1, by omega, by go_num, C4.out, HM4.out, fun i hx hy hi => ?_⟩
          by_cases e : i = j
          · subst e; exact HEQ.out
          · exact HALL.out i hx hy (by omega)
        case measure => simp [intOf]; omega
    · obtain rfl : j = xs.length := by omega
      have F := Lib.hid (show xs.map dty = ys.map dty from map_iff.2 ⟨HM.out, fun i hx hy => HALL.out i hx hy hx⟩)
      go_wp2_with fail
      go_ret
      exact pp_true F.out HC.out HP.out

set_option maxRecDepth 100000 in
set_option maxHeartbeats 1000000 in
theorem cmp_F (p : Pk) (x y : LF) (w : World) (hx : FF w x) (hy : FF w y) (he : PEnv p w) : Calls Try.prog 65 #[x.val, y.val, .pointer (some ⟨p.S1, 0, none⟩), .pointer (some ⟨p.S2, 0, none⟩)] w (PPost p (x.df = y.df) w) := by
  have gA : Gw w ((w.alloc (.cells #[.string x.n, .int .i64 x.t.k, .string x.t.n, .slice x.t.a x.t.ks.length x.t.cap, .int .i64 x.u.k, .int .i64 x.u.m, .string x.u.n, .int .i64 x.u.t.k, .string x.u.t.n, .slice x.u.t.a x.u.t.ks.length x.u.t.cap, .slice x.u.na x.u.ns.length x.u.nc, .slice x.u.a x.u.ks.length x.u.cap] 97)).alloc (.cells #[.string y.n, .int .i64 y.t.k, .string y.t.n, .slice y.t.a y.t.ks.length y.t.cap, .int .i64 y.u.k, .int .i64 y.u.m, .string y.u.n, .int .i64 y.u.t.k, .string y.u.t.n, .slice y.u.t.a y.u.t.ks.length y.u.t.cap, .slice y.u.na y.u.ns.length y.u.nc, .slice y.u.a y.u.ks.length y.u.cap] 97)) := ((Gw.refl w).alloc _).alloc _
  have b1 := (BoxV.new w #[.string x.n, .int .i64 x.t.k, .string x.t.n, .slice x.t.a x.t.ks.length x.t.cap, .int .i64 x.u.k, .int .i64 x.u.m, .string x.u.n, .int .i64 x.u.t.k, .string x.u.t.n, .slice x.u.t.a x.u.t.ks.length x.u.t.cap, .slice x.u.na x.u.ns.length x.u.nc, .slice x.u.a x.u.ks.length x.u.cap] 97).grow ((Gw.refl _).alloc (.cells #[.string y.n, .int .i64 y.t.k, .string y.t.n, .slice y.t.a y.t.ks.length y.t.cap, .int .i64 y.u.k, .int .i64 y.u.m, .string y.u.n, .int .i64 y.u.t.k, .string y.u.t.n, .slice y.u.t.a y.u.t.ks.length y.u.t.cap, .slice y.u.na y.u.ns.length y.u.nc, .slice y.u.a y.u.ks.length y.u.cap] 97))
  have b2 := BoxV.new (w.alloc (.cells #[.string x.n, .int .i64 x.t.k, .string x.t.n, .slice x.t.a x.t.ks.length x.t.cap, .int .i64 x.u.k, .int .i64 x.u.m, .string x.u.n, .int .i64 x.u.t.k, .string x.u.t.n, .slice x.u.t.a x.u.t.ks.length x.u.t.cap, .slice x.u.na x.u.ns.length x.u.nc, .slice x.u.a x.u.ks.length x.u.cap] 97)) #[.string y.n, .int .i64 y.t.k, .string y.t.n, .slice y.t.a y.t.ks.length y.t.cap, .int .i64 y.u.k, .int .i64 y.u.m, .string y.u.n, .int .i64 y.u.t.k, .string y.u.t.n, .slice y.u.t.a y.u.t.ks.length y.u.t.cap, .slice y.u.na y.u.ns.length y.u.nc, .slice y.u.a y.u.ks.length y.u.cap] 97
  rw [World.size_alloc] at b2
  have HX := Lib.hid (hx.keep (KType.free_gw gA))
  have HY := Lib.hid (hy.keep (KType.free_gw gA))
  have HE := Lib.hid (he.gw gA)
  have GA := Lib.hid (Chg.of_gw gA (KTerm.Tn p.k p.k'))
  clear hx hy he gA
  go_enter Try.func65, Try.ntmps65
  go_upto_region 1 with (fail)
  generalize (w.alloc (.cells #[.string x.n, .int .i64 x.t.k, .string x.t.n, .slice x.t.a x.t.ks.length x.t.cap, .int .i64 x.u.k, .int .i64 x.u.m, .string x.u.n, .int .i64 x.u.t.k, .string x.u.t.n, .slice x.u.t.a x.u.t.ks.length x.u.t.cap, .slice x.u.na x.u.ns.length x.u.nc, .slice x.u.a x.u.ks.length x.u.cap] 97)).alloc (.cells #[.string y.n, .int .i64 y.t.k, .string y.t.n, .slice y.t.a y.t.ks.length y.t.cap, .int .i64 y.u.k, .int .i64 y.u.m, .string y.u.n, .int .i64 y.u.t.k, .string y.u.t.n, .slice y.u.t.a y.u.t.ks.length y.u.t.cap, .slice y.u.na y.u.ns.length y.u.nc, .slice y.u.a y.u.ks.length y.u.cap] 97) = W1 at *
  obtain ⟨B1, hB1⟩ : ∃ B, B = w.heap.size := ⟨_, rfl⟩
  obtain ⟨B2, hB2⟩ : ∃ B, B = w.heap.size + 1 := ⟨_, rfl⟩
  rw [← hB1] at b1
  rw [← hB2] at b2
  rw [← hB2, ← hB1]
  clear hB1 hB2
  obtain ⟨p0, p1, p2, p3, _⟩ := b1.twelve
  obtain ⟨q0, q1, q2, q3, _⟩ := b2.twelve
  have s1 := HE.out.s1
  by_cases h3 : x.n = y.n
  rotate_left
  · have d3 := KType.toList_neK h3
    have F := Lib.hid (show ¬ x.df = y.df from fun e => h3 ((df_iff x y).1 e).1)
    clear h3
    go_wp2_with fail
    go_ret
    exact pp_false F.out GA.out
  have d3 : (x.n.toList == y.n.toList) = true := by rw [h3]; simp
  have H3 := Lib.hid h3
  clear h3
  go_wp2_with fail
  refine (cmp_T p x.t y.t _ HX.out.t HY.out.t HE.out).mono ?_
  rintro e w2 ⟨r, rfl, hr, hc, hm⟩
  have hk := HE.out.free hc
  replace HX := Lib.hid (HX.out.keep hk)
  replace HY := Lib.hid (HY.out.keep hk)
  replace b1 := b1.same (hk _ (box_free b1))
  replace b2 := b2.same (hk _ (box_free b2))
  replace GA := Lib.hid (GA.out.trans hc (fun _ _ h => h))
  clear hk hc p0 p1 p2 p3 q0 q1 q2 q3 s1
  cases r with
  | false =>
    have F := Lib.hid (show ¬ x.df = y.df from fun e => by have := hr.2 ((df_iff x y).1 e).2.1; cases this)
    clear hr hm
    go_wp2_with fail
    go_ret
    exact pp_false F.out GA.out
  | true =>
  have H4 := Lib.hid (hr.1 rfl)
  replace HE := Lib.hid (hm rfl)
  clear hr hm
  obtain ⟨_, _, _, _, p4, p5, p6, p7, p8, p9, p10, p11⟩ := b1.twelve
  obtain ⟨_, _, _, _, q4, q5, q6, q7, q8, q9, q10, q11⟩ := b2.twelve
  have s2 := HE.out.s2
  go_wp2_with fail
  refine (cmp_U p x.u y.u _ HX.out.u HY.out.u HE.out).mono ?_
  rintro e w3 ⟨r, rfl, hr, hc, hm⟩
  have F := Lib.hid (show r = true ↔ x.df = y.df from hr.trans ⟨fun h => (df_iff x y).2 ⟨H3.out, H4.out, h⟩, fun h => ((df_iff x y).1 h).2.2⟩)
  have C := Lib.hid (GA.out.trans hc (fun _ _ h => h))
  have HM := Lib.hid hm
  clear hr hc hm p4 p5 p6 p7 p8 p9 p10 p11 q4 q5 q6 q7 q8 q9 q10 q11 s2
  go_wp2_with fail
  go_ret
  exact ⟨r, rfl, F.out, C.out, HM.out⟩

set_option maxRecDepth 100000 in
set_option maxHeartbeats 1000000 in
theorem eq_F (p : Pk) (xs ys : List LF) (w : World) (a a' : Option Addr) (cap cap' : Nat) (hx : SF w a cap xs) (hy : SF w a' cap' ys) (he : PEnv p w) :
    Calls Try.prog 67 #[.slice a xs.length cap, .slice a' ys.length cap', .func (.func 65) #[] #[.pointer (some ⟨p.S1, 0, none⟩), .pointer (some ⟨p.S2, 0, none⟩)]] w (PPost p (xs.map LF.df = ys.map LF.df) w) := by
  have hlx : xs.length ≤ 9223372036854775807 := hx.le
  have hly : ys.length ≤ 9223372036854775807 := hy.le
  have HX := Lib.hid hx
  have HY := Lib.hid hy
  have HE := Lib.hid he
  clear hx hy he
  obtain ⟨m, hm⟩ : ∃ m, m = ys.length := ⟨_, rfl⟩
  rw [← hm] at hly ⊢
  go_enter Try.func67, Try.ntmps67
  by_cases hnm : xs.length = m
  rotate_left
  · have z1 : ((xs.length : Int) != (m : Int)) = true := by simp; omega
    have F := Lib.hid (show ¬ xs.map LF.df = ys.map LF.df from fun e => hnm (by rw [hm]; exact (map_iff.1 e).1))
    clear hnm hm
    go_wp2_with fail
    go_ret
    exact pp_false F.out (Chg.of_gw (Gw.refl _) _)
  have HM := Lib.hid hm
  clear hm
  obtain rfl := hnm
  have z1 : ((xs.length : Int) != (xs.length : Int)) = false := by simp
  go_wp2_with fail
  clear z1
  go_loopw [17] (fun i wr => ∃ j : Nat, j ≤ xs.length ∧ i = .int .i64 j ∧ Chg w wr (KTerm.Tn p.k p.k') ∧ PEnv p wr ∧ ∀ i (hx : i < xs.length) (hy : i < ys.length), i < j → LF.df xs[i] = LF.df ys[i]) (fun i _ => xs.length - (intOf i).toNat)
  case atStart => exact ⟨0, Nat.zero_le _, rfl, Chg.of_gw (Gw.refl _) _, HE.out, fun i _ _ h => absurd h (by omega)⟩
  case round =>
    obtain ⟨j, hj, rfl, hc, hm, hall⟩ := hrel
    have HC := Lib.hid hc
    have HP := Lib.hid hm
    have HALL := Lib.hid hall
    have hk := HE.out.free hc
    have HX3 := Lib.hid (HX.out.keep hk)
    have HY3 := Lib.hid (HY.out.keep hk)
    clear hc hm hall hk
    by_cases hlt : j < xs.length
    · have hjy : j < ys.length := by have := HM.out; omega
      obtain ⟨b, o, rfl, c0, c1, c2, c3, c4, c5, c6, c7, c8, c9, c10, c11, fx⟩ := HX3.out.get j hlt
      obtain ⟨b', o', rfl, d0, d1, d2, d3, d4, d5, d6, d7, d8, d9, d10, d11, fy⟩ := HY3.out.get j hjy
      have FX := Lib.hid fx
      have FY := Lib.hid fy
      have r0 : (0 : Int) ≤ j := by omega
      have r1 : (j : Int) < xs.length := by omega
      have lX : b < wr.heap.size := cell_lt c0
      have lY : b' < wr.heap.size := cell_lt d0
      clear fx fy
      go_upto_region 7 with (fail)
      have b1 := (BoxV.new wr #[.string xs[j].n, .int .i64 xs[j].t.k, .string xs[j].t.n, .slice xs[j].t.a xs[j].t.ks.length xs[j].t.cap, .int .i64 xs[j].u.k, .int .i64 xs[j].u.m, .string xs[j].u.n, .int .i64 xs[j].u.t.k, .string xs[j].u.t.n, .slice xs[j].u.t.a xs[j].u.t.ks.length xs[j].u.t.cap, .slice xs[j].u.na xs[j].u.ns.length xs[j].u.nc, .slice xs[j].u.a xs[j].u.ks.length xs[j].u.cap] 97).grow ((Gw.refl _).alloc (.cells #[.string ys[j].n, .int .i64 ys[j].t.k, .string ys[j].t.n, .slice ys[j].t.a ys[j].t.ks.length ys[j].t.cap, .int .i64 ys[j].u.k, .int .i64 ys[j].u.m, .string ys[j].u.n, .int .i64 ys[j].u.t.k, .string ys[j].u.t.n, .slice ys[j].u.t.a ys[j].u.t.ks.length ys[j].u.t.cap, .slice ys[j].u.na ys[j].u.ns.length ys[j].u.nc, .slice ys[j].u.a ys[j].u.ks.length ys[j].u.cap] 97))
      have b2 := BoxV.new (wr.alloc (.cells #[.string xs[j].n, .int .i64 xs[j].t.k, .string xs[j].t.n, .slice xs[j].t.a xs[j].t.ks.length xs[j].t.cap, .int .i64 xs[j].u.k, .int .i64 xs[j].u.m, .string xs[j].u.n, .int .i64 xs[j].u.t.k, .string xs[j].u.t.n, .slice xs[j].u.t.a xs[j].u.t.ks.length xs[j].u.t.cap, .slice xs[j].u.na xs[j].u.ns.length xs[j].u.nc, .slice xs[j].u.a xs[j].u.ks.length xs[j].u.cap] 97)) #[.string ys[j].n, .int .i64 ys[j].t.k, .string ys[j].t.n, .slice ys[j].t.a ys[j].t.ks.length ys[j].t.cap, .int .i64 ys[j].u.k, .int .i64 ys[j].u.m, .string ys[j].u.n, .int .i64 ys[j].u.t.k, .string ys[j].u.t.n, .slice ys[j].u.t.a ys[j].u.t.ks.length ys[j].u.t.cap, .slice ys[j].u.na ys[j].u.ns.length ys[j].u.nc, .slice ys[j].u.a ys[j].u.ks.length ys[j].u.cap] 97
      rw [World.size_alloc] at b2
      have gA : Gw wr ((wr.alloc (.cells #[.string xs[j].n, .int .i64 xs[j].t.k, .string xs[j].t.n, .slice xs[j].t.a xs[j].t.ks.length xs[j].t.cap, .int .i64 xs[j].u.k, .int .i64 xs[j].u.m, .string xs[j].u.n, .int .i64 xs[j].u.t.k, .string xs[j].u.t.n, .slice xs[j].u.t.a xs[j].u.t.ks.length xs[j].u.t.cap, .slice xs[j].u.na xs[j].u.ns.length xs[j].u.nc, .slice xs[j].u.a xs[j].u.ks.length xs[j].u.cap] 97)).alloc (.cells #[.string ys[j].n, .int .i64 ys[j].t.k, .string ys[j].t.n, .slice ys[j].t.a ys[j].t.ks.length ys[j].t.cap, .int .i64 ys[j].u.k, .int .i64 ys[j].u.m, .string ys[j].u.n, .int .i64 ys[j].u.t.k, .string ys[j].u.t.n, .slice ys[j].u.t.a ys[j].u.t.ks.length ys[j].u.t.cap, .slice ys[j].u.na ys[j].u.ns.length ys[j].u.nc, .slice ys[j].u.a ys[j].u.ks.length ys[j].u.cap] 97)) := ((Gw.refl wr).alloc _).alloc _
      clear c0 c1 c2 c3 c4 c5 c6 c7 c8 c9 c10 c11 d0 d1 d2 d3 d4 d5 d6 d7 d8 d9 d10 d11 lX lY
      generalize ((wr.alloc (.cells #[.string xs[j].n, .int .i64 xs[j].t.k, .string xs[j].t.n, .slice xs[j].t.a xs[j].t.ks.length xs[j].t.cap, .int .i64 xs[j].u.k, .int .i64 xs[j].u.m, .string xs[j].u.n, .int .i64 xs[j].u.t.k, .string xs[j].u.t.n, .slice xs[j].u.t.a xs[j].u.t.ks.length xs[j].u.t.cap, .slice xs[j].u.na xs[j].u.ns.length xs[j].u.nc, .slice xs[j].u.a xs[j].u.ks.length xs[j].u.cap] 97)).alloc (.cells #[.string ys[j].n, .int .i64 ys[j].t.k, .string ys[j].t.n, .slice ys[j].t.a ys[j].t.ks.length ys[j].t.cap, .int .i64 ys[j].u.k, .int .i64 ys[j].u.m, .string ys[j].u.n, .int .i64 ys[j].u.t.k, .string ys[j].u.t.n, .slice ys[j].u.t.a ys[j].u.t.ks.length ys[j].u.t.cap, .slice ys[j].u.na ys[j].u.ns.length ys[j].u.nc, .slice ys[j].u.a ys[j].u.ks.length ys[j].u.cap] 97)) = W at *
      have KEY := Lib.hid (cmp_F p xs[j] ys[j] W (FX.out.keep (KType.free_gw gA)) (FY.out.keep (KType.free_gw gA)) (HP.out.gw gA))
      have GA := Lib.hid (HC.out.trans (Chg.of_gw gA (KTerm.Tn p.k p.k')) (fun _ _ h => h))
      obtain ⟨z0, z1, z2, z3, z4, z5, z6, z7, z8, z9, z10, z11⟩ := b1.twelve
      obtain ⟨y0, y1, y2, y3, y4, y5, y6, y7, y8, y9, y10, y11⟩ := b2.twelve
      clear gA b1 b2
      go_wp2_with fail
      refine KEY.out.mono ?_
      rintro e w4 ⟨r, rfl, hr, hc4, hm4⟩
      have C4 := Lib.hid (GA.out.trans hc4 (fun _ _ h => h))
      clear z0 z1 z2 z3 z4 z5 z6 z7 z8 z9 z10 z11 y0 y1 y2 y3 y4 y5 y6 y7 y8 y9 y10 y11 KEY hc4
      cases r with
      | false =>
        have F := Lib.hid (show ¬ xs.map LF.df = ys.map LF.df from fun h => by have := hr.2 ((map_iff.1 h).2 j hlt hjy); cases this)
        clear hr hm4
        go_wp2_with fail
        go_ret
        exact pp_false F.out C4.out
      | true =>
        have HEQ := Lib.hid (hr.1 rfl)
        have HM4 := Lib.hid (hm4 rfl)
        clear hr hm4
        go_wp2_with fail
        go_roundw
        case rel =>
          refine ⟨j + 1, by omega, by go_num, C4.out, HM4.out, fun i hx hy hi => ?_⟩
          by_cases e : i = j
          · subst e; exact HEQ.out
          · exact HALL.out i hx hy (by omega)
        case measure => simp [intOf]; omega
    · obtain rfl : j = xs.length := by omega
      have F := Lib.hid (show xs.map LF.df = ys.map LF.df from map_iff.2 ⟨HM.out, fun i hx hy => HALL.out i hx hy hx⟩)
      go_wp2_with fail
      go_ret
      exact pp_true F.out HC.out HP.out

def Pfree (w : World) (p : LP) : Prop := SD w p.da p.dc p.ds ∧ SF w p.fa p.fc p.fs
theorem Pfree.keep {w w' : World} {p : LP} (h : Pfree w p) (hk : ∀ c, Free w c → w'.heap[c]? = w.heap[c]?) : Pfree w' p := ⟨h.1.keep hk, h.2.keep hk⟩
theorem Pfree.ok {w : World} {p : LP} (h : Pfree w p) : pOk w p := ⟨h.1.1, h.2.1⟩

set_option maxRecDepth 100000 in
set_option maxHeartbeats 1000000 in
theorem impl_sProg (p q : LP) (w : World) (hp : Pfree w p) (hq : Pfree w q) : Calls Try.prog 26 #[p.val, q.val] w (EqGw (p.pr = q.pr) w) := by
  have gA : Gw w ((w.alloc (.cells #[.slice p.da p.ds.length p.dc, .slice p.fa p.fs.length p.fc] 55)).alloc (.cells #[.slice q.da q.ds.length q.dc, .slice q.fa q.fs.length q.fc] 55)) := ((Gw.refl w).alloc _).alloc _
  have b1 := (BoxV.new w #[.slice p.da p.ds.length p.dc, .slice p.fa p.fs.length p.fc] 55).grow ((Gw.refl _).alloc (.cells #[.slice q.da q.ds.length q.dc, .slice q.fa q.fs.length q.fc] 55))
  have b2 := BoxV.new (w.alloc (.cells #[.slice p.da p.ds.length p.dc, .slice p.fa p.fs.length p.fc] 55)) #[.slice q.da q.ds.length q.dc, .slice q.fa q.fs.length q.fc] 55
  rw [World.size_alloc] at b2
  have HX := Lib.hid (hp.keep (KType.free_gw gA))
  have HY := Lib.hid (hq.keep (KType.free_gw gA))
  have GA := Lib.hid gA
  clear hp hq gA
  go_enter Try.func26, Try.ntmps26
  go_upto_region 1 with (fail)
  generalize (w.alloc (.cells #[.slice p.da p.ds.length p.dc, .slice p.fa p.fs.length p.fc] 55)).alloc (.cells #[.slice q.da q.ds.length q.dc, .slice q.fa q.fs.length q.fc] 55) = W1 at *
  obtain ⟨B1, hB1⟩ : ∃ B, B = w.heap.size := ⟨_, rfl⟩
  obtain ⟨B2, hB2⟩ : ∃ B, B = w.heap.size + 1 := ⟨_, rfl⟩
  rw [← hB1] at b1
  rw [← hB2] at b2
  rw [← hB2, ← hB1]
  clear hB1 hB2
  go_wp2_with fail
  refine (KType.impl_tc _).mono ?_
  rintro e w2 ⟨k', _, rfl, hcap, hmp, g2, hMt⟩
  have HMt := Lib.hid (Nat.le_trans GA.out.size hMt)
  have gB : Gw w2 (w2.alloc (.cells #[.func (.func 105) #[] #[.pointer (some ⟨k'.CN, 0, none⟩), .pointer (some ⟨k'.CL, 0, none⟩), .pointer (some ⟨k'.CK, 0, none⟩)]] 26)) := (Gw.refl w2).alloc _
  have bS1 := BoxV.new w2 #[.func (.func 105) #[] #[.pointer (some ⟨k'.CN, 0, none⟩), .pointer (some ⟨k'.CL, 0, none⟩), .pointer (some ⟨k'.CK, 0, none⟩)]] 26
  have CAP := Lib.hid (hcap.keep (KType.free_gw gB))
  have MP := Lib.hid (KMp.gw KType.tyFr hmp gB)
  have G2 := Lib.hid (g2.trans gB)
  clear hcap hmp g2 gB hMt
  go_upto_region 2 with (fail)
  generalize (w2.alloc (.cells #[.func (.func 105) #[] #[.pointer (some ⟨k'.CN, 0, none⟩), .pointer (some ⟨k'.CL, 0, none⟩), .pointer (some ⟨k'.CK, 0, none⟩)]] 26)) = W2 at *
  generalize w2.heap.size = S1 at *
  have s1 := bS1.one
  go_wp2_with fail
  refine (KTerm.impl_tmc k' _ CAP.out MP.out).mono ?_
  rintro e w3 ⟨k, rfl, henv, hmq, g3, hM⟩
  have hne : k.M ≠ k'.M := by
    obtain ⟨es, cl, hx, _⟩ := MP.out
    have := (Array.getElem?_eq_some_iff.1 hx).1
    omega
  have bS1' := bS1.grow g3
  have NE := Lib.hid hne
  have HM := Lib.hid (Nat.le_trans (Nat.le_trans GA.out.size G2.out.size) hM)
  have HT := Lib.hid (show w.heap.size ≤ k'.M from HMt.out)
  have G3 := Lib.hid ((GA.out.trans G2.out).trans g3)
  have HX3 := Lib.hid (HX.out.keep (KType.free_gw (G2.out.trans g3)))
  have HY3 := Lib.hid (HY.out.keep (KType.free_gw (G2.out.trans g3)))
  have c1 := b1.grow (G2.out.trans g3)
  have c2 := b2.grow (G2.out.trans g3)
  have EN := Lib.hid (show KTerm.Env k k' w3 ∧ KTerm.Mp w3 k.M (fun _ => False) from ⟨henv, hmq⟩)
  clear s1 hne bS1 CAP MP HMt hM g3 G2 GA HX HY b1 b2 henv hmq
  go_upto_region 6 with (fail)
  have gC : Gw w3 ((w3.alloc (.cells #[.func (.func 112) #[] #[.pointer (some ⟨k.CN, 0, none⟩), .pointer (some ⟨k.CL, 0, none⟩), .pointer (some ⟨k.CK, 0, none⟩)]] 40)).alloc (.cells #[.func (.func 61) #[] #[.pointer (some ⟨S1, 0, none⟩)]] 103)) := ((Gw.refl w3).alloc _).alloc _
  have bS2 := (BoxV.new w3 #[.func (.func 112) #[] #[.pointer (some ⟨k.CN, 0, none⟩), .pointer (some ⟨k.CL, 0, none⟩), .pointer (some ⟨k.CK, 0, none⟩)]] 40).grow ((Gw.refl _).alloc (.cells #[.func (.func 61) #[] #[.pointer (some ⟨S1, 0, none⟩)]] 103))
  have bS3 := BoxV.new (w3.alloc (.cells #[.func (.func 112) #[] #[.pointer (some ⟨k.CN, 0, none⟩), .pointer (some ⟨k.CL, 0, none⟩), .pointer (some ⟨k.CK, 0, none⟩)]] 40)) #[.func (.func 61) #[] #[.pointer (some ⟨S1, 0, none⟩)]] 103
  rw [World.size_alloc] at bS3
  generalize (w3.alloc (.cells #[.func (.func 112) #[] #[.pointer (some ⟨k.CN, 0, none⟩), .pointer (some ⟨k.CL, 0, none⟩), .pointer (some ⟨k.CK, 0, none⟩)]] 40)).alloc (.cells #[.func (.func 61) #[] #[.pointer (some ⟨S1, 0, none⟩)]] 103) = W3 at *
  have PE := Lib.hid (show PEnv ⟨k, k', S1, w3.heap.size, w3.heap.size + 1⟩ W3 from ⟨⟨EN.out.1.gw gC, KMp.gw tmFr EN.out.2 gC⟩, NE.out, bS1'.grow gC, bS2, bS3⟩)
  replace HX3 := Lib.hid (HX3.out.keep (KType.free_gw gC))
  replace HY3 := Lib.hid (HY3.out.keep (KType.free_gw gC))
  replace c1 := c1.grow gC
  replace c2 := c2.grow gC
  replace G3 := Lib.hid (G3.out.trans gC)
  clear gC bS1' bS2 bS3 EN
  have GWC := Lib.hid (show ∀ w4, Chg W3 w4 (KTerm.Tn k k') → Gw w w4 from fun w4 hc => Below.trans G3.out (hc.gw (B := w.heap.size) G3.out.size (fun b hb e => by have h1 := HM.out; have h2 := HT.out; rcases e with e | e <;> omega)))
  generalize w3.heap.size = S2 at *
  obtain ⟨p0, p1⟩ := c1.two
  obtain ⟨q0, q1⟩ := c2.two
  go_wp2_with fail
  refine (eq_D ⟨k, k', S1, S2, S2 + 1⟩ p.ds q.ds _ p.da q.da p.dc q.dc HX3.out.1 HY3.out.1 PE.out).mono ?_
  rintro e w4 ⟨r, rfl, hr, hc, hm⟩
  have hk := PE.out.free hc
  replace HX3 := Lib.hid (HX3.out.keep hk)
  replace HY3 := Lib.hid (HY3.out.keep hk)
  replace c1 := c1.same (hk _ (box_free c1))
  replace c2 := c2.same (hk _ (box_free c2))
  have HC := Lib.hid hc
  clear hk hc p0 p1 q0 q1
  cases r with
  | false =>
    have F := Lib.hid (show ¬ p.pr = q.pr from fun e => by have := hr.2 ((pr_iff p q).1 e).1; cases this)
    clear hr hm
    go_wp2_with fail
    go_ret
    exact eqGw_false F.out (GWC.out _ HC.out)
  | true =>
  have H4 := Lib.hid (hr.1 rfl)
  replace PE := Lib.hid (hm rfl)
  clear hr hm
  obtain ⟨p0, p1⟩ := c1.two
  obtain ⟨q0, q1⟩ := c2.two
  go_wp2_with fail
  refine (eq_F ⟨k, k', S1, S2, S2 + 1⟩ p.fs q.fs _ p.fa q.fa p.fc q.fc HX3.out.2 HY3.out.2 PE.out).mono ?_
  rintro e w5 ⟨r, rfl, hr, hc, hm⟩
  have F := Lib.hid (show r = true ↔ p.pr = q.pr from hr.trans ⟨fun h => (pr_iff p q).2 ⟨H4.out, h⟩, fun h => ((pr_iff p q).1 h).2⟩)
  have G := Lib.hid (GWC.out _ (HC.out.trans hc (fun _ _ h => h)))
  clear hr hc hm p0 p1 q0 q1
  go_wp2_with fail
  go_ret
  exact ⟨r, rfl, F.out, G.out⟩

end Go.Proofs.Ytbbldkhlclfmkaa.Con.KProg
