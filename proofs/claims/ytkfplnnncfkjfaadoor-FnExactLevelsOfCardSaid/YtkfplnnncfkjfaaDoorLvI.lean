/-
  Contract of the program's levelsOf and LevelsOf. Condition: the term lies in memory, and the table of forms reads as the program's text lays it.
-/
import Derived.Sort.CutIn
import Derived.Test.YtkfplnnncfkjfaaDoorUsI
import Derived.Test.YtkfplnnncfkjfaaDoorLv
import Derived.Test.YtkfplnnncfkjfaaDoorHeldIn
import Derived.Laws.OwnMore
import Derived.Lib.AppendZeros
namespace Go.Proofs.YtkfplnnncfkjfaaDoor.Con
open Go.RowKit
set_option linter.unusedVariables false
attribute [local go_sem] Oper.semAt_some

/-- What the loop over the kids has collected when it has met the places pre. -/
def lF (u : LM) (nm : ByteArray) (d : Nat) (pre : List Nat) : List Int := (pre.map fun i => (u.ks.map fun t => t.tm.lv nm (d + bxI u.k)).getD i []).flatten
theorem lF_snoc (u : LM) (nm : ByteArray) (d : Nat) (pre : List Nat) (i : Nat) (hi : i < u.ks.length) : lF u nm d (pre ++ [i]) = lF u nm d pre ++ u.ks[i].tm.lv nm (d + bxI u.k) := by
  unfold lF
  rw [List.map_append, List.flatten_append, List.map_singleton, List.getD, List.getElem?_map, List.getElem?_eq_getElem hi]
  simp
theorem lF_range (u : LM) (nm : ByteArray) (d n : Nat) (hn : n ≤ u.ks.length) : lF u nm d (List.range n) = lvm u nm d n := by
  induction n with
  | zero => rfl
  | succ n ih => rw [List.range_succ, lF_snoc u nm d _ n (by omega), ih (by omega), lvm_succ u nm d n (by omega)]
theorem sum_const {α : Type} (l : List α) (c : Nat) : (l.map fun _ => c).sum = l.length * c := by
  induction l with
  | nil => simp
  | cons x xs ih => rw [List.map_cons, List.sum_cons, ih, List.length_cons, Nat.add_mul]; omega
theorem lF_len (u : LM) (nm : ByteArray) (d : Nat) (hd : u.tm.nn ≤ 1000) (pre : List Nat) : (lF u nm d pre).length ≤ pre.length * 1000 := by
  unfold lF
  rw [List.length_flatten, List.map_map]
  have : ∀ i ∈ pre, (List.length ∘ fun i => (u.ks.map fun t => t.tm.lv nm (d + bxI u.k)).getD i []) i ≤ 1000 := fun i _ => by
    show ((u.ks.map fun t => t.tm.lv nm (d + bxI u.k)).getD i []).length ≤ 1000
    rw [List.getD, List.getElem?_map]
    by_cases hi : i < u.ks.length
    · rw [List.getElem?_eq_getElem hi]
      have := lv_len nm u.ks[i].tm (d + bxI u.k)
      have := nn_kid u i hi
      simp only [Option.map_some, Option.getD_some]
      omega
    · rw [List.getElem?_eq_none (by omega)]; simp
  have h2 := sum_map_le pre (f := List.length ∘ fun i => (u.ks.map fun t => t.tm.lv nm (d + bxI u.k)).getD i []) (g := fun _ => 1000) this
  have h3 := sum_const pre 1000
  omega

/-- A block holds a term, in the program's own type. -/
def BoxT (W : World) (b : Nat) (u : LM) : Prop := W.heap[b]? = some (.cells #[.int .i64 u.k, .int .i64 u.m, .string u.n, .int .i64 u.t.k, .string u.t.n, .slice u.t.a u.t.ks.length u.t.cap, .slice u.na u.ns.length u.nc, .slice u.a u.ks.length u.cap] 50 (0, 0))
theorem BoxT.m {W : World} {b : Nat} {u : LM} (h : BoxT W b u) : BoxM W b u := ⟨_, h⟩
theorem BoxT.new (W : World) (u : LM) : BoxT (W.alloc (.cells #[.int .i64 u.k, .int .i64 u.m, .string u.n, .int .i64 u.t.k, .string u.t.n, .slice u.t.a u.t.ks.length u.t.cap, .slice u.na u.ns.length u.nc, .slice u.a u.ks.length u.cap] 50)) W.heap.size u := heap_alloc_new W _
theorem BoxT.lt {W : World} {b : Nat} {u : LM} (h : BoxT W b u) : b < W.heap.size := (Array.getElem?_eq_some_iff.1 h).1
theorem boxT_own {β : Type} (b : Nat) (f : β → LM) : Own (fun s W => BoxT W b (f s)) := fun s X Y row hs hg hrow =>
  (hg.block b (BoxT.lt hs) (fun e' => by obtain ⟨o, ho, hc⟩ := hrow b e'.symm; rw [show X.heap[b]? = _ from hs] at ho; cases ho; cases hc)).trans hs
theorem IRow.notT {B b : Nat} {w : World} {v : Value} {L : List Int} {u : LM} (h : IRow B w v L) (hb : BoxT w b u) : v.ownBlock ≠ some b := fun e => by
  rcases h.2 with ⟨rfl, _⟩ | ⟨g, cap, cur, rfl, _, hg, _⟩
  · cases e
  · obtain rfl : g = b := by simpa [Value.ownBlock] using e
    have h1 := hb.symm.trans hg
    simp only [Option.some.injEq, Obj.cells.injEq] at h1
    exact absurd h1.2.1 (by decide)
theorem irow_own {β : Type} (n : Nat) (f : β → List Int) (v : Value) : Own (fun s W => IRow n W v (f s)) := fun s X Y row hs hg hrow => by
  refine World.ownsRow.kept hs hg ?_
  by_cases e : v.ownBlock = none
  · exact .inl e
  · refine .inr fun e2 => ?_
    rcases hs.2 with ⟨rfl, _⟩ | ⟨g, cap, cur, rfl, _, hgg, _⟩
    · exact e rfl
    · obtain ⟨o, ho, hc⟩ := hrow g (by rw [← e2]; rfl)
      rw [hgg] at ho
      cases ho
      cases hc

theorem run_app {P0 : Program} (hP : P0 = Tryd.prog) {ty : TypeId} {B B2 : Nat} {w : World} {v v2 : Value} {L M : List Int} (h : IRow B w v L) (k : IRow B2 w v2 M) (hl : L.length + M.length ≤ 100000) (hB : B ≤ w.heap.size) :
    ∃ v' w', (Builtin.append_ #[54, 54] ty #[v, v2]).run P0 w = .ok v' w' ∧ IRow B w' v' (L ++ M) ∧ w.grownBy w' v.ownBlock := by
  subst hP
  obtain ⟨i0, hi, hz0, hz1, hz2⟩ := info_parts infoI
  rcases k.2 with ⟨rfl, h0⟩ | ⟨g, cap, cur, rfl, h1⟩
  · have : M = [] := List.eq_nil_of_length_eq_zero h0
    subst this
    exact ⟨v, w, run_append_owned_none _ _ _ _ _ i0 1 Tryd.underlying54 hi v L.length (iL L) h, by rw [List.append_nil]; exact h, ⟨rfl, rfl, rfl, Nat.le_refl _, fun _ _ _ => rfl⟩⟩
  · obtain ⟨v', w', hr, ho, hg, _⟩ := run_append_own (P := Tryd.prog) w B 54 ty 2 i0 (.int .i64 0) 1 8 Tryd.underlying54 hi hz0 hz1 hz2 rfl (by decide) v L.length (iL L) h ⟨g, 0, none⟩ M.length cap (iL M) (by simp [iL]) (World.ownsRow.cells k rfl) (fun u hu => by unfold iL at hu; obtain ⟨n, _, rfl⟩ := List.mem_map.1 hu; rfl) (by unfold maxLen; omega) (by omega) hB
    exact ⟨v', w', hr, IRow.app ho rfl rfl, hg⟩

theorem keeps_of_row {B B' : Nat} {w w' : World} {v : Value} {L : List Int} (h : IRow B w v L) (hg : w.grownBy w' v.ownBlock) : KeepsFrom B' w w' :=
  ⟨hg.size, fun k o _ hk hc => (hg.block k (Array.getElem?_eq_some_iff.1 hk).1 (fun e => by
    rcases h.2 with ⟨rfl, _⟩ | ⟨g, cap, cur, rfl, _, hgg, _⟩
    · cases e
    · obtain rfl : k = g := by simpa [Value.ownBlock] using e
      rw [hgg] at hk
      cases hk
      cases hc)).trans hk⟩

def LvI (nm : ByteArray) (u : LM) : Prop := ∀ (w : World) (d : Nat) (c : Bool), u.Ok w → u.tm.ok c = true → u.tm.nn ≤ 1000 → d + u.tm.dp ≤ 1000 → Calls Tryd.prog 49 #[u.val, .string nm, .int .i64 d] w fun e w' => ∃ v, e = .returned v ∧ IRow w.heap.size w' v (u.tm.lv nm d) ∧ Gw w w'

set_option maxRecDepth 100000 in
set_option maxHeartbeats 2000000 in
theorem lvi_body1 (nm : ByteArray) (hnm : nm.size ≤ 9223372036854775807) (u : LM) (ih : ∀ t ∈ u.ks, LvI nm t) (w : World) (d : Nat) (c : Bool) (hu : u.Ok w) (hok : u.tm.ok c = true) (hd : u.tm.nn ≤ 1000) (hd2 : d + u.tm.dp ≤ 1000) (h1 : ¬ u.k = 1) :
    Calls Tryd.prog 49 #[u.val, .string nm, .int .i64 d] w fun e w' => ∃ v, e = .returned v ∧ IRow w.heap.size w' v (u.tm.lv nm d) ∧ Gw w w' := by
  have hlen : u.ks.length ≤ 9223372036854775807 := Nat.le_trans hu.kids.1 hu.kids.2.1
  have hnn : u.n.size ≤ 9223372036854775807 := hu.nm
  have HU := Lib.hid hu
  have HOK := Lib.hid hok
  have HD := Lib.hid hd
  have HD2 := Lib.hid hd2
  have VL := Lib.hid (vU_le u nm)
  have FIN := Lib.hid (lv_all (nm := nm) h1 d)
  have q1 : (u.k == 1) = false := by simpa using h1
  clear h1
  have g0 : Gw w (((w.alloc (.cells #[.int .i64 u.k, .int .i64 u.m, .string u.n, .int .i64 u.t.k, .string u.t.n, .slice u.t.a u.t.ks.length u.t.cap, .slice u.na u.ns.length u.nc, .slice u.a u.ks.length u.cap] 50)).alloc (.cells #[.string nm] 9)).alloc (.cells #[.int .i64 d] 2)) := (((Gw.refl w).alloc _).alloc _).alloc _
  have BT := Lib.hid (((BoxM.new w u 50).grow ((Gw.refl _).alloc (.cells #[.string nm] 9))).grow ((Gw.refl _).alloc (.cells #[.int .i64 d] 2)))
  have BN0 := (Boxed.new (w.alloc (.cells #[.int .i64 u.k, .int .i64 u.m, .string u.n, .int .i64 u.t.k, .string u.t.n, .slice u.t.a u.t.ks.length u.t.cap, .slice u.na u.ns.length u.nc, .slice u.a u.ks.length u.cap] 50)) 9 (.string nm)).alloc (.cells #[.int .i64 d] 2)
  have BV0 := Boxed.new ((w.alloc (.cells #[.int .i64 u.k, .int .i64 u.m, .string u.n, .int .i64 u.t.k, .string u.t.n, .slice u.t.a u.t.ks.length u.t.cap, .slice u.na u.ns.length u.nc, .slice u.a u.ks.length u.cap] 50)).alloc (.cells #[.string nm] 9)) 2 (.int .i64 d)
  simp only [World.size_alloc] at BN0 BV0
  have G := Lib.hid g0
  have hd3 : (d : Int) ≤ 1000 := by omega
  clear hu hok hd hd2 g0
  refine (callsIn_wide (n := 9)).1 ?_
  refine callsIn_of_wp_marks Tryd.func49 rfl trivial ?_ rfl
  simp only [Tryd.ntmps49, List.size_toArray, List.length_cons, List.length_nil, Nat.reduceAdd, Nat.reduceSub, Array.replicate_succ, Array.replicate_zero, List.push_toArray, List.append_toArray, List.nil_append, List.cons_append]
  have f1 : Fence.wide.fn 79 := trivial
  gi_upto_region 1 with (fail)
  generalize ((w.alloc (.cells #[.int .i64 u.k, .int .i64 u.m, .string u.n, .int .i64 u.t.k, .string u.t.n, .slice u.t.a u.t.ks.length u.t.cap, .slice u.na u.ns.length u.nc, .slice u.a u.ks.length u.cap] 50)).alloc (.cells #[.string nm] 9)).alloc (.cells #[.int .i64 d] 2) = w1 at *
  obtain ⟨BTM, hBTM⟩ : ∃ x, x = w.heap.size := ⟨_, rfl⟩
  obtain ⟨BNM, hBNM⟩ : ∃ x, x = w.heap.size + 1 := ⟨_, rfl⟩
  obtain ⟨BLV, hBLV⟩ : ∃ x, x = w.heap.size + 1 + 1 := ⟨_, rfl⟩
  rw [← hBTM] at BT
  rw [← hBNM] at BN0
  rw [← hBLV] at BV0
  rw [← hBLV, ← hBNM, ← hBTM]
  have HBT := Lib.hid hBTM
  have HBS0 := Lib.hid (show BTM < BNM ∧ BNM < BLV ∧ w.heap.size ≤ BTM by omega)
  have BN := Lib.hid BN0
  have BV := Lib.hid BV0
  clear hBTM hBNM hBLV BN0 BV0
  obtain ⟨p0, p1, p2, p3, p4, p5, p6, p7⟩ := BT.out.c
  have n0 := BN.out.cell
  gi_upto_region 4 with (fail)
  clear p0 p1 p2 p3 p4 p5 p6 p7 n0
  have BT2 := Lib.hid (BT.out.kept (World.grownBy_alloc w1 (.cells #[.slice none 0 0] 54) none) (by simp))
  have BN2 := Lib.hid (BN.out.alloc (.cells #[.slice none 0 0] 54))
  have BV2 := Lib.hid (BV.out.alloc (.cells #[.slice none 0 0] 54))
  have BL2 := Boxed.new w1 54 (.slice none 0 0)
  have G2 := Lib.hid (G.out.alloc (.cells #[.slice none 0 0] 54))
  have hlt0 : BLV < w1.heap.size := BV.out.lt
  generalize w1.alloc (.cells #[.slice none 0 0] 54) = w2 at *
  obtain ⟨BL, hBL⟩ : ∃ x, x = w1.heap.size := ⟨_, rfl⟩
  rw [← hBL] at BL2
  rw [← hBL]
  have HBS := Lib.hid (show BTM < BNM ∧ BNM < BLV ∧ BLV < BL ∧ w.heap.size ≤ BTM by have := HBS0.out; omega)
  have KO := Lib.hid (impl_kidsOut u nm w2 (HU.out.grow G2.out) c HOK.out)
  replace BL2 := Lib.hid BL2
  clear hBL hlt0 G BT BN BV HBS0 w1
  obtain ⟨p0, p1, p2, p3, p4, p5, p6, p7⟩ := BT2.out.c
  have n0 := BN2.out.cell
  gi_wp2_with (gi_at_call 79; refine (callsIn_wide.2 KO.out).mono ?_; clear KO; rintro e w3 ⟨B, rfl, hB1, hB2, hc, g3⟩)
  clear p0 p1 p2 p3 p4 p5 p6 p7 n0
  obtain ⟨xs, hxs⟩ : ∃ xs, xs = u.ks.take (vU u nm) := ⟨_, rfl⟩
  have hxl : xs.length = vU u nm := by rw [hxs, List.length_take]; have := VL.out; omega
  have XG := Lib.hid (take_at hxs)
  have TS := Lib.hid (show tmSl w u.a u.cap xs by rw [hxs]; exact tm_take HU.out.kids _ VL.out)
  have XL := Lib.hid hxl
  replace hc : w3.cell? ⟨B, 0, none⟩ = some (.slice u.a xs.length u.cap) := by rw [hc, hxl]; rfl
  have HC := Lib.hid hc
  have G3 := Lib.hid (G2.out.trans g3)
  have hsz : w2.heap.size ≤ w3.heap.size := g3.size
  have HS3 := Lib.hid (show BL < w3.heap.size ∧ w.heap.size ≤ w3.heap.size from ⟨by have := BL2.out.lt; omega, G3.out.size⟩)
  have I0 := Lib.hid (show ((∃ v, Boxed w3 BL 54 v ∧ IRow w3.heap.size w3 v (lF u nm d (valsF ([] : List (Fin xs.length))))) ∧ (BoxM w3 BTM u ∧ (Boxed w3 BNM 9 (.string nm) ∧ Boxed w3 BLV 2 (.int .i64 d)))) ∧ Below w.heap.size w w3 from
    ⟨⟨⟨_, (g3.block _ BL2.out.lt).trans BL2.out, IRow.nil _ _⟩, BT2.out.grow g3, (g3.block _ BN2.out.lt).trans BN2.out, (g3.block _ BV2.out.lt).trans BV2.out⟩, G3.out⟩)
  clear hxs hxl hc g3 hB1 hsz BT2 BN2 BV2 BL2 G2 w2
  refine wpIn_rangeFunc_ownH rfl (by omega) (gf := 128) (lb := #[.pointer (some ⟨B, 0, none⟩)]) rfl trivial (enters_of Tryd.func128 (by kernel_rfl) rfl)
    (allT_stops (9 - 1) (by omega) B u.a u.cap xs w w3 hB2 HC.out TS.out G3.out) belowK_t (belowK_b HS3.out.2) (Below.refl _ _) (fun _ => rfl)
    (fun pre W => ((∃ v, Boxed W BL 54 v ∧ IRow w3.heap.size W v (lF u nm d (valsF pre))) ∧ (BoxM W BTM u ∧ (Boxed W BNM 9 (.string nm) ∧ Boxed W BLV 2 (.int .i64 d)))) ∧ Below w.heap.size w W)
    (fun _ _ _ => False)
    (OwnFrom.and (OwnFrom.and (fun s A B row ⟨v, hb, hr⟩ hg hr' => ⟨v, boxed_own BL 54 (fun (_ : Unit) => v) () A B row hb hg (fun r e => (hr' r e).2), irow_own _ (fun (_ : Unit) => lF u nm d (valsF s)) v () A B row hr hg (fun r e => (hr' r e).2)⟩) (OwnFrom.and (Own.from (boxM_own _ _) _) (OwnFrom.and (Own.from (boxed_own _ _ _) _) (Own.from (boxed_own _ _ _) _)))) (ownFrom_below (Nat.le_refl _) HS3.out.2))
    (fun _ _ _ _ _ hs _ _ => hs)
    I0.out
    (fun x a' W => ∃ Bx, (BL < Bx ∧ BoxT W Bx xs[x.val]) ∧ a' = { tmps := #[u.val, .string nm, .int .i64 (d : Int), .pointer (some ⟨BTM, 0, none⟩), .pointer (some ⟨BNM, 0, none⟩), .pointer (some ⟨BLV, 0, none⟩), .slice none 0 0, .pointer (some ⟨BL, 0, none⟩), undef, .pointer (some ⟨Bx, 0, none⟩), .pointer (some ⟨BTM, 0, none⟩), .int .i64 u.k, .bool false, .bool false, undef, undef, undef, undef, .bool false, undef, undef, u.val, .string nm, .func (.func 128) #[] #[.pointer (some ⟨B, 0, none⟩)], .int .i64 (x.val : Int), xs[x.val].val, undef, undef, undef, undef, undef, undef, undef, undef, undef, undef], defers := [] })
    (fun x a' _ X Y row hs hg hr => by obtain ⟨Bx, ⟨h1, h2⟩, h3⟩ := hs; exact ⟨Bx, ⟨h1, boxT_own Bx (fun (_ : Unit) => xs[x.val]) () X Y row h2 hg (fun r e => (hr r e).2)⟩, h3⟩)
    ?assign ?body ?done ?stop
  case assign =>
    rintro l pre x W K hi hK
    have HI := Lib.hid hi
    have HK := Lib.hid hK
    clear hi hK
    gi_wp2
    obtain ⟨⟨⟨v, iL, iR⟩, iT, iN, iV⟩, iB⟩ := HI.out
    exact HK.out _ _ ((KeepsOthers.alloc _ _).from _) ((Below.refl _ W).alloc iB.size _) ⟨⟨⟨v, iL.alloc _, iR.grow ((Gw.refl W).alloc _)⟩, iT.kept (World.grownBy_alloc _ _ none) (by simp), iN.alloc _, iV.alloc _⟩, iB.alloc iB.size _⟩ ⟨W.heap.size, ⟨iL.lt, BoxT.new W _⟩, rfl⟩
  case body =>
    rintro l pre x a' W hl ⟨r, hr⟩ hi ⟨Bx, ⟨hBx, hX⟩, rfl⟩ hlen2
    obtain ⟨hlt, he⟩ := XG.out x.val x.isLt
    obtain ⟨⟨⟨v, iL, iR⟩, iT, iN, iV⟩, iB⟩ := hi
    have KE := Lib.hid (show ∀ W4, Gw W W4 → Calls Tryd.prog 49 #[xs[x.val].val, .string nm, .int .i64 ((d + bxI u.k : Nat) : Int)] W4 (fun e w' => ∃ v, e = .returned v ∧ IRow W4.heap.size w' v (u.ks[x.val].tm.lv nm (d + bxI u.k)) ∧ Gw W4 w') from fun W4 g4 => by
      obtain ⟨_, _, _, hk⟩ := tmAt.kid (gSl.grow tmLen tmGr TS.out (iB.trans (g4.mono iB.size))) x.val x.isLt
      have h2 := hk.2
      rw [he] at h2 ⊢
      exact ih u.ks[x.val] (List.getElem_mem hlt) W4 (d + bxI u.k) (flg u.k x.val) h2 (ok_kid HOK.out x.val hlt) (by have := nn_kid u x.val hlt; have := HD.out; omega) (by have := dp_kid u x.val hlt; have := HD2.out; have := bxI_le u.k; omega))
    have L5 := Lib.hid (len5 HOK.out)
    have SN := Lib.hid (show lF u nm d (valsF (pre ++ [x])) = lF u nm d (valsF pre) ++ u.ks[x.val].tm.lv nm (d + bxI u.k) by rw [valsF_snoc, lF_snoc u nm d _ x.val hlt])
    have LL := Lib.hid (show (lF u nm d (valsF pre)).length ≤ 5000 by
      have h1 := lF_len u nm d HD.out (valsF pre)
      rw [show (valsF pre).length = pre.length by simp [valsF]] at h1
      have := L5.out; have := XL.out; have := VL.out
      omega)
    have hWs : w3.heap.size ≤ W.heap.size := by have := (Array.getElem?_eq_some_iff.1 hr).1; omega
    clear he hr r L5
    have hmx : Tryd.prog.follows .mixedOrders = true := by kernel_rfl
    gi_upto_region 6 with (fail)
    have iX := hX
    obtain ⟨S, hS⟩ : ∃ S : Array Bool → World → Prop, S = fun L X => (L.getD 9 true = false → X.cell? ⟨BL, 0, none⟩ = some v) ∧ BoxM X Bx xs[x.val] ∧ BoxM X BTM u ∧ X.cell? ⟨BNM, 0, none⟩ = some (.string nm) ∧ X.cell? ⟨BLV, 0, none⟩ = some (.int .i64 d) := ⟨_, rfl⟩
    have hind : ∀ i, i ≠ 9 → ∀ L X, S (L.setIfInBounds i true) X ↔ S L X := fun i hi L X => by rw [hS]; simp only; rw [getD_set_ne true hi]
    have HS := Lib.hid hS
    have HIND := Lib.hid hind
    have SG := Lib.hid (show ∀ L X X', S L X → Gw X X' → S L X' from fun L X X' h g => by
      rw [hS] at h ⊢
      exact ⟨fun e => (g.cell (h.1 e) (cell_lt (h.1 e))), h.2.1.grow g, h.2.2.1.grow g, g.cell h.2.2.2.1 (cell_lt h.2.2.2.1), g.cell h.2.2.2.2 (cell_lt h.2.2.2.2)⟩)
    have S0 := Lib.hid (show S (Array.replicate 10 false) W.drew by rw [hS]; exact ⟨fun _ => iL.cell, iX.m, iT, iN.cell, iV.cell⟩)
    clear hind hS
    refine any_in (S := S) hmx (by kernel_rfl) (fun ⟨_, _, h⟩ => h) ?_
    have s0 := S0.out
    refine anyL_take (i := 0) (oi := { dst := some 26, op := _, type := _, pos := _, after := _, guard := _ }) (v := v) rfl (by kernel_rfl) (by kernel_rfl) (by kernel_rfl) (fun _ _ _ h => h) (HIND.out 0 (by decide)) (fun L => L.getD 8 true = false ∧ L.getD 9 true = false) ?hG0 ⟨rfl, rfl⟩ (Or.inl ⟨by rfl, ?hy0⟩) s0 ?rest0
    case hG0 =>
      rintro L j ⟨h8, h9⟩ hi hj hne
      obtain ⟨g1, _⟩ := mem_ready.1 hi
      obtain ⟨g2, oj, hoj, hall⟩ := mem_ready.1 hj
      have n8 : j ≠ 8 := fun e => by
        subst e
        cases hoj
        exact getD_clash g1 (hall { on := 0, ground := .data } (by simp) (by rfl))
      have n9 : j ≠ 9 := fun e => by
        subst e
        cases hoj
        exact getD_clash h8 (hall { on := 8, ground := .data } (by simp) (by rfl))
      exact ⟨(getD_set_ne true n8).trans h8, (getD_set_ne true n9).trans h9⟩
    case hy0 =>
      rintro X ⟨L, ⟨_, h9⟩, h⟩
      rw [HS.out] at h
      have c := h.1 h9
      clear h
      go_simp
    have s1 := (HIND.out 0 (by decide) _ _).2 s0
    clear s0
    simp only [Act.put, List.setIfInBounds_toArray, List.set_cons_zero, List.set_cons_succ]
    refine anyL_take (i := 1) (oi := { dst := some 27, op := _, type := _, pos := _, after := _, guard := _ }) (v := xs[x.val].val) rfl (by kernel_rfl) (by kernel_rfl) (by kernel_rfl) (fun _ _ _ h => h) (HIND.out 1 (by decide)) (fun _ => True) (fun _ _ _ _ _ _ => trivial) trivial (Or.inl ⟨by rfl, ?hy1⟩) s1 ?rest1
    case hy1 =>
      rintro X ⟨L, _, h⟩
      rw [HS.out] at h
      obtain ⟨c0, c1, c2, c3, c4, c5, c6, c7⟩ := h.2.1.c
      clear h
      go_simp
    have s2 := (HIND.out 1 (by decide) _ _).2 s1
    clear s1
    simp only [Act.put, List.setIfInBounds_toArray, List.set_cons_zero, List.set_cons_succ]
    refine anyL_take (i := 2) (oi := { dst := some 28, op := _, type := _, pos := _, after := _, guard := _ }) (v := .string nm) rfl (by kernel_rfl) (by kernel_rfl) (by kernel_rfl) (fun _ _ _ h => h) (HIND.out 2 (by decide)) (fun _ => True) (fun _ _ _ _ _ _ => trivial) trivial (Or.inl ⟨by rfl, ?hy2⟩) s2 ?rest2
    case hy2 =>
      rintro X ⟨L, _, h⟩
      rw [HS.out] at h
      have c := h.2.2.2.1
      clear h
      go_simp
    have s3 := (HIND.out 2 (by decide) _ _).2 s2
    clear s2
    simp only [Act.put, List.setIfInBounds_toArray, List.set_cons_zero, List.set_cons_succ]
    refine anyL_take (i := 3) (oi := { dst := some 29, op := _, type := _, pos := _, after := _, guard := _ }) (v := .int .i64 d) rfl (by kernel_rfl) (by kernel_rfl) (by kernel_rfl) (fun _ _ _ h => h) (HIND.out 3 (by decide)) (fun _ => True) (fun _ _ _ _ _ _ => trivial) trivial (Or.inl ⟨by rfl, ?hy3⟩) s3 ?rest3
    case hy3 =>
      rintro X ⟨L, _, h⟩
      rw [HS.out] at h
      have c := h.2.2.2.2
      clear h
      go_simp
    have s4 := (HIND.out 3 (by decide) _ _).2 s3
    clear s3
    simp only [Act.put, List.setIfInBounds_toArray, List.set_cons_zero, List.set_cons_succ]
    refine anyL_take (i := 4) (oi := { dst := some 30, op := _, type := _, pos := _, after := _, guard := _ }) (v := u.val) rfl (by kernel_rfl) (by kernel_rfl) (by kernel_rfl) (fun _ _ _ h => h) (HIND.out 4 (by decide)) (fun _ => True) (fun _ _ _ _ _ _ => trivial) trivial (Or.inl ⟨by rfl, ?hy4⟩) s4 ?rest4
    case hy4 =>
      rintro X ⟨L, _, h⟩
      rw [HS.out] at h
      obtain ⟨c0, c1, c2, c3, c4, c5, c6, c7⟩ := h.2.2.1.c
      clear h
      go_simp
    have s5 := (HIND.out 4 (by decide) _ _).2 s4
    clear s4
    simp only [Act.put, List.setIfInBounds_toArray, List.set_cons_zero, List.set_cons_succ]
    have hbx : (bxI u.k : Int) ≤ 1 := by have := bxI_le u.k; omega
    have KB := Lib.hid (impl_boxesAt u W.drew)
    refine anyL_step (i := 5) (o := { dst := some 31, op := _, type := _, pos := _, after := _, guard := _ }) rfl (by kernel_rfl) (by rfl) (fun K hK => ?_)
    go_simp
    refine KB.out.mono ?_
    rintro e W1 ⟨rfl, g1⟩
    have s6 := SG.out _ _ _ ((HIND.out 5 (by decide) _ _).2 s5) g1
    refine hK.out _ _ s6 ?_
    clear s5 hK K KB
    have G1 := Lib.hid (show Gw W W1 from (Gw.refl W).drew.trans g1)
    clear g1
    try simp only [Act.put, List.setIfInBounds_toArray, List.set_cons_zero, List.set_cons_succ]
    refine anyL_take (i := 6) (oi := { dst := some 32, op := _, type := _, pos := _, after := _, guard := _ }) (v := .int .i64 ((d : Int) + bxI u.k)) rfl (by kernel_rfl) (by kernel_rfl) (by kernel_rfl) (fun _ _ _ h => h) (HIND.out 6 (by decide)) (fun _ => True) (fun _ _ _ _ _ _ => trivial) trivial (Or.inl ⟨by rfl, ?hy6⟩) s6 ?rest6
    case hy6 =>
      rintro X _
      go_simp
      first | (unfold IntKind.wrap; simp [IntKind.signed, IntKind.bits]; omega) | go_bits
    have s7 := (HIND.out 6 (by decide) _ _).2 s6
    clear s6
    try simp only [Act.put, List.setIfInBounds_toArray, List.set_cons_zero, List.set_cons_succ]
    have KL := Lib.hid (KE.out W1 G1.out)
    rw [show ((d + bxI u.k : Nat) : Int) = (d : Int) + bxI u.k by omega] at KL
    refine anyL_step (i := 7) (o := { dst := some 33, op := _, type := _, pos := _, after := _, guard := _ }) rfl (by kernel_rfl) (by rfl) (fun K hK => ?_)
    go_simp
    refine KL.out.mono ?_
    rintro e W2 ⟨v2, rfl, hr2, g2⟩
    have s8 := SG.out _ _ _ ((HIND.out 7 (by decide) _ _).2 s7) g2
    refine hK.out _ _ s8 ?_
    clear s7 hK K KL
    have G2 := Lib.hid (G1.out.trans g2)
    clear g2
    have iR2 := iR.grow G2.out
    have hle2 : w3.heap.size ≤ W2.heap.size := Nat.le_trans hWs G2.out.size
    obtain ⟨v3, W3, hrun, hr3, hg3⟩ := run_app (P0 := Tryd.prog) rfl (ty := 54) iR2 hr2 (by have := LL.out; have := lv_len nm u.ks[x.val].tm (d + bxI u.k); have := nn_kid u x.val hlt; have := HD.out; omega) hle2
    try simp only [Act.put, List.setIfInBounds_toArray, List.set_cons_zero, List.set_cons_succ]
    refine anyL_step (i := 8) (o := { dst := some 34, op := _, type := _, pos := _, after := _, guard := _ }) rfl (by kernel_rfl) (by rfl) (fun K hK => ?_)
    refine Lib.wp_append_run _ _ _ _ _ rfl _ _ rfl rfl v3 W3 hrun ?_
    have hown : ∀ b, v.ownBlock = some b → w3.heap.size ≤ b := fun b hb => (iR2.at b hb).1
    have hfar : ∀ b, b < w3.heap.size → W3.heap[b]? = W2.heap[b]? := fun b hb => hg3.block b (by omega) (fun e => by have := hown b e.symm; omega)
    have bL2 : Boxed W2 BL 54 v := (G2.out.block _ iL.lt).trans iL
    have bN2 : Boxed W2 BNM 9 (.string nm) := (G2.out.block _ iN.lt).trans iN
    have bV2 : Boxed W2 BLV 2 (.int .i64 d) := (G2.out.block _ iV.lt).trans iV
    have bX2 : BoxT W2 Bx xs[x.val] := (G2.out.block _ iX.lt).trans iX
    have bT2 := iT.grow G2.out
    have hord := HBS.out
    have hs3 := HS3.out
    have bL3 : Boxed W3 BL 54 v := (hfar BL (by omega)).trans bL2
    have bN3 : Boxed W3 BNM 9 (.string nm) := (hfar BNM (by omega)).trans bN2
    have bV3 : Boxed W3 BLV 2 (.int .i64 d) := (hfar BLV (by omega)).trans bV2
    have bX3 : BoxT W3 Bx xs[x.val] := (hg3.block Bx bX2.lt (fun e => iR2.notT bX2 e.symm)).trans bX2
    have bT3 : BoxM W3 BTM u := bT2.same (hfar BTM (by omega))
    refine hK.out _ _ ((HIND.out 8 (by decide) _ _).2 ?hs9) ?rest9
    case hs9 =>
      rw [HS.out]
      exact ⟨fun _ => bL3.cell, bX3.m, bT3, bN3.cell, bV3.cell⟩
    clear hK K s8
    have KF := Lib.hid (show KeepsFrom w3.heap.size W (W3.setCell ⟨BL, 0, none⟩ v3) from ((keeps_of_gw G2.out).trans (keeps_of_row iR2 hg3)).trans ((KeepsOthers.setCell _ _ _).from _))
    have hb3 : Below w.heap.size W W3 := (G2.out.mono iB.size).trans ((Below.refl w.heap.size W2).grown hg3 (by omega) (fun j hj => by have := hown j hj; omega))
    have BB := Lib.hid (hb3.setCell (p := ⟨BL, 0, none⟩) (show w.heap.size ≤ BL by omega) v3)
    have BB2 := Lib.hid ((iB.trans hb3).setCell (p := ⟨BL, 0, none⟩) (show w.heap.size ≤ BL by omega) v3)
    have NB := Lib.hid (show IRow w3.heap.size (W3.setCell ⟨BL, 0, none⟩ v3) v3 (lF u nm d (valsF (pre ++ [x]))) by
      rw [SN.out]
      exact hr3.chg ((Chg.of_gw (Gw.refl W3) (fun b => b = BL)).set ⟨BL, 0, none⟩ v3 (fun _ => rfl)) (fun g hg e => by have := (hr3.at g hg).1; omega))
    have cL := bL3.cell
    have fL := bL3.frozen
    try simp only [Act.put, List.setIfInBounds_toArray, List.set_cons_zero, List.set_cons_succ]
    refine anyL_step (i := 9) (o := { dst := none, op := _, type := _, pos := _, after := _, guard := _ }) rfl (by kernel_rfl) (by rfl) (fun K hK => ?_)
    obtain ⟨a3, c3, hv3⟩ := hr3.form
    generalize (lF u nm d (valsF pre) ++ u.ks[x.val].tm.lv nm (d + bxI u.k)).length = n3 at hv3
    subst hv3
    go_simp
    refine hK.out _ _ ?_ ?_
    · rw [HS.out]
      exact ⟨(fun e => (by cases e)), bX3.m.set (by omega) _, bT3.set (by omega) _, (bN3.other (by omega) _).cell, (bV3.other (by omega) _).cell⟩
    · refine anyL_done (by kernel_rfl) ?_ _
      exact ⟨KF.out, BB.out, ⟨⟨_, bL3.set _, NB.out⟩, bT3.set (by omega) _, bN3.other (by omega) _, bV3.other (by omega) _⟩, BB2.out⟩
  case done =>
    rintro D ys W hD rfl ⟨⟨⟨v, iL, iR⟩, iT, iN, iV⟩, iB⟩ hK
    have ES := Lib.hid (show lF u nm d (valsF (List.finRange xs.length)) = u.tm.lv nm d by unfold valsF; rw [vals_all, XL.out, lF_range u nm d _ VL.out, FIN.out])
    rw [ES.out] at iR
    have cL := iL.cell
    have HR := Lib.hid (iR.mono HS3.out.2)
    have BB := Lib.hid (iB.trans (belowK_b (w := w) (Nat.le_refl _) W D _ (.deferred none) (by have := HS3.out; omega) hK rfl rfl))
    have HRD := Lib.hid (irow_own w.heap.size (fun (_ : Unit) => u.tm.lv nm d) v () W _ _ HR.out (grownBy_putObj' W D (.deferred none)) (fun r e => by cases e; exact ⟨_, hK, rfl⟩))
    have HKK := Lib.hid hK
    clear iL iT iN iV iB hK iR
    gi_wp2
    refine ⟨by simp, .inl ⟨_, _, rfl, run_takeDeferred HKK.out, ?_⟩⟩
    exact ⟨_, results_tmp rfl _ _ _, v, rfl, HRD.out, BB.out⟩
  case stop =>
    rintro D c pre W _ _ h _
    exact h.elim

set_option maxRecDepth 100000 in
set_option maxHeartbeats 2000000 in
theorem lvi_body2 (nm : ByteArray) (hnm : nm.size ≤ 9223372036854775807) (u : LM) (ih : ∀ t ∈ u.ks, LvI nm t) (w : World) (d : Nat) (c : Bool) (hu : u.Ok w) (hok : u.tm.ok c = true) (hd : u.tm.nn ≤ 1000) (hd2 : d + u.tm.dp ≤ 1000) (h1 : u.k = 1) (h2 : (u.n.toList == nm.toList) = false) :
    Calls Tryd.prog 49 #[u.val, .string nm, .int .i64 d] w fun e w' => ∃ v, e = .returned v ∧ IRow w.heap.size w' v (u.tm.lv nm d) ∧ Gw w w' := by
  have hlen : u.ks.length ≤ 9223372036854775807 := Nat.le_trans hu.kids.1 hu.kids.2.1
  have hnn : u.n.size ≤ 9223372036854775807 := hu.nm
  have HU := Lib.hid hu
  have HOK := Lib.hid hok
  have HD := Lib.hid hd
  have HD2 := Lib.hid hd2
  have VL := Lib.hid (vU_le u nm)
  have FIN := Lib.hid (show u.tm.lv nm d = lvm u nm d (vU u nm) by
    have e := var_leaf hok h1
    have e2 := vU_le u nm
    rw [lv_var h1, h2, show vU u nm = 0 by omega]
    rfl)
  have q1 : (u.k == 1) = true := by simpa using h1
  clear h1
  have g0 : Gw w (((w.alloc (.cells #[.int .i64 u.k, .int .i64 u.m, .string u.n, .int .i64 u.t.k, .string u.t.n, .slice u.t.a u.t.ks.length u.t.cap, .slice u.na u.ns.length u.nc, .slice u.a u.ks.length u.cap] 50)).alloc (.cells #[.string nm] 9)).alloc (.cells #[.int .i64 d] 2)) := (((Gw.refl w).alloc _).alloc _).alloc _
  have BT := Lib.hid (((BoxM.new w u 50).grow ((Gw.refl _).alloc (.cells #[.string nm] 9))).grow ((Gw.refl _).alloc (.cells #[.int .i64 d] 2)))
  have BN0 := (Boxed.new (w.alloc (.cells #[.int .i64 u.k, .int .i64 u.m, .string u.n, .int .i64 u.t.k, .string u.t.n, .slice u.t.a u.t.ks.length u.t.cap, .slice u.na u.ns.length u.nc, .slice u.a u.ks.length u.cap] 50)) 9 (.string nm)).alloc (.cells #[.int .i64 d] 2)
  have BV0 := Boxed.new ((w.alloc (.cells #[.int .i64 u.k, .int .i64 u.m, .string u.n, .int .i64 u.t.k, .string u.t.n, .slice u.t.a u.t.ks.length u.t.cap, .slice u.na u.ns.length u.nc, .slice u.a u.ks.length u.cap] 50)).alloc (.cells #[.string nm] 9)) 2 (.int .i64 d)
  simp only [World.size_alloc] at BN0 BV0
  have G := Lib.hid g0
  have hd3 : (d : Int) ≤ 1000 := by omega
  clear hu hok hd hd2 g0
  refine (callsIn_wide (n := 9)).1 ?_
  refine callsIn_of_wp_marks Tryd.func49 rfl trivial ?_ rfl
  simp only [Tryd.ntmps49, List.size_toArray, List.length_cons, List.length_nil, Nat.reduceAdd, Nat.reduceSub, Array.replicate_succ, Array.replicate_zero, List.push_toArray, List.append_toArray, List.nil_append, List.cons_append]
  have f1 : Fence.wide.fn 79 := trivial
  gi_upto_region 1 with (fail)
  generalize ((w.alloc (.cells #[.int .i64 u.k, .int .i64 u.m, .string u.n, .int .i64 u.t.k, .string u.t.n, .slice u.t.a u.t.ks.length u.t.cap, .slice u.na u.ns.length u.nc, .slice u.a u.ks.length u.cap] 50)).alloc (.cells #[.string nm] 9)).alloc (.cells #[.int .i64 d] 2) = w1 at *
  obtain ⟨BTM, hBTM⟩ : ∃ x, x = w.heap.size := ⟨_, rfl⟩
  obtain ⟨BNM, hBNM⟩ : ∃ x, x = w.heap.size + 1 := ⟨_, rfl⟩
  obtain ⟨BLV, hBLV⟩ : ∃ x, x = w.heap.size + 1 + 1 := ⟨_, rfl⟩
  rw [← hBTM] at BT
  rw [← hBNM] at BN0
  rw [← hBLV] at BV0
  rw [← hBLV, ← hBNM, ← hBTM]
  have HBT := Lib.hid hBTM
  have HBS0 := Lib.hid (show BTM < BNM ∧ BNM < BLV ∧ w.heap.size ≤ BTM by omega)
  have BN := Lib.hid BN0
  have BV := Lib.hid BV0
  clear hBTM hBNM hBLV BN0 BV0
  obtain ⟨p0, p1, p2, p3, p4, p5, p6, p7⟩ := BT.out.c
  have n0 := BN.out.cell
  gi_upto_region 4 with (fail)
  clear p0 p1 p2 p3 p4 p5 p6 p7 n0
  have BT2 := Lib.hid (BT.out.kept (World.grownBy_alloc w1 (.cells #[.slice none 0 0] 54) none) (by simp))
  have BN2 := Lib.hid (BN.out.alloc (.cells #[.slice none 0 0] 54))
  have BV2 := Lib.hid (BV.out.alloc (.cells #[.slice none 0 0] 54))
  have BL2 := Boxed.new w1 54 (.slice none 0 0)
  have G2 := Lib.hid (G.out.alloc (.cells #[.slice none 0 0] 54))
  have hlt0 : BLV < w1.heap.size := BV.out.lt
  generalize w1.alloc (.cells #[.slice none 0 0] 54) = w2 at *
  obtain ⟨BL, hBL⟩ : ∃ x, x = w1.heap.size := ⟨_, rfl⟩
  rw [← hBL] at BL2
  rw [← hBL]
  have HBS := Lib.hid (show BTM < BNM ∧ BNM < BLV ∧ BLV < BL ∧ w.heap.size ≤ BTM by have := HBS0.out; omega)
  have KO := Lib.hid (impl_kidsOut u nm w2 (HU.out.grow G2.out) c HOK.out)
  replace BL2 := Lib.hid BL2
  clear hBL hlt0 G BT BN BV HBS0 w1
  obtain ⟨p0, p1, p2, p3, p4, p5, p6, p7⟩ := BT2.out.c
  have n0 := BN2.out.cell
  gi_wp2_with (gi_at_call 79; refine (callsIn_wide.2 KO.out).mono ?_; clear KO; rintro e w3 ⟨B, rfl, hB1, hB2, hc, g3⟩)
  clear p0 p1 p2 p3 p4 p5 p6 p7 n0
  obtain ⟨xs, hxs⟩ : ∃ xs, xs = u.ks.take (vU u nm) := ⟨_, rfl⟩
  have hxl : xs.length = vU u nm := by rw [hxs, List.length_take]; have := VL.out; omega
  have XG := Lib.hid (take_at hxs)
  have TS := Lib.hid (show tmSl w u.a u.cap xs by rw [hxs]; exact tm_take HU.out.kids _ VL.out)
  have XL := Lib.hid hxl
  replace hc : w3.cell? ⟨B, 0, none⟩ = some (.slice u.a xs.length u.cap) := by rw [hc, hxl]; rfl
  have HC := Lib.hid hc
  have G3 := Lib.hid (G2.out.trans g3)
  have hsz : w2.heap.size ≤ w3.heap.size := g3.size
  have HS3 := Lib.hid (show BL < w3.heap.size ∧ w.heap.size ≤ w3.heap.size from ⟨by have := BL2.out.lt; omega, G3.out.size⟩)
  have I0 := Lib.hid (show ((∃ v, Boxed w3 BL 54 v ∧ IRow w3.heap.size w3 v (lF u nm d (valsF ([] : List (Fin xs.length))))) ∧ (BoxM w3 BTM u ∧ (Boxed w3 BNM 9 (.string nm) ∧ Boxed w3 BLV 2 (.int .i64 d)))) ∧ Below w.heap.size w w3 from
    ⟨⟨⟨_, (g3.block _ BL2.out.lt).trans BL2.out, IRow.nil _ _⟩, BT2.out.grow g3, (g3.block _ BN2.out.lt).trans BN2.out, (g3.block _ BV2.out.lt).trans BV2.out⟩, G3.out⟩)
  clear hxs hxl hc g3 hB1 hsz BT2 BN2 BV2 BL2 G2 w2
  refine wpIn_rangeFunc_ownH rfl (by omega) (gf := 128) (lb := #[.pointer (some ⟨B, 0, none⟩)]) rfl trivial (enters_of Tryd.func128 (by kernel_rfl) rfl)
    (allT_stops (9 - 1) (by omega) B u.a u.cap xs w w3 hB2 HC.out TS.out G3.out) belowK_t (belowK_b HS3.out.2) (Below.refl _ _) (fun _ => rfl)
    (fun pre W => ((∃ v, Boxed W BL 54 v ∧ IRow w3.heap.size W v (lF u nm d (valsF pre))) ∧ (BoxM W BTM u ∧ (Boxed W BNM 9 (.string nm) ∧ Boxed W BLV 2 (.int .i64 d)))) ∧ Below w.heap.size w W)
    (fun _ _ _ => False)
    (OwnFrom.and (OwnFrom.and (fun s A B row ⟨v, hb, hr⟩ hg hr' => ⟨v, boxed_own BL 54 (fun (_ : Unit) => v) () A B row hb hg (fun r e => (hr' r e).2), irow_own _ (fun (_ : Unit) => lF u nm d (valsF s)) v () A B row hr hg (fun r e => (hr' r e).2)⟩) (OwnFrom.and (Own.from (boxM_own _ _) _) (OwnFrom.and (Own.from (boxed_own _ _ _) _) (Own.from (boxed_own _ _ _) _)))) (ownFrom_below (Nat.le_refl _) HS3.out.2))
    (fun _ _ _ _ _ hs _ _ => hs)
    I0.out
    (fun x a' W => ∃ Bx, (BL < Bx ∧ BoxT W Bx xs[x.val]) ∧ a' = { tmps := #[u.val, .string nm, .int .i64 (d : Int), .pointer (some ⟨BTM, 0, none⟩), .pointer (some ⟨BNM, 0, none⟩), .pointer (some ⟨BLV, 0, none⟩), .slice none 0 0, .pointer (some ⟨BL, 0, none⟩), undef, .pointer (some ⟨Bx, 0, none⟩), .pointer (some ⟨BTM, 0, none⟩), .int .i64 u.k, .bool true, .bool true, .pointer (some ⟨BTM, 2, none⟩), .string u.n, .string nm, .bool false, .bool false, undef, undef, u.val, .string nm, .func (.func 128) #[] #[.pointer (some ⟨B, 0, none⟩)], .int .i64 (x.val : Int), xs[x.val].val, undef, undef, undef, undef, undef, undef, undef, undef, undef, undef], defers := [] })
    (fun x a' _ X Y row hs hg hr => by obtain ⟨Bx, ⟨h1, h2⟩, h3⟩ := hs; exact ⟨Bx, ⟨h1, boxT_own Bx (fun (_ : Unit) => xs[x.val]) () X Y row h2 hg (fun r e => (hr r e).2)⟩, h3⟩)
    ?assign ?body ?done ?stop
  case assign =>
    rintro l pre x W K hi hK
    have HI := Lib.hid hi
    have HK := Lib.hid hK
    clear hi hK
    gi_wp2
    obtain ⟨⟨⟨v, iL, iR⟩, iT, iN, iV⟩, iB⟩ := HI.out
    exact HK.out _ _ ((KeepsOthers.alloc _ _).from _) ((Below.refl _ W).alloc iB.size _) ⟨⟨⟨v, iL.alloc _, iR.grow ((Gw.refl W).alloc _)⟩, iT.kept (World.grownBy_alloc _ _ none) (by simp), iN.alloc _, iV.alloc _⟩, iB.alloc iB.size _⟩ ⟨W.heap.size, ⟨iL.lt, BoxT.new W _⟩, rfl⟩
  case body =>
    rintro l pre x a' W hl ⟨r, hr⟩ hi ⟨Bx, ⟨hBx, hX⟩, rfl⟩ hlen2
    obtain ⟨hlt, he⟩ := XG.out x.val x.isLt
    obtain ⟨⟨⟨v, iL, iR⟩, iT, iN, iV⟩, iB⟩ := hi
    have KE := Lib.hid (show ∀ W4, Gw W W4 → Calls Tryd.prog 49 #[xs[x.val].val, .string nm, .int .i64 ((d + bxI u.k : Nat) : Int)] W4 (fun e w' => ∃ v, e = .returned v ∧ IRow W4.heap.size w' v (u.ks[x.val].tm.lv nm (d + bxI u.k)) ∧ Gw W4 w') from fun W4 g4 => by
      obtain ⟨_, _, _, hk⟩ := tmAt.kid (gSl.grow tmLen tmGr TS.out (iB.trans (g4.mono iB.size))) x.val x.isLt
      have h2 := hk.2
      rw [he] at h2 ⊢
      exact ih u.ks[x.val] (List.getElem_mem hlt) W4 (d + bxI u.k) (flg u.k x.val) h2 (ok_kid HOK.out x.val hlt) (by have := nn_kid u x.val hlt; have := HD.out; omega) (by have := dp_kid u x.val hlt; have := HD2.out; have := bxI_le u.k; omega))
    have L5 := Lib.hid (len5 HOK.out)
    have SN := Lib.hid (show lF u nm d (valsF (pre ++ [x])) = lF u nm d (valsF pre) ++ u.ks[x.val].tm.lv nm (d + bxI u.k) by rw [valsF_snoc, lF_snoc u nm d _ x.val hlt])
    have LL := Lib.hid (show (lF u nm d (valsF pre)).length ≤ 5000 by
      have h1 := lF_len u nm d HD.out (valsF pre)
      rw [show (valsF pre).length = pre.length by simp [valsF]] at h1
      have := L5.out; have := XL.out; have := VL.out
      omega)
    have hWs : w3.heap.size ≤ W.heap.size := by have := (Array.getElem?_eq_some_iff.1 hr).1; omega
    clear he hr r L5
    have hmx : Tryd.prog.follows .mixedOrders = true := by kernel_rfl
    gi_upto_region 6 with (fail)
    have iX := hX
    obtain ⟨S, hS⟩ : ∃ S : Array Bool → World → Prop, S = fun L X => (L.getD 9 true = false → X.cell? ⟨BL, 0, none⟩ = some v) ∧ BoxM X Bx xs[x.val] ∧ BoxM X BTM u ∧ X.cell? ⟨BNM, 0, none⟩ = some (.string nm) ∧ X.cell? ⟨BLV, 0, none⟩ = some (.int .i64 d) := ⟨_, rfl⟩
    have hind : ∀ i, i ≠ 9 → ∀ L X, S (L.setIfInBounds i true) X ↔ S L X := fun i hi L X => by rw [hS]; simp only; rw [getD_set_ne true hi]
    have HS := Lib.hid hS
    have HIND := Lib.hid hind
    have SG := Lib.hid (show ∀ L X X', S L X → Gw X X' → S L X' from fun L X X' h g => by
      rw [hS] at h ⊢
      exact ⟨fun e => (g.cell (h.1 e) (cell_lt (h.1 e))), h.2.1.grow g, h.2.2.1.grow g, g.cell h.2.2.2.1 (cell_lt h.2.2.2.1), g.cell h.2.2.2.2 (cell_lt h.2.2.2.2)⟩)
    have S0 := Lib.hid (show S (Array.replicate 10 false) W.drew by rw [hS]; exact ⟨fun _ => iL.cell, iX.m, iT, iN.cell, iV.cell⟩)
    clear hind hS
    refine any_in (S := S) hmx (by kernel_rfl) (fun ⟨_, _, h⟩ => h) ?_
    have s0 := S0.out
    refine anyL_take (i := 0) (oi := { dst := some 26, op := _, type := _, pos := _, after := _, guard := _ }) (v := v) rfl (by kernel_rfl) (by kernel_rfl) (by kernel_rfl) (fun _ _ _ h => h) (HIND.out 0 (by decide)) (fun L => L.getD 8 true = false ∧ L.getD 9 true = false) ?hG0 ⟨rfl, rfl⟩ (Or.inl ⟨by rfl, ?hy0⟩) s0 ?rest0
    case hG0 =>
      rintro L j ⟨h8, h9⟩ hi hj hne
      obtain ⟨g1, _⟩ := mem_ready.1 hi
      obtain ⟨g2, oj, hoj, hall⟩ := mem_ready.1 hj
      have n8 : j ≠ 8 := fun e => by
        subst e
        cases hoj
        exact getD_clash g1 (hall { on := 0, ground := .data } (by simp) (by rfl))
      have n9 : j ≠ 9 := fun e => by
        subst e
        cases hoj
        exact getD_clash h8 (hall { on := 8, ground := .data } (by simp) (by rfl))
      exact ⟨(getD_set_ne true n8).trans h8, (getD_set_ne true n9).trans h9⟩
    case hy0 =>
      rintro X ⟨L, ⟨_, h9⟩, h⟩
      rw [HS.out] at h
      have c := h.1 h9
      clear h
      go_simp
    have s1 := (HIND.out 0 (by decide) _ _).2 s0
    clear s0
    simp only [Act.put, List.setIfInBounds_toArray, List.set_cons_zero, List.set_cons_succ]
    refine anyL_take (i := 1) (oi := { dst := some 27, op := _, type := _, pos := _, after := _, guard := _ }) (v := xs[x.val].val) rfl (by kernel_rfl) (by kernel_rfl) (by kernel_rfl) (fun _ _ _ h => h) (HIND.out 1 (by decide)) (fun _ => True) (fun _ _ _ _ _ _ => trivial) trivial (Or.inl ⟨by rfl, ?hy1⟩) s1 ?rest1
    case hy1 =>
      rintro X ⟨L, _, h⟩
      rw [HS.out] at h
      obtain ⟨c0, c1, c2, c3, c4, c5, c6, c7⟩ := h.2.1.c
      clear h
      go_simp
    have s2 := (HIND.out 1 (by decide) _ _).2 s1
    clear s1
    simp only [Act.put, List.setIfInBounds_toArray, List.set_cons_zero, List.set_cons_succ]
    refine anyL_take (i := 2) (oi := { dst := some 28, op := _, type := _, pos := _, after := _, guard := _ }) (v := .string nm) rfl (by kernel_rfl) (by kernel_rfl) (by kernel_rfl) (fun _ _ _ h => h) (HIND.out 2 (by decide)) (fun _ => True) (fun _ _ _ _ _ _ => trivial) trivial (Or.inl ⟨by rfl, ?hy2⟩) s2 ?rest2
    case hy2 =>
      rintro X ⟨L, _, h⟩
      rw [HS.out] at h
      have c := h.2.2.2.1
      clear h
      go_simp
    have s3 := (HIND.out 2 (by decide) _ _).2 s2
    clear s2
    simp only [Act.put, List.setIfInBounds_toArray, List.set_cons_zero, List.set_cons_succ]
    refine anyL_take (i := 3) (oi := { dst := some 29, op := _, type := _, pos := _, after := _, guard := _ }) (v := .int .i64 d) rfl (by kernel_rfl) (by kernel_rfl) (by kernel_rfl) (fun _ _ _ h => h) (HIND.out 3 (by decide)) (fun _ => True) (fun _ _ _ _ _ _ => trivial) trivial (Or.inl ⟨by rfl, ?hy3⟩) s3 ?rest3
    case hy3 =>
      rintro X ⟨L, _, h⟩
      rw [HS.out] at h
      have c := h.2.2.2.2
      clear h
      go_simp
    have s4 := (HIND.out 3 (by decide) _ _).2 s3
    clear s3
    simp only [Act.put, List.setIfInBounds_toArray, List.set_cons_zero, List.set_cons_succ]
    refine anyL_take (i := 4) (oi := { dst := some 30, op := _, type := _, pos := _, after := _, guard := _ }) (v := u.val) rfl (by kernel_rfl) (by kernel_rfl) (by kernel_rfl) (fun _ _ _ h => h) (HIND.out 4 (by decide)) (fun _ => True) (fun _ _ _ _ _ _ => trivial) trivial (Or.inl ⟨by rfl, ?hy4⟩) s4 ?rest4
    case hy4 =>
      rintro X ⟨L, _, h⟩
      rw [HS.out] at h
      obtain ⟨c0, c1, c2, c3, c4, c5, c6, c7⟩ := h.2.2.1.c
      clear h
      go_simp
    have s5 := (HIND.out 4 (by decide) _ _).2 s4
    clear s4
    simp only [Act.put, List.setIfInBounds_toArray, List.set_cons_zero, List.set_cons_succ]
    have hbx : (bxI u.k : Int) ≤ 1 := by have := bxI_le u.k; omega
    have KB := Lib.hid (impl_boxesAt u W.drew)
    refine anyL_step (i := 5) (o := { dst := some 31, op := _, type := _, pos := _, after := _, guard := _ }) rfl (by kernel_rfl) (by rfl) (fun K hK => ?_)
    go_simp
    refine KB.out.mono ?_
    rintro e W1 ⟨rfl, g1⟩
    have s6 := SG.out _ _ _ ((HIND.out 5 (by decide) _ _).2 s5) g1
    refine hK.out _ _ s6 ?_
    clear s5 hK K KB
    have G1 := Lib.hid (show Gw W W1 from (Gw.refl W).drew.trans g1)
    clear g1
    try simp only [Act.put, List.setIfInBounds_toArray, List.set_cons_zero, List.set_cons_succ]
    refine anyL_take (i := 6) (oi := { dst := some 32, op := _, type := _, pos := _, after := _, guard := _ }) (v := .int .i64 ((d : Int) + bxI u.k)) rfl (by kernel_rfl) (by kernel_rfl) (by kernel_rfl) (fun _ _ _ h => h) (HIND.out 6 (by decide)) (fun _ => True) (fun _ _ _ _ _ _ => trivial) trivial (Or.inl ⟨by rfl, ?hy6⟩) s6 ?rest6
    case hy6 =>
      rintro X _
      go_simp
      first | (unfold IntKind.wrap; simp [IntKind.signed, IntKind.bits]; omega) | go_bits
    have s7 := (HIND.out 6 (by decide) _ _).2 s6
    clear s6
    try simp only [Act.put, List.setIfInBounds_toArray, List.set_cons_zero, List.set_cons_succ]
    have KL := Lib.hid (KE.out W1 G1.out)
    rw [show ((d + bxI u.k : Nat) : Int) = (d : Int) + bxI u.k by omega] at KL
    refine anyL_step (i := 7) (o := { dst := some 33, op := _, type := _, pos := _, after := _, guard := _ }) rfl (by kernel_rfl) (by rfl) (fun K hK => ?_)
    go_simp
    refine KL.out.mono ?_
    rintro e W2 ⟨v2, rfl, hr2, g2⟩
    have s8 := SG.out _ _ _ ((HIND.out 7 (by decide) _ _).2 s7) g2
    refine hK.out _ _ s8 ?_
    clear s7 hK K KL
    have G2 := Lib.hid (G1.out.trans g2)
    clear g2
    have iR2 := iR.grow G2.out
    have hle2 : w3.heap.size ≤ W2.heap.size := Nat.le_trans hWs G2.out.size
    obtain ⟨v3, W3, hrun, hr3, hg3⟩ := run_app (P0 := Tryd.prog) rfl (ty := 54) iR2 hr2 (by have := LL.out; have := lv_len nm u.ks[x.val].tm (d + bxI u.k); have := nn_kid u x.val hlt; have := HD.out; omega) hle2
    try simp only [Act.put, List.setIfInBounds_toArray, List.set_cons_zero, List.set_cons_succ]
    refine anyL_step (i := 8) (o := { dst := some 34, op := _, type := _, pos := _, after := _, guard := _ }) rfl (by kernel_rfl) (by rfl) (fun K hK => ?_)
    refine Lib.wp_append_run _ _ _ _ _ rfl _ _ rfl rfl v3 W3 hrun ?_
    have hown : ∀ b, v.ownBlock = some b → w3.heap.size ≤ b := fun b hb => (iR2.at b hb).1
    have hfar : ∀ b, b < w3.heap.size → W3.heap[b]? = W2.heap[b]? := fun b hb => hg3.block b (by omega) (fun e => by have := hown b e.symm; omega)
    have bL2 : Boxed W2 BL 54 v := (G2.out.block _ iL.lt).trans iL
    have bN2 : Boxed W2 BNM 9 (.string nm) := (G2.out.block _ iN.lt).trans iN
    have bV2 : Boxed W2 BLV 2 (.int .i64 d) := (G2.out.block _ iV.lt).trans iV
    have bX2 : BoxT W2 Bx xs[x.val] := (G2.out.block _ iX.lt).trans iX
    have bT2 := iT.grow G2.out
    have hord := HBS.out
    have hs3 := HS3.out
    have bL3 : Boxed W3 BL 54 v := (hfar BL (by omega)).trans bL2
    have bN3 : Boxed W3 BNM 9 (.string nm) := (hfar BNM (by omega)).trans bN2
    have bV3 : Boxed W3 BLV 2 (.int .i64 d) := (hfar BLV (by omega)).trans bV2
    have bX3 : BoxT W3 Bx xs[x.val] := (hg3.block Bx bX2.lt (fun e => iR2.notT bX2 e.symm)).trans bX2
    have bT3 : BoxM W3 BTM u := bT2.same (hfar BTM (by omega))
    refine hK.out _ _ ((HIND.out 8 (by decide) _ _).2 ?hs9) ?rest9
    case hs9 =>
      rw [HS.out]
      exact ⟨fun _ => bL3.cell, bX3.m, bT3, bN3.cell, bV3.cell⟩
    clear hK K s8
    have KF := Lib.hid (show KeepsFrom w3.heap.size W (W3.setCell ⟨BL, 0, none⟩ v3) from ((keeps_of_gw G2.out).trans (keeps_of_row iR2 hg3)).trans ((KeepsOthers.setCell _ _ _).from _))
    have hb3 : Below w.heap.size W W3 := (G2.out.mono iB.size).trans ((Below.refl w.heap.size W2).grown hg3 (by omega) (fun j hj => by have := hown j hj; omega))
    have BB := Lib.hid (hb3.setCell (p := ⟨BL, 0, none⟩) (show w.heap.size ≤ BL by omega) v3)
    have BB2 := Lib.hid ((iB.trans hb3).setCell (p := ⟨BL, 0, none⟩) (show w.heap.size ≤ BL by omega) v3)
    have NB := Lib.hid (show IRow w3.heap.size (W3.setCell ⟨BL, 0, none⟩ v3) v3 (lF u nm d (valsF (pre ++ [x]))) by
      rw [SN.out]
      exact hr3.chg ((Chg.of_gw (Gw.refl W3) (fun b => b = BL)).set ⟨BL, 0, none⟩ v3 (fun _ => rfl)) (fun g hg e => by have := (hr3.at g hg).1; omega))
    have cL := bL3.cell
    have fL := bL3.frozen
    try simp only [Act.put, List.setIfInBounds_toArray, List.set_cons_zero, List.set_cons_succ]
    refine anyL_step (i := 9) (o := { dst := none, op := _, type := _, pos := _, after := _, guard := _ }) rfl (by kernel_rfl) (by rfl) (fun K hK => ?_)
    obtain ⟨a3, c3, hv3⟩ := hr3.form
    generalize (lF u nm d (valsF pre) ++ u.ks[x.val].tm.lv nm (d + bxI u.k)).length = n3 at hv3
    subst hv3
    go_simp
    refine hK.out _ _ ?_ ?_
    · rw [HS.out]
      exact ⟨(fun e => (by cases e)), bX3.m.set (by omega) _, bT3.set (by omega) _, (bN3.other (by omega) _).cell, (bV3.other (by omega) _).cell⟩
    · refine anyL_done (by kernel_rfl) ?_ _
      exact ⟨KF.out, BB.out, ⟨⟨_, bL3.set _, NB.out⟩, bT3.set (by omega) _, bN3.other (by omega) _, bV3.other (by omega) _⟩, BB2.out⟩
  case done =>
    rintro D ys W hD rfl ⟨⟨⟨v, iL, iR⟩, iT, iN, iV⟩, iB⟩ hK
    have ES := Lib.hid (show lF u nm d (valsF (List.finRange xs.length)) = u.tm.lv nm d by unfold valsF; rw [vals_all, XL.out, lF_range u nm d _ VL.out, FIN.out])
    rw [ES.out] at iR
    have cL := iL.cell
    have HR := Lib.hid (iR.mono HS3.out.2)
    have BB := Lib.hid (iB.trans (belowK_b (w := w) (Nat.le_refl _) W D _ (.deferred none) (by have := HS3.out; omega) hK rfl rfl))
    have HRD := Lib.hid (irow_own w.heap.size (fun (_ : Unit) => u.tm.lv nm d) v () W _ _ HR.out (grownBy_putObj' W D (.deferred none)) (fun r e => by cases e; exact ⟨_, hK, rfl⟩))
    have HKK := Lib.hid hK
    clear iL iT iN iV iB hK iR
    gi_wp2
    refine ⟨by simp, .inl ⟨_, _, rfl, run_takeDeferred HKK.out, ?_⟩⟩
    exact ⟨_, results_tmp rfl _ _ _, v, rfl, HRD.out, BB.out⟩
  case stop =>
    rintro D c pre W _ _ h _
    exact h.elim

set_option maxRecDepth 100000 in
set_option maxHeartbeats 2000000 in
theorem lvi_leaf (nm : ByteArray) (hnm : nm.size ≤ 9223372036854775807) (u : LM) (w : World) (d : Nat) (hu : u.Ok w) (hd : d ≤ 1000) (h1 : u.k = 1) (h2 : (u.n.toList == nm.toList) = true) :
    Calls Tryd.prog 49 #[u.val, .string nm, .int .i64 d] w fun e w' => ∃ v, e = .returned v ∧ IRow w.heap.size w' v (u.tm.lv nm d) ∧ Gw w w' := by
  have hnn : u.n.size ≤ 9223372036854775807 := hu.nm
  have F := Lib.hid (lv_var (nm := nm) h1 d)
  have q1 : (u.k == 1) = true := by simpa using h1
  have g0 : Gw w (((w.alloc (.cells #[.int .i64 u.k, .int .i64 u.m, .string u.n, .int .i64 u.t.k, .string u.t.n, .slice u.t.a u.t.ks.length u.t.cap, .slice u.na u.ns.length u.nc, .slice u.a u.ks.length u.cap] 50)).alloc (.cells #[.string nm] 9)).alloc (.cells #[.int .i64 d] 2)) := (((Gw.refl w).alloc _).alloc _).alloc _
  have BT := Lib.hid (((BoxM.new w u 50).grow ((Gw.refl _).alloc (.cells #[.string nm] 9))).grow ((Gw.refl _).alloc (.cells #[.int .i64 d] 2)))
  have BN0 := (Boxed.new (w.alloc (.cells #[.int .i64 u.k, .int .i64 u.m, .string u.n, .int .i64 u.t.k, .string u.t.n, .slice u.t.a u.t.ks.length u.t.cap, .slice u.na u.ns.length u.nc, .slice u.a u.ks.length u.cap] 50)) 9 (.string nm)).alloc (.cells #[.int .i64 d] 2)
  have BV0 := Boxed.new ((w.alloc (.cells #[.int .i64 u.k, .int .i64 u.m, .string u.n, .int .i64 u.t.k, .string u.t.n, .slice u.t.a u.t.ks.length u.t.cap, .slice u.na u.ns.length u.nc, .slice u.a u.ks.length u.cap] 50)).alloc (.cells #[.string nm] 9)) 2 (.int .i64 d)
  simp only [World.size_alloc] at BN0 BV0
  have G := Lib.hid g0
  rw [h2] at F
  clear hu h1 g0
  refine (callsIn_wide (n := 9)).1 ?_
  refine callsIn_of_wp Tryd.func49 rfl trivial ?_ rfl
  simp only [Tryd.ntmps49, List.size_toArray, List.length_cons, List.length_nil, Nat.reduceAdd, Nat.reduceSub, Array.replicate_succ, Array.replicate_zero, List.push_toArray, List.append_toArray, List.nil_append, List.cons_append]
  gi_upto_region 1 with (fail)
  generalize ((w.alloc (.cells #[.int .i64 u.k, .int .i64 u.m, .string u.n, .int .i64 u.t.k, .string u.t.n, .slice u.t.a u.t.ks.length u.t.cap, .slice u.na u.ns.length u.nc, .slice u.a u.ks.length u.cap] 50)).alloc (.cells #[.string nm] 9)).alloc (.cells #[.int .i64 d] 2) = w1 at *
  obtain ⟨p0, p1, p2, p3, p4, p5, p6, p7⟩ := BT.out.c
  have n0 := BN0.cell
  have n1 := BV0.cell
  gi_wp2
  go_ret
  exact ⟨_, rfl, by rw [F.out]; exact ⟨rfl, .inr ⟨w1.heap.size, 1, _, rfl, G.out.size, heap_alloc_new w1 _, Nat.le_refl _, by decide, rfl, rfl⟩⟩, G.out.alloc _⟩

theorem lvi_all (nm : ByteArray) (hnm : nm.size ≤ 9223372036854775807) (u : LM) : LvI nm u := by
  refine LM.ind (P := LvI nm) (fun k m n t na nc ns a cap ks ih => ?_) u
  intro w d c hu hok hd hd2
  by_cases h1 : (LM.mk k m n t na nc ns a cap ks).k = 1
  · cases h2 : ((LM.mk k m n t na nc ns a cap ks).n.toList == nm.toList) with
    | true => exact lvi_leaf nm hnm (.mk k m n t na nc ns a cap ks) w d hu (by omega) h1 h2
    | false => exact lvi_body2 nm hnm (.mk k m n t na nc ns a cap ks) ih w d c hu hok hd hd2 h1 h2
  · exact lvi_body1 nm hnm (.mk k m n t na nc ns a cap ks) ih w d c hu hok hd hd2 h1

theorem impl_levelsOf (u : LM) (nm : ByteArray) (hnm : nm.size ≤ 9223372036854775807) (w : World) (h : u.Ok w) (hT : Tbl w) : Calls Tryd.prog 18 #[u.val, .string nm] w (LvGw nm u.tm w) := by
  have g0 := (Gw.refl w).alloc (.cells #[.int .i64 u.k, .int .i64 u.m, .string u.n, .int .i64 u.t.k, .string u.t.n, .slice u.t.a u.t.ks.length u.t.cap, .slice u.na u.ns.length u.nc, .slice u.a u.ks.length u.cap] 50)
  have BX := Lib.hid (BoxM.new w u 50)
  have HU := Lib.hid (h.grow g0)
  have KEY := Lib.hid (impl_validTm u _ (h.grow g0) (hT.grow g0))
  have G := Lib.hid g0
  clear h hT g0
  go_enter Tryd.func18, Tryd.ntmps18
  go_upto_region 1 with (fail)
  generalize w.alloc (.cells #[.int .i64 u.k, .int .i64 u.m, .string u.n, .int .i64 u.t.k, .string u.t.n, .slice u.t.a u.t.ks.length u.t.cap, .slice u.na u.ns.length u.nc, .slice u.a u.ks.length u.cap] 50) = w0 at *
  obtain ⟨p0, p1, p2, p3, p4, p5, p6, p7⟩ := BX.out.c
  go_wp2_with fail
  refine KEY.out.mono ?_
  rintro e w1 ⟨rfl, g1⟩
  clear p0 p1 p2 p3 p4 p5 p6 p7
  have BX2 := Lib.hid (BX.out.grow g1)
  obtain ⟨p0, p1, p2, p3, p4, p5, p6, p7⟩ := BX2.out.c
  cases hok : okT u.tm with
  | false =>
    have F := Lib.hid (show lvT nm u.tm = [] by unfold lvT; rw [hok]; rfl)
    clear hok
    go_wp2_with fail
    go_ret
    exact ⟨_, rfl, by rw [F.out]; exact IRow.nil _ _, G.out.trans g1⟩
  | true =>
    have F := Lib.hid (show lvT nm u.tm = u.tm.lv nm 0 by unfold lvT; rw [hok]; rfl)
    have K2 := Lib.hid (lvi_all nm hnm u w1 0 false (HU.out.grow g1) (okT_good hok).1 (by have := (okT_good hok).2.2; omega) (by have := (okT_good hok).2.1; omega))
    have G1 := Lib.hid (G.out.trans g1)
    clear hok g1
    go_wp2_with fail
    refine K2.out.mono ?_
    rintro e w2 ⟨v, rfl, hr, g2⟩
    go_wp2_with fail
    go_ret
    exact ⟨_, rfl, by rw [F.out]; exact hr.mono G1.out.size, G1.out.trans g2⟩

end Go.Proofs.YtkfplnnncfkjfaaDoor.Con
