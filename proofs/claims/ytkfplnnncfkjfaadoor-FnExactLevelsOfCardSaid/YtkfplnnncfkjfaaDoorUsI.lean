/-
  Contract of the program's usesOf and UsesOf. Condition: the term lies in memory, and the table of forms reads as the program's text lays it.
-/
import Derived.Sort.CutIn
import Derived.Test.YtkfplnnncfkjfaaDoorUs
namespace Go.Proofs.YtkfplnnncfkjfaaDoor.Con
open Go.RowKit
set_option linter.unusedVariables false
attribute [local go_sem] Oper.semAt_some

theorem BoxM.kept {W W' : World} {row : Option Nat} {b : Nat} {u : LM} (h : BoxM W b u) (hg : W.grownBy W' row) (hne : some b ≠ row) : BoxM W' b u := by
  obtain ⟨e, he⟩ := h
  exact ⟨e, (hg.block b (Array.getElem?_eq_some_iff.1 he).1 hne).trans he⟩
theorem boxM_own {β : Type} (b : Nat) (f : β → LM) : Own (fun s W => BoxM W b (f s)) := fun s X Y row hs hg hrow =>
  hs.kept hg (fun e' => by
    obtain ⟨o, ho, hc⟩ := hrow b e'.symm
    obtain ⟨e, he⟩ := hs
    rw [he] at ho
    cases ho
    cases hc)
theorem BoxM.set {W : World} {b b' : Nat} {u : LM} (h : BoxM W b u) (hne : b ≠ b') (v : Value) : BoxM (W.setCell ⟨b', 0, none⟩ v) b u := h.kept (grownBy_setCell' W b' v) (fun e => hne (by cases e; rfl))
theorem tm_take {w : World} {a : Option Addr} {cap : Nat} {ks : List LM} (h : tmSl w a cap ks) (m : Nat) (hm : m ≤ ks.length) : tmSl w a cap (ks.take m) := by
  refine ⟨by rw [List.length_take]; have := h.1; omega, h.2.1, ?_⟩
  rcases h.2.2 with e | ⟨b, o, e, hr⟩
  · exact .inl (by rw [e]; simp)
  · refine .inr ⟨b, o, e, fun i hi => ?_⟩
    have hi' : i < ks.length := by rw [List.length_take] at hi; omega
    rw [List.getElem_take]
    exact hr i hi'

/-- What the loop over the kids holds when it has met the places pre. -/
def sF (u : LM) (nm : ByteArray) (pre : List Nat) : Nat × Nat :=
  pre.foldl (fun s i => if (brK u.k && decide (0 < i)) = true then (s.1, max s.2 ((usL u nm).getD i 0)) else (s.1 + (usL u nm).getD i 0, s.2)) (0, 0)
theorem sF_snoc (u : LM) (nm : ByteArray) (pre : List Nat) (i : Nat) : sF u nm (pre ++ [i]) = if (brK u.k && decide (0 < i)) = true then ((sF u nm pre).1, max (sF u nm pre).2 ((usL u nm).getD i 0)) else ((sF u nm pre).1 + (usL u nm).getD i 0, (sF u nm pre).2) := by
  unfold sF
  rw [List.foldl_append]
  rfl
theorem sF_range (u : LM) (nm : ByteArray) (n : Nat) : sF u nm (List.range n) = stU (brK u.k) (usL u nm) n := by
  induction n with
  | zero => rfl
  | succ n ih => rw [List.range_succ, sF_snoc, ih, stU]
theorem sF_fold (u : LM) (nm : ByteArray) (N : Nat) (hN : ∀ i, (usL u nm).getD i 0 ≤ N) (pre : List Nat) : ∀ s : Nat × Nat,
    (pre.foldl (fun s i => if (brK u.k && decide (0 < i)) = true then (s.1, max s.2 ((usL u nm).getD i 0)) else (s.1 + (usL u nm).getD i 0, s.2)) s).1 ≤ s.1 + pre.length * N ∧
    (pre.foldl (fun s i => if (brK u.k && decide (0 < i)) = true then (s.1, max s.2 ((usL u nm).getD i 0)) else (s.1 + (usL u nm).getD i 0, s.2)) s).2 ≤ max s.2 N := by
  induction pre with
  | nil => intro s; simp; omega
  | cons i is ih =>
    intro s
    rw [List.foldl_cons, List.length_cons, Nat.add_mul]
    have := hN i
    have h := ih (if (brK u.k && decide (0 < i)) = true then (s.1, max s.2 ((usL u nm).getD i 0)) else (s.1 + (usL u nm).getD i 0, s.2))
    revert h
    split <;> intro h <;> simp only at h ⊢ <;> omega
theorem sF_le (u : LM) (nm : ByteArray) (hd : u.tm.nn ≤ 1000) (pre : List Nat) (hp : pre.length ≤ 5) : (sF u nm pre).1 ≤ 5000 ∧ (sF u nm pre).2 ≤ 1000 := by
  have hN : ∀ i, (usL u nm).getD i 0 ≤ 1000 := fun i => by
    by_cases hi : i < u.ks.length
    · rw [usL_get u nm i hi]
      have := us_le nm u.ks[i].tm
      have := nn_kid u i hi
      omega
    · rw [List.getD, List.getElem?_eq_none (by simp [usL]; omega)]
      simp
  have h := sF_fold u nm 1000 hN pre (0, 0)
  have h1 : (sF u nm pre).1 ≤ 0 + pre.length * 1000 := h.1
  have h2 : (sF u nm pre).2 ≤ max 0 1000 := h.2
  omega
theorem len5 {u : LM} {c : Bool} (h : u.tm.ok c = true) : u.ks.length ≤ 5 := by
  have := (ok_len h).2
  rw [LM.tm_len, LM.tm_k] at this
  unfold kidsHi at this
  split at this
  · omega
  split at this
  · omega
  split at this
  · omega
  split at this
  · omega
  split at this <;> omega
theorem vals_all (n : Nat) : (List.finRange n).map Fin.val = List.range n := by
  apply List.ext_getElem
  · simp
  · intro i h1 h2; simp
def valsF {n : Nat} (pre : List (Fin n)) : List Nat := pre.map Fin.val
theorem valsF_snoc {n : Nat} (pre : List (Fin n)) (x : Fin n) : valsF (pre ++ [x]) = valsF pre ++ [x.val] := by simp [valsF]

theorem take_at {xs ks : List LM} {v : Nat} (h : xs = ks.take v) (i : Nat) (hi : i < xs.length) : ∃ h : i < ks.length, xs[i] = ks[i] := by
  subst h
  have : i < v ∧ i < ks.length := by rw [List.length_take] at hi; omega
  exact ⟨this.2, by rw [List.getElem_take]⟩

def UsI (nm : ByteArray) (u : LM) : Prop := ∀ (w : World) (c : Bool), u.Ok w → u.tm.ok c = true → u.tm.nn ≤ 1000 → Calls Tryd.prog 44 #[u.val, .string nm] w (IntGw (u.tm.us nm : Int) w)

set_option maxRecDepth 100000 in
set_option maxHeartbeats 4000000 in
theorem usi_body (nm : ByteArray) (hnm : nm.size ≤ 9223372036854775807) (u : LM) (ih : ∀ t ∈ u.ks, UsI nm t) (w : World) (c : Bool) (hu : u.Ok w) (hok : u.tm.ok c = true) (hd : u.tm.nn ≤ 1000) (h1 : ¬ u.k = 1) : Calls Tryd.prog 44 #[u.val, .string nm] w (IntGw (u.tm.us nm : Int) w) := by
  have hlen : u.ks.length ≤ 9223372036854775807 := Nat.le_trans hu.kids.1 hu.kids.2.1
  have HU := Lib.hid hu
  have HOK := Lib.hid hok
  have HD := Lib.hid hd
  have FIN := Lib.hid (us_all (nm := nm) h1)
  have VL := Lib.hid (vU_le u nm)
  have q1 : (u.k == 1) = false := by simpa using h1
  have g0 : Gw w ((w.alloc (.cells #[.int .i64 u.k, .int .i64 u.m, .string u.n, .int .i64 u.t.k, .string u.t.n, .slice u.t.a u.t.ks.length u.t.cap, .slice u.na u.ns.length u.nc, .slice u.a u.ks.length u.cap] 50)).alloc (.cells #[.string nm] 9)) := ((Gw.refl w).alloc _).alloc _
  have BT := Lib.hid ((BoxM.new w u 50).grow ((Gw.refl _).alloc (.cells #[.string nm] 9)))
  have BN := Lib.hid (Boxed.new (w.alloc (.cells #[.int .i64 u.k, .int .i64 u.m, .string u.n, .int .i64 u.t.k, .string u.t.n, .slice u.t.a u.t.ks.length u.t.cap, .slice u.na u.ns.length u.nc, .slice u.a u.ks.length u.cap] 50)) 9 (.string nm))
  have G := Lib.hid g0
  clear hu hok hd h1 g0
  refine (callsIn_wide (n := 9)).1 ?_
  refine callsIn_of_wp_marks Tryd.func44 rfl trivial ?_ rfl
  simp only [Tryd.ntmps44, List.size_toArray, List.length_cons, List.length_nil, Nat.reduceAdd, Nat.reduceSub, Array.replicate_succ, Array.replicate_zero, List.push_toArray, List.append_toArray, List.nil_append, List.cons_append]
  have f1 : Fence.wide.fn 79 := trivial
  have f2 : Fence.wide.fn 44 := trivial
  have f3 : Fence.wide.fn 80 := trivial
  gi_upto_region 1 with (fail)
  have BN2 : Boxed ((w.alloc (.cells #[.int .i64 u.k, .int .i64 u.m, .string u.n, .int .i64 u.t.k, .string u.t.n, .slice u.t.a u.t.ks.length u.t.cap, .slice u.na u.ns.length u.nc, .slice u.a u.ks.length u.cap] 50)).alloc (.cells #[.string nm] 9)) (w.heap.size + 1) 9 (.string nm) := by have := BN.out; rwa [World.size_alloc] at this
  clear BN
  generalize (w.alloc (.cells #[.int .i64 u.k, .int .i64 u.m, .string u.n, .int .i64 u.t.k, .string u.t.n, .slice u.t.a u.t.ks.length u.t.cap, .slice u.na u.ns.length u.nc, .slice u.a u.ks.length u.cap] 50)).alloc (.cells #[.string nm] 9) = w1 at *
  obtain ⟨BTM, hBTM⟩ : ∃ x, x = w.heap.size := ⟨_, rfl⟩
  obtain ⟨BNM, hBNM⟩ : ∃ x, x = w.heap.size + 1 := ⟨_, rfl⟩
  rw [← hBTM] at BT
  rw [← hBNM] at BN2
  rw [← hBNM, ← hBTM]
  have HBT := Lib.hid hBTM
  have HBN := Lib.hid hBNM
  have BN := Lib.hid BN2
  clear hBTM hBNM BN2
  obtain ⟨p0, p1, p2, p3, p4, p5, p6, p7⟩ := BT.out.c
  have n0 := BN.out.cell
  gi_upto_region 4 with (fail)
  clear p0 p1 p2 p3 p4 p5 p6 p7 n0
  have BT2 := Lib.hid ((BT.out.kept (World.grownBy_alloc w1 (.cells #[.int .i64 0] 2) none) (by simp)).kept (World.grownBy_alloc _ (.cells #[.int .i64 0] 2) none) (by simp))
  have BN2 := Lib.hid ((BN.out.alloc (.cells #[.int .i64 0] 2)).alloc (.cells #[.int .i64 0] 2))
  have BA2 := (Boxed.new w1 2 (.int .i64 0)).alloc (.cells #[.int .i64 0] 2)
  have BM2 := Boxed.new (w1.alloc (.cells #[.int .i64 0] 2)) 2 (.int .i64 0)
  rw [World.size_alloc] at BM2
  have G2 := Lib.hid ((G.out.alloc (.cells #[.int .i64 0] 2)).alloc (.cells #[.int .i64 0] 2))
  have hlt0 : BNM < w1.heap.size := BN.out.lt
  generalize (w1.alloc (.cells #[.int .i64 0] 2)).alloc (.cells #[.int .i64 0] 2) = w2 at *
  obtain ⟨BA, hBA⟩ : ∃ x, x = w1.heap.size := ⟨_, rfl⟩
  obtain ⟨BM, hBM⟩ : ∃ x, x = w1.heap.size + 1 := ⟨_, rfl⟩
  rw [← hBA] at BA2
  rw [← hBM] at BM2
  rw [← hBM, ← hBA]
  have HBS := Lib.hid (show BTM < BNM ∧ BNM < BA ∧ BA < BM ∧ w.heap.size ≤ BTM by have := HBT.out; have := HBN.out; omega)
  have KO := Lib.hid (impl_kidsOut u nm w2 (HU.out.grow G2.out) c HOK.out)
  replace BA2 := Lib.hid BA2
  replace BM2 := Lib.hid BM2
  clear hBA hBM hlt0 G BT BN w1
  obtain ⟨p0, p1, p2, p3, p4, p5, p6, p7⟩ := BT2.out.c
  have n0 := BN2.out.cell
  gi_wp2_with (gi_at_call 79; refine (callsIn_wide.2 KO.out).mono ?_; clear KO; rintro e w3 ⟨B, rfl, hB1, hB2, hc, g3⟩)
  clear p0 p1 p2 p3 p4 p5 p6 p7 n0
  obtain ⟨xs, hxs⟩ : ∃ xs, xs = u.ks.take (vU u nm) := ⟨_, rfl⟩
  have hxl : xs.length = vU u nm := by rw [hxs, List.length_take]; have := VL.out; omega
  have hxg : ∀ (i : Nat) (hi : i < xs.length), ∃ h : i < u.ks.length, xs[i] = u.ks[i] := take_at hxs
  have XG := Lib.hid hxg
  have TS := Lib.hid (show tmSl w u.a u.cap xs by rw [hxs]; exact tm_take HU.out.kids _ VL.out)
  have XL := Lib.hid hxl
  replace hc : w3.cell? ⟨B, 0, none⟩ = some (.slice u.a xs.length u.cap) := by rw [hc, hxl]; rfl
  have HC := Lib.hid hc
  have HB := Lib.hid (show BM < B by have := BM2.out.lt; omega)
  have G3 := Lib.hid (G2.out.trans g3)
  have hsz : w2.heap.size ≤ w3.heap.size := g3.size
  have I0 := Lib.hid (show ((Boxed w3 BA 2 (.int .i64 ((sF u nm (valsF ([] : List (Fin xs.length)))).1 : Nat)) ∧ Boxed w3 BM 2 (.int .i64 ((sF u nm (valsF ([] : List (Fin xs.length)))).2 : Nat))) ∧ (BoxM w3 BTM u ∧ Boxed w3 BNM 9 (.string nm))) ∧ Below w.heap.size w w3 from
    ⟨⟨⟨(g3.block _ BA2.out.lt).trans BA2.out, (g3.block _ BM2.out.lt).trans BM2.out⟩, BT2.out.grow g3, (g3.block _ BN2.out.lt).trans BN2.out⟩, G3.out⟩)
  have HS3 := Lib.hid (show BTM < w3.heap.size ∧ BM < w3.heap.size ∧ w.heap.size ≤ w3.heap.size from ⟨by have := BT2.out.lt; omega, by have := BM2.out.lt; omega, G3.out.size⟩)
  clear hxs hxl hxg hc g3 hB1 hsz BT2 BN2 BA2 BM2 G2 w2
  refine wpIn_rangeFunc_ownH rfl (by omega) (gf := 128) (lb := #[.pointer (some ⟨B, 0, none⟩)]) rfl trivial (enters_of Tryd.func128 (by kernel_rfl) rfl)
    (allT_stops (9 - 1) (by omega) B u.a u.cap xs w w3 hB2 HC.out TS.out G3.out) belowK_t (belowK_b HS3.out.2.2) (Below.refl _ _) (fun _ => rfl)
    (fun pre W => ((Boxed W BA 2 (.int .i64 ((sF u nm (valsF pre)).1 : Nat)) ∧ Boxed W BM 2 (.int .i64 ((sF u nm (valsF pre)).2 : Nat))) ∧ (BoxM W BTM u ∧ Boxed W BNM 9 (.string nm))) ∧ Below w.heap.size w W)
    (fun _ _ _ => False)
    (OwnFrom.and (OwnFrom.and (OwnFrom.and (Own.from (boxed_own _ _ _) _) (Own.from (boxed_own _ _ _) _)) (OwnFrom.and (Own.from (boxM_own _ _) _) (Own.from (boxed_own _ _ _) _))) (ownFrom_below (Nat.le_refl _) HS3.out.2.2))
    (fun _ _ _ _ _ hs _ _ => hs)
    I0.out
    (fun x a' W => ∃ Bx, (BM < Bx ∧ BoxM W Bx xs[x.val]) ∧ a' = { tmps := #[u.val, .string nm, .pointer (some ⟨BTM, 0, none⟩), .pointer (some ⟨BNM, 0, none⟩), .int .i64 0, .pointer (some ⟨BA, 0, none⟩), .pointer (some ⟨BM, 0, none⟩), .int .i64 (x.val : Int), .pointer (some ⟨Bx, 0, none⟩), undef, .pointer (some ⟨BTM, 0, none⟩), .int .i64 u.k, .bool false, undef, undef, undef, undef, undef, u.val, .string nm, .func (.func 128) #[] #[.pointer (some ⟨B, 0, none⟩)], .int .i64 (x.val : Int), xs[x.val].val, undef, undef, undef, undef, undef, undef, undef, undef, undef, undef, undef, undef, undef, undef, undef], defers := [] })
    (fun x a' _ X Y row hs hg hr => by obtain ⟨Bx, ⟨h1, h2⟩, h3⟩ := hs; exact ⟨Bx, ⟨h1, boxM_own Bx (fun (_ : Unit) => xs[x.val]) () X Y row h2 hg (fun r e => (hr r e).2)⟩, h3⟩)
    ?assign ?body ?done ?stop
  case assign =>
    rintro l pre x W K hi hK
    have HI := Lib.hid hi
    have HK := Lib.hid hK
    clear hi hK
    gi_wp2
    obtain ⟨⟨⟨iA, iM⟩, iT, iN⟩, iB⟩ := HI.out
    exact HK.out _ _ ((KeepsOthers.alloc _ _).from _) ((Below.refl _ W).alloc iB.size _) ⟨⟨⟨iA.alloc _, iM.alloc _⟩, iT.kept (World.grownBy_alloc _ _ none) (by simp), iN.alloc _⟩, iB.alloc iB.size _⟩ ⟨W.heap.size, ⟨iM.lt, BoxM.new W _ _⟩, rfl⟩
  case body =>
    rintro l pre x a' W hl ⟨r, hr⟩ hi ⟨Bx, ⟨hBx, hX⟩, rfl⟩ hlen2
    obtain ⟨hlt, he⟩ := XG.out x.val x.isLt
    obtain ⟨⟨⟨iA, iM⟩, iT, iN⟩, iB⟩ := hi
    have KEY : Calls Tryd.prog 44 #[xs[x.val].val, .string nm] W (IntGw (u.ks[x.val].tm.us nm : Int) W) := by
      obtain ⟨_, _, _, hk⟩ := tmAt.kid (gSl.grow tmLen tmGr TS.out iB) x.val x.isLt
      have h2 := hk.2
      rw [he] at h2 ⊢
      exact ih u.ks[x.val] (List.getElem_mem hlt) W (flg u.k x.val) h2 (ok_kid HOK.out x.val hlt) (by have := nn_kid u x.val hlt; have := HD.out; omega)
    have KE := Lib.hid KEY
    have HX := Lib.hid hX
    obtain ⟨z0, z1, z2, z3, z4, z5, z6, z7⟩ := hX.c
    have n0 := iN.cell
    clear KEY he hX hr r
    have L5 := Lib.hid (len5 HOK.out)
    have hsb := sF_le u nm HD.out (valsF pre) (by have := L5.out; have := XL.out; have := VL.out; simp only [valsF, List.length_map]; omega)
    obtain ⟨s, hs⟩ : ∃ s, s = (sF u nm (valsF pre)).1 := ⟨_, rfl⟩
    obtain ⟨m, hm⟩ : ∃ m, m = (sF u nm (valsF pre)).2 := ⟨_, rfl⟩
    rw [← hs] at iA hsb
    rw [← hm] at iM hsb
    obtain ⟨hs1, hm1⟩ := hsb
    obtain ⟨y, hy⟩ : ∃ y, y = u.ks[x.val].tm.us nm := ⟨_, rfl⟩
    have hy1 : y ≤ 1000 := by rw [hy]; have := us_le nm u.ks[x.val].tm; have := nn_kid u x.val hlt; have := HD.out; omega
    rw [← hy] at KE
    have SN := Lib.hid (sF_snoc u nm (valsF pre) x.val)
    rw [← hs, ← hm, usL_get u nm x.val hlt, ← hy] at SN
    have IAM := Lib.hid (And.intro iA (And.intro iM (And.intro iT (And.intro iN iB))))
    clear hs hm hy iA iM iT iN iB L5
    gi_wp2_with fail
    refine (CallsIn.inRound l (callsIn_wide.2 KE.out)).mono ?_
    rintro e W4 ⟨rfl, g4⟩
    clear z0 z1 z2 z3 z4 z5 z6 z7 n0 KE
    obtain ⟨iA, iM, iT, iN, iB⟩ := IAM.out
    have iA4 : Boxed W4 BA 2 (.int .i64 s) := (g4.block _ iA.lt).trans iA
    have iM4 : Boxed W4 BM 2 (.int .i64 m) := (g4.block _ iM.lt).trans iM
    have iT4 := iT.grow g4
    have iN4 : Boxed W4 BNM 9 (.string nm) := (g4.block _ iN.lt).trans iN
    have hWs := iB.size
    have I4 := Lib.hid (And.intro iA4 (And.intro iM4 (And.intro iT4 iN4)))
    have G4 := Lib.hid (And.intro g4 (And.intro iB hWs))
    obtain ⟨t0, t1, t2, t3, t4, t5, t6, t7⟩ := iT4.c
    have KB := Lib.hid (impl_isBranch u W4 x.val)
    clear iA iM iT iN iB iA4 iM4 iT4 iN4 g4 hWs
    gi_wp2_with fail
    refine (CallsIn.inRound l (callsIn_wide.2 KB.out)).mono ?_
    rintro e W5 ⟨rfl, g5⟩
    clear t0 t1 t2 t3 t4 t5 t6 t7 KB
    obtain ⟨iA4, iM4, iT4, iN4⟩ := I4.out
    have iA5 : Boxed W5 BA 2 (.int .i64 s) := (g5.block _ iA4.lt).trans iA4
    have iM5 : Boxed W5 BM 2 (.int .i64 m) := (g5.block _ iM4.lt).trans iM4
    have iT5 := iT4.grow g5
    have iN5 : Boxed W5 BNM 9 (.string nm) := (g5.block _ iN4.lt).trans iN4
    have I5 := Lib.hid (And.intro iA5 (And.intro iM5 (And.intro iT5 iN5)))
    have G5 := Lib.hid (show Gw W W5 from G4.out.1.trans g5)
    have cA := iA5.cell
    have cM := iM5.cell
    have fA := iA5.frozen
    have fM := iM5.frozen
    clear iA4 iM4 iT4 iN4 iA5 iM5 iT5 iN5 g5
    have KF := Lib.hid (show ∀ p v, w.heap.size ≤ p → KeepsFrom w3.heap.size W (W5.setCell ⟨p, 0, none⟩ v) ∧ Below w.heap.size W (W5.setCell ⟨p, 0, none⟩ v) ∧ Below w.heap.size w (W5.setCell ⟨p, 0, none⟩ v) from fun p v hp =>
      ⟨(keeps_of_gw G5.out).trans ((KeepsOthers.setCell _ _ _).from _), (G5.out.mono G4.out.2.2).setCell (p := ⟨p, 0, none⟩) hp v, (G4.out.2.1.trans (G5.out.mono G4.out.2.2)).setCell (p := ⟨p, 0, none⟩) hp v⟩)
    cases hbr : ((u.k == 9 || u.k == 11) && decide (0 < x.val)) with
    | true =>
      have SN2 := Lib.hid (show sF u nm (valsF (pre ++ [x])) = (s, max m y) by rw [valsF_snoc, SN.out]; unfold brK; rw [hbr]; rfl)
      clear hbr
      by_cases hmy : m < y
      · have qmy : (m : Int) < y := by omega
        have EM := Lib.hid (show max m y = y by omega)
        clear hmy
        gi_wp2
        obtain ⟨iA5, iM5, iT5, iN5⟩ := I5.out
        obtain ⟨b1, b2, b3, b4⟩ := HBS.out
        obtain ⟨k1, k2, k3⟩ := KF.out BM (.int .i64 (y : Int)) (by omega)
        refine ⟨k1, k2, ⟨⟨?_, ?_⟩, iT5.set (by omega) _, iN5.other (by omega) _⟩, k3⟩
        · rw [SN2.out]; exact iA5.other (by omega) _
        · rw [SN2.out, EM.out]; exact iM5.set _
      · have qmy : ¬ (m : Int) < y := by omega
        have EM := Lib.hid (show max m y = m by omega)
        clear hmy
        gi_wp2
        obtain ⟨iA5, iM5, iT5, iN5⟩ := I5.out
        obtain ⟨b1, b2, b3, b4⟩ := HBS.out
        obtain ⟨k1, k2, k3⟩ := KF.out BM (.int .i64 (m : Int)) (by omega)
        refine ⟨k1, k2, ⟨⟨?_, ?_⟩, iT5.set (by omega) _, iN5.other (by omega) _⟩, k3⟩
        · rw [SN2.out]; exact iA5.other (by omega) _
        · rw [SN2.out, EM.out]; exact iM5.set _
    | false =>
      have SN2 := Lib.hid (show sF u nm (valsF (pre ++ [x])) = (s + y, m) by rw [valsF_snoc, SN.out]; unfold brK; rw [hbr]; rfl)
      clear hbr
      gi_wp2
      obtain ⟨iA5, iM5, iT5, iN5⟩ := I5.out
      obtain ⟨b1, b2, b3, b4⟩ := HBS.out
      obtain ⟨k1, k2, k3⟩ := KF.out BA (.int .i64 ((s : Int) + y)) (by omega)
      refine ⟨k1, k2, ⟨⟨?_, ?_⟩, iT5.set (by omega) _, iN5.other (by omega) _⟩, k3⟩
      · rw [SN2.out, show ((s + y : Nat) : Int) = (s : Int) + y by omega]; exact iA5.set _
      · rw [SN2.out]; exact iM5.other (by omega) _
  case done =>
    rintro D ys W hD rfl ⟨⟨⟨iA, iM⟩, iT, iN⟩, iB⟩ hK
    have ES := Lib.hid (show sF u nm (valsF (List.finRange xs.length)) = (sU u nm (vU u nm), mU u nm (vU u nm)) by unfold valsF sU mU; rw [vals_all, sF_range, XL.out])
    rw [ES.out] at iA iM
    obtain ⟨s, hs⟩ : ∃ s, s = sU u nm (vU u nm) := ⟨_, rfl⟩
    obtain ⟨m, hm⟩ : ∃ m, m = mU u nm (vU u nm) := ⟨_, rfl⟩
    have hsm : s + m ≤ 1000 := by have := sU_le u nm (vU u nm); have := HD.out; omega
    have FF := Lib.hid (show u.tm.us nm = s + m by rw [FIN.out, hs, hm])
    simp only at iA iM
    rw [← hs] at iA
    rw [← hm] at iM
    have hs1 : s ≤ 1000 := by omega
    have hm1 : m ≤ 1000 := by omega
    have cA := iA.cell
    have cM := iM.cell
    have BB := Lib.hid (iB.trans (belowK_b (w := w) (Nat.le_refl _) W D _ (.deferred none) (by have := HS3.out; omega) hK rfl rfl))
    have HKK := Lib.hid hK
    clear hs hm iA iM iT iN iB hK
    gi_wp2
    refine ⟨by simp, .inl ⟨_, _, rfl, run_takeDeferred HKK.out, ?_⟩⟩
    exact ⟨_, results_tmp rfl _ _ _, by rw [FF.out]; rfl, BB.out⟩
  case stop =>
    rintro D c pre W _ _ h _
    exact h.elim

set_option maxRecDepth 100000 in
set_option maxHeartbeats 4000000 in
theorem usi_leaf (nm : ByteArray) (hnm : nm.size ≤ 9223372036854775807) (u : LM) (w : World) (hu : u.Ok w) (h1 : u.k = 1) : Calls Tryd.prog 44 #[u.val, .string nm] w (IntGw (u.tm.us nm : Int) w) := by
  have hn : u.n.size ≤ 9223372036854775807 := hu.nm
  have F := Lib.hid (us_var (nm := nm) h1)
  have q1 : (u.k == 1) = true := by simpa using h1
  have g0 : Gw w ((w.alloc (.cells #[.int .i64 u.k, .int .i64 u.m, .string u.n, .int .i64 u.t.k, .string u.t.n, .slice u.t.a u.t.ks.length u.t.cap, .slice u.na u.ns.length u.nc, .slice u.a u.ks.length u.cap] 50)).alloc (.cells #[.string nm] 9)) := ((Gw.refl w).alloc _).alloc _
  have BT := Lib.hid ((BoxM.new w u 50).grow ((Gw.refl _).alloc (.cells #[.string nm] 9)))
  have BN := Boxed.new (w.alloc (.cells #[.int .i64 u.k, .int .i64 u.m, .string u.n, .int .i64 u.t.k, .string u.t.n, .slice u.t.a u.t.ks.length u.t.cap, .slice u.na u.ns.length u.nc, .slice u.a u.ks.length u.cap] 50)) 9 (.string nm)
  rw [World.size_alloc] at BN
  have G := Lib.hid g0
  clear hu h1 g0
  refine (callsIn_wide (n := 9)).1 ?_
  refine callsIn_of_wp Tryd.func44 rfl trivial ?_ rfl
  simp only [Tryd.ntmps44, List.size_toArray, List.length_cons, List.length_nil, Nat.reduceAdd, Nat.reduceSub, Array.replicate_succ, Array.replicate_zero, List.push_toArray, List.append_toArray, List.nil_append, List.cons_append]
  have f1 : Fence.wide.fn 78 := trivial
  gi_upto_region 1 with (fail)
  generalize (w.alloc (.cells #[.int .i64 u.k, .int .i64 u.m, .string u.n, .int .i64 u.t.k, .string u.t.n, .slice u.t.a u.t.ks.length u.t.cap, .slice u.na u.ns.length u.nc, .slice u.a u.ks.length u.cap] 50)).alloc (.cells #[.string nm] 9) = w1 at *
  obtain ⟨p0, p1, p2, p3, p4, p5, p6, p7⟩ := BT.out.c
  have n0 := BN.cell
  clear BN
  have KEY : ∀ b, b = (u.n.toList == nm.toList) → CallsIn Fence.wide (9 - 1) Tryd.prog 78 #[.bool b] w1 fun e w' => e = .returned (.int .i64 (u.tm.us nm)) ∧ w' = w1 := fun b hb => by
    rw [F.out, ← hb]
    cases b <;> exact callsIn_wide.2 (impl_oneIf _ _)
  have KE := Lib.hid KEY
  clear KEY
  cases hb : (u.n.toList == nm.toList) with
  | true =>
    have K2 := KE.out true hb.symm
    clear KE
    have HB := Lib.hid hb
    gi_wp2_with fail
    refine K2.mono ?_
    clear K2
    rintro e w2 ⟨rfl, rfl⟩
    gi_wp2
    go_ret
    exact ⟨rfl, G.out⟩
  | false =>
    have K2 := KE.out false hb.symm
    clear KE
    have HB := Lib.hid hb
    gi_wp2_with fail
    refine K2.mono ?_
    clear K2
    rintro e w2 ⟨rfl, rfl⟩
    gi_wp2
    go_ret
    exact ⟨rfl, G.out⟩

theorem usi_all (nm : ByteArray) (hnm : nm.size ≤ 9223372036854775807) (u : LM) : UsI nm u := by
  refine LM.ind (P := UsI nm) (fun k m n t na nc ns a cap ks ih => ?_) u
  intro w c hu hok hd
  by_cases h1 : (LM.mk k m n t na nc ns a cap ks).k = 1
  · exact usi_leaf nm hnm (.mk k m n t na nc ns a cap ks) w hu h1
  · exact usi_body nm hnm (.mk k m n t na nc ns a cap ks) ih w c hu hok hd h1

theorem impl_usesOf (u : LM) (nm : ByteArray) (hnm : nm.size ≤ 9223372036854775807) (w : World) (h : u.Ok w) (hT : Tbl w) : Calls Tryd.prog 15 #[u.val, .string nm] w (IntGw (usT nm u.tm) w) := by
  have g0 := (Gw.refl w).alloc (.cells #[.int .i64 u.k, .int .i64 u.m, .string u.n, .int .i64 u.t.k, .string u.t.n, .slice u.t.a u.t.ks.length u.t.cap, .slice u.na u.ns.length u.nc, .slice u.a u.ks.length u.cap] 50)
  have BX := Lib.hid (BoxM.new w u 50)
  have HU := Lib.hid (h.grow g0)
  have KEY := Lib.hid (impl_validTm u _ (h.grow g0) (hT.grow g0))
  have G := Lib.hid g0
  clear h hT g0
  go_enter Tryd.func15, Tryd.ntmps15
  go_upto_region 1 with (fail)
  generalize w.alloc (.cells #[.int .i64 u.k, .int .i64 u.m, .string u.n, .int .i64 u.t.k, .string u.t.n, .slice u.t.a u.t.ks.length u.t.cap, .slice u.na u.ns.length u.nc, .slice u.a u.ks.length u.cap] 50) = w0 at *
  obtain ⟨p0, p1, p2, p3, p4, p5, p6, p7⟩ := BX.out.c
  go_wp2_with fail
  refine KEY.out.mono ?_
  rintro e w1 ⟨rfl, g1⟩
  clear p0 p1 p2 p3 p4 p5 p6 p7
  have BX2 := Lib.hid (BX.out.grow g1)
  obtain ⟨p0, p1, p2, p3, p4, p5, p6, p7⟩ := BX2.out.c
  cases hok : okT u.tm with
  | false =>
    have F := Lib.hid (show usT nm u.tm = 0 by unfold usT; rw [hok]; rfl)
    clear hok
    go_wp2_with fail
    go_ret
    exact ⟨ret_int F.out.symm, G.out.trans g1⟩
  | true =>
    have F := Lib.hid (show usT nm u.tm = u.tm.us nm by unfold usT; rw [hok]; rfl)
    have K2 := Lib.hid (usi_all nm hnm u w1 false (HU.out.grow g1) (okT_good hok).1 (by have := (okT_good hok).2.2; omega))
    have G1 := Lib.hid (G.out.trans g1)
    clear hok g1
    go_wp2_with fail
    refine K2.out.mono ?_
    rintro e w2 ⟨rfl, g2⟩
    go_wp2_with fail
    go_ret
    exact ⟨ret_int F.out.symm, G1.out.trans g2⟩

end Go.Proofs.YtkfplnnncfkjfaaDoor.Con
