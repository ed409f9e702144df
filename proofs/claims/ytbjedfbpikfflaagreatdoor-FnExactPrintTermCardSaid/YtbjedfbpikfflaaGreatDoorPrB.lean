/-
  The model's printing of a term's node, kind by kind (l04Bare), and of a term in its place (l04Print). Condition: the term is valid (Tm.ok) and has at most 160 nodes.
-/
import Derived.Test.YtbjedfbpikfflaaGreatDoorPrS
namespace Go.Proofs.YtbjedfbpikfflaaGreatDoor.Con
open Go.RowKit
set_option linter.unusedVariables false

theorem AtM.drew {w : World} {b o : Nat} {u : LM} (h : AtM w b o u) : AtM w.drew b o u := ⟨h.1, h.2.drew⟩
/-- A text is returned, no longer than n. -/
def StrP (l : List UInt8) (n : Nat) (w : World) (e : Ending) (w' : World) : Prop := ∃ S : ByteArray, S = str l ∧ S.size ≤ n ∧ e = .returned (.string S) ∧ Gw w w'
theorem StrGw.p {l : List UInt8} {n : Nat} {w : World} {e : Ending} {w' : World} (h : StrGw l w e w') (hn : l.length ≤ n) : StrP l n w e w' := ⟨_, rfl, by rw [str_size]; exact hn, h.1, h.2⟩
/-- l04Print prints u. -/
def PrK (u : LM) : Prop := ∀ (L : Int) (b o : Nat) (w : World), u.tm.ok false = true → u.tm.nn ≤ 160 → -1 ≤ L → L ≤ 8 → AtM w b o u →
    Calls Tryz.prog 13 #[.pointer (some ⟨b, o, none⟩), .int .i64 L] w (StrGw (wrP L (lvM u.k u.m) u.tm.txt) w)
theorem PrK.at {u : LM} (h : PrK u) (L : Int) (b o : Nat) (w : World) (h1 : u.tm.ok false = true) (h2 : u.tm.nn ≤ 160) (h3 : -1 ≤ L) (h4 : L ≤ 8) (hA : AtM w b o u) :
    Calls Tryz.prog 13 #[.pointer (some ⟨b, o, none⟩), .int .i64 L] w (StrP (wrP L (lvM u.k u.m) u.tm.txt) 64002 w) :=
  (h L b o w h1 h2 h3 h4 hA).mono fun e w' hh => hh.p (by have := wr_len L (lvM u.k u.m) u.tm.txt; have := txt_len u.tm false h1; omega)
theorem PrK.at0 {u : LM} (h : PrK u) (b o : Nat) (w : World) (h1 : u.tm.ok false = true) (h2 : u.tm.nn ≤ 160) (hA : AtM w b o u) :
    Calls Tryz.prog 13 #[.pointer (some ⟨b, o, none⟩), .int .i64 0] w (StrP u.tm.txt 64002 w) :=
  (h 0 b o w h1 h2 (by omega) (by omega) hA).mono fun e w' hh => by rw [wr_zero] at hh; exact hh.p (by have := txt_len u.tm false h1; omega)
theorem spec_opt (m : Int) (w : World) : Calls Tryz.prog 37 #[.int .i64 m] w (StrP (opTextV m).data.toList 1 w) :=
  (spec_optext m w).mono fun e w' ⟨he, hg⟩ => ⟨opTextV m, (str_data _).symm, by rw [← data_len]; exact opText_len m, he, hg⟩
theorem spec_tyt (t : LT) (w : World) (h : t.Ok w) : Calls Tryz.prog 38 #[t.val] w (StrP (textOf t.ty) 320 w) :=
  (spec_typeText t w h).mono fun e w' hh => hh.p (textOf_len _)
theorem kids_row {w : World} {u : LM} (h : u.Ok w) (h0 : u.ks ≠ []) : ∃ b o, u.a = some ⟨b, o, none⟩ ∧ gRow 8 tmE LM.Ok w u.ks b o := h.kids.2.2.resolve_left h0
theorem ret_st {a b : ByteArray} (h : a = b) : Ending.returned (.string a) = .returned (.string b) := by rw [h]

set_option maxRecDepth 100000 in
set_option maxHeartbeats 1000000 in
theorem bare_op1 (u x y : LM) (hk : u.k = 3) (hks : u.ks = [x, y]) (hlv : lvM 3 u.m = 1) (px : PrK x) (ox : x.tm.ok false = true) (nx : x.tm.nn ≤ 160) (py : PrK y) (oy : y.tm.ok false = true) (ny : y.tm.nn ≤ 160) (T : List UInt8) (hT : T = wrP 2 (lvM x.k x.m) x.tm.txt ++ [32] ++ (opTextV u.m).data.toList ++ [32] ++ wrP 2 (lvM y.k y.m) y.tm.txt) (b o : Nat) (w : World) (hA : AtM w b o u) :
    Calls Tryz.prog 26 #[.pointer (some ⟨b, o, none⟩)] w (StrGw T w) := by
  obtain ⟨b', o', ha, hr⟩ := kids_row hA.2 (by rw [hks]; simp)
  have ot := hA.2.ty
  obtain ⟨c0, c1, c2, c3, c4, c5, c6, c7⟩ := hA.c
  have key := spec_level u.k u.m b o w c0 c1
  rw [hk, hlv] at key
  have hwr : IntKind.i64.wrap 2 = 2 := by decide
  rw [hk] at c0
  rw [hks, ha] at c7
  rw [hks] at hr
  have ax : AtM w b' o' x := by have := row_at hr 0 (by simp); simpa using this
  have ay : AtM w b' (o' + 8) y := row_at hr 1 (by simp)
  have hB : b < w.heap.size := hA.lt
  have e3 : w.cell? ⟨b, o + 3 + 1, none⟩ = some (.string u.t.n) := c4
  have e4 : w.cell? ⟨b, o + 3 + 2, none⟩ = some (.slice u.t.a u.t.ks.length u.t.cap) := c5
  clear hr ha hks hk hA c4 c5 c6 hlv c2 c3 e3 e4 ot
  have HT := Lib.hid hT
  clear hT
  go_enter Tryz.func26, Tryz.ntmps26
  go_wp2_with (go_at_call 25; refine key.mono ?_; rintro e w' ⟨rfl, rfl⟩)
  go_region_held3 (fun W => W.cell? ⟨b, o + 7, none⟩ = some (.slice (some ⟨b', o', none⟩) 2 u.cap) ∧ W.cell? ⟨b, o + 1, none⟩ = some (.int .i64 u.m))
    (first | exact ⟨c7, c1⟩ | exact ⟨(k1 _ _ hB).trans c7, (k1 _ _ hB).trans c1⟩ | exact ⟨(k2 _ _ hB).trans c7, (k2 _ _ hB).trans c1⟩ | exact ⟨(k3 _ _ hB).trans c7, (k3 _ _ hB).trans c1⟩)
    (first
      | (go_at_call 13; (with_reducible refine (px.at 2 b' (o') _ ox nx (by omega) (by omega) (ax.drew)).mono ?_); rintro e w1 ⟨S1, hS1, z1, rfl, g1⟩; have HS1 := Lib.hid hS1; clear hS1; have k1 : ∀ b o, b < w.heap.size → w1.cell? ⟨b, o, none⟩ = w.cell? ⟨b, o, none⟩ := fun b o h => (bcell g1).1 b o h; have hq10 : ¬ (9223372036854775807 < S1.size + 1) := (by omega))
      | (go_at_call 37; refine (spec_opt u.m _).mono ?_; rintro e w2 ⟨S2, hS2, z2, rfl, g2⟩; have HS2 := Lib.hid hS2; clear hS2; have k2 : ∀ b o, b < w.heap.size → w2.cell? ⟨b, o, none⟩ = w.cell? ⟨b, o, none⟩ := fun b o h => ((bcell g2).1 b o (Nat.lt_of_lt_of_le h (g1.size))).trans (k1 b o h); have hq20 : ¬ (9223372036854775807 < S1.size + 1 + S2.size) := (by omega); have hq21 : ¬ (9223372036854775807 < S1.size + 1 + S2.size + 1) := (by omega))
      | (go_at_call 13; (with_reducible refine (py.at 2 b' (o' + 8) _ oy ny (by omega) (by omega) (((ay.drew).grow g1).grow g2)).mono ?_); rintro e w3 ⟨S3, hS3, z3, rfl, g3⟩; have HS3 := Lib.hid hS3; clear hS3; have k3 : ∀ b o, b < w.heap.size → w3.cell? ⟨b, o, none⟩ = w.cell? ⟨b, o, none⟩ := fun b o h => ((bcell g3).1 b o (Nat.lt_of_lt_of_le h (Nat.le_trans g1.size g2.size))).trans (k2 b o h); have hq30 : ¬ (9223372036854775807 < S1.size + 1 + S2.size + 1 + S3.size) := (by omega)))
  go_wp2_with fail
  go_ret
  refine ⟨ret_st ?_, ((((Gw.refl w).drew.trans g1).trans g2).trans g3)⟩
  rw [HT.out, HS1.out, HS2.out, HS3.out, ← str_add, ← str_add, ← str_add, ← str_add]

set_option maxRecDepth 100000 in
set_option maxHeartbeats 1000000 in
theorem bare_op2 (u x y : LM) (hk : u.k = 3) (hks : u.ks = [x, y]) (hlv : lvM 3 u.m = 2) (px : PrK x) (ox : x.tm.ok false = true) (nx : x.tm.nn ≤ 160) (py : PrK y) (oy : y.tm.ok false = true) (ny : y.tm.nn ≤ 160) (T : List UInt8) (hT : T = wrP 2 (lvM x.k x.m) x.tm.txt ++ [32] ++ (opTextV u.m).data.toList ++ [32] ++ wrP 3 (lvM y.k y.m) y.tm.txt) (b o : Nat) (w : World) (hA : AtM w b o u) :
    Calls Tryz.prog 26 #[.pointer (some ⟨b, o, none⟩)] w (StrGw T w) := by
  obtain ⟨b', o', ha, hr⟩ := kids_row hA.2 (by rw [hks]; simp)
  have ot := hA.2.ty
  obtain ⟨c0, c1, c2, c3, c4, c5, c6, c7⟩ := hA.c
  have key := spec_level u.k u.m b o w c0 c1
  rw [hk, hlv] at key
  have hwr : IntKind.i64.wrap 3 = 3 := by decide
  rw [hk] at c0
  rw [hks, ha] at c7
  rw [hks] at hr
  have ax : AtM w b' o' x := by have := row_at hr 0 (by simp); simpa using this
  have ay : AtM w b' (o' + 8) y := row_at hr 1 (by simp)
  have hB : b < w.heap.size := hA.lt
  have e3 : w.cell? ⟨b, o + 3 + 1, none⟩ = some (.string u.t.n) := c4
  have e4 : w.cell? ⟨b, o + 3 + 2, none⟩ = some (.slice u.t.a u.t.ks.length u.t.cap) := c5
  clear hr ha hks hk hA c4 c5 c6 hlv c2 c3 e3 e4 ot
  have HT := Lib.hid hT
  clear hT
  go_enter Tryz.func26, Tryz.ntmps26
  go_wp2_with (go_at_call 25; refine key.mono ?_; rintro e w' ⟨rfl, rfl⟩)
  go_region_held3 (fun W => W.cell? ⟨b, o + 7, none⟩ = some (.slice (some ⟨b', o', none⟩) 2 u.cap) ∧ W.cell? ⟨b, o + 1, none⟩ = some (.int .i64 u.m))
    (first | exact ⟨c7, c1⟩ | exact ⟨(k1 _ _ hB).trans c7, (k1 _ _ hB).trans c1⟩ | exact ⟨(k2 _ _ hB).trans c7, (k2 _ _ hB).trans c1⟩ | exact ⟨(k3 _ _ hB).trans c7, (k3 _ _ hB).trans c1⟩)
    (first
      | (go_at_call 13; (with_reducible refine (px.at 2 b' (o') _ ox nx (by omega) (by omega) (ax.drew)).mono ?_); rintro e w1 ⟨S1, hS1, z1, rfl, g1⟩; have HS1 := Lib.hid hS1; clear hS1; have k1 : ∀ b o, b < w.heap.size → w1.cell? ⟨b, o, none⟩ = w.cell? ⟨b, o, none⟩ := fun b o h => (bcell g1).1 b o h; have hq10 : ¬ (9223372036854775807 < S1.size + 1) := (by omega))
      | (go_at_call 37; refine (spec_opt u.m _).mono ?_; rintro e w2 ⟨S2, hS2, z2, rfl, g2⟩; have HS2 := Lib.hid hS2; clear hS2; have k2 : ∀ b o, b < w.heap.size → w2.cell? ⟨b, o, none⟩ = w.cell? ⟨b, o, none⟩ := fun b o h => ((bcell g2).1 b o (Nat.lt_of_lt_of_le h (g1.size))).trans (k1 b o h); have hq20 : ¬ (9223372036854775807 < S1.size + 1 + S2.size) := (by omega); have hq21 : ¬ (9223372036854775807 < S1.size + 1 + S2.size + 1) := (by omega))
      | (go_at_call 13; (with_reducible refine (py.at 3 b' (o' + 8) _ oy ny (by omega) (by omega) (((ay.drew).grow g1).grow g2)).mono ?_); rintro e w3 ⟨S3, hS3, z3, rfl, g3⟩; have HS3 := Lib.hid hS3; clear hS3; have k3 : ∀ b o, b < w.heap.size → w3.cell? ⟨b, o, none⟩ = w.cell? ⟨b, o, none⟩ := fun b o h => ((bcell g3).1 b o (Nat.lt_of_lt_of_le h (Nat.le_trans g1.size g2.size))).trans (k2 b o h); have hq30 : ¬ (9223372036854775807 < S1.size + 1 + S2.size + 1 + S3.size) := (by omega)))
  go_wp2_with fail
  go_ret
  refine ⟨ret_st ?_, ((((Gw.refl w).drew.trans g1).trans g2).trans g3)⟩
  rw [HT.out, HS1.out, HS2.out, HS3.out, ← str_add, ← str_add, ← str_add, ← str_add]

set_option maxRecDepth 100000 in
set_option maxHeartbeats 1000000 in
theorem bare_op3 (u x y : LM) (hk : u.k = 3) (hks : u.ks = [x, y]) (hlv : lvM 3 u.m = 3) (px : PrK x) (ox : x.tm.ok false = true) (nx : x.tm.nn ≤ 160) (py : PrK y) (oy : y.tm.ok false = true) (ny : y.tm.nn ≤ 160) (T : List UInt8) (hT : T = wrP 3 (lvM x.k x.m) x.tm.txt ++ [32] ++ (opTextV u.m).data.toList ++ [32] ++ wrP 4 (lvM y.k y.m) y.tm.txt) (b o : Nat) (w : World) (hA : AtM w b o u) :
    Calls Tryz.prog 26 #[.pointer (some ⟨b, o, none⟩)] w (StrGw T w) := by
  obtain ⟨b', o', ha, hr⟩ := kids_row hA.2 (by rw [hks]; simp)
  have ot := hA.2.ty
  obtain ⟨c0, c1, c2, c3, c4, c5, c6, c7⟩ := hA.c
  have key := spec_level u.k u.m b o w c0 c1
  rw [hk, hlv] at key
  have hwr : IntKind.i64.wrap 4 = 4 := by decide
  rw [hk] at c0
  rw [hks, ha] at c7
  rw [hks] at hr
  have ax : AtM w b' o' x := by have := row_at hr 0 (by simp); simpa using this
  have ay : AtM w b' (o' + 8) y := row_at hr 1 (by simp)
  have hB : b < w.heap.size := hA.lt
  have e3 : w.cell? ⟨b, o + 3 + 1, none⟩ = some (.string u.t.n) := c4
  have e4 : w.cell? ⟨b, o + 3 + 2, none⟩ = some (.slice u.t.a u.t.ks.length u.t.cap) := c5
  clear hr ha hks hk hA c4 c5 c6 hlv c2 c3 e3 e4 ot
  have HT := Lib.hid hT
  clear hT
  go_enter Tryz.func26, Tryz.ntmps26
  go_wp2_with (go_at_call 25; refine key.mono ?_; rintro e w' ⟨rfl, rfl⟩)
  go_region_held3 (fun W => W.cell? ⟨b, o + 7, none⟩ = some (.slice (some ⟨b', o', none⟩) 2 u.cap) ∧ W.cell? ⟨b, o + 1, none⟩ = some (.int .i64 u.m))
    (first | exact ⟨c7, c1⟩ | exact ⟨(k1 _ _ hB).trans c7, (k1 _ _ hB).trans c1⟩ | exact ⟨(k2 _ _ hB).trans c7, (k2 _ _ hB).trans c1⟩ | exact ⟨(k3 _ _ hB).trans c7, (k3 _ _ hB).trans c1⟩)
    (first
      | (go_at_call 13; (with_reducible refine (px.at 3 b' (o') _ ox nx (by omega) (by omega) (ax.drew)).mono ?_); rintro e w1 ⟨S1, hS1, z1, rfl, g1⟩; have HS1 := Lib.hid hS1; clear hS1; have k1 : ∀ b o, b < w.heap.size → w1.cell? ⟨b, o, none⟩ = w.cell? ⟨b, o, none⟩ := fun b o h => (bcell g1).1 b o h; have hq10 : ¬ (9223372036854775807 < S1.size + 1) := (by omega))
      | (go_at_call 37; refine (spec_opt u.m _).mono ?_; rintro e w2 ⟨S2, hS2, z2, rfl, g2⟩; have HS2 := Lib.hid hS2; clear hS2; have k2 : ∀ b o, b < w.heap.size → w2.cell? ⟨b, o, none⟩ = w.cell? ⟨b, o, none⟩ := fun b o h => ((bcell g2).1 b o (Nat.lt_of_lt_of_le h (g1.size))).trans (k1 b o h); have hq20 : ¬ (9223372036854775807 < S1.size + 1 + S2.size) := (by omega); have hq21 : ¬ (9223372036854775807 < S1.size + 1 + S2.size + 1) := (by omega))
      | (go_at_call 13; (with_reducible refine (py.at 4 b' (o' + 8) _ oy ny (by omega) (by omega) (((ay.drew).grow g1).grow g2)).mono ?_); rintro e w3 ⟨S3, hS3, z3, rfl, g3⟩; have HS3 := Lib.hid hS3; clear hS3; have k3 : ∀ b o, b < w.heap.size → w3.cell? ⟨b, o, none⟩ = w.cell? ⟨b, o, none⟩ := fun b o h => ((bcell g3).1 b o (Nat.lt_of_lt_of_le h (Nat.le_trans g1.size g2.size))).trans (k2 b o h); have hq30 : ¬ (9223372036854775807 < S1.size + 1 + S2.size + 1 + S3.size) := (by omega)))
  go_wp2_with fail
  go_ret
  refine ⟨ret_st ?_, ((((Gw.refl w).drew.trans g1).trans g2).trans g3)⟩
  rw [HT.out, HS1.out, HS2.out, HS3.out, ← str_add, ← str_add, ← str_add, ← str_add]

set_option maxRecDepth 100000 in
set_option maxHeartbeats 1000000 in
theorem bare_lam (u x : LM) (hk : u.k = 4) (hks : u.ks = [x]) (hnm : u.n.size ≤ 12) (px : PrK x) (ox : x.tm.ok false = true) (nx : x.tm.nn ≤ 160) (T : List UInt8) (hT : T = [92] ++ u.n.data.toList ++ [58] ++ textOf u.t.ty ++ [46, 32] ++ x.tm.txt) (b o : Nat) (w : World) (hA : AtM w b o u) :
    Calls Tryz.prog 26 #[.pointer (some ⟨b, o, none⟩)] w (StrGw T w) := by
  obtain ⟨b', o', ha, hr⟩ := kids_row hA.2 (by rw [hks]; simp)
  have ot := hA.2.ty
  obtain ⟨c0, c1, c2, c3, c4, c5, c6, c7⟩ := hA.c
  rw [hk] at c0
  rw [hks, ha] at c7
  rw [hks] at hr
  have ax : AtM w b' o' x := by have := row_at hr 0 (by simp); simpa using this
  have hB : b < w.heap.size := hA.lt
  have e3 : w.cell? ⟨b, o + 3 + 1, none⟩ = some (.string u.t.n) := c4
  have e4 : w.cell? ⟨b, o + 3 + 2, none⟩ = some (.slice u.t.a u.t.ks.length u.t.cap) := c5
  clear hr ha hks hk hA c4 c5 c6 c1
  have HT := Lib.hid hT
  clear hT
  go_enter Tryz.func26, Tryz.ntmps26
  go_wp2_with fail
  have hq00 : ¬ (9223372036854775807 < 1 + u.n.size) := by omega
  have hq01 : ¬ (9223372036854775807 < 1 + u.n.size + 1) := by omega
  go_region_held3 (fun W => W.cell? ⟨b, o + 7, none⟩ = some (.slice (some ⟨b', o', none⟩) 1 u.cap) ∧ W.cell? ⟨b, o + 2, none⟩ = some (.string u.n) ∧ W.cell? ⟨b, o + 3, none⟩ = some (.int .i64 u.t.k) ∧ W.cell? ⟨b, o + 3 + 1, none⟩ = some (.string u.t.n) ∧ W.cell? ⟨b, o + 3 + 2, none⟩ = some (.slice u.t.a u.t.ks.length u.t.cap))
    (first | exact ⟨c7, c2, c3, e3, e4⟩ | exact ⟨(k1 _ _ hB).trans c7, (k1 _ _ hB).trans c2, (k1 _ _ hB).trans c3, (k1 _ _ hB).trans e3, (k1 _ _ hB).trans e4⟩ | exact ⟨(k2 _ _ hB).trans c7, (k2 _ _ hB).trans c2, (k2 _ _ hB).trans c3, (k2 _ _ hB).trans e3, (k2 _ _ hB).trans e4⟩)
    (first
      | (go_at_call 38; refine (spec_tyt u.t _ (ot.drew)).mono ?_; rintro e w1 ⟨S1, hS1, z1, rfl, g1⟩; have HS1 := Lib.hid hS1; clear hS1; have k1 : ∀ b o, b < w.heap.size → w1.cell? ⟨b, o, none⟩ = w.cell? ⟨b, o, none⟩ := fun b o h => (bcell g1).1 b o h; have hq10 : ¬ (9223372036854775807 < 1 + u.n.size + 1 + S1.size) := (by omega); have hq11 : ¬ (9223372036854775807 < 1 + u.n.size + 1 + S1.size + 2) := (by omega))
      | (go_at_call 13; (with_reducible refine (px.at0 b' (o') _ ox nx ((ax.drew).grow g1)).mono ?_); rintro e w2 ⟨S2, hS2, z2, rfl, g2⟩; have HS2 := Lib.hid hS2; clear hS2; have k2 : ∀ b o, b < w.heap.size → w2.cell? ⟨b, o, none⟩ = w.cell? ⟨b, o, none⟩ := fun b o h => ((bcell g2).1 b o (Nat.lt_of_lt_of_le h (g1.size))).trans (k1 b o h); have hq20 : ¬ (9223372036854775807 < 1 + u.n.size + 1 + S1.size + 2 + S2.size) := (by omega)))
  go_wp2_with fail
  go_ret
  refine ⟨ret_st ?_, (((Gw.refl w).drew.trans g1).trans g2)⟩
  rw [HT.out, HS1.out, HS2.out, ← str_add, ← str_add, ← str_add, ← str_add, ← str_add, str_data]

set_option maxRecDepth 100000 in
set_option maxHeartbeats 1000000 in
theorem bare_app (u x y : LM) (hk : u.k = 5) (hks : u.ks = [x, y]) (px : PrK x) (ox : x.tm.ok false = true) (nx : x.tm.nn ≤ 160) (py : PrK y) (oy : y.tm.ok false = true) (ny : y.tm.nn ≤ 160) (T : List UInt8) (hT : T = wrP 4 (lvM x.k x.m) x.tm.txt ++ [32] ++ wrP 5 (lvM y.k y.m) y.tm.txt) (b o : Nat) (w : World) (hA : AtM w b o u) :
    Calls Tryz.prog 26 #[.pointer (some ⟨b, o, none⟩)] w (StrGw T w) := by
  obtain ⟨b', o', ha, hr⟩ := kids_row hA.2 (by rw [hks]; simp)
  have ot := hA.2.ty
  obtain ⟨c0, c1, c2, c3, c4, c5, c6, c7⟩ := hA.c
  rw [hk] at c0
  rw [hks, ha] at c7
  rw [hks] at hr
  have ax : AtM w b' o' x := by have := row_at hr 0 (by simp); simpa using this
  have ay : AtM w b' (o' + 8) y := row_at hr 1 (by simp)
  have hB : b < w.heap.size := hA.lt
  have e3 : w.cell? ⟨b, o + 3 + 1, none⟩ = some (.string u.t.n) := c4
  have e4 : w.cell? ⟨b, o + 3 + 2, none⟩ = some (.slice u.t.a u.t.ks.length u.t.cap) := c5
  clear hr ha hks hk hA c4 c5 c6 c1 c2 c3 e3 e4 ot
  have HT := Lib.hid hT
  clear hT
  go_enter Tryz.func26, Tryz.ntmps26
  go_wp2_with fail
  go_region_held3 (fun W => W.cell? ⟨b, o + 7, none⟩ = some (.slice (some ⟨b', o', none⟩) 2 u.cap))
    (first | exact c7 | exact (k1 _ _ hB).trans c7 | exact (k2 _ _ hB).trans c7)
    (first
      | (go_at_call 13; (with_reducible refine (px.at 4 b' (o') _ ox nx (by omega) (by omega) (ax.drew)).mono ?_); rintro e w1 ⟨S1, hS1, z1, rfl, g1⟩; have HS1 := Lib.hid hS1; clear hS1; have k1 : ∀ b o, b < w.heap.size → w1.cell? ⟨b, o, none⟩ = w.cell? ⟨b, o, none⟩ := fun b o h => (bcell g1).1 b o h; have hq10 : ¬ (9223372036854775807 < S1.size + 1) := (by omega))
      | (go_at_call 13; (with_reducible refine (py.at 5 b' (o' + 8) _ oy ny (by omega) (by omega) ((ay.drew).grow g1)).mono ?_); rintro e w2 ⟨S2, hS2, z2, rfl, g2⟩; have HS2 := Lib.hid hS2; clear hS2; have k2 : ∀ b o, b < w.heap.size → w2.cell? ⟨b, o, none⟩ = w.cell? ⟨b, o, none⟩ := fun b o h => ((bcell g2).1 b o (Nat.lt_of_lt_of_le h (g1.size))).trans (k1 b o h); have hq20 : ¬ (9223372036854775807 < S1.size + 1 + S2.size) := (by omega)))
  go_wp2_with fail
  go_ret
  refine ⟨ret_st ?_, (((Gw.refl w).drew.trans g1).trans g2)⟩
  rw [HT.out, HS1.out, HS2.out, ← str_add, ← str_add]

set_option maxRecDepth 100000 in
set_option maxHeartbeats 1000000 in
theorem bare_let (u x y : LM) (hk : u.k = 7) (hks : u.ks = [x, y]) (hnm : u.n.size ≤ 12) (px : PrK x) (ox : x.tm.ok false = true) (nx : x.tm.nn ≤ 160) (py : PrK y) (oy : y.tm.ok false = true) (ny : y.tm.nn ≤ 160) (T : List UInt8) (hT : T = [108, 101, 116, 32] ++ u.n.data.toList ++ [32, 61, 32] ++ x.tm.txt ++ [32, 105, 110, 32] ++ y.tm.txt) (b o : Nat) (w : World) (hA : AtM w b o u) :
    Calls Tryz.prog 26 #[.pointer (some ⟨b, o, none⟩)] w (StrGw T w) := by
  obtain ⟨b', o', ha, hr⟩ := kids_row hA.2 (by rw [hks]; simp)
  have ot := hA.2.ty
  obtain ⟨c0, c1, c2, c3, c4, c5, c6, c7⟩ := hA.c
  rw [hk] at c0
  rw [hks, ha] at c7
  rw [hks] at hr
  have ax : AtM w b' o' x := by have := row_at hr 0 (by simp); simpa using this
  have ay : AtM w b' (o' + 8) y := row_at hr 1 (by simp)
  have hB : b < w.heap.size := hA.lt
  have e3 : w.cell? ⟨b, o + 3 + 1, none⟩ = some (.string u.t.n) := c4
  have e4 : w.cell? ⟨b, o + 3 + 2, none⟩ = some (.slice u.t.a u.t.ks.length u.t.cap) := c5
  clear hr ha hks hk hA c4 c5 c6 c1 c3 e3 e4 ot
  have HT := Lib.hid hT
  clear hT
  go_enter Tryz.func26, Tryz.ntmps26
  go_wp2_with fail
  have hq00 : ¬ (9223372036854775807 < 4 + u.n.size) := by omega
  have hq01 : ¬ (9223372036854775807 < 4 + u.n.size + 3) := by omega
  go_region_held3 (fun W => W.cell? ⟨b, o + 7, none⟩ = some (.slice (some ⟨b', o', none⟩) 2 u.cap) ∧ W.cell? ⟨b, o + 2, none⟩ = some (.string u.n))
    (first | exact ⟨c7, c2⟩ | exact ⟨(k1 _ _ hB).trans c7, (k1 _ _ hB).trans c2⟩ | exact ⟨(k2 _ _ hB).trans c7, (k2 _ _ hB).trans c2⟩)
    (first
      | (go_at_call 13; (with_reducible refine (px.at0 b' (o') _ ox nx (ax.drew)).mono ?_); rintro e w1 ⟨S1, hS1, z1, rfl, g1⟩; have HS1 := Lib.hid hS1; clear hS1; have k1 : ∀ b o, b < w.heap.size → w1.cell? ⟨b, o, none⟩ = w.cell? ⟨b, o, none⟩ := fun b o h => (bcell g1).1 b o h; have hq10 : ¬ (9223372036854775807 < 4 + u.n.size + 3 + S1.size) := (by omega); have hq11 : ¬ (9223372036854775807 < 4 + u.n.size + 3 + S1.size + 4) := (by omega))
      | (go_at_call 13; (with_reducible refine (py.at0 b' (o' + 8) _ oy ny ((ay.drew).grow g1)).mono ?_); rintro e w2 ⟨S2, hS2, z2, rfl, g2⟩; have HS2 := Lib.hid hS2; clear hS2; have k2 : ∀ b o, b < w.heap.size → w2.cell? ⟨b, o, none⟩ = w.cell? ⟨b, o, none⟩ := fun b o h => ((bcell g2).1 b o (Nat.lt_of_lt_of_le h (g1.size))).trans (k1 b o h); have hq20 : ¬ (9223372036854775807 < 4 + u.n.size + 3 + S1.size + 4 + S2.size) := (by omega)))
  go_wp2_with fail
  go_ret
  refine ⟨ret_st ?_, (((Gw.refl w).drew.trans g1).trans g2)⟩
  rw [HT.out, HS1.out, HS2.out, ← str_add, ← str_add, ← str_add, ← str_add, ← str_add, str_data]

set_option maxRecDepth 100000 in
set_option maxHeartbeats 1000000 in
theorem bare_if (u x y z : LM) (hk : u.k = 11) (hks : u.ks = [x, y, z]) (px : PrK x) (ox : x.tm.ok false = true) (nx : x.tm.nn ≤ 160) (py : PrK y) (oy : y.tm.ok false = true) (ny : y.tm.nn ≤ 160) (pz : PrK z) (oz : z.tm.ok false = true) (nz : z.tm.nn ≤ 160) (T : List UInt8) (hT : T = [105, 102, 32] ++ x.tm.txt ++ [32, 116, 104, 101, 110, 32] ++ y.tm.txt ++ [32, 101, 108, 115, 101, 32] ++ z.tm.txt) (b o : Nat) (w : World) (hA : AtM w b o u) :
    Calls Tryz.prog 26 #[.pointer (some ⟨b, o, none⟩)] w (StrGw T w) := by
  obtain ⟨b', o', ha, hr⟩ := kids_row hA.2 (by rw [hks]; simp)
  have ot := hA.2.ty
  obtain ⟨c0, c1, c2, c3, c4, c5, c6, c7⟩ := hA.c
  rw [hk] at c0
  rw [hks, ha] at c7
  rw [hks] at hr
  have ax : AtM w b' o' x := by have := row_at hr 0 (by simp); simpa using this
  have ay : AtM w b' (o' + 8) y := row_at hr 1 (by simp)
  have az : AtM w b' (o' + 16) z := row_at hr 2 (by simp)
  have hB : b < w.heap.size := hA.lt
  have e3 : w.cell? ⟨b, o + 3 + 1, none⟩ = some (.string u.t.n) := c4
  have e4 : w.cell? ⟨b, o + 3 + 2, none⟩ = some (.slice u.t.a u.t.ks.length u.t.cap) := c5
  clear hr ha hks hk hA c4 c5 c6 c1 c2 c3 e3 e4 ot
  have HT := Lib.hid hT
  clear hT
  go_enter Tryz.func26, Tryz.ntmps26
  go_wp2_with fail
  go_region_held3 (fun W => W.cell? ⟨b, o + 7, none⟩ = some (.slice (some ⟨b', o', none⟩) 3 u.cap))
    (first | exact c7 | exact (k1 _ _ hB).trans c7 | exact (k2 _ _ hB).trans c7 | exact (k3 _ _ hB).trans c7)
    (first
      | (go_at_call 13; (with_reducible refine (px.at0 b' (o') _ ox nx (ax.drew)).mono ?_); rintro e w1 ⟨S1, hS1, z1, rfl, g1⟩; have HS1 := Lib.hid hS1; clear hS1; have k1 : ∀ b o, b < w.heap.size → w1.cell? ⟨b, o, none⟩ = w.cell? ⟨b, o, none⟩ := fun b o h => (bcell g1).1 b o h; have hq10 : ¬ (9223372036854775807 < 3 + S1.size) := (by omega); have hq11 : ¬ (9223372036854775807 < 3 + S1.size + 6) := (by omega))
      | (go_at_call 13; (with_reducible refine (py.at0 b' (o' + 8) _ oy ny ((ay.drew).grow g1)).mono ?_); rintro e w2 ⟨S2, hS2, z2, rfl, g2⟩; have HS2 := Lib.hid hS2; clear hS2; have k2 : ∀ b o, b < w.heap.size → w2.cell? ⟨b, o, none⟩ = w.cell? ⟨b, o, none⟩ := fun b o h => ((bcell g2).1 b o (Nat.lt_of_lt_of_le h (g1.size))).trans (k1 b o h); have hq20 : ¬ (9223372036854775807 < 3 + S1.size + 6 + S2.size) := (by omega); have hq21 : ¬ (9223372036854775807 < 3 + S1.size + 6 + S2.size + 6) := (by omega))
      | (go_at_call 13; (with_reducible refine (pz.at0 b' (o' + 16) _ oz nz (((az.drew).grow g1).grow g2)).mono ?_); rintro e w3 ⟨S3, hS3, z3, rfl, g3⟩; have HS3 := Lib.hid hS3; clear hS3; have k3 : ∀ b o, b < w.heap.size → w3.cell? ⟨b, o, none⟩ = w.cell? ⟨b, o, none⟩ := fun b o h => ((bcell g3).1 b o (Nat.lt_of_lt_of_le h (Nat.le_trans g1.size g2.size))).trans (k2 b o h); have hq30 : ¬ (9223372036854775807 < 3 + S1.size + 6 + S2.size + 6 + S3.size) := (by omega)))
  go_wp2_with fail
  go_ret
  refine ⟨ret_st ?_, ((((Gw.refl w).drew.trans g1).trans g2).trans g3)⟩
  rw [HT.out, HS1.out, HS2.out, HS3.out, ← str_add, ← str_add, ← str_add, ← str_add, ← str_add]

end Go.Proofs.YtbjedfbpikfflaaGreatDoor.Con
