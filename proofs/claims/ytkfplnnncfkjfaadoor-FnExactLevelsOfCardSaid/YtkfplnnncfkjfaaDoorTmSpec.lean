/-
  Contracts of the model's aids of valid terms: l03Kids, l03NoType, l03At, l03Distinct, l03Fields. No condition but that the term lies in memory.
-/
import Derived.Test.YtkfplnnncfkjfaaDoorTmVal
import Derived.Test.YtkfplnnncfkjfaaDoorStrS
import Derived.BigQuiet
import Derived.Deep.RegionHeld3
import Derived.Deep.Cut
namespace Go.Proofs.YtkfplnnncfkjfaaDoor.Con
open Go.RowKit
set_option linter.unusedVariables false

/-- At (b, o) lies the term u. -/
def tmAt (w : World) (b o : Nat) (u : LM) : Prop := (∀ j v, (tmE u)[j]? = some v → w.cell? ⟨b, o + j, none⟩ = some v) ∧ u.Ok w
theorem tmAt.grow {w w' : World} {b o : Nat} {u : LM} (h : tmAt w b o u) (g : Gw w w') : tmAt w' b o u :=
  ⟨fun j v hv => (g.cell (h.1 j v hv) (cell_lt (h.1 j v hv))), h.2.grow g⟩
theorem tmAt.c {w : World} {b o : Nat} {u : LM} (h : tmAt w b o u) : w.cell? ⟨b, o, none⟩ = some (.int .i64 u.k) ∧ w.cell? ⟨b, o + 1, none⟩ = some (.int .i64 u.m) ∧ w.cell? ⟨b, o + 2, none⟩ = some (.string u.n) ∧
    w.cell? ⟨b, o + 3, none⟩ = some (.int .i64 u.t.k) ∧ w.cell? ⟨b, o + 4, none⟩ = some (.string u.t.n) ∧ w.cell? ⟨b, o + 5, none⟩ = some (.slice u.t.a u.t.ks.length u.t.cap) ∧
    w.cell? ⟨b, o + 6, none⟩ = some (.slice u.na u.ns.length u.nc) ∧ w.cell? ⟨b, o + 7, none⟩ = some (.slice u.a u.ks.length u.cap) :=
  ⟨h.1 0 _ rfl, h.1 1 _ rfl, h.1 2 _ rfl, h.1 3 _ rfl, h.1 4 _ rfl, h.1 5 _ rfl, h.1 6 _ rfl, h.1 7 _ rfl⟩
theorem tmAt.kid {w : World} {a : Option Addr} {cap : Nat} {ks : List LM} (h : tmSl w a cap ks) (i : Nat) (hi : i < ks.length) : ∃ b o, a = some ⟨b, o, none⟩ ∧ tmAt w b (o + i * 8) ks[i] := by
  obtain ⟨b, o, e, hr⟩ := h.2.2.resolve_left (fun e => by rw [e] at hi; simp at hi)
  exact ⟨b, o, e, (hr i hi).1, (hr i hi).2⟩

theorem spec_kids (k : Int) (w : World) : Calls Tryd.prog 99 #[.int .i64 k] w fun e w' => e = .returned (.tuple #[.int .i64 (kidsLo k), .int .i64 (kidsHi k)]) ∧ w = w' := by
  by_cases h1 : k = 1
  · subst h1
    go_enter Tryd.func99, Tryd.ntmps99
    go_wp2_with fail
    exact bodyPost_ret (v := .tuple #[.int .i64 0, .int .i64 0]) (by simp [results, Tryd.results99, go_sem]) rfl ⟨rfl, rfl⟩
  by_cases h2 : k = 2
  · subst h2
    go_enter Tryd.func99, Tryd.ntmps99
    go_wp2_with fail
    exact bodyPost_ret (v := .tuple #[.int .i64 0, .int .i64 0]) (by simp [results, Tryd.results99, go_sem]) rfl ⟨rfl, rfl⟩
  by_cases h3 : k = 3
  · subst h3
    go_enter Tryd.func99, Tryd.ntmps99
    go_wp2_with fail
    exact bodyPost_ret (v := .tuple #[.int .i64 2, .int .i64 2]) (by simp [results, Tryd.results99, go_sem]) rfl ⟨rfl, rfl⟩
  by_cases h4 : k = 4
  · subst h4
    go_enter Tryd.func99, Tryd.ntmps99
    go_wp2_with fail
    exact bodyPost_ret (v := .tuple #[.int .i64 1, .int .i64 1]) (by simp [results, Tryd.results99, go_sem]) rfl ⟨rfl, rfl⟩
  by_cases h5 : k = 5
  · subst h5
    go_enter Tryd.func99, Tryd.ntmps99
    go_wp2_with fail
    exact bodyPost_ret (v := .tuple #[.int .i64 2, .int .i64 2]) (by simp [results, Tryd.results99, go_sem]) rfl ⟨rfl, rfl⟩
  by_cases h6 : k = 6
  · subst h6
    go_enter Tryd.func99, Tryd.ntmps99
    go_wp2_with fail
    exact bodyPost_ret (v := .tuple #[.int .i64 1, .int .i64 1]) (by simp [results, Tryd.results99, go_sem]) rfl ⟨rfl, rfl⟩
  by_cases h7 : k = 7
  · subst h7
    go_enter Tryd.func99, Tryd.ntmps99
    go_wp2_with fail
    exact bodyPost_ret (v := .tuple #[.int .i64 2, .int .i64 2]) (by simp [results, Tryd.results99, go_sem]) rfl ⟨rfl, rfl⟩
  by_cases h8 : k = 8
  · subst h8
    go_enter Tryd.func99, Tryd.ntmps99
    go_wp2_with fail
    exact bodyPost_ret (v := .tuple #[.int .i64 0, .int .i64 3]) (by simp [results, Tryd.results99, go_sem]) rfl ⟨rfl, rfl⟩
  by_cases h9 : k = 9
  · subst h9
    go_enter Tryd.func99, Tryd.ntmps99
    go_wp2_with fail
    exact bodyPost_ret (v := .tuple #[.int .i64 2, .int .i64 5]) (by simp [results, Tryd.results99, go_sem]) rfl ⟨rfl, rfl⟩
  by_cases h10 : k = 10
  · subst h10
    go_enter Tryd.func99, Tryd.ntmps99
    go_wp2_with fail
    exact bodyPost_ret (v := .tuple #[.int .i64 1, .int .i64 1]) (by simp [results, Tryd.results99, go_sem]) rfl ⟨rfl, rfl⟩
  by_cases h11 : k = 11
  · subst h11
    go_enter Tryd.func99, Tryd.ntmps99
    go_wp2_with fail
    exact bodyPost_ret (v := .tuple #[.int .i64 3, .int .i64 3]) (by simp [results, Tryd.results99, go_sem]) rfl ⟨rfl, rfl⟩
  have e1 : (k == 1) = false := by simpa using h1
  have e2 : (k == 2) = false := by simpa using h2
  have e3 : (k == 3) = false := by simpa using h3
  have e4 : (k == 4) = false := by simpa using h4
  have e5 : (k == 5) = false := by simpa using h5
  have e6 : (k == 6) = false := by simpa using h6
  have e7 : (k == 7) = false := by simpa using h7
  have e8 : (k == 8) = false := by simpa using h8
  have e9 : (k == 9) = false := by simpa using h9
  have e10 : (k == 10) = false := by simpa using h10
  have e11 : (k == 11) = false := by simpa using h11
  have f1 : kidsLo k = 0 := by unfold kidsLo; simp [h3, h4, h5, h6, h7, h9, h10, h11]
  have f2 : kidsHi k = -1 := by unfold kidsHi; simp [h1, h2, h3, h4, h5, h6, h7, h8, h9, h10, h11]
  rw [f1, f2]
  clear h1 h2 h3 h4 h5 h6 h7 h8 h9 h10 h11 f1 f2
  go_enter Tryd.func99, Tryd.ntmps99
  go_wp2_with fail
  exact bodyPost_ret (v := .tuple #[.int .i64 0, .int .i64 (-1)]) (by simp [results, Tryd.results99, go_sem]) rfl ⟨rfl, rfl⟩

theorem spec_inI (n lo hi : Int) (w : World) : Calls Tryd.prog 58 #[.int .i64 n, .int .i64 lo, .int .i64 hi] w (BoolGw (inI n lo hi) w) := by
  by_cases a : lo ≤ n <;> by_cases b : n ≤ hi <;> (
    go_enter Tryd.func58, Tryd.ntmps58
    go_wp2
    go_ret
    exact ⟨ret_b (by unfold inI; simp [a, b]), Gw.refl _⟩)

theorem spec_noTy (t : LT) (w : World) (h : t.Ok w) : Calls Tryd.prog 122 #[t.val] w (BoolGw (noTy t.ty) w) := by
  have hn : t.n.size ≤ 9223372036854775807 := h.nm
  have hl : t.ks.length ≤ 9223372036854775807 := Nat.le_trans h.kids.1 h.kids.2.1
  rw [noTy_eq]
  clear h
  have g := (Gw.refl w).alloc (.cells #[.int .i64 t.k, .string t.n, .slice t.a t.ks.length t.cap] 47)
  cases h0 : (t.k == 0) with
  | false =>
    go_enter Tryd.func122, Tryd.ntmps122
    go_wp2_with (go_quiet (fail))
    go_ret
    exact ⟨ret_b (by simp), by first | exact g | exact g.drewN _⟩
  | true =>
    cases h1 : t.n.toList.isEmpty with
    | false =>
      go_enter Tryd.func122, Tryd.ntmps122
      go_wp2_with (go_quiet (fail))
      go_ret
      exact ⟨ret_b (by simp), by first | exact g | exact g.drewN _⟩
    | true =>
      go_enter Tryd.func122, Tryd.ntmps122
      go_wp2_with (go_quiet (fail))
      go_ret
      exact ⟨ret_b (by cases t.ks with | nil => simp | cons x xs => simp; omega), by first | exact g | exact g.drewN _⟩

/-- The last place of a name, or -1. -/
def IsLast (nm : ByteArray) (ns : List ByteArray) (r : Int) : Prop := (∃ j : Nat, r = j ∧ ns[j]? = some nm ∧ ∀ i, j < i → ns[i]? ≠ some nm) ∨ (r = -1 ∧ nm ∉ ns)
theorem IsLast.has {nm : ByteArray} {ns : List ByteArray} {r : Int} (h : IsLast nm ns r) : decide (0 ≤ r) = hasB ns nm := by
  rcases h with ⟨j, rfl, h1, _⟩ | ⟨rfl, h1⟩
  · rw [hasB_iff.2 (List.mem_of_getElem? h1)]; simp
  · rw [hasB_false.2 h1]; simp
theorem IsLast.uniq {nm : ByteArray} {ns : List ByteArray} {r s : Int} (h : IsLast nm ns r) (k : IsLast nm ns s) : r = s := by
  rcases h with ⟨j, rfl, h1, h2⟩ | ⟨rfl, h1⟩ <;> rcases k with ⟨i, rfl, k1, k2⟩ | ⟨rfl, k1⟩
  · rcases Nat.lt_trichotomy i j with h | h | h
    · exact absurd h1 (k2 j h)
    · rw [h]
    · exact absurd k1 (h2 i h)
  · exact absurd (List.mem_of_getElem? h1) k1
  · exact absurd (List.mem_of_getElem? k1) h1
  · rfl

theorem spec_at (ns : List ByteArray) (nm : ByteArray) (w : World) (a : Option Addr) (cap : Nat) (h : strSl w a cap ns) : Calls Tryd.prog 73 #[.slice a ns.length cap, .string nm] w fun e w' => ∃ r, e = .returned (.int .i64 r) ∧ IsLast nm ns r ∧ Gw w w' := by
  have hl : ns.length ≤ 9223372036854775807 := Nat.le_trans h.1 h.2.1
  have HR := Lib.hid h.2.2
  clear h
  go_enter Tryd.func73, Tryd.ntmps73
  go_wp2_with fail
  go_loopw [5] (fun i wr => ∃ j : Nat, j ≤ ns.length ∧ i = .int .i64 ((j : Int) - 1) ∧ Gw w wr ∧ ∀ x, j ≤ x → ns[x]? ≠ some nm) (fun i _ => (intOf i + 1).toNat)
  case atStart => exact ⟨ns.length, Nat.le_refl _, rfl, Gw.refl _, fun x hx e => by rw [List.getElem?_eq_none hx] at e; cases e⟩
  case round =>
    obtain ⟨j, hj, rfl, hg, hall⟩ := hrel
    have HALL := Lib.hid hall
    clear hall
    by_cases hlt : 1 ≤ j
    · obtain ⟨i, rfl⟩ : ∃ i, j = i + 1 := ⟨j - 1, by omega⟩
      have hi : i < ns.length := by omega
      have ei : (((i + 1 : Nat) : Int) - 1) = i := by omega
      rw [ei]
      obtain ⟨b, o, rfl, hr⟩ := HR.out.resolve_left (fun e => by subst e; simp at hi)
      obtain ⟨c0, _⟩ := strRow_get (hr.grow sLen sGr hg) i hi
      have q0 : (0 : Int) ≤ i := by omega
      have q1 : (i : Int) < ns.length := by omega
      clear hr ei
      by_cases he : ns[i] = nm
      · have hd : (ns[i].toList == nm.toList) = true := by rw [he]; simp
        have HE := Lib.hid (show ns[i]? = some nm by rw [List.getElem?_eq_getElem hi, he])
        clear he
        go_wp2_with (go_quiet (fail))
        go_ret
        exact ⟨_, rfl, .inl ⟨i, rfl, HE.out, fun x hx => HALL.out x hx⟩, by first | exact hg | exact hg.drewN _⟩
      · have hd := toList_ne he
        have HE := Lib.hid (show ns[i]? ≠ some nm by rw [List.getElem?_eq_getElem hi]; simpa using he)
        clear he
        go_wp2_with (go_quiet (fail))
        go_roundw
        case rel =>
          refine ⟨i, by omega, by go_num, by first | exact hg | exact hg.drewN _, fun x hx => ?_⟩
          rcases Nat.eq_or_lt_of_le hx with e | e
          · exact e ▸ HE.out
          · exact HALL.out x e
        case measure => simp [intOf]
    · obtain rfl : j = 0 := by omega
      have e0 : (((0 : Nat) : Int) - 1) = -1 := rfl
      rw [e0]
      clear e0
      go_wp2_with fail
      go_ret
      refine ⟨_, rfl, .inr ⟨rfl, fun hm => ?_⟩, hg⟩
      obtain ⟨i, hi, e⟩ := List.mem_iff_getElem.1 hm
      exact HALL.out i (Nat.zero_le _) (by rw [List.getElem?_eq_getElem hi, e])

theorem spec_atN (ns : List ByteArray) (n : Nat) (hn : ns.length = n) (nm : ByteArray) (w : World) (a : Option Addr) (cap : Nat) (h : strSl w a cap ns) : Calls Tryd.prog 73 #[.slice a n cap, .string nm] w fun e w' => ∃ r, e = .returned (.int .i64 r) ∧ IsLast nm ns r ∧ Gw w w' := by
  subst hn
  exact spec_at ns nm w a cap h

theorem strSl.take {w : World} {a : Option Addr} {cap : Nat} {ns : List ByteArray} (h : strSl w a cap ns) (j : Nat) : strSl w a cap (ns.take j) := by
  refine ⟨by rw [List.length_take]; have := h.1; omega, h.2.1, ?_⟩
  rcases h.2.2 with e | ⟨b, o, e, hr⟩
  · exact .inl (by rw [e]; simp)
  · refine .inr ⟨b, o, e, fun i hi => ?_⟩
    have hi' : i < ns.length := by rw [List.length_take] at hi; omega
    have := hr i hi'
    rw [List.getElem_take]
    exact this

set_option maxHeartbeats 2000000 in
set_option maxRecDepth 100000 in
theorem spec_dist (ns : List ByteArray) (w : World) (a : Option Addr) (cap : Nat) (h : strSl w a cap ns) : Calls Tryd.prog 123 #[.slice a ns.length cap] w (BoolGw (distB ns) w) := by
  have hl : ns.length ≤ 9223372036854775807 := Nat.le_trans h.1 h.2.1
  have hlc : ns.length ≤ cap := h.1
  have hcc : cap ≤ 9223372036854775807 := h.2.1
  have HS := Lib.hid h
  clear h
  go_enter Tryd.func123, Tryd.ntmps123
  go_wp2_with fail
  go_loopw [3] (fun i wr => ∃ j : Nat, j ≤ ns.length ∧ i = .int .i64 j ∧ Gw w wr ∧ ∀ x, x < j → dsB ns x = true) (fun i _ => ns.length - (intOf i).toNat)
  case atStart => exact ⟨0, by omega, rfl, Gw.refl _, fun x h => absurd h (by omega)⟩
  case round =>
    obtain ⟨j, hj, rfl, hg, hall⟩ := hrel
    have HALL := Lib.hid hall
    have HG := Lib.hid hg
    clear hall hg
    by_cases hlt : j < ns.length
    · obtain ⟨b, o, rfl, hr⟩ := HS.out.2.2.resolve_left (fun e => by subst e; simp at hlt)
      obtain ⟨c0, hk⟩ := strRow_get (hr.grow sLen sGr HG.out) j hlt
      have hk2 : ns[j].size ≤ 9223372036854775807 := hk
      have q0 : (0 : Int) ≤ j := by omega
      have q1 : (j : Int) < ns.length := by omega
      have q2 : (j : Int) ≤ cap := by omega
      have hlb : b < wr.heap.size := cell_lt c0
      have HT := Lib.hid (HS.out.take j)
      have hlen : (ns.take j).length = j := by rw [List.length_take]; omega
      have HL := Lib.hid hlen
      have HD := Lib.hid (dsB_eq hlt)
      clear hr hk hlen
      cases hb : lowerB ns[j] with
      | false =>
        have HB := Lib.hid hb
        clear hb
        go_wp2_with fail
        refine wp_region_held_drew (S := fun W => W.cell? ⟨b, o + j, none⟩ = some (.string ns[j])) (by kernel_rfl) ?_ (fun hHeld => ?_)
        · exact c0
        refine wpAnyH_take (i := 0) (oi := { dst := some 10, op := Op.move (Operand.tmp 0), type := _, pos := _, after := _, guard := _ }) (v := .slice (some ⟨b, o, none⟩) ns.length cap) rfl (by kernel_rfl) (by kernel_rfl) (by kernel_rfl) (fun _ _ _ h => h) (Or.inl ⟨by rfl, ?_⟩) (by assumption) ?_
        · intro w hSw; (try dsimp only at hSw); go_simp
        try simp only [Act.put, List.setIfInBounds_toArray, List.set_cons_zero, List.set_cons_succ]
        refine wpAnyH_take (i := 1) (oi := { dst := some 11, op := Op.move (Operand.tmp 3), type := _, pos := _, after := _, guard := _ }) (v := .int .i64 j) rfl (by kernel_rfl) (by kernel_rfl) (by kernel_rfl) (fun _ _ _ h => h) (Or.inl ⟨by rfl, ?_⟩) (by assumption) ?_
        · intro w hSw; (try dsimp only at hSw); go_simp
        try simp only [Act.put, List.setIfInBounds_toArray, List.set_cons_zero, List.set_cons_succ]
        refine wpAnyH_take (i := 2) (oi := { dst := some 12, op := Op.indexAddr 39 (Operand.tmp 10) (Operand.tmp 11), type := _, pos := _, after := _, guard := _ }) (v := .pointer (some ⟨b, o + j, none⟩)) rfl (by kernel_rfl) (by kernel_rfl) (by kernel_rfl) (fun _ _ _ h => h) (Or.inl ⟨by rfl, ?_⟩) (by assumption) ?_
        · intro w hSw; (try dsimp only at hSw); go_simp
        try simp only [Act.put, List.setIfInBounds_toArray, List.set_cons_zero, List.set_cons_succ]
        refine wpAnyH_take (i := 3) (oi := { dst := some 13, op := Op.load 9 (Operand.tmp 12), type := _, pos := _, after := _, guard := _ }) (v := .string ns[j]) rfl (by kernel_rfl) (by kernel_rfl) (by kernel_rfl) (fun _ _ _ h => h) (Or.inl ⟨by rfl, ?_⟩) (by assumption) ?_
        · intro w hSw; (try dsimp only at hSw); go_simp
        try simp only [Act.put, List.setIfInBounds_toArray, List.set_cons_zero, List.set_cons_succ]
        refine wpAnyH_ready (rs := [4]) (by kernel_rfl) (by simp) ?_
        refine AllReadyH.cons (o := { dst := some 14, op := _, type := _, pos := _, after := _, guard := _ }) rfl (fun K hK => ?_) AllReadyH.nil
        go_simp
        go_at_call 59
        refine (spec_lower ns[j] hk2 _).mono ?_
        rw [HB.out]
        rintro e w2 ⟨rfl, g2⟩
        go_wp2_with fail
        refine hK.out _ _ ((bcell g2).1 _ _ hlb |>.trans c0) (fun hHeld => ?_)
        clear hK K
        try simp only [Act.put, List.setIfInBounds_toArray, List.set_cons_zero, List.set_cons_succ]
        refine wpAnyH_take (i := 5) (oi := { dst := some 15, op := Op.unOp UnOp.not 4 (Operand.tmp 14), type := _, pos := _, after := _, guard := _ }) (v := .bool true) rfl (by kernel_rfl) (by kernel_rfl) (by kernel_rfl) (fun _ _ _ h => h) (Or.inl ⟨by rfl, ?_⟩) (by assumption) ?_
        · intro w hSw; (try dsimp only at hSw); go_simp
        try simp only [Act.put, List.setIfInBounds_toArray, List.set_cons_zero, List.set_cons_succ]
        refine wpAnyH_take (i := 6) (oi := { dst := some 16, op := Op.move (Operand.tmp 15), type := _, pos := _, after := _, guard := _ }) (v := .bool true) rfl (by kernel_rfl) (by kernel_rfl) (by kernel_rfl) (fun _ _ _ h => h) (Or.inl ⟨by rfl, ?_⟩) (by assumption) ?_
        · intro w hSw; (try dsimp only at hSw); go_simp
        try simp only [Act.put, List.setIfInBounds_toArray, List.set_cons_zero, List.set_cons_succ]
        refine wpAnyH_take (i := 7) (oi := { dst := some 17, op := _, type := _, pos := _, after := _, guard := _ }) (v := undef) rfl (by kernel_rfl) (by kernel_rfl) (by kernel_rfl) (fun _ _ _ h => h) (Or.inr ⟨by rfl, rfl⟩) (by assumption) ?_
        try simp only [Act.put, List.setIfInBounds_toArray, List.set_cons_zero, List.set_cons_succ]
        refine wpAnyH_take (i := 8) (oi := { dst := some 18, op := _, type := _, pos := _, after := _, guard := _ }) (v := undef) rfl (by kernel_rfl) (by kernel_rfl) (by kernel_rfl) (fun _ _ _ h => h) (Or.inr ⟨by rfl, rfl⟩) (by assumption) ?_
        try simp only [Act.put, List.setIfInBounds_toArray, List.set_cons_zero, List.set_cons_succ]
        refine wpAnyH_take (i := 9) (oi := { dst := some 19, op := _, type := _, pos := _, after := _, guard := _ }) (v := undef) rfl (by kernel_rfl) (by kernel_rfl) (by kernel_rfl) (fun _ _ _ h => h) (Or.inr ⟨by rfl, rfl⟩) (by assumption) ?_
        try simp only [Act.put, List.setIfInBounds_toArray, List.set_cons_zero, List.set_cons_succ]
        refine wpAnyH_take (i := 10) (oi := { dst := some 20, op := _, type := _, pos := _, after := _, guard := _ }) (v := undef) rfl (by kernel_rfl) (by kernel_rfl) (by kernel_rfl) (fun _ _ _ h => h) (Or.inr ⟨by rfl, rfl⟩) (by assumption) ?_
        try simp only [Act.put, List.setIfInBounds_toArray, List.set_cons_zero, List.set_cons_succ]
        refine wpAnyH_take (i := 11) (oi := { dst := some 21, op := _, type := _, pos := _, after := _, guard := _ }) (v := undef) rfl (by kernel_rfl) (by kernel_rfl) (by kernel_rfl) (fun _ _ _ h => h) (Or.inr ⟨by rfl, rfl⟩) (by assumption) ?_
        try simp only [Act.put, List.setIfInBounds_toArray, List.set_cons_zero, List.set_cons_succ]
        refine wpAnyH_take (i := 12) (oi := { dst := some 22, op := _, type := _, pos := _, after := _, guard := _ }) (v := undef) rfl (by kernel_rfl) (by kernel_rfl) (by kernel_rfl) (fun _ _ _ h => h) (Or.inr ⟨by rfl, rfl⟩) (by assumption) ?_
        try simp only [Act.put, List.setIfInBounds_toArray, List.set_cons_zero, List.set_cons_succ]
        refine wpAnyH_take (i := 13) (oi := { dst := some 23, op := _, type := _, pos := _, after := _, guard := _ }) (v := undef) rfl (by kernel_rfl) (by kernel_rfl) (by kernel_rfl) (fun _ _ _ h => h) (Or.inr ⟨by rfl, rfl⟩) (by assumption) ?_
        try simp only [Act.put, List.setIfInBounds_toArray, List.set_cons_zero, List.set_cons_succ]
        refine wpAnyH_take (i := 14) (oi := { dst := some 24, op := _, type := _, pos := _, after := _, guard := _ }) (v := undef) rfl (by kernel_rfl) (by kernel_rfl) (by kernel_rfl) (fun _ _ _ h => h) (Or.inr ⟨by rfl, rfl⟩) (by assumption) ?_
        try simp only [Act.put, List.setIfInBounds_toArray, List.set_cons_zero, List.set_cons_succ]
        refine wpAnyH_take (i := 15) (oi := { dst := some 25, op := _, type := _, pos := _, after := _, guard := _ }) (v := undef) rfl (by kernel_rfl) (by kernel_rfl) (by kernel_rfl) (fun _ _ _ h => h) (Or.inr ⟨by rfl, rfl⟩) (by assumption) ?_
        try simp only [Act.put, List.setIfInBounds_toArray, List.set_cons_zero, List.set_cons_succ]
        refine wpAnyH_take (i := 16) (oi := { dst := some 26, op := Op.pick (Operand.tmp 16) (Operand.const (Value.bool true)) (Operand.tmp 25), type := _, pos := _, after := _, guard := _ }) (v := .bool true) rfl (by kernel_rfl) (by kernel_rfl) (by kernel_rfl) (fun _ _ _ h => h) (Or.inl ⟨by rfl, ?_⟩) (by assumption) ?_
        · intro w hSw; (try dsimp only at hSw); go_simp
        try simp only [Act.put, List.setIfInBounds_toArray, List.set_cons_zero, List.set_cons_succ]
        refine wpAnyH_done (by kernel_rfl) ?_ _

        go_wp2_with fail
        go_ret
        exact ⟨ret_b (distB_bad hlt (by rw [HD.out, HB.out]; rfl)).symm, HG.out.drew.trans g2⟩
      | true =>
        have HB := Lib.hid hb
        clear hb
        go_wp2_with fail
        go_region_held3 (fun W => W.cell? ⟨b, o + j, none⟩ = some (.string ns[j]))
          (first | exact c0 | exact (k2 _ _ hlb).trans c0 | exact (k3 _ _ hlb).trans c0)
          (first
            | (go_at_call 59; refine (spec_lower ns[j] hk2 _).mono ?_; rw [HB.out]; rintro e w2 ⟨rfl, g2⟩; have k2 : ∀ b o, b < wr.heap.size → w2.cell? ⟨b, o, none⟩ = wr.cell? ⟨b, o, none⟩ := fun b o h => (bcell g2).1 b o h)
            | (go_at_call 73; refine (spec_atN (ns.take j) j HL.out ns[j] _ (some ⟨b, o, none⟩) cap (HT.out.grow (HG.out.drew.trans g2))).mono ?_; rintro e w3 ⟨r, rfl, hr, g3⟩; have k3 : ∀ b o, b < wr.heap.size → w3.cell? ⟨b, o, none⟩ = wr.cell? ⟨b, o, none⟩ := fun b o h => ((bcell g3).1 b o (Nat.lt_of_lt_of_le h g2.size)).trans (k2 b o h)))
        have HX := hr.has
        have G3 := Lib.hid ((HG.out.drew.trans g2).trans g3)
        clear hr k2 k3 g2 g3 c0 hlb
        cases hh : hasB (ns.take j) ns[j] with
        | false =>
          have HH := Lib.hid hh
          rw [hh] at HX
          have hneg : ¬ (0 ≤ r) := by simpa using HX
          clear hh HX
          go_wp2_with fail
          go_roundw
          case rel =>
            refine ⟨j + 1, by omega, by go_num, G3.out, fun x hx => ?_⟩
            by_cases e : x = j
            · subst e; rw [HD.out, HB.out, HH.out]; rfl
            · exact HALL.out x (by omega)
          case measure => simp [intOf]; omega
        | true =>
          have HH := Lib.hid hh
          rw [hh] at HX
          have hpos : 0 ≤ r := by simpa using HX
          clear hh HX
          go_wp2_with fail
          go_ret
          exact ⟨ret_b (distB_bad hlt (by rw [HD.out, HB.out, HH.out]; rfl)).symm, G3.out⟩
    · obtain rfl : j = ns.length := by omega
      go_wp2_with fail
      go_ret
      exact ⟨ret_b (by rw [distB_all HALL.out]), HG.out⟩

end Go.Proofs.YtkfplnnncfkjfaaDoor.Con
