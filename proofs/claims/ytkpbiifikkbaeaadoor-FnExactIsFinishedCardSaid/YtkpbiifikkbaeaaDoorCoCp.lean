/-
  Contracts of the model's l00Own and of slices.Clone at numbers and at core terms: a row of the call's own with the same cells. Condition: the row lies in memory.
-/
import Derived.Test.YtkpbiifikkbaeaaDoorGrA
import Derived.Laws.OwnMore
import Derived.Laws.AppendOwn
import Derived.Lib.SliceRun
import Derived.OwnWalk
namespace Go.Proofs.YtkpbiifikkbaeaaDoor.Con
open Go.RowKit
set_option linter.unusedVariables false

theorem run_append_noneC {P : Program} {w : World} (base : Nat) (t ty e : TypeId) (i : TypeInfo) (size : Nat) (ht : P.underlying t = some (.slice e)) (hi : P.info? e = some i)
    (v : Value) (n : Nat) (xs : List Value) (hown : w.ownsRow base e size v n xs) (c : Nat) : (Builtin.append_ #[t, t] ty #[v, .slice none 0 c]).run P w = .ok v w := by
  rcases hown.2 with ⟨rfl, rfl⟩ | ⟨g, cap, cur, rfl, _, _, hnc, _⟩
  · simp [Builtin.append_, run_underlying ht, sizeOf, typeInfo, hi, Builtin.lenOf, Builtin.firstCells]
  · simp [Builtin.append_, run_underlying ht, sizeOf, typeInfo, hi, Builtin.lenOf, Builtin.firstCells, hnc, storeCells]
theorem wpList_append_noneC {P : Program} {w : World} {ops : Array Oper} {rest : List Oper} {o : Oper} {a : Act} {Q : Exit → Act → World → Prop} (hgd : o.guard = none) (s x : Operand) (t : TypeId)
    (ho : o.op = .call { callee := .builtin .append, args := #[s, x], argTypes := #[t, t] })
    (base : Nat) (e : TypeId) (i : TypeInfo) (size : Nat) (ht : P.underlying t = some (.slice e)) (hi : P.info? e = some i)
    (v : Value) (n c : Nat) (xs : List Value) (hs : a.eval s = v) (hown : w.ownsRow base e size v n xs) (hx : a.eval x = .slice none 0 c)
    (h : wpList P ops Q rest (a.put o.dst v) w) : wpList P ops Q (o :: rest) a w := by
  refine wpList_plain hgd fun K hK => ?_
  have hrun := run_append_noneC (P := P) (w := w) base t o.type e i size ht hi v n xs hown c
  unfold Oper.wp
  simp [execOp, ho, resolve, invoke, builtin, hs, hx, hrun, Result.andThen]
  exact hK _ _ h

theorem infoN : (Tryd.prog.info? 2).map (fun i => (i.zero, i.size, i.bytes)) = some (some (.int .i64 0), 1, 8) := by kernel_rfl
theorem infoK : (Tryd.prog.info? 42).map (fun i => (i.zero, i.size, i.bytes)) = some (some (.agg #[.int .i64 0, .int .i64 0, .slice none 0 0, .slice none 0 0]), 4, 64) := by kernel_rfl

def OwnP (e : TypeId) (k n : Nat) (cs : List Value) (w : World) (en : Ending) (w' : World) : Prop := ∃ v, en = .returned v ∧ w'.ownsRow w.heap.size e k v n cs ∧ Gw w w'
theorem ownP_nil (e : TypeId) (k : Nat) (w : World) : OwnP e k 0 [] w (.returned (.slice none 0 0)) w := ⟨_, rfl, ⟨by simp, .inl ⟨rfl, rfl⟩⟩, Gw.refl w⟩
theorem made_own (w : World) (e : TypeId) (k : Nat) : (w.alloc (.cells #[] e)).ownsRow w.heap.size e k (.slice (some ⟨w.heap.size, 0, none⟩) 0 0) 0 [] := World.ownsRow_made w #[] 0 (Nat.le_refl _) (Nat.zero_le _) (by simp)

/-- The cells of a row, one behind the other. -/
theorem row_flat {α : Type} {k : Nat} {cE : α → List Value} {ok : World → α → Prop} (hk : ∀ x, (cE x).length = k) (hk0 : 0 < k) {w : World} {b o : Nat} {xs : List α} (h : gRow k cE ok w xs b o) (j : Nat) (v : Value) (hj : (xs.flatMap cE)[j]? = some v) : w.cell? ⟨b, o + j, none⟩ = some v := by
  have hlt := (List.getElem?_eq_some_iff.1 hj).1
  rw [flat_len hk] at hlt
  have hi : j / k < xs.length := (Nat.div_lt_iff_lt_mul hk0).2 hlt
  have hm : j % k < k := Nat.mod_lt _ hk0
  have e : j = j / k * k + j % k := by rw [Nat.mul_comm]; exact (Nat.div_add_mod j k).symm
  rw [e, flat_get hk xs _ hi _ hm] at hj
  have := (h _ hi).1 _ _ hj
  rw [Nat.add_assoc, ← e] at this
  exact this

set_option maxRecDepth 100000 in
theorem spec_ownN (L : List Int) (w : World) (a : Option Addr) (c : Nat) (h : numSl w a c L) (hl : L.length ≤ 1000000) : Calls Tryd.prog 112 #[.slice a L.length c] w (OwnP 2 1 L.length (iL L) w) := by
  obtain ⟨i0, hi, hz0, hz1, hz2⟩ := info_parts infoN
  have HI := Lib.hid hi
  have HZ0 := Lib.hid hz0
  have HZ1 := Lib.hid hz1
  have HZ2 := Lib.hid hz2
  have HM := Lib.hid (made_own w 2 1)
  have G1 := Lib.hid ((Gw.refl w).alloc (.cells #[] 2))
  have LL := Lib.hid hl
  by_cases h0 : L = []
  · subst h0
    clear hi hz0 hz1 hz2 h hl
    cases a with
    | none =>
      go_enter Tryd.func112, Tryd.ntmps112
      go_wp2_with (at_builtin; refine wpList_append_noneC rfl _ _ 25 rfl w.heap.size 2 i0 1 Tryd.underlying25 HI.out _ 0 c [] rfl HM.out rfl ?_)
      go_wp2_with fail
      go_ret
      exact ⟨_, rfl, HM.out, G1.out⟩
    | some x =>
      go_enter Tryd.func112, Tryd.ntmps112
      go_wp2_with (at_builtin; refine wpList_append_own _ rfl _ _ 25 rfl w.heap.size 2 i0 (.int .i64 0) 1 8 Tryd.underlying25 HI.out HZ0.out HZ1.out HZ2.out rfl (by decide) _ 0 [] rfl HM.out x 0 c [] rfl rfl (fun j u hj => by simp at hj) (fun u hu => by cases hu) (by decide) (by decide) (by simp) ?_)
      intro v' w2 hown hgr _
      have O2 := Lib.hid hown
      have G2 := Lib.hid (G1.out.grown hgr (by simp) (by intro k hk; simp [Value.ownBlock] at hk; omega))
      clear hown hgr
      go_wp2_with fail
      go_ret
      exact ⟨_, rfl, O2.out, G2.out⟩
  obtain ⟨b, o, rfl, hr⟩ := h.2.2.resolve_left h0
  have NEWS := Lib.hid (show ∀ j u, (iL L)[j]? = some u → (w.alloc (.cells #[] 2)).cell? ((⟨b, o, none⟩ : Addr).add j) = some u from fun j u hj => by
    rw [Addr.add_lit]
    exact Lib.cell?_alloc_some _ (row_flat nLen (by decide) hr j u (by rw [nE_flat]; exact hj)))
  have LEN := Lib.hid (show (iL L).length = L.length * 1 by unfold iL; simp)
  have ONE := Lib.hid (show ∀ u ∈ iL L, u.oneCell' = true from fun u hu => by
    unfold iL at hu
    obtain ⟨x, _, rfl⟩ := List.mem_map.1 hu
    rfl)
  have hl9 : L.length ≤ 9223372036854775807 := by omega
  clear hi hz0 hz1 hz2 h hr h0 hl
  go_enter Tryd.func112, Tryd.ntmps112
  go_wp2_with (at_builtin; refine wpList_append_own _ rfl _ _ 25 rfl w.heap.size 2 i0 (.int .i64 0) 1 8 Tryd.underlying25 HI.out HZ0.out HZ1.out HZ2.out rfl (by decide) _ 0 [] rfl HM.out ⟨b, o, none⟩ L.length c (iL L) rfl LEN.out NEWS.out ONE.out (by unfold maxLen; have := LL.out; omega) (by have := LL.out; omega) (by simp) ?_)
  intro v' w2 hown hgr _
  have O2 := Lib.hid hown
  have G2 := Lib.hid (G1.out.grown hgr (by simp) (by intro k hk; simp [Value.ownBlock] at hk; omega))
  clear hown hgr
  go_wp2_with fail
  go_ret
  exact ⟨_, rfl, by simpa using O2.out, G2.out⟩

set_option maxRecDepth 100000 in
theorem impl_cloneN (L : List Int) (w : World) (a : Option Addr) (c : Nat) (h : numSl w a c L) (hl : L.length ≤ 1000000) : Calls Tryd.prog 94 #[.slice a L.length c] w (OwnP 2 1 L.length (iL L) w) := by
  have q22 : ∀ (w : World) (a : Option Addr) (n c n' c' : Nat), (binOp .eql 25 (.slice a n c) (.slice none n' c')).run Tryd.prog w = .ok (.bool a.isNone) w := fun w a n c n' c' => Lib.run_eql_slice_nil w _ _ a n c n' c' Tryd.underlying25
  obtain ⟨i0, hi, hz0, hz1, hz2⟩ := info_parts infoN
  have HI := Lib.hid hi
  have HZ0 := Lib.hid hz0
  have HZ1 := Lib.hid hz1
  have HZ2 := Lib.hid hz2
  have HM := Lib.hid (made_own w 2 1)
  have G1 := Lib.hid ((Gw.refl w).alloc (.cells #[] 2))
  have LL := Lib.hid hl
  cases a with
  | none =>
    obtain rfl : L = [] := h.2.2.resolve_right (fun ⟨_, _, e, _⟩ => by cases e)
    clear hi hz0 hz1 hz2 h hl
    go_enter Tryd.func94, Tryd.ntmps94
    go_wp2_with fail
    go_ret
    exact ownP_nil _ _ _
  | some x =>
  by_cases h0 : L = []
  · subst h0
    clear hi hz0 hz1 hz2 h hl
    go_enter Tryd.func94, Tryd.ntmps94
    go_wp2_with (at_builtin; refine wpList_append_own _ rfl _ _ 25 rfl w.heap.size 2 i0 (.int .i64 0) 1 8 Tryd.underlying25 HI.out HZ0.out HZ1.out HZ2.out rfl (by decide) _ 0 [] rfl HM.out x 0 c [] rfl rfl (fun j u hj => by simp at hj) (fun u hu => by cases hu) (by decide) (by decide) (by simp) ?_)
    intro v' w2 hown hgr _
    have O2 := Lib.hid hown
    have G2 := Lib.hid (G1.out.grown hgr (by simp) (by intro k hk; simp [Value.ownBlock] at hk; omega))
    clear hown hgr
    go_wp2_with fail
    go_ret
    exact ⟨_, rfl, O2.out, G2.out⟩
  obtain ⟨b, o, ex, hr⟩ := h.2.2.resolve_left h0
  injection ex with ex
  subst ex
  have NEWS := Lib.hid (show ∀ j u, (iL L)[j]? = some u → (w.alloc (.cells #[] 2)).cell? ((⟨b, o, none⟩ : Addr).add j) = some u from fun j u hj => by
    rw [Addr.add_lit]
    exact Lib.cell?_alloc_some _ (row_flat nLen (by decide) hr j u (by rw [nE_flat]; exact hj)))
  have LEN := Lib.hid (show (iL L).length = L.length * 1 by unfold iL; simp)
  have ONE := Lib.hid (show ∀ u ∈ iL L, u.oneCell' = true from fun u hu => by
    unfold iL at hu
    obtain ⟨x, _, rfl⟩ := List.mem_map.1 hu
    rfl)
  have hl9 : L.length ≤ 9223372036854775807 := by omega
  clear hi hz0 hz1 hz2 h hr h0 hl
  go_enter Tryd.func94, Tryd.ntmps94
  go_wp2_with (at_builtin; refine wpList_append_own _ rfl _ _ 25 rfl w.heap.size 2 i0 (.int .i64 0) 1 8 Tryd.underlying25 HI.out HZ0.out HZ1.out HZ2.out rfl (by decide) _ 0 [] rfl HM.out ⟨b, o, none⟩ L.length c (iL L) rfl LEN.out NEWS.out ONE.out (by unfold maxLen; have := LL.out; omega) (by have := LL.out; omega) (by simp) ?_)
  intro v' w2 hown hgr _
  have O2 := Lib.hid hown
  have G2 := Lib.hid (G1.out.grown hgr (by simp) (by intro k hk; simp [Value.ownBlock] at hk; omega))
  clear hown hgr
  go_wp2_with fail
  go_ret
  exact ⟨_, rfl, by simpa using O2.out, G2.out⟩

set_option maxRecDepth 100000 in
theorem impl_cloneK (L : List LK) (w : World) (a : Option Addr) (c : Nat) (h : coSl w a c L) (hl : L.length ≤ 1000000) : Calls Tryd.prog 95 #[.slice a L.length c] w (OwnP 42 4 L.length (L.flatMap coE) w) := by
  have q22 : ∀ (w : World) (a : Option Addr) (n c n' c' : Nat), (binOp .eql 37 (.slice a n c) (.slice none n' c')).run Tryd.prog w = .ok (.bool a.isNone) w := fun w a n c n' c' => Lib.run_eql_slice_nil w _ _ a n c n' c' Tryd.underlying37
  obtain ⟨i0, hi, hz0, hz1, hz2⟩ := info_parts infoK
  have HI := Lib.hid hi
  have HZ0 := Lib.hid hz0
  have HZ1 := Lib.hid hz1
  have HZ2 := Lib.hid hz2
  have HM := Lib.hid (made_own w 42 4)
  have G1 := Lib.hid ((Gw.refl w).alloc (.cells #[] 42))
  have LL := Lib.hid hl
  cases a with
  | none =>
    obtain rfl : L = [] := h.2.2.resolve_right (fun ⟨_, _, e, _⟩ => by cases e)
    clear hi hz0 hz1 hz2 h hl
    go_enter Tryd.func95, Tryd.ntmps95
    go_wp2_with fail
    go_ret
    exact ownP_nil _ _ _
  | some x =>
  by_cases h0 : L = []
  · subst h0
    clear hi hz0 hz1 hz2 h hl
    go_enter Tryd.func95, Tryd.ntmps95
    go_wp2_with (at_builtin; refine wpList_append_own _ rfl _ _ 37 rfl w.heap.size 42 i0 (.agg #[.int .i64 0, .int .i64 0, .slice none 0 0, .slice none 0 0]) 4 64 Tryd.underlying37 HI.out HZ0.out HZ1.out HZ2.out rfl (by decide) _ 0 [] rfl HM.out x 0 c [] rfl rfl (fun j u hj => by simp at hj) (fun u hu => by cases hu) (by decide) (by decide) (by simp) ?_)
    intro v' w2 hown hgr _
    have O2 := Lib.hid hown
    have G2 := Lib.hid (G1.out.grown hgr (by simp) (by intro k hk; simp [Value.ownBlock] at hk; omega))
    clear hown hgr
    go_wp2_with fail
    go_ret
    exact ⟨_, rfl, O2.out, G2.out⟩
  obtain ⟨b, o, ex, hr⟩ := h.2.2.resolve_left h0
  injection ex with ex
  subst ex
  have NEWS := Lib.hid (show ∀ j u, (L.flatMap coE)[j]? = some u → (w.alloc (.cells #[] 42)).cell? ((⟨b, o, none⟩ : Addr).add j) = some u from fun j u hj => by
    rw [Addr.add_lit]
    exact Lib.cell?_alloc_some _ (row_flat coLen (by decide) hr j u (hj)))
  have LEN := Lib.hid (show (L.flatMap coE).length = L.length * 4 by exact flat_len coLen L)
  have ONE := Lib.hid (show ∀ u ∈ L.flatMap coE, u.oneCell' = true from fun u hu => by
    obtain ⟨x, _, hx⟩ := List.mem_flatMap.1 hu
    unfold coE at hx
    simp at hx
    rcases hx with rfl | rfl | rfl | rfl <;> rfl)
  have hl9 : L.length ≤ 9223372036854775807 := by omega
  clear hi hz0 hz1 hz2 h hr h0 hl
  go_enter Tryd.func95, Tryd.ntmps95
  go_wp2_with (at_builtin; refine wpList_append_own _ rfl _ _ 37 rfl w.heap.size 42 i0 (.agg #[.int .i64 0, .int .i64 0, .slice none 0 0, .slice none 0 0]) 4 64 Tryd.underlying37 HI.out HZ0.out HZ1.out HZ2.out rfl (by decide) _ 0 [] rfl HM.out ⟨b, o, none⟩ L.length c (L.flatMap coE) rfl LEN.out NEWS.out ONE.out (by unfold maxLen; have := LL.out; omega) (by have := LL.out; omega) (by simp) ?_)
  intro v' w2 hown hgr _
  have O2 := Lib.hid hown
  have G2 := Lib.hid (G1.out.grown hgr (by simp) (by intro k hk; simp [Value.ownBlock] at hk; omega))
  clear hown hgr
  go_wp2_with fail
  go_ret
  exact ⟨_, rfl, by simpa using O2.out, G2.out⟩

end Go.Proofs.YtkpbiifikkbaeaaDoor.Con
