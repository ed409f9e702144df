/-
  The map of pairs of rows that a comparer keeps: its look-up and its store. Condition: the rows lie in blocks of cells.
-/
import Derived.Test.YtkpbiifikkbaeaaSm
import Derived.Maps.Own
import Derived.LaidEql
import Derived.Laws.StructEq
namespace Go.Proofs.Ytkpbiifikkbaeaa.Con.KCore
open Go.RowKit Go.Proofs.Ytkpbiifikkbaeaa.Con
set_option linter.unusedVariables false

theorem flds : ∃ f g h : Field, Try.prog.fieldsOf 99 = #[f, g, h] ∧ f.name = "a" ∧ g.name = "b" ∧ h.name = "length" ∧ f.type = 93 ∧ g.type = 93 ∧ h.type = 3 ∧ f.offset = 0 ∧ g.offset = 1 ∧ h.offset = 2 :=
  ⟨(Try.prog.fieldsOf 99)[0]'(by decide +kernel), (Try.prog.fieldsOf 99)[1]'(by decide +kernel), (Try.prog.fieldsOf 99)[2]'(by decide +kernel), by kernel_rfl, by kernel_rfl, by kernel_rfl, by kernel_rfl, by kernel_rfl, by kernel_rfl, by kernel_rfl, by kernel_rfl, by kernel_rfl, by kernel_rfl⟩

theorem part0 (a b : Addr) (n : Nat) (W : World) : (part 93 #[.pointer (some a), .pointer (some b), .int .i64 n] 0).run Try.prog W = .ok (.pointer (some a)) W := by kernel_rfl
theorem part1 (a b : Addr) (n : Nat) (W : World) : (part 93 #[.pointer (some a), .pointer (some b), .int .i64 n] 1).run Try.prog W = .ok (.pointer (some b)) W := by kernel_rfl
theorem part2 (a b : Addr) (n : Nat) (W : World) : (part 3 #[.pointer (some a), .pointer (some b), .int .i64 n] 2).run Try.prog W = .ok (.int .i64 n) W := by kernel_rfl

theorem eqP (W : World) (a c : Addr) (d : Nat) : (Op.equalIn (d + 1) 93 (.pointer (some a)) (.pointer (some c))).run Try.prog W = (sameAddr a c).run Try.prog W := by
  have hp : Try.prog.underlying 93 = some (.pointer 36) := by kernel_rfl
  obtain ⟨i, hi, hs⟩ : ∃ i, Try.prog.info? 36 = some i ∧ i.size = 4 := by
    obtain ⟨i0, hi, _, hz, _⟩ := info_parts (P := Try.prog) (e := 36) (z := .agg #[.int .i64 0, .int .i64 0, .slice none 0 0, .slice none 0 0]) (size := 4) (bytes := 64) (by kernel_rfl)
    exact ⟨i0, hi, hz⟩
  simp [Op.equalIn, run_underlying hp, sizeOf, typeInfo, hi, hs]
theorem eqI (W : World) (n m d : Nat) : (Op.equalIn (d + 1) 3 (.int .i64 n) (.int .i64 m)).run Try.prog W = .ok (decide (n = m)) W := by
  have hp : Try.prog.underlying 3 = some (.int .i64) := by kernel_rfl
  by_cases h : n = m
  · subst h; simp [Op.equalIn, run_underlying hp]
  · have : ¬ (n : Int) = (m : Int) := by omega
    simp [Op.equalIn, run_underlying hp, h, this]

theorem eqk (W : World) (a b c d : Addr) (n m : Nat) (x y : Bool) (h1 : (sameAddr a c).run Try.prog W = .ok x W) (h2 : (sameAddr b d).run Try.prog W = .ok y W) : (Op.equal 99 (kl a b n) (kl c d m)).run Try.prog W = .ok (x && y && decide (n = m)) W := by
  obtain ⟨f, g, h, hf, n1, n2, n3, t1, t2, t3, o1, o2, o3⟩ := flds
  unfold Op.equal Op.maxDepth kl
  rw [run_equalIn_struct W 9999 99 _ _ (by kernel_rfl) (by kernel_rfl), hf]
  cases x <;> cases y <;> simp [Op.eqFields, n1, n2, n3, t1, t2, t3, o1, o2, o3, part0, part1, part2, eqP, eqI, h1, h2] <;> (by_cases hnm : n = m <;> simp [hnm])

theorem ck (W : World) (e : Bool) (a b : Addr) (n : Nat) : (Instr.checkKey e 10000 99 (kl a b n)).run Try.prog W = .ok () W := by
  kernel_rfl

theorem same_run {W : World} {p q : Addr} (hp : Free W p.block) (hq : Free W q.block) : (sameAddr p q).run Try.prog W = .ok (decide (p = q)) W := by
  by_cases h : p = q
  · subst h; simp [run_sameAddr_same]
  · obtain ⟨ca, ta, ha⟩ := hp
    obtain ⟨cb, tb, hb⟩ := hq
    rw [run_sameAddr_other W h ha hb]; simp [h]

def KeyE (W : World) (e : MapEntry) : Prop := e.val = .bool true ∧ ∃ p q n, e.key = kl p q n ∧ Free W p.block ∧ Free W q.block

theorem find_run {W : World} {a b : Addr} {n : Nat} (ha : Free W a.block) (hb : Free W b.block) : ∀ (es : List MapEntry) (i : Nat), (∀ e ∈ es, KeyE W e) →
    (∃ j, (Instr.findAsking 99 (kl a b n) es i).run Try.prog W = .ok (some (j, .bool true)) W ∧ ∃ e ∈ es, e.key = kl a b n) ∨ (Instr.findAsking 99 (kl a b n) es i).run Try.prog W = .ok none W
  | [], i, _ => .inr rfl
  | e :: es, i, h => by
    obtain ⟨hv, p, q, m, hk, hp, hq⟩ := h e (by simp)
    have heq := eqk W a b p q n m _ _ (same_run ha hp) (same_run hb hq)
    by_cases hpq : a = p ∧ b = q ∧ n = m
    · obtain ⟨rfl, rfl, rfl⟩ := hpq
      refine .inl ⟨i, ?_, e, by simp, hk⟩
      simp [Instr.findAsking, hk, heq, hv]
    · have hd : (decide (a = p) && decide (b = q) && decide (n = m)) = false := by
        cases h0 : (decide (a = p) && decide (b = q) && decide (n = m)) with
        | false => rfl
        | true => simp only [Bool.and_eq_true, decide_eq_true_eq] at h0; exact absurd ⟨h0.1.1, h0.1.2, h0.2⟩ hpq
      rw [hd] at heq
      rcases find_run ha hb es (i + 1) (fun x hx => h x (by simp [hx])) with ⟨j, h1, x, hx, h2⟩ | h1
      · exact .inl ⟨j, by simp [Instr.findAsking, hk, heq, h1], x, by simp [hx], h2⟩
      · exact .inr (by simp [Instr.findAsking, hk, heq, h1])

theorem undK : Try.prog.underlying 99 = some (.struct (Try.prog.fieldsOf 99)) := by kernel_rfl

theorem findKey_run {W : World} {a b : Addr} {n : Nat} (ha : Free W a.block) (hb : Free W b.block) (es : List MapEntry) (h : ∀ e ∈ es, KeyE W e) :
    (∃ j, (Instr.findKey 99 (kl a b n) es).run Try.prog W = .ok (some (j, .bool true)) W ∧ ∃ e ∈ es, e.key = kl a b n) ∨ (Instr.findKey 99 (kl a b n) es).run Try.prog W = .ok none W := by
  have key := find_run (n := n) ha hb es 0 h
  cases es with
  | nil => exact .inr (by simp [Instr.findKey, run_underlying undK, Instr.findNow])
  | cons e es =>
    have hn : Instr.findNow (.struct (Try.prog.fieldsOf 99)) (kl a b n) (e :: es) 0 = none := by
      unfold Instr.findNow Instr.sameNow; rfl
    rcases key with ⟨j, h1, h2⟩ | h1
    · exact .inl ⟨j, by simp only [Instr.findKey, Sem.run_bind, run_underlying undK, Result.andThen_ok, hn]; exact h1, h2⟩
    · exact .inr (by simp only [Instr.findKey, Sem.run_bind, run_underlying undK, Result.andThen_ok, hn]; exact h1)

theorem undM : Try.prog.underlying 97 = some (.map 99 4) := by kernel_rfl
theorem zero_bool (W : World) : (zeroValue 4).run Try.prog W = .ok (.bool false) W := by kernel_rfl

theorem look_run {W : World} {M : Nat} {es : Array MapEntry} {clock : Nat} {a b : Addr} (n : Nat) (hm : W.heap[M]? = some (.map es clock)) (hk : ∀ e ∈ es.toList, KeyE W e) (ha : Free W a.block) (hb : Free W b.block) :
    ∃ c : Bool, (Instr.lookup 97 (.map (some M)) (kl a b n) false).run Try.prog W = .ok (.bool c) W ∧ (c = true → ∃ e ∈ es.toList, e.key = kl a b n) ∧ (c = false → (Instr.findKey 99 (kl a b n) es.toList).run Try.prog W = .ok none W) := by
  rcases findKey_run (n := n) ha hb es.toList hk with ⟨j, h1, h2⟩ | h1
  · exact ⟨true, by simp [Instr.lookup, run_underlying undM, MapKept.run_getObj_map hm, ck, h1, Result.andThen], fun _ => h2, fun h => by cases h⟩
  · exact ⟨false, by simp [Instr.lookup, run_underlying undM, MapKept.run_getObj_map hm, ck, h1, Result.andThen], (fun h => by cases h), fun _ => h1⟩

theorem put_run {W : World} {M : Nat} {es : Array MapEntry} {clock : Nat} {a b : Addr} {n : Nat} (hm : W.heap[M]? = some (.map es clock)) (h1 : (Instr.findKey 99 (kl a b n) es.toList).run Try.prog W = .ok none W) :
    (Instr.mapUpdate 97 (.map (some M)) (kl a b n) (.bool true)).run Try.prog W = .ok () (kput W M es clock (kl a b n)) := by
  simp [Instr.mapUpdate, run_underlying undM, MapKept.run_getObj_map hm, ck, h1, MapKept.run_setObj_map _ hm, Result.andThen, kput]

end Go.Proofs.Ytkpbiifikkbaeaa.Con.KCore
