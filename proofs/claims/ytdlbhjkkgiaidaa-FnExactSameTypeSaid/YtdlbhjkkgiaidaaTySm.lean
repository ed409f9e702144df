/-
  The map of pairs of places that SameType keeps: its look-up and its store. Condition: the places lie in blocks of cells.
-/
import Derived.Test.YtdlbhjkkgiaidaaTyLaw
import Derived.Maps.Own
import Derived.LaidEql
import Derived.Laws.StructEq
namespace Go.Proofs.Ytdlbhjkkgiaidaa.Con
open Go.RowKit
set_option linter.unusedVariables false

/-- The key of two places. -/
def pk (a b : Addr) : Value := .agg #[.pointer (some a), .pointer (some b)]
theorem pk_inj {a b c d : Addr} (h : pk a b = pk c d) : a = c ∧ b = d := by
  unfold pk at h; simpa using h

theorem flds : ∃ f g : Field, Try.prog.fieldsOf 80 = #[f, g] ∧ f.name = "a" ∧ g.name = "b" ∧ f.type = 78 ∧ g.type = 78 ∧ f.offset = 0 ∧ g.offset = 1 :=
  ⟨(Try.prog.fieldsOf 80)[0]'(by decide +kernel), (Try.prog.fieldsOf 80)[1]'(by decide +kernel), by kernel_rfl, by kernel_rfl, by kernel_rfl, by kernel_rfl, by kernel_rfl, by kernel_rfl, by kernel_rfl⟩

theorem part0 (a b : Addr) (W : World) : (part 78 #[.pointer (some a), .pointer (some b)] 0).run Try.prog W = .ok (.pointer (some a)) W := by kernel_rfl
theorem part1 (a b : Addr) (W : World) : (part 78 #[.pointer (some a), .pointer (some b)] 1).run Try.prog W = .ok (.pointer (some b)) W := by kernel_rfl

theorem eq78 (W : World) (a c : Addr) (d : Nat) : (Op.equalIn (d + 1) 78 (.pointer (some a)) (.pointer (some c))).run Try.prog W = (sameAddr a c).run Try.prog W := by
  have hp : Try.prog.underlying 78 = some (.pointer 29) := by kernel_rfl
  obtain ⟨i, hi, hs⟩ : ∃ i, Try.prog.info? 29 = some i ∧ i.size = 3 := by
    obtain ⟨i0, hi, _, hz, _⟩ := info_parts (P := Try.prog) (e := 29) (z := .agg #[.int .i64 0, .string ⟨#[]⟩, .slice none 0 0]) (size := 3) (bytes := 48) (by kernel_rfl)
    exact ⟨i0, hi, hz⟩
  simp [Op.equalIn, run_underlying hp, sizeOf, typeInfo, hi, hs]

theorem eqk (W : World) (a b c d : Addr) (x y : Bool) (h1 : (sameAddr a c).run Try.prog W = .ok x W) (h2 : (sameAddr b d).run Try.prog W = .ok y W) : (Op.equal 80 (pk a b) (pk c d)).run Try.prog W = .ok (x && y) W := by
  obtain ⟨f, g, hf, n1, n2, t1, t2, o1, o2⟩ := flds
  unfold Op.equal Op.maxDepth pk
  rw [run_equalIn_struct W 9999 80 _ _ (by kernel_rfl) (by kernel_rfl), hf]
  cases x <;> cases y <;> simp [Op.eqFields, n1, n2, t1, t2, o1, o2, part0, part1, eq78, h1, h2]

theorem ck (W : World) (e : Bool) (a b : Addr) : (Instr.checkKey e 10000 80 (pk a b)).run Try.prog W = .ok () W := by
  kernel_rfl

theorem same_run {W : World} {p q : Addr} (hp : Free W p.block) (hq : Free W q.block) : (sameAddr p q).run Try.prog W = .ok (decide (p = q)) W := by
  by_cases h : p = q
  · subst h; simp [run_sameAddr_same]
  · obtain ⟨ca, ta, ha⟩ := hp
    obtain ⟨cb, tb, hb⟩ := hq
    rw [run_sameAddr_other W h ha hb]; simp [h]

def Keys (w : World) (es : Array MapEntry) : Prop := ∀ e ∈ es.toList, e.val = .bool true ∧ ∃ p q, e.key = pk p q ∧ Free w p.block ∧ Free w q.block

theorem find_run {W : World} {a b : Addr} (ha : Free W a.block) (hb : Free W b.block) : ∀ (es : List MapEntry) (i : Nat), (∀ e ∈ es, e.val = .bool true ∧ ∃ p q, e.key = pk p q ∧ Free W p.block ∧ Free W q.block) →
    (∃ j, (Instr.findAsking 80 (pk a b) es i).run Try.prog W = .ok (some (j, .bool true)) W ∧ ∃ e ∈ es, e.key = pk a b) ∨ (Instr.findAsking 80 (pk a b) es i).run Try.prog W = .ok none W
  | [], i, _ => .inr rfl
  | e :: es, i, h => by
    obtain ⟨hv, p, q, hk, hp, hq⟩ := h e (by simp)
    have heq := eqk W a b p q _ _ (same_run ha hp) (same_run hb hq)
    by_cases hpq : a = p ∧ b = q
    · obtain ⟨rfl, rfl⟩ := hpq
      refine .inl ⟨i, ?_, e, by simp, hk⟩
      simp [Instr.findAsking, hk, heq, hv]
    · have hd : (decide (a = p) && decide (b = q)) = false := by simpa using hpq
      rw [hd] at heq
      rcases find_run ha hb es (i + 1) (fun x hx => h x (by simp [hx])) with ⟨j, h1, x, hx, h2⟩ | h1
      · exact .inl ⟨j, by simp [Instr.findAsking, hk, heq, h1], x, by simp [hx], h2⟩
      · exact .inr (by simp [Instr.findAsking, hk, heq, h1])

theorem und80 : Try.prog.underlying 80 = some (.struct (Try.prog.fieldsOf 80)) := by kernel_rfl

theorem findKey_run {W : World} {a b : Addr} (ha : Free W a.block) (hb : Free W b.block) (es : List MapEntry) (h : ∀ e ∈ es, e.val = .bool true ∧ ∃ p q, e.key = pk p q ∧ Free W p.block ∧ Free W q.block) :
    (∃ j, (Instr.findKey 80 (pk a b) es).run Try.prog W = .ok (some (j, .bool true)) W ∧ ∃ e ∈ es, e.key = pk a b) ∨ (Instr.findKey 80 (pk a b) es).run Try.prog W = .ok none W := by
  have key := find_run ha hb es 0 h
  cases es with
  | nil => exact .inr (by simp [Instr.findKey, run_underlying und80, Instr.findNow])
  | cons e es =>
    have hn : Instr.findNow (.struct (Try.prog.fieldsOf 80)) (pk a b) (e :: es) 0 = none := by
      unfold Instr.findNow Instr.sameNow; rfl
    rcases key with ⟨j, h1, h2⟩ | h1
    · exact .inl ⟨j, by simp only [Instr.findKey, Sem.run_bind, run_underlying und80, Result.andThen_ok, hn]; exact h1, h2⟩
    · exact .inr (by simp only [Instr.findKey, Sem.run_bind, run_underlying und80, Result.andThen_ok, hn]; exact h1)

theorem und76 : Try.prog.underlying 76 = some (.map 80 4) := by kernel_rfl
theorem zero_bool (W : World) : (zeroValue 4).run Try.prog W = .ok (.bool false) W := by kernel_rfl

theorem look_run {W : World} {M : Nat} {es : Array MapEntry} {clock : Nat} {a b : Addr} (hm : W.heap[M]? = some (.map es clock)) (hk : Keys W es) (ha : Free W a.block) (hb : Free W b.block) :
    ∃ c : Bool, (Instr.lookup 76 (.map (some M)) (pk a b) false).run Try.prog W = .ok (.bool c) W ∧ (c = true → ∃ e ∈ es.toList, e.key = pk a b) ∧ (c = false → (Instr.findKey 80 (pk a b) es.toList).run Try.prog W = .ok none W) := by
  rcases findKey_run ha hb es.toList hk with ⟨j, h1, h2⟩ | h1
  · exact ⟨true, by simp [Instr.lookup, run_underlying und76, MapKept.run_getObj_map hm, ck, h1, Result.andThen], fun _ => h2, fun h => by cases h⟩
  · exact ⟨false, by simp [Instr.lookup, run_underlying und76, MapKept.run_getObj_map hm, ck, h1, Result.andThen], (fun h => by cases h), fun _ => h1⟩

theorem put_run {W : World} {M : Nat} {es : Array MapEntry} {clock : Nat} {a b : Addr} (hm : W.heap[M]? = some (.map es clock)) (h1 : (Instr.findKey 80 (pk a b) es.toList).run Try.prog W = .ok none W) :
    (Instr.mapUpdate 76 (.map (some M)) (pk a b) (.bool true)).run Try.prog W = .ok () { W with heap := W.heap.setIfInBounds M (.map (es.push ⟨pk a b, .bool true, clock⟩) (clock + 1)) } := by
  simp [Instr.mapUpdate, run_underlying und76, MapKept.run_getObj_map hm, ck, h1, MapKept.run_setObj_map _ hm, Result.andThen]

end Go.Proofs.Ytdlbhjkkgiaidaa.Con
