/-
  A map of numbers to places of shifted core terms, which stays apart from a set of blocks: its look-up and its store. Condition: what the map names lies in memory.
-/
import Derived.Test.YtfbgkbgoooepmaaDoorCoSb
import Derived.Maps.Own
import Derived.LaidEql
namespace Go.Proofs.YtfbgkbgoooepmaaDoor.Con
open Go.RowKit
set_option linter.unusedVariables false

theorem num_bl_cell {w : World} {a : Option Addr} {c : Nat} {L : List Int} (h : numSl w a c L) : ∀ y ∈ nbl nB a L, ∃ p v, w.cell? ⟨y, p, none⟩ = some v := fun y hy => by
  rcases h.2.2 with rfl | ⟨b, o, rfl, hr⟩
  · simp [nbl] at hy
  · cases L with
    | nil => simp [nbl] at hy
    | cons x L =>
      have hl := (hr 0 (by simp)).1 0 _ rfl
      rw [nb_ne (by simp)] at hy
      rcases List.mem_cons.1 hy with rfl | hy
      · exact ⟨_, _, hl⟩
      · obtain ⟨z, _, hz⟩ := List.mem_flatMap.1 hy
        cases hz
theorem ok_bl_cell (u : LK) : ∀ w, u.Ok w → ∀ y ∈ u.bl, ∃ p v, w.cell? ⟨y, p, none⟩ = some v := by
  refine LK.ind (P := fun u => ∀ w, u.Ok w → ∀ y ∈ u.bl, ∃ p v, w.cell? ⟨y, p, none⟩ = some v) (fun k v da dc ds a c ks ih w h y hy => ?_) u
  rw [LK.bl_eq] at hy
  obtain ⟨⟨_, _, hd⟩, hk⟩ := (LK.ok_iff _).1 h
  rcases List.mem_append.1 hy with hy | hy
  · exact num_bl_cell hd y hy
  · rcases hk.2.2 with e | ⟨b, o, e, hr⟩
    · have e' : ks = [] := e
      subst e'
      have hy' : y ∈ nbl LK.bl a [] := hy
      simp [nbl] at hy'
    · have e' : a = some ⟨b, o, none⟩ := e
      subst e'
      by_cases hne : ks = []
      · subst hne
        have hy' : y ∈ nbl LK.bl (some ⟨b, o, none⟩) [] := hy
        simp [nbl] at hy'
      · have hy' : y ∈ nbl LK.bl (some ⟨b, o, none⟩) ks := hy
        rw [nb_ne hne] at hy'
        have hpos : 0 < ks.length := by
          cases ks with
          | nil => exact absurd rfl hne
          | cons _ _ => simp
        rcases List.mem_cons.1 hy' with rfl | hy'
        · exact ⟨_, _, (hr 0 hpos).1 0 _ rfl⟩
        · obtain ⟨z, hz, hzy⟩ := List.mem_flatMap.1 hy'
          obtain ⟨i, hi, rfl⟩ := List.mem_iff_getElem.1 hz
          exact ih _ (List.getElem_mem hi) w (hr i hi).2 y hzy
theorem map_no_cell {w : World} {M p : Nat} {es : Array MapEntry} {c : Nat} (h : w.heap[M]? = some (.map es c)) : w.cell? ⟨M, p, none⟩ = none := by
  simp [World.cell?, h]
theorem coAt.chg {w w' : World} {S : Nat → Prop} {b o : Nat} {u : LK} (h : coAt w b o u) (hc : Chg w w' S) (hb : ¬ S b) (hu : ∀ y ∈ u.bl, ¬ S y) : coAt w' b o u :=
  ⟨fun j v hv => (World.cell?_of_block (a := ⟨b, o + j, none⟩) (hc.2.2.2.2 b h.lt hb)).trans (h.1 j v hv), coFr _ _ _ h.2 fun y hy => hc.2.2.2.2 y (ok_bl_lt u w h.2 y hy) (hu y hy)⟩

/-- One entry: a number and the place of the core term raised by it. -/
def AEnt (w : World) (a : Co) (Z : Nat → Prop) (e : MapEntry) : Prop := ∃ (n b o : Nat) (x : LK), e.key = .int .i64 (n : Int) ∧ e.val = .pointer (some ⟨b, o, none⟩) ∧ coAt w b o x ∧ x.co = a.sh n 0 ∧ ¬ Z b ∧ ∀ y ∈ x.bl, ¬ Z y
theorem AEnt.chg {w w' : World} {a : Co} {Z : Nat → Prop} {e : MapEntry} (h : AEnt w a Z e) (hc : Chg w w' Z) : AEnt w' a Z e := by
  obtain ⟨n, b, o, x, h1, h2, h3, h4, h5, h6⟩ := h
  exact ⟨n, b, o, x, h1, h2, h3.chg hc h5 h6, h4, h5, h6⟩
theorem AEnt.ext {w : World} {a : Co} {Z Z' : Nat → Prop} {e : MapEntry} (h : AEnt w a Z e) (hZ : ∀ y, y < w.heap.size → Z' y → Z y) : AEnt w a Z' e := by
  obtain ⟨n, b, o, x, h1, h2, h3, h4, h5, h6⟩ := h
  exact ⟨n, b, o, x, h1, h2, h3, h4, fun e => h5 (hZ _ h3.lt e), fun y hy e => h6 y hy (hZ _ (ok_bl_lt x w h3.2 y hy) e)⟩
/-- A map of such entries, in no block of Z. -/
def AMap (w : World) (M : Nat) (a : Co) (Z : Nat → Prop) : Prop := (∃ es clock, w.heap[M]? = some (.map es clock) ∧ ∀ e ∈ es.toList, AEnt w a Z e) ∧ ¬ Z M
theorem AMap.lt {w : World} {M : Nat} {a : Co} {Z : Nat → Prop} (h : AMap w M a Z) : M < w.heap.size := by
  obtain ⟨⟨es, c, h, _⟩, _⟩ := h
  exact (Array.getElem?_eq_some_iff.1 h).1
theorem AMap.chg {w w' : World} {M : Nat} {a : Co} {Z : Nat → Prop} (h : AMap w M a Z) (hc : Chg w w' Z) : AMap w' M a Z := by
  have hl := h.lt
  obtain ⟨⟨es, c, h1, h2⟩, h3⟩ := h
  exact ⟨⟨es, c, (hc.2.2.2.2 M hl h3).trans h1, fun e he => (h2 e he).chg hc⟩, h3⟩
theorem AMap.grow {w w' : World} {M : Nat} {a : Co} {Z : Nat → Prop} (h : AMap w M a Z) (g : Gw w w') : AMap w' M a Z := h.chg (Chg.of_gw g Z)
theorem AMap.ext {w : World} {M : Nat} {a : Co} {Z Z' : Nat → Prop} (h : AMap w M a Z) (hZ : ∀ y, y < w.heap.size → Z' y → Z y) : AMap w M a Z' := by
  have hl := h.lt
  obtain ⟨⟨es, c, h1, h2⟩, h3⟩ := h
  exact ⟨⟨es, c, h1, fun e he => (h2 e he).ext hZ⟩, fun e => h3 (hZ M hl e)⟩
theorem AMap.new (w : World) (a : Co) (Z : Nat → Prop) (h : ¬ Z w.heap.size) : AMap (w.alloc (.map #[] 0)) w.heap.size a Z := ⟨⟨#[], 0, heap_alloc_new w _, by simp⟩, h⟩
theorem AMap.no {w : World} {M p : Nat} {a : Co} {Z : Nat → Prop} (h : AMap w M a Z) : w.cell? ⟨M, p, none⟩ = none := by
  obtain ⟨⟨es, c, h1, _⟩, _⟩ := h
  exact map_no_cell h1
theorem AMap.ne {w : World} {M b p : Nat} {a : Co} {Z : Nat → Prop} {v : Value} (h : AMap w M a Z) (hv : w.cell? ⟨b, p, none⟩ = some v) : b ≠ M := fun e => by
  subst e; rw [h.no] at hv; cases hv

theorem und_amap : Tryd.prog.underlying 113 = some (.map 2 61) := by kernel_rfl
theorem ckI (W : World) (e : Bool) (n : Int) : (Instr.checkKey e 10000 2 (.int .i64 n)).run Tryd.prog W = .ok () W := by kernel_rfl

theorem findI (n : Int) : ∀ (es : List MapEntry) (i : Nat), (∀ e ∈ es, ∃ m : Int, e.key = .int .i64 m) →
    (Instr.findNow (.int .i64) (.int .i64 n) es i = some none) ∨ (∃ j e, e ∈ es ∧ e.key = .int .i64 n ∧ Instr.findNow (.int .i64) (.int .i64 n) es i = some (some (j, e.val)))
  | [], i, _ => .inl rfl
  | e :: es, i, h => by
    obtain ⟨m, hm⟩ := h e (by simp)
    by_cases hnm : n = m
    · subst hnm
      exact .inr ⟨i, e, by simp, hm, by simp [Instr.findNow, Instr.sameNow, hm]⟩
    · have hb : (n == m) = false := by simpa using hnm
      have e1 : Instr.findNow (.int .i64) (.int .i64 n) (e :: es) i = Instr.findNow (.int .i64) (.int .i64 n) es (i + 1) := by
        simp [Instr.findNow, Instr.sameNow, hm, hb]
      rw [e1]
      rcases findI n es (i + 1) (fun x hx => h x (by simp [hx])) with h1 | ⟨j, x, hx, h1, h2⟩
      · exact .inl h1
      · exact .inr ⟨j, x, by simp [hx], h1, h2⟩

/-- The map has no such key. -/
def NoKey (W : World) (M : Nat) (n : Nat) : Prop := ∃ es c, W.heap[M]? = some (.map es c) ∧ Instr.findNow (.int .i64) (.int .i64 (n : Int)) es.toList 0 = some none
theorem NoKey.same {W W' : World} {M n : Nat} (h : NoKey W M n) (hs : W'.heap[M]? = W.heap[M]?) : NoKey W' M n := by
  obtain ⟨es, c, h1, h2⟩ := h
  exact ⟨es, c, hs.trans h1, h2⟩
/-- What a look-up finds: nothing, or the place of the core term raised by the number. -/
theorem AMap.look {W : World} {M : Nat} {a : Co} {Z : Nat → Prop} (h : AMap W M a Z) (n : Nat) :
    ((Instr.lookup 113 (.map (some M)) (.int .i64 (n : Int)) false).run Tryd.prog W = .ok (.pointer none) W ∧ NoKey W M n) ∨
    (∃ (b o : Nat) (x : LK), (Instr.lookup 113 (.map (some M)) (.int .i64 (n : Int)) false).run Tryd.prog W = .ok (.pointer (some ⟨b, o, none⟩)) W ∧ coAt W b o x ∧ x.co = a.sh n 0 ∧ ¬ Z b ∧ ∀ y ∈ x.bl, ¬ Z y) := by
  obtain ⟨⟨es, c, hm, h1⟩, h3⟩ := h
  have hkeys : ∀ e ∈ es.toList, ∃ m : Int, e.key = .int .i64 m := fun e he => by
    obtain ⟨m, _, _, _, hk, _⟩ := h1 e he
    exact ⟨m, hk⟩
  rcases findI n es.toList 0 hkeys with hf | ⟨j, e, he, hk, hf⟩
  · have fk : (Instr.findKey 2 (.int .i64 (n : Int)) es.toList).run Tryd.prog W = .ok none W := by
      simp only [Instr.findKey, Sem.run_bind, run_underlying Tryd.underlying2, Result.andThen_ok, hf]; rfl
    exact .inl ⟨by simp [Instr.lookup, run_underlying und_amap, MapKept.run_getObj_map hm, ckI, fk, Result.andThen], es, c, hm, hf⟩
  · obtain ⟨m, b, o, x, k1, k2, k3, k4, k5, k6⟩ := h1 e he
    rw [hk] at k1
    have hmn : n = m := by injection k1 with _ k1; omega
    subst hmn
    rw [k2] at hf
    have fk : (Instr.findKey 2 (.int .i64 (n : Int)) es.toList).run Tryd.prog W = .ok (some (j, .pointer (some ⟨b, o, none⟩))) W := by
      simp only [Instr.findKey, Sem.run_bind, run_underlying Tryd.underlying2, Result.andThen_ok, hf]; rfl
    refine .inr ⟨b, o, x, ?_, k3, k4, k5, k6⟩
    simp [Instr.lookup, run_underlying und_amap, MapKept.run_getObj_map hm, ckI, fk, Result.andThen]
theorem findI_snoc (n : Int) (z : Value) (c : Nat) : ∀ (L : List MapEntry) (i : Nat), (∀ e ∈ L, ∃ m : Int, e.key = .int .i64 m) → Instr.findNow (.int .i64) (.int .i64 n) L i = some none → ∃ j, Instr.findNow (.int .i64) (.int .i64 n) (L ++ [⟨.int .i64 n, z, c⟩]) i = some (some (j, z))
  | [], i, _, _ => ⟨i, by simp [Instr.findNow, Instr.sameNow]⟩
  | e :: L, i, hk, hf => by
    obtain ⟨m, hm⟩ := hk e (by simp)
    by_cases hnm : n = m
    · subst hnm
      simp [Instr.findNow, Instr.sameNow, hm] at hf
    · have hb : (n == m) = false := by simpa using hnm
      have e1 : ∀ L' : List MapEntry, Instr.findNow (.int .i64) (.int .i64 n) (e :: L') i = Instr.findNow (.int .i64) (.int .i64 n) L' (i + 1) := fun L' => by
        simp [Instr.findNow, Instr.sameNow, hm, hb]
      rw [e1] at hf
      obtain ⟨j, hj⟩ := findI_snoc n z c L (i + 1) (fun x hx => hk x (by simp [hx])) hf
      exact ⟨j, by rw [List.cons_append, e1]; exact hj⟩
theorem AMap.put {W : World} {M : Nat} {a : Co} {Z : Nat → Prop} (h : AMap W M a Z) {n : Nat} (hn : NoKey W M n) {b o : Nat} {x : LK} (hx : coAt W b o x) (hxc : x.co = a.sh n 0) (hb : ¬ Z b) (hbl : ∀ y ∈ x.bl, ¬ Z y) :
    ∃ W', (Instr.mapUpdate 113 (.map (some M)) (.int .i64 (n : Int)) (.pointer (some ⟨b, o, none⟩))).run Tryd.prog W = .ok () W' ∧ AMap W' M a Z ∧ Chg W W' (fun y => y = M) ∧ (Instr.lookup 113 (.map (some M)) (.int .i64 (n : Int)) false).run Tryd.prog W' = .ok (.pointer (some ⟨b, o, none⟩)) W' := by
  obtain ⟨⟨es, c, hm, h1⟩, h3⟩ := h
  obtain ⟨es', c', hm', hf⟩ := hn
  obtain ⟨rfl, rfl⟩ : es = es' ∧ c = c' := by
    rw [hm] at hm'
    injection hm' with hm'
    injection hm' with h1 h2
    exact ⟨h1, h2⟩
  have hkeys : ∀ e ∈ es.toList, ∃ m : Int, e.key = .int .i64 m := fun e he => by
    obtain ⟨m, _, _, _, hk, _⟩ := h1 e he
    exact ⟨m, hk⟩
  have fk : (Instr.findKey 2 (.int .i64 (n : Int)) es.toList).run Tryd.prog W = .ok none W := by
    simp only [Instr.findKey, Sem.run_bind, run_underlying Tryd.underlying2, Result.andThen_ok, hf]; rfl
  have hl := (Array.getElem?_eq_some_iff.1 hm).1
  have far : ∀ (b' o' : Nat) (x' : LK), coAt W b' o' x' → b' ≠ M ∧ ∀ y ∈ x'.bl, y ≠ M := by
    intro b' o' x' k3
    constructor
    · intro e
      have := k3.c.1
      rw [e, map_no_cell hm] at this
      cases this
    · intro y hy e
      obtain ⟨p, v, hv⟩ := ok_bl_cell x' W k3.2 y hy
      rw [e, map_no_cell hm] at hv
      cases hv
  obtain ⟨W', hW'⟩ : ∃ W' : World, W' = { W with heap := W.heap.setIfInBounds M (.map (es.push ⟨.int .i64 (n : Int), .pointer (some ⟨b, o, none⟩), c⟩) (c + 1)) } := ⟨_, rfl⟩
  have hm2 : W'.heap[M]? = some (.map (es.push ⟨.int .i64 (n : Int), .pointer (some ⟨b, o, none⟩), c⟩) (c + 1)) := by rw [hW']; simp [hl]
  have hch : Chg W W' (fun y => y = M) := by
    rw [hW']
    refine ⟨rfl, rfl, rfl, by simp, fun y hy hn => ?_⟩
    show (W.heap.setIfInBounds M _)[y]? = W.heap[y]?
    rw [Array.getElem?_setIfInBounds]
    split
    · next e => exact absurd e.symm hn
    · rfl
  refine ⟨W', ?_, ⟨⟨_, _, hm2, fun e he => ?_⟩, h3⟩, hch, ?_⟩
  · rw [hW']
    simp [Instr.mapUpdate, run_underlying und_amap, MapKept.run_getObj_map hm, ckI, fk, MapKept.run_setObj_map _ hm, Result.andThen]
  · rw [Array.toList_push, List.mem_append] at he
    rcases he with he | he
    · obtain ⟨m, b', o', x', k1, k2, k3, k4, k5, k6⟩ := h1 e he
      obtain ⟨f1, f2⟩ := far _ _ _ k3
      exact ⟨m, b', o', x', k1, k2, k3.chg hch f1 f2, k4, k5, k6⟩
    · obtain rfl : e = _ := by simpa using he
      obtain ⟨f1, f2⟩ := far _ _ _ hx
      exact ⟨n, b, o, x, rfl, rfl, hx.chg hch f1 f2, hxc, hb, hbl⟩
  · obtain ⟨j, hj⟩ := findI_snoc n (.pointer (some ⟨b, o, none⟩)) c es.toList 0 hkeys hf
    have fk' : (Instr.findKey 2 (.int .i64 (n : Int)) (es.toList ++ [⟨.int .i64 (n : Int), .pointer (some ⟨b, o, none⟩), c⟩])).run Tryd.prog W' = .ok (some (j, .pointer (some ⟨b, o, none⟩))) W' := by
      simp only [Instr.findKey, Sem.run_bind, run_underlying Tryd.underlying2, Result.andThen_ok, hj]; rfl
    simp [Instr.lookup, run_underlying und_amap, MapKept.run_getObj_map hm2, ckI, fk', Result.andThen]

theorem Chg.cell {w w' : World} {S : Nat → Prop} (h : Chg w w' S) {a : Addr} {v : Value} (hc : w.cell? a = some v) (hS : ¬ S a.block) : w'.cell? a = some v :=
  (World.cell?_of_block (h.2.2.2.2 a.block (cell_lt hc) hS)).trans hc
theorem RowS.chg {w w' : World} {S : Nat → Prop} {g n : Nat} {us : List LK} (h : RowS w g n us) (hc : Chg w w' S) (hg : ¬ S g) (hu : ∀ z ∈ us, ∀ y ∈ z.bl, ¬ S y) : RowS w' g n us := by
  obtain ⟨⟨cs, e, h1, h2⟩, h3, h4⟩ := h
  have hb := hc.2.2.2.2 g (Array.getElem?_eq_some_iff.1 h1).1 hg
  refine ⟨⟨cs, e, hb.trans h1, h2⟩, fun i hi => ⟨fun j v hv => ?_, ?_⟩, h4⟩
  · exact (World.cell?_of_block (a := ⟨g, 0 + i * 4 + j, none⟩) hb).trans ((h3 i hi).1 j v hv)
  · exact coFr _ _ _ (h3 i hi).2 fun y hy => hc.2.2.2.2 y (ok_bl_lt _ w (h3 i hi).2 y hy) (hu _ (List.getElem_mem hi) y hy)

/-- What the visitor of an instantiation reads: the map and the argument, apart from the blocks of Z. -/
def InsI (w : World) (Z : Nat → Prop) (BM BG M ab ao : Nat) (a : LK) : Prop := w.cell? ⟨BM, 0, none⟩ = some (.map (some M)) ∧ w.cell? ⟨BG, 0, none⟩ = some (.pointer (some ⟨ab, ao, none⟩)) ∧ AMap w M a.co Z ∧ coAt w ab ao a ∧ (¬ Z BM ∧ ¬ Z BG ∧ ¬ Z ab ∧ ∀ y ∈ a.bl, ¬ Z y)
theorem InsI.chg {w w' : World} {Z : Nat → Prop} {BM BG M ab ao : Nat} {a : LK} (h : InsI w Z BM BG M ab ao a) (hc : Chg w w' Z) : InsI w' Z BM BG M ab ao a := by
  obtain ⟨h1, h2, h3, h4, h5, h6, h7, h8⟩ := h
  exact ⟨hc.cell h1 h5, hc.cell h2 h6, h3.chg hc, h4.chg hc h7 h8, h5, h6, h7, h8⟩
theorem InsI.grow {w w' : World} {Z : Nat → Prop} {BM BG M ab ao : Nat} {a : LK} (h : InsI w Z BM BG M ab ao a) (g : Gw w w') : InsI w' Z BM BG M ab ao a := h.chg (Chg.of_gw g Z)
theorem InsI.ext {w : World} {Z Z' : Nat → Prop} {BM BG M ab ao : Nat} {a : LK} (h : InsI w Z BM BG M ab ao a) (hZ : ∀ y, y < w.heap.size → Z' y → Z y) : InsI w Z' BM BG M ab ao a := by
  obtain ⟨h1, h2, h3, h4, h5, h6, h7, h8⟩ := h
  exact ⟨h1, h2, h3.ext hZ, h4, fun e => h5 (hZ _ (cell_lt h1) e), fun e => h6 (hZ _ (cell_lt h2) e), fun e => h7 (hZ _ h4.lt e), fun y hy e => h8 y hy (hZ y (ok_bl_lt a w h4.2 y hy) e)⟩
theorem AMap.far {w : World} {M : Nat} {a : Co} {Z : Nat → Prop} (h : AMap w M a Z) {b o : Nat} {u : LK} (hu : coAt w b o u) : b ≠ M ∧ ∀ y ∈ u.bl, y ≠ M :=
  ⟨h.ne hu.c.1, fun y hy e => by
    obtain ⟨p, v, hv⟩ := ok_bl_cell u w hu.2 y hy
    exact h.ne hv e⟩
theorem InsI.put {w w' : World} {Z : Nat → Prop} {BM BG M ab ao : Nat} {a : LK} (h : InsI w Z BM BG M ab ao a) (hc : Chg w w' (fun y => y = M)) (hm : AMap w' M a.co Z) : InsI w' Z BM BG M ab ao a := by
  obtain ⟨h1, h2, h3, h4, h5, h6, h7, h8⟩ := h
  obtain ⟨f1, f2⟩ := h3.far h4
  exact ⟨hc.cell h1 (h3.ne h1), hc.cell h2 (h3.ne h2), hm, h4.chg hc f1 f2, h5, h6, h7, h8⟩

/-- What a substitution gives: a node somewhere, apart from the blocks of Z; only the map may have turned. -/
def VP (w : World) (Z : Nat → Prop) (BM BG M ab ao : Nat) (a : LK) (t : Co) (e : Ending) (w' : World) : Prop := ∃ (b o : Nat) (x : LK), e = .returned (.pointer (some ⟨b, o, none⟩)) ∧ coAt w' b o x ∧ x.co = t ∧ ¬ Z b ∧ (∀ y ∈ x.bl, ¬ Z y) ∧ InsI w' Z BM BG M ab ao a ∧ Chg w w' (fun y => y = M)

end Go.Proofs.YtfbgkbgoooepmaaDoor.Con
