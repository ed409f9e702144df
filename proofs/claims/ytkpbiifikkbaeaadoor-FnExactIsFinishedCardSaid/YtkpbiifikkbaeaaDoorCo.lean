/-
  Core terms as they lie in memory ('LK': a node with the addresses of its data and of its kids), rows of numbers, core terms in blocks of their own, a block that holds one, and an argument that is one. No condition.
-/
import Derived.Test.YtkpbiifikkbaeaaDoorGr
import Derived.Test.YtkpbiifikkbaeaaDoorDa
import Derived.Test.YtkpbiifikkbaeaaDoorDaSz
import Derived.Test.YtkpbiifikkbaeaaDoorTyBox
namespace Go.Proofs.YtkpbiifikkbaeaaDoor.Con
open Go.RowKit Go.ChangeShapes Go.WideShapes Go.ChangeAt Go.Deep
set_option linter.unusedVariables false

/-- Whole numbers in a row. -/
def nE (n : Int) : List Value := [.int .i64 n]
def nOk (_ : World) (n : Int) : Prop := -9223372036854775808 ≤ n ∧ n ≤ 9223372036854775807
def nB (_ : Int) : List Nat := []
abbrev numSl (w : World) (a : Option Addr) (cap : Nat) (xs : List Int) : Prop := gSl 1 nE nOk w a cap xs
theorem nFr : gFr nOk nB := fun _ _ _ h _ => h
theorem nGr : gGr nOk := fun _ _ _ h _ => h
theorem nLen (x : Int) : (nE x).length = 1 := rfl
theorem numSl.grow {w w' : World} {a : Option Addr} {cap : Nat} {xs : List Int} (h : numSl w a cap xs) (g : Gw w w') : numSl w' a cap xs := gSl.grow nLen nGr h g
theorem numRow_get {w : World} {ns : List Int} {b o : Nat} (h : gRow 1 nE nOk w ns b o) (i : Nat) (hi : i < ns.length) : w.cell? ⟨b, o + i, none⟩ = some (.int .i64 ns[i]) ∧ -9223372036854775808 ≤ ns[i] ∧ ns[i] ≤ 9223372036854775807 := by
  obtain ⟨h1, h2⟩ := h i hi
  have := h1 0 _ rfl
  rw [Nat.mul_one, Nat.add_zero] at this
  exact ⟨this, h2⟩

inductive LK where
  | mk (k v : Int) (da : Option Addr) (dc : Nat) (ds : List Int) (a : Option Addr) (cap : Nat) (ks : List LK)
instance : Inhabited LK := ⟨.mk 0 0 none 0 [] none 0 []⟩
def LK.k : LK → Int | .mk k _ _ _ _ _ _ _ => k
def LK.v : LK → Int | .mk _ v _ _ _ _ _ _ => v
def LK.da : LK → Option Addr | .mk _ _ da _ _ _ _ _ => da
def LK.dc : LK → Nat | .mk _ _ _ dc _ _ _ _ => dc
def LK.ds : LK → List Int | .mk _ _ _ _ ds _ _ _ => ds
def LK.a : LK → Option Addr | .mk _ _ _ _ _ a _ _ => a
def LK.cap : LK → Nat | .mk _ _ _ _ _ _ c _ => c
def LK.ks : LK → List LK | .mk _ _ _ _ _ _ _ ks => ks
theorem LK.eta (u : LK) : u = .mk u.k u.v u.da u.dc u.ds u.a u.cap u.ks := by cases u; rfl

/-- The cells of a core term. -/
def coE (u : LK) : List Value := [.int .i64 u.k, .int .i64 u.v, .slice u.da u.ds.length u.dc, .slice u.a u.ks.length u.cap]
/-- The struct as a value. -/
abbrev LK.val (u : LK) : Value := .agg #[.int .i64 u.k, .int .i64 u.v, .slice u.da u.ds.length u.dc, .slice u.a u.ks.length u.cap]
/-- The struct as a block. -/
abbrev LK.obj (u : LK) (e : TypeId) : Obj := .cells #[.int .i64 u.k, .int .i64 u.v, .slice u.da u.ds.length u.dc, .slice u.a u.ks.length u.cap] e
theorem coLen (u : LK) : (coE u).length = 4 := rfl

theorem LK.ind {P : LK → Prop} (h : ∀ k v da dc ds a c ks, (∀ u ∈ ks, P u) → P (.mk k v da dc ds a c ks)) : ∀ u, P u := fun u =>
  LK.rec (motive_1 := P) (motive_2 := fun ks => ∀ u ∈ ks, P u) (fun k v da dc ds a c ks ih => h k v da dc ds a c ks ih) (fun _ h => by cases h)
    (fun t ts ht hts u hu => by
      rcases List.mem_cons.1 hu with rfl | hu
      · exact ht
      · exact hts u hu) u

def cin64 (x : Int) : Prop := -9223372036854775808 ≤ x ∧ x ≤ 9223372036854775807

mutual
def LK.Ok (w : World) : LK → Prop
  | .mk k v da dc ds a cap ks => (cin64 k ∧ cin64 v ∧ numSl w da dc ds) ∧ ks.length ≤ cap ∧ cap ≤ maxLen ∧ (ks = [] ∨ ∃ b o, a = some ⟨b, o, none⟩ ∧ rowK w ks b o)
def rowK (w : World) : List LK → Nat → Nat → Prop
  | [], _, _ => True
  | t :: ts, b, o => (∀ j v, (coE t)[j]? = some v → w.cell? ⟨b, o + j, none⟩ = some v) ∧ t.Ok w ∧ rowK w ts b (o + 4)
end

theorem rowK_iff {w : World} : ∀ {ks : List LK} {b o : Nat}, rowK w ks b o ↔ gRow 4 coE LK.Ok w ks b o
  | [], b, o => by unfold rowK; exact ⟨fun _ i hi => by simp at hi, fun _ => trivial⟩
  | t :: ts, b, o => by
    unfold rowK
    rw [rowK_iff (ks := ts)]
    constructor
    · rintro ⟨h1, h2, h3⟩ i hi
      cases i with
      | zero => exact ⟨fun j v hv => by have := h1 j v hv; simpa using this, h2⟩
      | succ i =>
        obtain ⟨c, d⟩ := h3 i (by simpa using hi)
        refine ⟨fun j v hv => ?_, d⟩
        have := c j v hv
        rw [show o + (i + 1) * 4 + j = o + 4 + i * 4 + j from by omega]
        exact this
    · intro h
      obtain ⟨h1, h2⟩ := h 0 (by simp)
      refine ⟨fun j v hv => by have := h1 j v hv; simpa using this, h2, fun i hi => ?_⟩
      obtain ⟨c, d⟩ := h (i + 1) (by simpa using hi)
      refine ⟨fun j v hv => ?_, d⟩
      have := c j v hv
      rw [show o + 4 + i * 4 + j = o + (i + 1) * 4 + j from by omega]
      exact this

/-- The slice of a core term's kids. -/
abbrev coSl (w : World) (a : Option Addr) (cap : Nat) (ks : List LK) : Prop := gSl 4 coE LK.Ok w a cap ks
theorem LK.ok_iff {w : World} (u : LK) : u.Ok w ↔ (cin64 u.k ∧ cin64 u.v ∧ numSl w u.da u.dc u.ds) ∧ coSl w u.a u.cap u.ks := by
  obtain ⟨k, v, da, dc, ds, a, c, ks⟩ := u
  rw [LK.Ok]
  show _ ↔ (_ ∧ (ks.length ≤ c ∧ c ≤ maxLen ∧ (ks = [] ∨ ∃ b o, a = some ⟨b, o, none⟩ ∧ gRow 4 coE LK.Ok w ks b o)))
  simp only [rowK_iff]
  rfl
theorem LK.Ok.kids {w : World} {u : LK} (h : u.Ok w) : coSl w u.a u.cap u.ks := ((LK.ok_iff u).1 h).2
theorem LK.Ok.dat {w : World} {u : LK} (h : u.Ok w) : numSl w u.da u.dc u.ds := ((LK.ok_iff u).1 h).1.2.2
theorem LK.Ok.kin {w : World} {u : LK} (h : u.Ok w) : -9223372036854775808 ≤ u.k ∧ u.k ≤ 9223372036854775807 := ((LK.ok_iff u).1 h).1.1
theorem LK.Ok.vin {w : World} {u : LK} (h : u.Ok w) : -9223372036854775808 ≤ u.v ∧ u.v ≤ 9223372036854775807 := ((LK.ok_iff u).1 h).1.2.1
theorem LK.Ok.kl {w : World} {u : LK} (h : u.Ok w) : u.ks.length ≤ 9223372036854775807 := Nat.le_trans h.kids.1 h.kids.2.1
theorem LK.Ok.dl {w : World} {u : LK} (h : u.Ok w) : u.ds.length ≤ 9223372036854775807 := Nat.le_trans h.dat.1 h.dat.2.1

theorem coGr : gGr LK.Ok := fun w w' u h g => by
  revert h
  refine LK.ind (P := fun u => u.Ok w → u.Ok w') (fun k v da dc ds a c ks ih h => ?_) u
  obtain ⟨⟨h1, h2, h3⟩, h6, h7, h8⟩ := (LK.ok_iff _).1 h
  refine (LK.ok_iff _).2 ⟨⟨h1, h2, h3.grow g⟩, h6, h7, h8.imp id fun ⟨b, o, e, hr⟩ => ⟨b, o, e, fun i hi => ?_⟩⟩
  exact ⟨fun j v hv => (g.cell (p := ⟨_, _, _⟩) (cell_lt ((hr i hi).1 j v hv))).trans ((hr i hi).1 j v hv), ih _ (List.getElem_mem hi) (hr i hi).2⟩
theorem LK.Ok.grow {w w' : World} {u : LK} (h : u.Ok w) (g : Gw w w') : u.Ok w' := coGr _ _ _ h g

/-- The blocks of a core term. -/
def LK.bl : LK → List Nat
  | .mk _ _ da _ ds a _ ks => nbl nB da ds ++ ((if ks.isEmpty then [] else match a with | some x => [x.block] | none => []) ++ bls ks)
where bls : List LK → List Nat
  | [] => []
  | t :: ts => t.bl ++ bls ts
theorem kbls_eq (ks : List LK) : LK.bl.bls ks = ks.flatMap LK.bl := by
  induction ks with
  | nil => rfl
  | cons t ts ih => simp only [LK.bl.bls, List.flatMap_cons]; rw [ih]
theorem LK.bl_eq (u : LK) : u.bl = nbl nB u.da u.ds ++ nbl LK.bl u.a u.ks := by
  obtain ⟨k, v, da, dc, ds, a, c, ks⟩ := u
  have := kbls_eq ks
  rw [LK.bl.eq_def]
  simp only [this]
  rfl

theorem coFr : gFr LK.Ok LK.bl := fun w w' u h hb => by
  revert h hb
  refine LK.ind (P := fun u => u.Ok w → (∀ b ∈ u.bl, w'.heap[b]? = w.heap[b]?) → u.Ok w') (fun k v da dc ds a c ks ih h hb => ?_) u
  obtain ⟨⟨h1, h2, h3⟩, h6, h7, h8⟩ := (LK.ok_iff _).1 h
  rw [LK.bl_eq] at hb
  simp only [LK.da, LK.dc, LK.ds, LK.a, LK.cap, LK.ks, LK.k, LK.v] at h1 h2 h3 h6 h7 h8 hb
  refine (LK.ok_iff _).2 ⟨⟨h1, h2, h3.frame (by decide) nLen nFr fun b hm => hb b (by simp [hm])⟩, h6, h7, h8.imp id fun ⟨b, o, e, hr⟩ => ⟨b, o, e, fun i hi => ?_⟩⟩
  have hne : ks.isEmpty = false := by cases ks with | nil => simp [LK.ks] at hi | cons => rfl
  have hbb : w'.heap[b]? = w.heap[b]? := hb b (by
    rw [e]
    refine List.mem_append_right _ ?_
    unfold nbl
    rw [hne]; simp)
  exact ⟨fun j v hv => (World.cell?_of_block (w := w) (w' := w') (a := ⟨b, o + i * 4 + j, none⟩) hbb).trans ((hr i hi).1 j v hv),
    ih _ (List.getElem_mem hi) (hr i hi).2 fun x hx => hb x (List.mem_append_right _ (nbl_sub (List.getElem_mem hi) x hx))⟩
theorem LK.Ok.drew {w : World} {u : LK} (h : u.Ok w) : u.Ok w.drew := coFr _ _ _ h fun _ _ => rfl

/-- What lies at place i of a row of core terms. -/
theorem coRow_get {w : World} {ks : List LK} {b o : Nat} (h : gRow 4 coE LK.Ok w ks b o) (i : Nat) (hi : i < ks.length) :
    w.cell? ⟨b, o + i * 4, none⟩ = some (.int .i64 ks[i].k) ∧ w.cell? ⟨b, o + i * 4 + 1, none⟩ = some (.int .i64 ks[i].v) ∧
    w.cell? ⟨b, o + i * 4 + 2, none⟩ = some (.slice ks[i].da ks[i].ds.length ks[i].dc) ∧ w.cell? ⟨b, o + i * 4 + 3, none⟩ = some (.slice ks[i].a ks[i].ks.length ks[i].cap) ∧ ks[i].Ok w := by
  obtain ⟨h1, h2⟩ := h i hi
  exact ⟨h1 0 _ rfl, h1 1 _ rfl, h1 2 _ rfl, h1 3 _ rfl, h2⟩

/-- A core term without addresses. -/
inductive Co where
  | mk (k v : Int) (ds : List Int) (ks : List Co)
instance : Inhabited Co := ⟨.mk 0 0 [] []⟩
def Co.k : Co → Int | .mk k _ _ _ => k
def Co.v : Co → Int | .mk _ v _ _ => v
def Co.ds : Co → List Int | .mk _ _ ds _ => ds
def Co.ks : Co → List Co | .mk _ _ _ ks => ks
theorem Co.eta (u : Co) : u = .mk u.k u.v u.ds u.ks := by cases u; rfl
theorem Co.ind {P : Co → Prop} (h : ∀ k v ds ks, (∀ u ∈ ks, P u) → P (.mk k v ds ks)) : ∀ u, P u := fun u =>
  Co.rec (motive_1 := P) (motive_2 := fun ks => ∀ u ∈ ks, P u) (fun k v ds ks ih => h k v ds ks ih) (fun _ h => by cases h)
    (fun t ts ht hts u hu => by
      rcases List.mem_cons.1 hu with rfl | hu
      · exact ht
      · exact hts u hu) u
def LK.co : LK → Co
  | .mk k v _ _ ds _ _ ks => .mk k v ds (cos ks)
where cos : List LK → List Co
  | [] => []
  | t :: ts => t.co :: cos ts
theorem cos_eq (ks : List LK) : LK.co.cos ks = ks.map LK.co := by
  induction ks with
  | nil => rfl
  | cons t ts ih => simp [LK.co.cos, ih]
theorem LK.co_eq (u : LK) : u.co = .mk u.k u.v u.ds (u.ks.map LK.co) := by
  obtain ⟨k, v, da, dc, ds, a, c, ks⟩ := u
  rw [LK.co, cos_eq]; rfl
theorem LK.co_k (u : LK) : u.co.k = u.k := by rw [LK.co_eq]; rfl
theorem LK.co_v (u : LK) : u.co.v = u.v := by rw [LK.co_eq]; rfl
theorem LK.co_ds (u : LK) : u.co.ds = u.ds := by rw [LK.co_eq]; rfl
theorem LK.co_ks (u : LK) : u.co.ks = u.ks.map LK.co := by rw [LK.co_eq]; rfl
theorem LK.co_len (u : LK) : u.co.ks.length = u.ks.length := by rw [LK.co_ks]; simp
theorem LK.co_kid (u : LK) (i : Nat) (hi : i < u.ks.length) : u.co.ks[i]'(by rw [u.co_len]; exact hi) = u.ks[i].co := by simp [LK.co_ks]

/-- What the laws count. -/
def LK.sz : LK → Nat
  | .mk _ _ _ _ ds _ _ ks => ds.length + szl ks
where szl : List LK → Nat
  | [] => 0
  | t :: ts => 1 + t.sz + szl ts
theorem kszl_eq (ks : List LK) : LK.sz.szl ks = sm LK.sz ks := by
  induction ks with
  | nil => rfl
  | cons t ts ih => rw [sm_cons]; simp only [LK.sz.szl]; rw [ih]
theorem LK.sz_eq (u : LK) : u.sz = u.ds.length + sm LK.sz u.ks := by
  obtain ⟨k, v, da, dc, ds, a, c, ks⟩ := u
  rw [LK.sz, kszl_eq]; rfl

theorem lk_of_trod {H : Type} {enc : TypeId × Value → H} {P : Program} {W : World} {t ks kk kds : TypeId} {f0 f1 f2 f3 : Field}
    (ht : P.underlying t = some (.struct #[f0, f1, f2, f3])) (h0 : f0.type = kk) (h1 : f1.type = kk) (h2 : f2.type = kds) (h3 : f3.type = ks)
    (o0 : f0.offset = 0) (o1 : f1.offset = 1) (o2 : f2.offset = 2) (o3 : f3.offset = 3)
    (uk : P.underlying kk = some (.int .i64)) (uds : P.underlying kds = some (.slice kk)) (us : P.underlying ks = some (.slice t))
    (ck : P.cellsOf kk = 1) (cds : P.cellsOf kds = 1) (cs : P.cellsOf ks = 1) (ct : P.cellsOf t = 4) :
    ∀ (fuel : Nat) (vs : List Value) (x : DataW H × List MemPlace), DataW.trod enc P W 0 (fun _ => true) true fuel t vs = some x → ∃ u : LK, vs = coE u ∧ u.Ok W := by
  intro fuel
  induction fuel using Nat.strongRecOn with
  | _ fuel ih =>
  intro vs x h
  obtain ⟨xs, m, hm, hx, hl, hlen, hf⟩ := DataW.trod_struct ht h
  match xs, hlen with
  | [y0, y1, y2, y3], _ =>
  have g0 := hf 0 f0 rfl
  have g1 := hf 1 f1 rfl
  have g2 := hf 2 f2 rfl
  have g3 := hf 3 f3 rfl
  rw [h0, o0, ck] at g0
  rw [h1, o1, ck] at g1
  rw [h2, o2, cds] at g2
  rw [h3, o3, cs] at g3
  rw [ct] at hl
  match vs, hl with
  | [v0, v1, v2, v3], _ =>
  simp only [List.drop_zero, List.take_succ_cons, List.take_zero, List.drop_succ_cons, List.getElem?_cons_zero, List.getElem?_cons_succ] at g0 g1 g2 g3
  obtain ⟨k, e0, _, wk⟩ := DataW.trod_int uk g0
  obtain ⟨i, e1, _, wi⟩ := DataW.trod_int uk g1
  obtain rfl : v0 = .int .i64 k := by simpa using e0
  obtain rfl : v1 = .int .i64 i := by simpa using e1
  have hb : cin64 k := by unfold cin64; simpa [Lit.wf, IntKind.min, IntKind.max, IntKind.signed, IntKind.bits] using wk
  have hi : cin64 i := by unfold cin64; simpa [Lit.wf, IntKind.min, IntKind.max, IntKind.signed, IntKind.bits] using wi
  obtain ⟨na, nc, ns, e6, hns⟩ := sl_of_trod (k := 1) nE (fun n => -9223372036854775808 ≤ n ∧ n ≤ 9223372036854775807) (by decide) (fun _ => rfl) uds ck m (fun m' _ vs x hx => by
    obtain ⟨s, es, _, ws⟩ := DataW.trod_int uk hx
    exact ⟨s, es, by simpa [Lit.wf, IntKind.min, IntKind.max, IntKind.signed, IntKind.bits] using ws⟩) v2 _ g2
  obtain ⟨a, cap, us', e7, hus⟩ := sl_of_trod (k := 4) coE (fun u => u.Ok W) (by decide) (fun _ => rfl) us ct m (fun m' hm' => ih m' (by omega)) v3 _ g3
  refine ⟨.mk k i na nc ns a cap us', ?_, (LK.ok_iff _).2 ⟨⟨hb, hi, hns⟩, hus⟩⟩
  rw [e6, e7]; rfl

set_option maxRecDepth 100000 in
theorem open_core {H : Type} {enc : TypeId × Value → H} {W : World} {r : Reach} {b0 : Nat} {v : Value} {d : DataW H} {p : List MemPlace}
    (hval : Value.okWide Tryd.prog W r b0 27 v) (h : DataW.Trod enc Tryd.prog W 0 (fun _ => true) true 27 v d p) : ∃ u : LK, v = u.val ∧ u.Ok W := by
  obtain ⟨cs, rfl, hsz⟩ := okWide_struct Tryd.underlying27 hval
  obtain ⟨fuel, hf⟩ := h
  obtain ⟨u, hu, ho⟩ := lk_of_trod (kk := 2) (kds := 25) (ks := 22) Tryd.underlying27 rfl rfl rfl rfl rfl rfl rfl rfl Tryd.underlying2 Tryd.underlying25 Tryd.underlying22
    (by kernel_rfl) (by kernel_rfl) (by kernel_rfl) (by kernel_rfl) fuel _ _ hf
  refine ⟨u, ?_, ho⟩
  have : cs.toList = coE u := hu
  obtain ⟨l⟩ := cs
  simp at this
  subst this
  rfl

/-- A slice of numbers in a block of its own. -/
abbrev numNew (B : Nat) (w : World) (a : Option Addr) (cap : Nat) (xs : List Int) : Prop := gNewSl 1 nE nOk nB B w a cap xs
abbrev LK.New (B : Nat) (w : World) (u : LK) : Prop := gNew LK.Ok LK.bl B w u
abbrev coNew (B : Nat) (w : World) (a : Option Addr) (cap : Nat) (ks : List LK) : Prop := gNewSl 4 coE LK.Ok LK.bl B w a cap ks

theorem LK.new_mk {B B1 B2 : Nat} {w : World} {k v : Int} {da : Option Addr} {dc : Nat} {ds : List Int} {a : Option Addr} {c : Nat} {ks : List LK}
    (hk : cin64 k) (hv : cin64 v) (hs : numNew B1 w da dc ds) (hks : coNew B2 w a c ks) (h2 : ∀ b ∈ nbl nB da ds, b < B2) (h12 : B1 ≤ B2) (hB : B ≤ B1) :
    LK.New B w (.mk k v da dc ds a c ks) := by
  refine ⟨(LK.ok_iff _).2 ⟨⟨hk, hv, hs.1⟩, hks.1⟩, ?_, fun b hb => ?_⟩
  · rw [LK.bl_eq]
    refine List.nodup_append.2 ⟨hs.2.1, hks.2.1, fun x hx y hy e => ?_⟩
    subst e
    have := h2 x hx
    have := (hks.2.2 x hy).1
    omega
  · rw [LK.bl_eq] at hb
    rcases List.mem_append.1 hb with hb | hb
    · have := hs.2.2 b hb
      exact ⟨by omega, this.2⟩
    · have := hks.2.2 b hb
      exact ⟨by omega, this.2⟩

theorem kset_at {w : World} {b i : Nat} {cs : Array Value} {e : TypeId} {v : Value} (h : w.heap[b]? = some (.cells cs e (0, 0))) : (w.setCell ⟨b, i, none⟩ v).heap[b]? = some (.cells (cs.setIfInBounds i v) e (0, 0)) := by
  simp [World.setCell, Array.getElem?_modify, h]
theorem kheap_at (w : World) {b : Nat} (o : Obj) (cs : Array Value) (e : TypeId) (ho : o = .cells cs e) (h : b = w.heap.size) : (w.alloc o).heap[b]? = some (.cells cs e (0, 0)) := by
  subst ho h
  exact heap_alloc_new w _

/-- A block holds a core term. -/
def BoxK (W : World) (b : Nat) (u : LK) : Prop := ∃ e, W.heap[b]? = some (.cells #[.int .i64 u.k, .int .i64 u.v, .slice u.da u.ds.length u.dc, .slice u.a u.ks.length u.cap] e (0, 0))
theorem BoxK.new (W : World) (u : LK) (e : TypeId) : BoxK (W.alloc (u.obj e)) W.heap.size u := ⟨e, heap_alloc_new W _⟩
theorem BoxK.lt {W : World} {b : Nat} {u : LK} (h : BoxK W b u) : b < W.heap.size := by
  obtain ⟨e, h⟩ := h
  exact (Array.getElem?_eq_some_iff.1 h).1
theorem BoxK.same {W W' : World} {b : Nat} {u : LK} (h : BoxK W b u) (hs : W'.heap[b]? = W.heap[b]?) : BoxK W' b u := by
  obtain ⟨e, h⟩ := h
  exact ⟨e, hs.trans h⟩
theorem BoxK.grow {W W' : World} {b : Nat} {u : LK} (h : BoxK W b u) (g : Gw W W') : BoxK W' b u := h.same (g.block b h.lt)
theorem BoxK.chg {W W' : World} {S : Nat → Prop} {b : Nat} {u : LK} (h : BoxK W b u) (g : Chg W W' S) (hb : ¬ S b) : BoxK W' b u := h.same (g.2.2.2.2 b h.lt hb)
theorem BoxK.c {W : World} {b : Nat} {u : LK} (h : BoxK W b u) : W.cell? ⟨b, 0, none⟩ = some (.int .i64 u.k) ∧ W.cell? ⟨b, 1, none⟩ = some (.int .i64 u.v) ∧ W.cell? ⟨b, 2, none⟩ = some (.slice u.da u.ds.length u.dc) ∧ W.cell? ⟨b, 3, none⟩ = some (.slice u.a u.ks.length u.cap) := by
  obtain ⟨e, h⟩ := h
  exact ⟨cell_of_row _ _ 0 _ _ _ h, cell_of_row _ _ 1 _ _ _ h, cell_of_row _ _ 2 _ _ _ h, cell_of_row _ _ 3 _ _ _ h⟩

/-- A core term lies at offset o of block b (inside a row, or alone). -/
def coAt (w : World) (b o : Nat) (u : LK) : Prop := (∀ j v, (coE u)[j]? = some v → w.cell? ⟨b, o + j, none⟩ = some v) ∧ u.Ok w
theorem coAt.c {w : World} {b o : Nat} {u : LK} (h : coAt w b o u) : w.cell? ⟨b, o, none⟩ = some (.int .i64 u.k) ∧ w.cell? ⟨b, o + 1, none⟩ = some (.int .i64 u.v) ∧ w.cell? ⟨b, o + 2, none⟩ = some (.slice u.da u.ds.length u.dc) ∧ w.cell? ⟨b, o + 3, none⟩ = some (.slice u.a u.ks.length u.cap) :=
  ⟨h.1 0 _ rfl, h.1 1 _ rfl, h.1 2 _ rfl, h.1 3 _ rfl⟩
theorem coAt.grow {w w' : World} {b o : Nat} {u : LK} (h : coAt w b o u) (g : Gw w w') : coAt w' b o u :=
  ⟨fun j v hv => (g.cell (h.1 j v hv) (cell_lt (h.1 j v hv))), h.2.grow g⟩
theorem coAt.lt {w : World} {b o : Nat} {u : LK} (h : coAt w b o u) : b < w.heap.size := cell_lt h.c.1
theorem coAt.kid {w : World} {a : Option Addr} {cap : Nat} {ks : List LK} (h : coSl w a cap ks) (j : Nat) (hj : j < ks.length) : ∃ b o, a = some ⟨b, o, none⟩ ∧ coAt w b (o + j * 4) ks[j] := by
  obtain ⟨b, o, e, hr⟩ := h.2.2.resolve_left (fun e => by subst e; simp at hj)
  exact ⟨b, o, e, (hr j hj).1, (hr j hj).2⟩
theorem coAt.new {w : World} {u : LK} {e : TypeId} (h : u.Ok w) : coAt (w.alloc (u.obj e)) w.heap.size 0 u := by
  refine ⟨fun j v hv => ?_, h.grow ((Gw.refl w).alloc _)⟩
  rw [cell_of_row _ _ _ _ _ _ (heap_alloc_new w _), Nat.zero_add]
  have : (#[.int .i64 u.k, .int .i64 u.v, .slice u.da u.ds.length u.dc, .slice u.a u.ks.length u.cap] : Array Value).toList = coE u := rfl
  rw [← Array.getElem?_toList, this]
  exact hv
theorem BoxK.at {W : World} {b : Nat} {u : LK} (h : BoxK W b u) (ho : u.Ok W) : coAt W b 0 u := by
  obtain ⟨e, h⟩ := h
  refine ⟨fun j v hv => ?_, ho⟩
  rw [cell_of_row _ _ _ _ _ _ h, Nat.zero_add]
  have : (#[.int .i64 u.k, .int .i64 u.v, .slice u.da u.ds.length u.dc, .slice u.a u.ks.length u.cap] : Array Value).toList = coE u := rfl
  rw [← Array.getElem?_toList, this]
  exact hv

end Go.Proofs.YtkpbiifikkbaeaaDoor.Con
