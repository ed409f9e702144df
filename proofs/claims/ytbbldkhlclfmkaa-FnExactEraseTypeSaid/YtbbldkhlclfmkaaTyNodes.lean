/-
  Contract of impl.typeNodes: the nodes of a valid type, none of an invalid one. No condition but that the type lies in memory.
-/
import Derived.Test.YtbbldkhlclfmkaaTyParts
import Derived.Test.YtbbldkhlclfmkaaTyStk
import Derived.LoopTactic
import Derived.Deep.RegionWith
namespace Go.Proofs.Ytbbldkhlclfmkaa.Con
open Go.RowKit
set_option linter.unusedVariables false

def oadd : Option Nat → Option Nat → Option Nat
  | some a, some b => some (a + b)
  | _, _ => none

theorem ndl_cons' (t : Ty) (ts : List Ty) (d : Nat) : ndl (t :: ts) d = oadd (t.nd d) (ndl ts d) := by
  rw [ndl_cons]; cases t.nd d <;> cases ndl ts d <;> rfl

/-- What the places of a stack still need. -/
def need : List (LT × Nat) → Option Nat
  | [] => some 0
  | x :: xs => oadd (x.1.ty.nd (7 - x.2)) (need xs)

theorem oadd_assoc (a b c : Option Nat) : oadd (oadd a b) c = oadd a (oadd b c) := by
  cases a <;> cases b <;> cases c <;> simp [oadd, Nat.add_assoc]
theorem oadd_comm (a b : Option Nat) : oadd a b = oadd b a := by cases a <;> cases b <;> simp [oadd, Nat.add_comm]
theorem oadd_zero (a : Option Nat) : oadd a (some 0) = a := by cases a <;> simp [oadd]
theorem zero_oadd (a : Option Nat) : oadd (some 0) a = a := by cases a <;> simp [oadd]
theorem oadd_none (a : Option Nat) : oadd a none = none := by cases a <;> simp [oadd]

theorem need_append (xs ys : List (LT × Nat)) : need (xs ++ ys) = oadd (need xs) (need ys) := by
  induction xs with
  | nil => simp [need, zero_oadd]
  | cons x xs ih => simp only [List.cons_append, need, ih, oadd_assoc]

theorem need_kids (ks : List LT) (d : Nat) : need (ks.map fun t => (t, d + 1)) = ndl (ks.map LT.ty) (6 - d) := by
  induction ks with
  | nil => simp [need, ndl, Ty.nd.ndl]
  | cons t ts ih =>
    rw [List.map_cons, List.map_cons, ndl_cons', need, ih]
    rw [show 7 - (d + 1) = 6 - d from by omega]

/-- What is asked of the stack and the number of nodes so far. -/
def Inv (T : Ty) (S : List (LT × Nat)) (c : Nat) : Prop := oadd (some c) (need S) = T.nd 6

theorem Inv.start (t : LT) : Inv t.ty [(t, 1)] 0 := by
  unfold Inv; simp [need, oadd_zero, zero_oadd]

theorem Inv.bad {T : Ty} {S : List (LT × Nat)} {c : Nat} {t : LT} {d : Nat} (h : Inv T (S ++ [(t, d)]) c) (hb : t.ty.nd (7 - d) = none) : T.nd 6 = none := by
  unfold Inv at h
  rw [← h, need_append]
  simp [need, hb, oadd]

theorem Inv.over {T : Ty} {S : List (LT × Nat)} {t : LT} {d : Nat} (h : Inv T (S ++ [(t, d)]) 16) : validB T = false := by
  unfold Inv at h
  unfold validB
  rw [← h, need_append]
  simp only [need, oadd_zero]
  cases hn : t.ty.nd (7 - d) with
  | none => simp [oadd_none]
  | some m =>
    have := nd_le _ _ _ hn
    cases need S with
    | none => simp [oadd]
    | some s => simp [oadd]; omega

theorem Inv.over' {T : Ty} {S : List (LT × Nat)} {t : LT} {d c : Nat} (h : Inv T (S ++ [(t, d)]) c) (hc : c = 16) : validB T = false := by subst hc; exact h.over

theorem Inv.step {T : Ty} {S : List (LT × Nat)} {c : Nat} {t : LT} {d : Nat} (h : Inv T (S ++ [(t, d)]) c) (hd : d ≤ 6) (hh : headB t.k t.n t.ks.length = true) : Inv T (S ++ t.ks.map fun u => (u, d + 1)) (c + 1) := by
  unfold Inv at h ⊢
  rw [← h, need_append, need_append, need_kids]
  simp only [need, oadd_zero]
  have e : t.ty.nd (7 - d) = oadd (some 1) (ndl (t.ks.map LT.ty) (6 - d)) := by
    rw [LT.ty_eq, show 7 - d = (6 - d) + 1 from by omega, nd_succ]
    rw [if_pos (by simpa using hh)]
    cases ndl (t.ks.map LT.ty) (6 - d) <;> simp [oadd, Nat.add_comm]
  rw [e, ← oadd_assoc (need S), oadd_comm (need S) (some 1), oadd_assoc, ← oadd_assoc (some c)]
  rfl

theorem Inv.done {T : Ty} {c : Nat} (h : Inv T [] c) (hc : c ≤ 16) : validB T = true ∧ sizeN T = c := by
  unfold Inv at h
  simp only [need, oadd_zero] at h
  unfold validB sizeN
  rw [← h]
  simp [hc]

/-- The names of the data types that a type names. -/
def Ty.nms : Ty → List ByteArray
  | .mk k n ks => (if k = 2 then [n] else []) ++ nmsl ks
where nmsl : List Ty → List ByteArray
  | [] => []
  | t :: ts => t.nms ++ nmsl ts

theorem nmsl_eq (ks : List Ty) : Ty.nms.nmsl ks = ks.flatMap Ty.nms := by
  induction ks with
  | nil => rfl
  | cons t ts ih => simp only [Ty.nms.nmsl, List.flatMap_cons, ih]

theorem LT.nms_eq (t : LT) : t.ty.nms = (if t.k = 2 then [t.n] else []) ++ (t.ks.flatMap fun u => u.ty.nms) := by
  rw [LT.ty_eq, Ty.nms, nmsl_eq, List.flatMap_map]

/-- The data names of the nodes so far and of the stack are those of the type. -/
def NInv (T : Ty) (S : List (LT × Nat)) (P : List LT) : Prop := ∀ nm, ((∃ p ∈ P, p.k = 2 ∧ p.n = nm) ∨ ∃ x ∈ S, nm ∈ x.1.ty.nms) ↔ nm ∈ T.nms

theorem NInv.start (t : LT) (d : Nat) : NInv t.ty [(t, d)] [] := fun nm => by simp

theorem NInv.step {T : Ty} {S : List (LT × Nat)} {P : List LT} {t : LT} {d e : Nat} (h : NInv T (S ++ [(t, d)]) P) : NInv T (S ++ t.ks.map fun u => (u, e)) (P ++ [t]) := fun nm => by
  rw [← h nm]
  constructor
  · rintro (⟨p, hp, h2, rfl⟩ | ⟨x, hx, hm⟩)
    · rcases List.mem_append.1 hp with hp | hp
      · exact .inl ⟨p, hp, h2, rfl⟩
      · obtain rfl : p = t := by simpa using hp
        exact .inr ⟨(p, d), by simp, by rw [LT.nms_eq]; simp [h2]⟩
    · rcases List.mem_append.1 hx with hx | hx
      · exact .inr ⟨x, by simp [hx], hm⟩
      · obtain ⟨u, hu, rfl⟩ := List.mem_map.1 hx
        exact .inr ⟨(t, d), by simp, by rw [LT.nms_eq]; exact List.mem_append_right _ (List.mem_flatMap.2 ⟨u, hu, hm⟩)⟩
  · rintro (⟨p, hp, h2, rfl⟩ | ⟨x, hx, hm⟩)
    · exact .inl ⟨p, by simp [hp], h2, rfl⟩
    · rcases List.mem_append.1 hx with hx | hx
      · exact .inr ⟨x, by simp [hx], hm⟩
      · obtain rfl : x = (t, d) := by simpa using hx
        rw [LT.nms_eq] at hm
        rcases List.mem_append.1 hm with hm | hm
        · by_cases h2 : t.k = 2
          · simp [h2] at hm
            exact .inl ⟨t, by simp, h2, hm.symm⟩
          · simp [h2] at hm
        · obtain ⟨u, hu, hm⟩ := List.mem_flatMap.1 hm
          exact .inr ⟨(u, e), by simp; exact .inr hu, hm⟩

/-- The cells of a stack. -/
def pls (S : List (LT × Nat)) : List Value := S.flatMap fun x => pl x.1 x.2
theorem pls_len (S : List (LT × Nat)) : (pls S).length = S.length * 4 := by
  induction S with
  | nil => rfl
  | cons x xs ih => simp only [pls, List.flatMap_cons, List.length_append, List.length_cons] at ih ⊢; rw [ih]; simp [pl]; omega
theorem pls_snoc (S : List (LT × Nat)) (t : LT) (d : Nat) : pls (S ++ [(t, d)]) = pls S ++ pl t d := by simp [pls]

def lenOf : Value → Nat
  | .slice _ n _ => n
  | _ => 0

def Stk (w : World) (B WB : Nat) (sv : Value) (S : List (LT × Nat)) : Prop :=
  w.heap[WB]? = some (.cells #[sv] 154 (0, 0)) ∧ w.ownsRow B 157 4 sv S.length (pls S)

def Nds (w : World) (B : Nat) (nv : Value) (P : List LT) : Prop := (∃ a cap, nv = .slice a P.length cap) ∧ w.ownsRow B 127 1 nv P.length (P.map nodeV)

theorem own_chg {w w' : World} {B : Nat} {e : TypeId} {size n : Nat} {v : Value} {xs : List Value} {S : Nat → Prop} (h : w.ownsRow B e size v n xs) (hc : Chg w w' S) (hS : ∀ g, v.ownBlock = some g → ¬ S g) : w'.ownsRow B e size v n xs := by
  obtain ⟨hl, h⟩ := h
  refine ⟨hl, ?_⟩
  rcases h with h | ⟨g, cap, cur, rfl, hb, hg, hr⟩
  · exact .inl h
  · exact .inr ⟨g, cap, cur, rfl, hb, (hc.2.2.2.2 g (Array.getElem?_eq_some_iff.1 hg).1 (hS g rfl)).trans hg, hr⟩

theorem own_own_ne {w : World} {B B' : Nat} {e e' : TypeId} {size size' n n' : Nat} {v v' : Value} {xs xs' : List Value} (h : w.ownsRow B e size v n xs) (h' : w.ownsRow B' e' size' v' n' xs') (hne : e ≠ e') : ∀ g, v.ownBlock = some g → v'.ownBlock ≠ some g := by
  intro g hg
  rcases h.2 with ⟨rfl, _⟩ | ⟨g1, cap, cur, rfl, _, h1, _⟩
  · cases hg
  · obtain rfl : g1 = g := by simpa [Value.ownBlock] using hg
    exact own_ne h' h1 (fun e1 => hne e1.symm)

theorem method_int (W : World) : (method 313 162 (.agg #[]) "loop.example/g01074/impl.parts").run Try.prog W = .ok (157, .agg #[]) W := by kernel_rfl
theorem method_dat (n : ByteArray) (W : World) : (method 313 164 (.agg #[.string n]) "loop.example/g01074/impl.parts").run Try.prog W = .ok (158, .agg #[.string n]) W := by kernel_rfl
theorem method_fun (cs : Array Value) (W : World) : (method 313 130 (.agg cs) "loop.example/g01074/impl.parts").run Try.prog W = .ok (155, .agg cs) W := by kernel_rfl
theorem method_bang (cs : Array Value) (W : World) : (method 313 133 (.agg cs) "loop.example/g01074/impl.parts").run Try.prog W = .ok (156, .agg cs) W := by kernel_rfl

theorem call_int (W : World) : (callFunc 157 #[.agg #[]]).run Try.prog W = .ok (.enter 157 #[.agg #[]]) W := by kernel_rfl
theorem call_dat (n : ByteArray) (W : World) : (callFunc 158 #[.agg #[.string n]]).run Try.prog W = .ok (.enter 158 #[.agg #[.string n]]) W := by kernel_rfl
theorem call_fun (cs : Array Value) (W : World) : (callFunc 155 #[.agg cs]).run Try.prog W = .ok (.enter 155 #[.agg cs]) W := by kernel_rfl
theorem call_bang (cs : Array Value) (W : World) : (callFunc 156 #[.agg cs]).run Try.prog W = .ok (.enter 156 #[.agg cs]) W := by kernel_rfl

theorem nodeV_iface (t : LT) (hh : headB t.k t.n t.ks.length = true) : ∃ tt vv K, nodeV t = .iface tt vv ∧ (∀ W : World, (method 313 tt vv "loop.example/g01074/impl.parts").run Try.prog W = .ok (K, vv) W) ∧ (∀ W : World, (callFunc K #[vv]).run Try.prog W = .ok (.enter K #[vv]) W) ∧
    ∀ W : World, (∀ u ∈ t.ks, u.Ok W) → Calls Try.prog K #[vv] W (PartsPost t.ks W) := by
  obtain ⟨k, n, a, c, ks⟩ := t
  simp only [LT.k, LT.n, LT.ks] at hh
  unfold nodeV
  simp only [LT.k, LT.n, LT.ks]
  rcases head_cases hh with ⟨rfl, he, hm⟩ | ⟨rfl, he, hm⟩ | ⟨rfl, he, hm⟩ | ⟨rfl, he, hm⟩
  · match ks, hm with
    | [], _ => exact ⟨_, _, _, rfl, method_int, call_int, fun W _ => parts_int W⟩
  · match ks, hm with
    | [], _ => exact ⟨_, _, _, rfl, method_dat n, call_dat n, fun W _ => parts_dat n W⟩
  · match ks, hm with
    | [x, y], _ => exact ⟨_, _, _, rfl, method_fun _, call_fun _, fun W h => parts_fun x y W (h x (by simp)) (h y (by simp))⟩
  · match ks, hm with
    | [x], _ => exact ⟨_, _, _, rfl, method_bang _, call_bang _, fun W h => parts_bang x W (h x (by simp))⟩

def NodesPost (w : World) (T : LT) (e : Ending) (w' : World) : Prop :=
  Gw w w' ∧ ((validB T.ty = false ∧ e = .returned (.slice none 0 0)) ∨
    (validB T.ty = true ∧ ∃ P : List LT, ∃ nv, e = .returned nv ∧ Nds w' w.heap.size nv P ∧ P.length = sizeN T.ty ∧ (∀ p ∈ P, headB p.k p.n p.ks.length = true ∧ p.n.size ≤ maxLen) ∧ ∀ nm, (∃ p ∈ P, p.k = 2 ∧ p.n = nm) ↔ nm ∈ T.ty.nms))

def Round (w : World) (T : LT) (WB : Nat) (wr : World) (nv sv : Value) (S : List (LT × Nat)) (P : List LT) : Prop :=
  Gw w wr ∧ Stk wr w.heap.size WB sv S ∧ Nds wr w.heap.size nv P ∧ (∀ x ∈ S, x.1.Ok w ∧ x.2 ≤ 7) ∧ S.length ≤ P.length + 1 ∧ P.length ≤ 16 ∧
    Inv T.ty S P.length ∧ NInv T.ty S P ∧ (∀ p ∈ P, headB p.k p.n p.ks.length = true ∧ p.n.size ≤ maxLen)

/-- The cells of a row, without what lies below them. -/
def KR (w : World) (a : Option Addr) (ks : List LT) : Prop := ks = [] ∨ ∃ b o, a = some ⟨b, o, none⟩ ∧ ∀ i (hi : i < ks.length),
    w.cell? ⟨b, o + i * 3, none⟩ = some (.int .i64 ks[i].k) ∧ w.cell? ⟨b, o + i * 3 + 1, none⟩ = some (.string ks[i].n) ∧ w.cell? ⟨b, o + i * 3 + 2, none⟩ = some (.slice ks[i].a ks[i].ks.length ks[i].cap)

theorem KR.of {w : World} {a : Option Addr} {c : Nat} {ks : List LT} (h : slOk w a c ks) : KR w a ks := h.2.2.imp id fun ⟨b, o, e, hr⟩ => ⟨b, o, e, fun i hi => by
  obtain ⟨c0, c1, c2, _⟩ := rowOk_get hr i hi
  exact ⟨c0, c1, c2⟩⟩

theorem KR.same {w w' : World} {a : Option Addr} {ks : List LT} (h : KR w a ks) (hb : ∀ x, a = some x → ks ≠ [] → w'.heap[x.block]? = w.heap[x.block]?) : KR w' a ks := by
  by_cases hk : ks = []
  · exact .inl hk
  · obtain ⟨b, o, rfl, hc⟩ := h.resolve_left hk
    have hh := hb _ rfl hk
    refine .inr ⟨b, o, rfl, fun i hi => ?_⟩
    obtain ⟨c0, c1, c2⟩ := hc i hi
    have hcc : ∀ p, w'.cell? ⟨b, p, none⟩ = w.cell? ⟨b, p, none⟩ := fun p => World.cell?_of_block (w := w) (w' := w') (a := ⟨b, p, none⟩) hh
    exact ⟨(hcc _).trans c0, (hcc _).trans c1, (hcc _).trans c2⟩

/-- While the parts of a node are pushed. -/
def Inner (w : World) (WB AT : Nat) (t : LT) (d : Nat) (pa : Option Addr) (wr : World) (nv sv : Value) (S : List (LT × Nat)) (P : List LT) : Prop :=
  Gw w wr ∧ Stk wr w.heap.size WB sv S ∧ Nds wr w.heap.size nv P ∧ wr.heap[AT]? = some (.cells (pl t d).toArray 157 (0, 0)) ∧ sv.ownBlock ≠ some AT ∧ KR wr pa t.ks ∧
    ∀ x, pa = some x → t.ks ≠ [] → x.block < wr.heap.size ∧ x.block ≠ WB ∧ sv.ownBlock ≠ some x.block

theorem Inner.alloc {w : World} {WB AT : Nat} {t : LT} {d : Nat} {pa : Option Addr} {wr : World} {nv sv : Value} {S : List (LT × Nat)} {P : List LT} (h : Inner w WB AT t d pa wr nv sv S P) (o : Obj) : Inner w WB AT t d pa (wr.alloc o) nv sv S P := by
  obtain ⟨hg, ⟨h1, h2⟩, ⟨h3, h4⟩, h5, h6, h7, h8⟩ := h
  refine ⟨hg.alloc o, ⟨(Below.heap_alloc _ _ _ (Array.getElem?_eq_some_iff.1 h1).1).trans h1, h2.alloc o⟩, ⟨h3, h4.alloc o⟩, (Below.heap_alloc _ _ _ (Array.getElem?_eq_some_iff.1 h5).1).trans h5, h6, h7.same fun x hx hk => Below.heap_alloc _ _ _ (h8 x hx hk).1, fun x hx hk => ⟨?_, (h8 x hx hk).2⟩⟩
  have := (h8 x hx hk).1
  simp; omega

theorem Inner.push {w : World} {WB AT : Nat} {t : LT} {d : Nat} {pa : Option Addr} {wr w1 : World} {nv sv : Value} {S : List (LT × Nat)} {P : List LT} (h : Inner w WB AT t d pa wr nv sv S P) (hWB : w.heap.size ≤ WB) {u : LT} {m : Nat} {en : Ending}
    (hp : PushPost wr WB w.heap.size S.length sv (pls S) (pl u m) en w1) : en = .returned (.tuple #[]) ∧ ∃ sv', Inner w WB AT t d pa w1 nv sv' (S ++ [(u, m)]) P := by
  obtain ⟨hg, ⟨h1, h2⟩, ⟨h3, h4⟩, h5, h6, h7, h8⟩ := h
  obtain ⟨g, cap, rfl, p1, p2, p3, p4⟩ := hp
  have hAT : AT < wr.heap.size := (Array.getElem?_eq_some_iff.1 h5).1
  have hATne : AT ≠ WB := by
    rintro rfl
    rw [h1] at h5
    simp at h5
  have hown : ∀ b, sv.ownBlock = some b → w.heap.size ≤ b := fun b hb => (h2.lt b hb).1
  refine ⟨rfl, .slice (some ⟨g, 0, none⟩) (S.length + 1) cap, ?_, ⟨?_, ?_⟩, ⟨h3, ?_⟩, ?_, ?_, ?_, ?_⟩
  · refine Below.trans hg (p4.gw hg.size fun b hb => ?_)
    rintro (rfl | e)
    · omega
    · have := hown b e.symm; omega
  · exact p1
  · rw [List.length_append, pls_snoc]; exact p2
  · refine own_chg h4 p4 fun g' hg' => ?_
    rintro (e | e)
    · exact own_ne h4 h1 (by decide) (hg'.trans (congrArg some e))
    · exact own_own_ne h4 h2 (by decide) g' hg' e.symm
  · refine (p4.2.2.2.2 AT hAT ?_).trans h5
    rintro (e | e)
    · exact hATne e
    · exact h6 e.symm
  · intro e
    have e' : g = AT := by simpa [Value.ownBlock] using e
    subst e'
    rcases p3 with e | e
    · exact h6 e
    · omega
  · refine h7.same fun x hx hk => p4.2.2.2.2 _ (h8 x hx hk).1 ?_
    rintro (e | e)
    · exact (h8 x hx hk).2.1 e
    · exact (h8 x hx hk).2.2 e.symm
  · intro x hx hk
    have q := h8 x hx hk
    refine ⟨Nat.lt_of_lt_of_le q.1 p4.2.2.2.1, q.2.1, fun e => ?_⟩
    have e' : g = x.block := by simpa [Value.ownBlock] using e
    rcases p3 with e | e
    · exact q.2.2 (by rw [e, e'])
    · omega

set_option maxRecDepth 100000 in
theorem impl_nodes (T : LT) (w : World) (h : T.Ok w) : Calls Try.prog 84 #[T.val] w (NodesPost w T) := by
  obtain ⟨i0, hi, hz0, hz1, hz2⟩ := info_parts (P := Try.prog) (e := 127) (z := .nilIface) (size := 1) (bytes := 16) (by kernel_rfl)
  have HI := Lib.hid hi
  have HZ0 := Lib.hid hz0
  have HZ1 := Lib.hid hz1
  have HZ2 := Lib.hid hz2
  clear hi hz0 hz1 hz2
  go_enter Try.func84, Try.ntmps84
  go_wp2_with fail
  refine (impl_push _ (w.heap.size + 1) (w.heap.size + 1 + 1) w.heap.size 0 (.slice none 0 0) [] T 1 (by simp; omega) (by omega) ?_ ⟨rfl, .inl ⟨rfl, rfl⟩⟩ ?_).mono ?_
  · rw [Below.heap_alloc _ _ _ (by simp)]
    exact heap_alloc2_new w _ _
  · have := heap_alloc_new ((w.alloc (.cells #[.int .i64 T.k, .string T.n, .slice T.a T.ks.length T.cap] 29)).alloc (.cells #[.slice none 0 0] 154)) (.cells #[.int .i64 T.k, .string T.n, .slice T.a T.ks.length T.cap, .int .i64 1] 157)
    rw [show ((w.alloc (.cells #[.int .i64 T.k, .string T.n, .slice T.a T.ks.length T.cap] 29)).alloc (.cells #[.slice none 0 0] 154)).heap.size = w.heap.size + 1 + 1 from by simp] at this
    exact this
  rintro e w1 ⟨g, cap, rfl, hst, hown, hat, hch⟩
  have hR : ∃ sv S P, Round w T (w.heap.size + 1) w1 (.slice none 0 0) sv S P := by
    refine ⟨.slice (some ⟨g, 0, none⟩) 1 cap, [(T, 1)], [], ?_, ⟨hst, hown⟩, ⟨⟨_, _, rfl⟩, rfl, .inl ⟨rfl, rfl⟩⟩, ?_, by simp, by simp, Inv.start T, NInv.start T 1, by simp⟩
    · have h1 : Gw w (((w.alloc (.cells #[.int .i64 T.k, .string T.n, .slice T.a T.ks.length T.cap] 29)).alloc (.cells #[.slice none 0 0] 154)).alloc (.cells #[.int .i64 T.k, .string T.n, .slice T.a T.ks.length T.cap, .int .i64 1] 157)) := (((Gw.refl w).alloc _).alloc _).alloc _
      exact Below.trans h1 (hch.gw h1.size (B := w.heap.size) (fun b hb => by simp [Value.ownBlock]; omega))
    · intro x hx
      obtain rfl : x = (T, 1) := by simpa using hx
      exact ⟨h, by simp⟩
  have HR := Lib.hid hR
  clear hst hown hat hch hR
  go_wp2_with fail
  obtain ⟨WB, hWB⟩ : ∃ WB, WB = w.heap.size + 1 := ⟨_, rfl⟩
  rw [← hWB] at HR ⊢
  have hle : w.heap.size ≤ WB := by omega
  clear hWB
  have hR := HR.out
  clear HR
  go_loopw [3] (fun nv wr => ∃ sv S P, Round w T WB wr nv sv S P) (fun nv _ => 17 - lenOf nv)
  case atStart => exact hR
  case round =>
    clear hR
    obtain ⟨sv, S, P, hg, hstk, ⟨⟨na, ncap, rfl⟩, hnds⟩, hS, hlen, hP, hinv, hnin, hok⟩ := hrel
    obtain ⟨wo, rfl⟩ : ∃ wo : World, wo = wr := ⟨_, rfl⟩
    rcases List.eq_nil_or_concat S with rfl | ⟨S', x, rfl⟩
    · have hd := hinv.done hP
      obtain ⟨a, cap, rfl⟩ : ∃ a cap, sv = .slice a 0 cap := by
        rcases hstk.2.2 with ⟨rfl, _⟩ | ⟨g, cap, _, rfl, _⟩
        · exact ⟨none, 0, rfl⟩
        · exact ⟨_, cap, rfl⟩
      have HST := Lib.hid hstk.1
      have HD := Lib.hid hd
      have HN := Lib.hid hnds
      have HOK := Lib.hid hok
      have HNI := Lib.hid hnin
      clear hstk hd hnds hok hnin hinv hS HI HZ0 HZ1 HZ2
      go_wp2_with fail
      refine (impl_empty _ WB _ _ _ (by omega) HST.out).mono ?_
      rintro e w' ⟨rfl, rfl⟩
      have hd0 : decide ((0 : Nat) = 0) = true := by decide
      rw [hd0]
      go_wp2_with fail
      go_ret
      exact ⟨hg, .inr ⟨HD.out.1, P, _, rfl, ⟨⟨_, _, rfl⟩, HN.out⟩, HD.out.2.symm, HOK.out, fun nm => by have := HNI.out nm; simpa using this⟩⟩
    · obtain ⟨t, d⟩ := x
      rw [List.concat_eq_append] at *
      obtain ⟨hst, hown⟩ := hstk
      obtain ⟨g, cap, rfl, hgb, hgl⟩ := hown.form (by simp)
      rw [pls_snoc, List.length_append] at hown
      rw [List.length_append] at hst hlen
      simp only [List.length_singleton] at hown hst hlen
      have HST := Lib.hid hst
      have HOWN := Lib.hid hown
      have HINV := Lib.hid hinv
      have HNIN := Lib.hid hnin
      have HOK := Lib.hid hok
      have HSS := Lib.hid hS
      have HND := Lib.hid hnds
      clear hst hown hinv hnin hok hS hnds
      go_wp2_with fail
      refine (impl_empty _ WB _ _ _ (by omega) HST.out).mono ?_
      rintro e w' ⟨rfl, rfl⟩
      have hd0 : decide (S'.length + 1 = 0) = false := by simp
      rw [hd0]
      go_wp2_with fail
      refine (impl_pop _ WB w.heap.size S'.length g cap (pls S') t d (by omega) (pls_len S') HST.out HOWN.out).mono ?_
      rintro e w1 ⟨rfl, hst1, hown1, hch1⟩
      go_wp2_with fail
      have hgw1 : Below w.heap.size w w1 := Below.trans hg (hch1.gw hg.size (fun b hb e => by omega))
      have hB1 : w.heap.size ≤ w1.heap.size := hgw1.size
      have hT : t.Ok (w1.alloc (.cells #[.int .i64 t.k, .string t.n, .slice t.a t.ks.length t.cap, .int .i64 d] 157)) := (HSS.out (t, d) (by simp)).1.grow (hgw1.alloc hB1 _)
      have hd7 := (HSS.out (t, d) (by simp)).2
      simp only at hd7
      have HW1 := Lib.hid hst1
      have HO1 := Lib.hid hown1
      clear hst1 hown1
      cases hh : headB t.k t.n t.ks.length with
      | false =>
        have hbad : validB T.ty = false := by
          have : t.ty.nd (7 - d) = none := by
            cases he : 7 - d with
            | zero => exact nd_zero _
            | succ m => rw [LT.ty_eq, nd_succ, if_neg (by simp [hh])]
          unfold validB; rw [HINV.out.bad this]
        have HBAD := Lib.hid hbad
        have HH := Lib.hid hh
        clear hbad hh
        refine (impl_node_nil t _ hT HH.out).mono ?_
        rintro e w2 ⟨rfl, hg2⟩
        have hnil : ∀ W : World, (binOp .eql 127 .nilIface .nilIface).run Try.prog W = .ok (.bool true) W := fun W => by kernel_rfl
        obtain ⟨hc2, hf2⟩ := bcell hg2
        go_wp2_with fail
        go_ret
        exact ⟨Below.trans (hgw1.alloc hB1 _) (Below.mono hg2 (by simp; omega)), .inl ⟨HBAD.out, rfl⟩⟩
      | true =>
        have HH := Lib.hid hh
        clear hh
        refine (impl_node t _ hT HH.out).mono ?_
        rintro e w2 ⟨rfl, hg2⟩
        obtain ⟨hc2, hf2⟩ := bcell hg2
        obtain ⟨tt, vv, K, hv, hmeth, hcall, hK⟩ := nodeV_iface t HH.out
        have HK := Lib.hid hK
        clear hK
        rw [hv]
        have HV := Lib.hid hv
        clear hv
        have hnn : ∀ W : World, (binOp .eql 127 (.iface tt vv) .nilIface).run Try.prog W = .ok (.bool false) W := fun W => run_eql_held_nil W _ tt vv (by kernel_rfl)
        by_cases hd6 : 6 < d
        · have hbad : validB T.ty = false := by
            have : t.ty.nd (7 - d) = none := by rw [show 7 - d = 0 from by omega]; exact nd_zero _
            unfold validB; rw [HINV.out.bad this]
          have HBAD := Lib.hid hbad
          clear hbad
          have hd6' : (6 : Int) < d := by omega
          go_wp2_with fail
          go_ret
          exact ⟨Below.trans (hgw1.alloc hB1 _) (Below.mono hg2 (by simp; omega)), .inl ⟨HBAD.out, rfl⟩⟩
        · have hd6' : ¬ ((6 : Int) < d) := by omega
          by_cases hp : P.length = 16
          · have HBAD := Lib.hid (HINV.out.over' hp)
            have hp' : ((P.length : Int) == 16) = true := by simp; omega
            clear hp
            go_wp2_with fail
            go_ret
            exact ⟨Below.trans (hgw1.alloc hB1 _) (Below.mono hg2 (by simp; omega)), .inl ⟨HBAD.out, rfl⟩⟩
          · have hp' : ((P.length : Int) == 16) = false := by simp; omega
            have hnd2 : (w2.alloc (.cells #[.iface tt vv] 127)).ownsRow w.heap.size 127 1 (.slice na P.length ncap) P.length (P.map nodeV) := by
              have h1 := own_chg HND.out hch1 (fun g' hg' e => own_ne HND.out HST.out (by decide) (hg'.trans (congrArg some e)))
              exact (own_chg (h1.alloc _) (Chg.of_gw hg2 (fun _ => False)) (fun _ _ h => h)).alloc _
            have HND2 := Lib.hid hnd2
            have hnews := World.news_of_block (heap_alloc_new w2 (.cells #[.iface tt vv] 127))
            have HNEWS := Lib.hid hnews
            have hp16 : P.length < 16 := by omega
            clear hnd2 hnews hp
            have hsz2 : w1.heap.size < w2.heap.size := by have := hg2.size; simp at this; omega
            go_wp2_with (at_builtin; refine wpList_append_lies _ rfl _ _ 124 rfl w.heap.size 127 i0 _ 1 16 Try.underlying124 HI.out HZ0.out HZ1.out HZ2.out rfl (by decide) _ P.length (P.map nodeV) rfl HND2.out ⟨w2.heap.size, 0, none⟩ 1 1 [.iface tt vv] rfl rfl HNEWS.out (by intro u hu; simp at hu; subst hu; rfl) (by decide) (by unfold maxLen; omega) (by omega) (by simp; omega) _ rfl ?_)
            intro g3 cap3 w3 hown3 hgr3 hat3 hlt3
            have HO3 := Lib.hid hown3
            have HG3 := Lib.hid hgr3
            have HA3 := Lib.hid hat3
            have HC2 := Lib.hid hc2
            clear hown3 hgr3 hat3 hc2 hf2
            go_wp2_with fail
            have hB2 : Below w.heap.size w (w2.alloc (.cells #[.iface tt vv] 127)) := (Below.trans (hgw1.alloc hB1 _) (Below.mono hg2 (by simp; omega))).alloc (by omega) _
            have hno : ∀ b, (Value.slice na P.length ncap).ownBlock = some b → w.heap.size ≤ b ∧ b < wo.heap.size := fun b hb => HND.out.lt b hb
            have hB3 : Below w.heap.size w w3 := Below.trans hB2 ⟨HG3.out.os, HG3.out.tape, HG3.out.output, HG3.out.size, fun b hb => HG3.out.block b (Nat.lt_of_lt_of_le hb hB2.size) (fun e => by have := (hno b e.symm).1; omega)⟩
            have hkw : ∀ u ∈ t.ks, u.Ok w := by
              intro u hu
              have hk := ((HSS.out (t, d) (by simp)).1).kids
              obtain ⟨b, o, _, hr⟩ := hk.2.2.resolve_left (fun e => by rw [e] at hu; cases hu)
              obtain ⟨i, hi, rfl⟩ := List.getElem_of_mem hu
              exact (rowOk_get hr i hi).2.2.2
            have hT3 : ∀ u ∈ t.ks, u.Ok w3 := fun u hu => (hkw u hu).grow hB3
            refine (HK.out _ hT3).mono ?_
            rintro e w4 ⟨pa, pcap, rfl, hsl4, hpa, hg4⟩
            have hin : Inner w WB w1.heap.size t d pa w4 (.slice (some ⟨g3, 0, none⟩) (P.length + 1) cap3) (.slice (some ⟨g, 0, none⟩) S'.length cap) S' (P ++ [t]) := by
              have hw1sz : wo.heap.size ≤ w1.heap.size := hch1.2.2.2.1
              have hWBlt : WB < wo.heap.size := (Array.getElem?_eq_some_iff.1 HST.out).1
              have hgAT : g ≠ w1.heap.size := by omega
              have far3 : ∀ b, b < w2.heap.size → (∀ x, (Value.slice na P.length ncap).ownBlock = some x → b ≠ x) → w4.heap[b]? = w2.heap[b]? := fun b hb hx => by
                have e1 : w3.heap[b]? = (w2.alloc (.cells #[.iface tt vv] 127)).heap[b]? := HG3.out.block b (by simp; omega) (fun e => hx b e.symm rfl)
                have e2 : w4.heap[b]? = w3.heap[b]? := hg4.block b (by have := HG3.out.size; simp at this; omega)
                rw [e2, e1, Below.heap_alloc _ _ _ hb]
              have e2 : ∀ b, b < w1.heap.size → w2.heap[b]? = w1.heap[b]? := fun b hb => by
                have := hg2.block b (by simp; omega)
                rw [this, Below.heap_alloc _ _ _ hb]
              have hWBne : ∀ x, (Value.slice na P.length ncap).ownBlock = some x → WB ≠ x := fun x hx e => own_ne HND.out HST.out (by decide) (by rw [hx, e])
              have hgne : ∀ x, (Value.slice na P.length ncap).ownBlock = some x → g ≠ x := fun x hx e => own_own_ne HND.out HOWN.out (by decide) x hx (by rw [← e]; rfl)
              refine ⟨Below.trans hB3 (Below.mono hg4 hB3.size), ⟨?_, ?_⟩, ⟨⟨_, _, by rw [List.length_append]; rfl⟩, ?_⟩, ?_, ?_, KR.of hsl4, ?_⟩
              · rw [far3 WB (by omega) hWBne, e2 WB (by omega)]
                exact HW1.out
              · obtain ⟨hl, hcase⟩ := HO1.out
                refine ⟨hl, ?_⟩
                rcases hcase with ⟨hx, _⟩ | ⟨g', cap', cur, hv', hb', hg', hr'⟩
                · cases hx
                · obtain rfl : g' = g := by injection hv' with h1; injection h1 with h1; injection h1 with h1; exact h1.symm
                  exact .inr ⟨g', cap', cur, hv', hb', (far3 g' (by omega) hgne).trans ((e2 g' (by omega)).trans hg'), hr'⟩
              · rw [List.length_append, List.map_append]
                have := own_chg HO3.out (Chg.of_gw hg4 (fun _ => False)) (fun _ _ h => h)
                rw [List.map_singleton, HV.out]
                exact this
              · rw [far3 _ hsz2 (fun x hx e => by have := (hno x hx).2; omega)]
                have := hg2.block w1.heap.size (by simp)
                rw [this]
                exact heap_alloc_new w1 _
              · intro e
                exact hgAT (by simpa [Value.ownBlock] using e)
              · intro x hx hk
                have h1 := hpa x hx
                have h2 : w2.heap.size < w3.heap.size := by have := HG3.out.size; simp at this; omega
                refine ⟨?_, by omega, fun e => ?_⟩
                · obtain ⟨b, o, e, hr⟩ := hsl4.2.2.resolve_left hk
                  rw [hx] at e
                  injection e with e
                  subst e
                  have hlen : 0 < t.ks.length := by cases hks : t.ks with | nil => exact absurd hks hk | cons a b => simp
                  exact cell_lt (rowOk_get hr 0 hlen).1
                · have e' : g = x.block := by simpa [Value.ownBlock] using e
                  omega
            have HIN := Lib.hid hin
            have hkl := headB_len HH.out
            clear hin HC2 HK hmeth hcall hnn hsz2 hp' HND2 HNEWS hch1 hg2 hgw1 hB1 hT hB2 hno hB3 hT3 hsl4 hpa hg4 hlt3 HI HZ0 HZ1 HZ2 hd6
            go_wp2_with fail
            go_loopw [38] (fun i wr => ∃ j sv', j ≤ t.ks.length ∧ i = .int .i64 j ∧ Inner w WB w1.heap.size t d pa wr (.slice (some ⟨g3, 0, none⟩) (P.length + 1) cap3) sv' (S' ++ (t.ks.take j).map fun u => (u, d + 1)) (P ++ [t])) (fun i _ => t.ks.length - (intOf i).toNat)
            case atStart => exact ⟨0, _, by omega, rfl, by simpa using HIN.out⟩
            case round =>
              clear HIN
              obtain ⟨j, sv', hj, rfl, hin⟩ := hrel
              have HIN := Lib.hid hin
              clear hin
              by_cases hlt : j < t.ks.length
              · obtain ⟨b, o, rfl, hcc⟩ := HIN.out.2.2.2.2.2.1.resolve_left (fun e => by rw [e] at hlt; simp at hlt)
                obtain ⟨c0, c1, c2⟩ := hcc j hlt
                have hbb := cell_lt c0
                have hAT := HIN.out.2.2.2.1
                have hATl : w1.heap.size < wr.heap.size := (Array.getElem?_eq_some_iff.1 hAT).1
                have x3 : wr.cell? ⟨w1.heap.size, 3, none⟩ = some (.int .i64 d) := cell_of_row _ _ 3 _ _ _ hAT
                have HATE := Lib.hid hAT
                clear hAT hcc
                go_wp2_with fail
                have hin2 := (HIN.out.alloc (.cells #[.int .i64 t.ks[j].k, .string t.ks[j].n, .slice t.ks[j].a t.ks[j].ks.length t.ks[j].cap] 29)).alloc (.cells #[.int .i64 t.ks[j].k, .string t.ks[j].n, .slice t.ks[j].a t.ks[j].ks.length t.ks[j].cap, .int .i64 (d + 1)] 157)
                have hnew := heap_alloc_new (wr.alloc (.cells #[.int .i64 t.ks[j].k, .string t.ks[j].n, .slice t.ks[j].a t.ks[j].ks.length t.ks[j].cap] 29)) (.cells #[.int .i64 t.ks[j].k, .string t.ks[j].n, .slice t.ks[j].a t.ks[j].ks.length t.ks[j].cap, .int .i64 (d + 1)] 157)
                rw [show (wr.alloc (.cells #[.int .i64 t.ks[j].k, .string t.ks[j].n, .slice t.ks[j].a t.ks[j].ks.length t.ks[j].cap] 29)).heap.size = wr.heap.size + 1 from by simp] at hnew
                have hsl : (S' ++ (t.ks.take j).map fun u => (u, d + 1)).length ≤ 100 := by simp; omega
                refine (impl_push _ WB (wr.heap.size + 1) w.heap.size (S' ++ (t.ks.take j).map fun u => (u, d + 1)).length sv' (pls (S' ++ (t.ks.take j).map fun u => (u, d + 1))) t.ks[j] ((d + 1 : Nat) : Int) hin2.1.size hsl hin2.2.1.1 hin2.2.1.2 (by rw [show ((d + 1 : Nat) : Int) = (d : Int) + 1 from by omega]; exact hnew)).mono ?_
                intro e w5 hp
                obtain ⟨rfl, sv2, hin3⟩ := hin2.push hle hp
                have HIN3 := Lib.hid hin3
                clear hin2 hnew hsl hp hin3 c0 c1 c2 hbb hATl x3 HATE HIN
                go_wp2_with fail
                go_roundw
                case rel => exact ⟨j + 1, sv2, by omega, by go_num, by rw [List.take_succ_eq_append_getElem hlt, List.map_append, ← List.append_assoc]; exact HIN3.out⟩
                case measure => simp [intOf]; omega
              · obtain rfl : j = t.ks.length := by omega
                have hin := HIN.out
                rw [List.take_length] at hin
                have HI2 := Lib.hid hin
                clear hin
                go_wp2_with fail
                refine ⟨⟨sv', _, P ++ [t], HI2.out.1, HI2.out.2.1, HI2.out.2.2.1, ?_, ?_, ?_, ?_, HNIN.out.step, ?_⟩, ?_⟩
                · intro x hx
                  rcases List.mem_append.1 hx with hx | hx
                  · exact HSS.out x (by simp [hx])
                  · obtain ⟨u, hu, rfl⟩ := List.mem_map.1 hx
                    exact ⟨hkw u hu, by simp; omega⟩
                · simp; omega
                · simp; omega
                · rw [List.length_append]; exact HINV.out.step (by omega) HH.out
                · intro p hp
                  rcases List.mem_append.1 hp with hp | hp
                  · exact HOK.out p hp
                  · obtain rfl : p = t := by simpa using hp
                    exact ⟨HH.out, ((HSS.out (p, d) (by simp)).1).nm⟩
                · simp [lenOf]; omega

end Go.Proofs.Ytbbldkhlclfmkaa.Con
