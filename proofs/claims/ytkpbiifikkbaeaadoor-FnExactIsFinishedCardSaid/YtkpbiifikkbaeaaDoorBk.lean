/-
  Books as they lie in memory ('LB': a struct of one slice of core terms), an argument that is one, a block that holds one, and the laws' own szBook, toBook, eqBook. No condition but that the book can be read and was counted.
-/
import Derived.Test.YtkpbiifikkbaeaaDoorCoLw
namespace Go.Proofs.YtkpbiifikkbaeaaDoor.Con
open Go.RowKit Go.ChangeShapes Go.WideShapes Go.ChangeAt Go.Deep
set_option linter.unusedVariables false

structure LB where
  a : Option Addr
  cap : Nat
  ks : List LK
abbrev LB.val (u : LB) : Value := .agg #[.slice u.a u.ks.length u.cap]
def bOk (w : World) (u : LB) : Prop := coSl w u.a u.cap u.ks
def LB.cs (u : LB) : List Co := u.ks.map LK.co
theorem bOk.grow {w w' : World} {u : LB} (h : bOk w u) (g : Gw w w') : bOk w' u := gSl.grow coLen coGr h g
theorem bOk.len {w : World} {u : LB} (h : bOk w u) : u.ks.length ≤ 9223372036854775807 := Nat.le_trans h.1 h.2.1

def BoxB (W : World) (b : Nat) (u : LB) : Prop := ∃ e, W.heap[b]? = some (.cells #[.slice u.a u.ks.length u.cap] e (0, 0))
theorem BoxB.new (W : World) (u : LB) (e : TypeId) : BoxB (W.alloc (.cells #[.slice u.a u.ks.length u.cap] e)) W.heap.size u := ⟨e, heap_alloc_new W _⟩
theorem BoxB.lt {W : World} {b : Nat} {u : LB} (h : BoxB W b u) : b < W.heap.size := by
  obtain ⟨e, h⟩ := h
  exact (Array.getElem?_eq_some_iff.1 h).1
theorem BoxB.grow {W W' : World} {b : Nat} {u : LB} (h : BoxB W b u) (g : Gw W W') : BoxB W' b u := by
  have hl := h.lt
  obtain ⟨e, h⟩ := h
  exact ⟨e, (g.block b hl).trans h⟩
theorem BoxB.c {W : World} {b : Nat} {u : LB} (h : BoxB W b u) : W.cell? ⟨b, 0, none⟩ = some (.slice u.a u.ks.length u.cap) := by
  obtain ⟨e, h⟩ := h
  exact cell_of_row _ _ 0 _ _ _ h

set_option maxRecDepth 100000 in
theorem open_book {H : Type} {enc : TypeId × Value → H} {W : World} {r : Reach} {b0 : Nat} {v : Value} {d : DataW H} {p : List MemPlace}
    (hval : Value.okWide Tryd.prog W r b0 24 v) (h : DataW.Trod enc Tryd.prog W 0 (fun _ => true) true 24 v d p) : ∃ u : LB, v = u.val ∧ bOk W u := by
  obtain ⟨cs, rfl, hsz⟩ := okWide_struct Tryd.underlying24 hval
  obtain ⟨fuel, hf⟩ := h
  have hC : ∀ fuel (vs : List Value) (x : DataW H × List MemPlace), DataW.trod enc Tryd.prog W 0 (fun _ => true) true fuel 27 vs = some x → ∃ u : LK, vs = coE u ∧ u.Ok W := fun fuel vs x hx =>
    lk_of_trod (kk := 2) (kds := 25) (ks := 22) Tryd.underlying27 rfl rfl rfl rfl rfl rfl rfl rfl Tryd.underlying2 Tryd.underlying25 Tryd.underlying22
      (by kernel_rfl) (by kernel_rfl) (by kernel_rfl) (by kernel_rfl) fuel vs x hx
  obtain ⟨xs, m, hm, hx, hl, hlen, hff⟩ := DataW.trod_struct Tryd.underlying24 hf
  have hlen2 : xs.length = 1 := hlen
  have hl2 : cs.toList.length = 1 := hl.trans (by kernel_rfl)
  match xs, hlen2 with
  | [y0], _ =>
  have g0 : DataW.trod enc Tryd.prog W 0 (fun _ => true) true m 22 ((cs.toList.drop 0).take (Tryd.prog.cellsOf 22)) = some y0 := hff 0 _ rfl
  rw [show Tryd.prog.cellsOf 22 = 1 by kernel_rfl] at g0
  obtain ⟨l⟩ := cs
  match l, hl2 with
  | [v0], _ =>
  simp only [List.drop_zero, List.take_succ_cons, List.take_zero] at g0
  obtain ⟨a0, c0, ds, e0, k1, k2, k3⟩ := sl_of_trod (k := 4) coE (fun u => u.Ok W) (by decide) (fun _ => rfl) Tryd.underlying22 (by kernel_rfl) m (fun m _ => hC m) v0 _ g0
  exact ⟨⟨a0, c0, ds⟩, by rw [e0], k1, k2, k3⟩

def LB.sz (u : LB) : Nat := sm LK.sz u.ks

theorem laws_szBook (u : LB) (w : World) (left : Int) (h : bOk w u) (h0 : 0 ≤ left) (h1 : left ≤ 1048576) : Calls Tryd.prog 6 #[u.val, .int .i64 left] w (KSz w left u.sz) := by
  have hK := Lib.hid h
  clear h
  obtain ⟨x1, hx1⟩ : ∃ x, x = sm LK.sz u.ks := ⟨_, rfl⟩
  have HZ2 := Lib.hid (show u.sz = x1 by rw [hx1]; rfl)
  have HX1 := Lib.hid hx1
  have hg0 : Gw w (w.alloc (.cells #[.slice u.a u.ks.length u.cap] 24)) := (Gw.refl w).alloc _
  clear hx1
  by_cases hf1 : (x1 : Int) ≤ left
  rotate_left
  · have HS1 := Lib.hid (show szR left x1 = -1 from if_neg hf1)
    go_enter Tryd.func6, Tryd.ntmps6
    go_wp2_with fail
    refine (szCoreS_of u.ks (fun t _ => laws_szCore t) _ u.a u.cap _ (bOk.grow hK.out hg0) h0 h1).mono ?_
    rintro e w1 ⟨he, hg1⟩
    rw [← HX1.out, HS1.out] at he
    subst he
    go_wp2_with fail
    go_ret
    exact ⟨ret_int (by rw [HZ2.out, HS1.out]), hg0.trans hg1⟩
  have HS1 := Lib.hid (show szR left x1 = left - x1 from if_pos hf1)
  have hp1 : 0 ≤ left - x1 := by omega
  go_enter Tryd.func6, Tryd.ntmps6
  go_wp2_with fail
  refine (szCoreS_of u.ks (fun t _ => laws_szCore t) _ u.a u.cap _ (bOk.grow hK.out hg0) h0 h1).mono ?_
  rintro e w1 ⟨he, hg1⟩
  rw [← HX1.out, HS1.out] at he
  subst he
  go_wp2_with fail
  go_ret
  exact ⟨ret_int (by rw [HZ2.out, HS1.out]), hg0.trans hg1⟩

def ToB (w : World) (t : LB) (e : Ending) (w' : World) : Prop := ∃ u : LB, e = .returned u.val ∧ u.cs = t.cs ∧ coNew (w.heap.size + 3) w' u.a u.cap u.ks ∧ Gw w w'

set_option maxRecDepth 100000 in
theorem laws_toBook (t : LB) (w : World) (h : bOk w t) (hs : t.sz ≤ 1048576) : Calls Tryd.prog 9 #[t.val] w (ToB w t) := by
  have hK := Lib.hid h
  have z1 : t.ks.length ≤ 1048576 := Nat.le_trans (sm_ge LK.sz t.ks) hs
  have HZ := Lib.hid hs
  clear h hs
  go_enter Tryd.func9, Tryd.ntmps9
  go_wp2_with fail
  have BR0 : (((w.alloc (.cells #[.slice t.a t.ks.length t.cap] 24)).alloc (.cells #[.slice none 0 0] 39)).alloc (.cells #[.slice none 0 0] 39)).heap[w.heap.size + 1]? = some (.cells #[.slice none 0 0] 39 (0, 0)) := by
    rw [Below.heap_alloc _ _ _ (by simp)]
    exact kheap_at _ _ _ _ rfl (by simp)
  have BO0 : (((w.alloc (.cells #[.slice t.a t.ks.length t.cap] 24)).alloc (.cells #[.slice none 0 0] 39)).alloc (.cells #[.slice none 0 0] 39)).heap[w.heap.size + 1 + 1]? = some (.cells #[.slice none 0 0] 39 (0, 0)) := kheap_at _ _ _ _ rfl (by simp)
  have gW : Gw w (((w.alloc (.cells #[.slice t.a t.ks.length t.cap] 24)).alloc (.cells #[.slice none 0 0] 39)).alloc (.cells #[.slice none 0 0] 39)) := (((Gw.refl w).alloc _).alloc _).alloc _
  have sz0 : (((w.alloc (.cells #[.slice t.a t.ks.length t.cap] 24)).alloc (.cells #[.slice none 0 0] 39)).alloc (.cells #[.slice none 0 0] 39)).heap.size = w.heap.size + 3 := by simp
  generalize (((w.alloc (.cells #[.slice t.a t.ks.length t.cap] 24)).alloc (.cells #[.slice none 0 0] 39)).alloc (.cells #[.slice none 0 0] 39)) = w0 at *
  refine (toCoreS_of t.ks (fun u hu w2 h2 => laws_toCore u w2 h2 (Nat.le_trans (Nat.le_trans (Nat.le_add_left _ _) (sm_mem LK.sz hu)) HZ.out)) _ t.a t.cap (bOk.grow hK.out gW) z1).mono ?_
  rintro e w1 ⟨us, a, cap, rfl, hus, nk, hg⟩
  have z1' : w.heap.size + 3 ≤ w1.heap.size := by have := hg.size; omega
  rw [sz0] at nk
  have BO := (hg.block _ (by omega)).trans BO0
  have BR := (hg.block _ (by omega)).trans BR0
  have gW1 := gW.trans hg
  have HU := Lib.hid hus
  have NK := Lib.hid nk
  have q0 : w1.cell? ⟨w.heap.size + 1 + 1, 0, none⟩ = some (.slice none 0 0) := cell_of_row _ _ 0 _ _ _ BO
  have x0 : w1.frozen? ⟨w.heap.size + 1 + 1, 0, none⟩ = false := by simp [World.frozen?, BO]
  have r0 : w1.cell? ⟨w.heap.size + 1, 0, none⟩ = some (.slice none 0 0) := cell_of_row _ _ 0 _ _ _ BR
  have y0 : w1.frozen? ⟨w.heap.size + 1, 0, none⟩ = false := by simp [World.frozen?, BR]
  have HBR := Lib.hid BR
  clear BO0 BR0 gW hg sz0 nk hus BO BR
  go_wp2_with fail
  have BR3 : (w1.setCell ⟨w.heap.size + 1 + 1, 0, none⟩ (.slice a us.length cap)).heap[w.heap.size + 1]? = some (.cells #[.slice none 0 0] 39 (0, 0)) := by
    rw [Below.heap_setCell _ _ _ _ (by simp)]
    exact HBR.out
  have BRF : ((w1.setCell ⟨w.heap.size + 1 + 1, 0, none⟩ (.slice a us.length cap)).setCell ⟨w.heap.size + 1, 0, none⟩ (.slice a us.length cap)).heap[w.heap.size + 1]? = some (.cells #[.slice a us.length cap] 39 (0, 0)) := kset_at BR3
  have gWF : Gw w ((w1.setCell ⟨w.heap.size + 1 + 1, 0, none⟩ (.slice a us.length cap)).setCell ⟨w.heap.size + 1, 0, none⟩ (.slice a us.length cap)) := (Below.setCell gW1 (by simp; omega) _).setCell (by simp) _
  have far : ∀ c, w.heap.size + 3 ≤ c → ((w1.setCell ⟨w.heap.size + 1 + 1, 0, none⟩ (.slice a us.length cap)).setCell ⟨w.heap.size + 1, 0, none⟩ (.slice a us.length cap)).heap[c]? = w1.heap[c]? := fun c hc => by
    rw [Below.heap_setCell _ _ _ _ (by simp; omega), Below.heap_setCell _ _ _ _ (by simp; omega)]
  clear q0 x0 r0 y0 BR3 gW1
  generalize ((w1.setCell ⟨w.heap.size + 1 + 1, 0, none⟩ (.slice a us.length cap)).setCell ⟨w.heap.size + 1, 0, none⟩ (.slice a us.length cap)) = W3 at *
  have e0 : W3.cell? ⟨w.heap.size + 1, 0, none⟩ = some (.slice a us.length cap) := cell_of_row _ _ 0 _ _ _ BRF
  refine bodyPost_ret (v := (LB.mk a cap us).val) (by simp [results, Tryd.results9, go_sem, e0]) rfl ⟨⟨a, cap, us⟩, rfl, HU.out, ?_, gWF⟩
  exact NK.out.same (by decide) coLen coFr fun c hc => far c (NK.out.2.2 c hc).1

theorem laws_eqBook (t u : LB) (w : World) (h1 : bOk w t) (h2 : bOk w u) (he : t.cs = u.cs) : Calls Tryd.prog 12 #[t.val, u.val] w (TrueGw w) := by
  have hl : t.ks.length = u.ks.length := by simpa [LB.cs] using congrArg List.length he
  obtain ⟨n, hn⟩ : ∃ n, u.ks.length = n := ⟨_, rfl⟩
  rw [hn] at hl
  show Calls Tryd.prog 12 #[.agg #[.slice t.a t.ks.length t.cap], .agg #[.slice u.a u.ks.length u.cap]] w (TrueGw w)
  rw [hl, hn]
  have E1 := Lib.hid he
  have L1 := Lib.hid hl
  have HN := Lib.hid hn
  have P1 := Lib.hid h1
  have P2 := Lib.hid h2
  have hg0 : Gw w ((w.alloc (.cells #[.slice t.a n t.cap] 39)).alloc (.cells #[.slice u.a n u.cap] 39)) := ((Gw.refl w).alloc _).alloc _
  clear he hl hn h1 h2
  go_enter Tryd.func12, Tryd.ntmps12
  go_wp2_with fail
  refine (eqCoreS_of t.ks u.ks (fun x _ y w2 => laws_eqCore x y w2) _ n L1.out HN.out t.a u.a t.cap u.cap (bOk.grow P1.out hg0) (bOk.grow P2.out hg0) E1.out).mono ?_
  rintro e w1 ⟨rfl, hg1⟩
  go_wp2_with fail
  go_ret
  exact ⟨rfl, hg0.trans hg1⟩

end Go.Proofs.YtkpbiifikkbaeaaDoor.Con
