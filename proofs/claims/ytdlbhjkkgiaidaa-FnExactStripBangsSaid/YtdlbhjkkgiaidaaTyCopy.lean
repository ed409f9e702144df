/-
  Contract of the program's copyType: a type is copied into new memory. No condition but that the type lies in memory.
-/
import Derived.Test.YtdlbhjkkgiaidaaTyOwn
import Derived.LoopTactic
namespace Go.Proofs.Ytdlbhjkkgiaidaa.Con
open Go.RowKit
set_option linter.unusedVariables false
attribute [local go_sem ↓] Go.wp_at_zero Go.wp_at_succ

def CpRel (w : World) (t : LT) (v i : Value) (wr : World) : Prop := ∃ us : List LT, i = .int .i64 us.length ∧ us.map LT.ty = (t.ks.take us.length).map LT.ty ∧ App (w.heap.size + 2) wr v us ∧
  wr.heap[w.heap.size]? = some (.cells #[.int .i64 t.k, .string t.n, .slice t.a t.ks.length t.cap] 29 (0, 0)) ∧ wr.heap[w.heap.size + 1]? = some (.cells #[.int .i64 0, .string ⟨#[]⟩, .slice none 0 0] 29 (0, 0)) ∧ Gw w wr

theorem cp_next {w wr w1 w2 : World} {t u : LT} {us : List LT} {va : Option Addr} {vc g cap Bu : Nat} {O : Obj} (HT : us.map LT.ty = (t.ks.take us.length).map LT.ty) (HA : App (w.heap.size + 2) wr (.slice va us.length vc) us)
    (hb0 : wr.heap[w.heap.size]? = some (.cells #[.int .i64 t.k, .string t.n, .slice t.a t.ks.length t.cap] 29 (0, 0))) (hb1 : wr.heap[w.heap.size + 1]? = some (.cells #[.int .i64 0, .string ⟨#[]⟩, .slice none 0 0] 29 (0, 0)))
    (hg : Gw w wr) (hlt : us.length < t.ks.length) (hg1 : Gw wr w1) (HU : u.ty = t.ks[us.length].ty) (HN : u.New Bu w1) (hBu : wr.heap.size ≤ Bu)
    (HO : w2.ownsRow (w.heap.size + 2) 29 3 (.slice (some ⟨g, 0, none⟩) (us.length + 1) cap) (us.length + 1) (cellsL us ++ [.int .i64 u.k, .string u.n, .slice u.a u.ks.length u.cap])) (HG : (w1.alloc O).grownBy w2 (Value.slice va us.length vc).ownBlock)
    (HAT : (Value.slice va us.length vc).ownBlock = some g ∨ g = (w1.alloc O).heap.size) : CpRel w t (.slice (some ⟨g, 0, none⟩) (us.length + 1) cap) (.int .i64 (us.length + 1)) w2 := by
  have hlx : w.heap.size + 1 < wr.heap.size := (Array.getElem?_eq_some_iff.1 hb1).1
  have hs := hg1.size
  have hgA : Gw wr (w1.alloc O) := hg1.alloc O
  have hv : ∀ x, (Value.slice va us.length vc).ownBlock = some x → w.heap.size + 2 ≤ x := fun x hx => (HA.1.lt x hx).1
  have key : ∀ b, b < w.heap.size + 2 → w2.heap[b]? = wr.heap[b]? := fun b h => (HG.block b (by simp; omega) (fun e => by have := hv b e.symm; omega)).trans (hgA.block b (by omega))
  have hnx : u.New Bu (w1.alloc O) := HN.grow ((Below.refl _ _).alloc (Nat.le_refl _) _)
  have hA2 := App.push HA hgA hnx hBu (by omega) HO HG (HAT.imp id (fun e => by omega))
  have hgB : Below w.heap.size w w2 := Below.trans hg ⟨HG.os.trans hgA.os, HG.tape.trans hgA.tape, HG.output.trans hgA.output, Nat.le_trans hgA.size HG.size, fun b hb => key b (by omega)⟩
  refine ⟨us ++ [u], by rw [List.length_append]; rfl, ?_, hA2, (key _ (by omega)).trans hb0, (key _ (by omega)).trans hb1, hgB⟩
  rw [List.length_append, List.length_singleton, List.take_succ_eq_append_getElem hlt, List.map_append, List.map_append, HT]; simp [HU]

set_option maxRecDepth 100000 in
theorem copy_of (t : LT) (ih : ∀ u ∈ t.ks, ∀ (w : World), u.Ok w → Calls Try.prog 67 #[u.val] w (ToPost w u)) (w : World) (h : t.Ok w) (hl : t.ks.length ≤ 1048576) : Calls Try.prog 67 #[t.val] w (ToPost w t) := by
  obtain ⟨i0, hi, hz0, hz1, hz2⟩ := info_parts (P := Try.prog) (e := 29) (z := .agg #[.int .i64 0, .string ⟨#[]⟩, .slice none 0 0]) (size := 3) (bytes := 48) (by kernel_rfl)
  have HI := Lib.hid hi
  have HZ0 := Lib.hid hz0
  have HZ1 := Lib.hid hz1
  have HZ2 := Lib.hid hz2
  clear hi hz0 hz1 hz2
  go_enter Try.func67, Try.ntmps67
  go_wp2_with fail
  have hrow := h.kids.2.2
  have hl9 : t.ks.length ≤ 9223372036854775807 := by omega
  go_loopw [3, 9] (fun v i wr => CpRel w t v i wr) (fun _ i _ => t.ks.length - (intOf i).toNat)
  case atStart =>
    refine ⟨[], rfl, rfl, App.nil _ _, ?_, ?_, ((Gw.refl w).alloc _).alloc _⟩
    · rw [Below.heap_alloc _ _ _ (by simp)]
      exact heap_alloc_new w _
    · exact heap_alloc2_new w _ _
  case round =>
    obtain ⟨us, rfl, hty, happ, hb0, hb1, hg⟩ := hrel
    have HT := Lib.hid hty
    have HA := Lib.hid happ
    have HB0 := Lib.hid hb0
    have HB1 := Lib.hid hb1
    have hlx : w.heap.size + 1 < wr.heap.size := (Array.getElem?_eq_some_iff.1 hb1).1
    have hle : us.length ≤ t.ks.length := by have := congrArg List.length hty; simp at this; omega
    obtain ⟨va, vc, rfl⟩ := happ.form
    clear hty hb0 hb1 happ
    by_cases hlt : us.length < t.ks.length
    · obtain ⟨b, o, ha, hr⟩ := hrow.resolve_left (fun e => by rw [e] at hlt; simp at hlt)
      obtain ⟨c0, c1, c2, hk⟩ := rowOk_get (hr.grow hg) us.length hlt
      have hk' : (t.ks[us.length]).Ok (wr.alloc (.cells #[.int .i64 t.ks[us.length].k, .string t.ks[us.length].n, .slice t.ks[us.length].a t.ks[us.length].ks.length t.ks[us.length].cap] 29)) := hk.grow ((Below.refl _ _).alloc (Nat.le_refl _) _)
      have HKO := Lib.hid hk'
      rw [ha]
      have q0 : (0 : Int) ≤ us.length := by omega
      have q1 : (us.length : Int) < t.ks.length := by omega
      clear hrow hr hk' hk ha
      go_wp2_with fail
      refine (ih t.ks[us.length] (List.getElem_mem hlt) _ HKO.out).mono ?_
      rintro e w1 ⟨u, rfl, hu, hnew, hg1⟩
      have hg1' : Gw wr w1 := ((Gw.refl wr).alloc _).trans hg1
      have hnew' : u.New (wr.heap.size + 1) w1 := by simpa using hnew
      have HU := Lib.hid hu
      have HN := Lib.hid hnew'
      have HOW := Lib.hid ((HA.out.grow hg1').1.alloc (.cells #[.int .i64 u.k, .string u.n, .slice u.a u.ks.length u.cap] 29))
      have HNEWS := Lib.hid (World.news_of_block (heap_alloc_new w1 (.cells #[.int .i64 u.k, .string u.n, .slice u.a u.ks.length u.cap] 29)))
      have hl1 : w.heap.size + 2 ≤ (w1.alloc (.cells #[.int .i64 u.k, .string u.n, .slice u.a u.ks.length u.cap] 29)).heap.size := by have := hg1'.size; simp; omega
      have HL1 := Lib.hid hl1
      clear hu hnew hnew' c0 c1 c2 hl1
      go_wp2_with (at_builtin; refine wpList_append_lies _ rfl _ _ 27 rfl (w.heap.size + 2) 29 i0 _ 3 48 Try.underlying27 HI.out HZ0.out HZ1.out HZ2.out rfl (by decide) _ us.length (cellsL us) rfl HOW.out ⟨w1.heap.size, 0, none⟩ 1 1 [.int .i64 u.k, .string u.n, .slice u.a u.ks.length u.cap] rfl rfl HNEWS.out (one3 _ _ _ _ _) (by decide) (le_max3 hlt hl) (by omega) HL1.out _ rfl ?_)
      intro g cap w2 hown2 hgr2 hat2 hlt2
      have HO2 := Lib.hid hown2
      have HG2 := Lib.hid hgr2
      have HA2 := Lib.hid hat2
      clear hown2 hgr2 hat2
      go_wp2_with fail
      go_roundw
      case rel => exact cp_next HT.out HA.out HB0.out HB1.out hg hlt hg1' HU.out HN.out (by omega) HO2.out HG2.out (HA2.out.imp id (fun e => by rw [e]; simp))
      case measure => simp [intOf]; omega
    · have hall : us.length = t.ks.length := by omega
      have HALL := Lib.hid hall
      have y0 : wr.cell? ⟨w.heap.size, 0, none⟩ = some (.int .i64 t.k) := cell_of_row _ _ 0 _ _ _ HB0.out
      have y1 : wr.cell? ⟨w.heap.size, 1, none⟩ = some (.string t.n) := cell_of_row _ _ 1 _ _ _ HB0.out
      have z0 : wr.cell? ⟨w.heap.size + 1, 0, none⟩ = some (.int .i64 0) := cell_of_row _ _ 0 _ _ _ HB1.out
      have z1 : wr.cell? ⟨w.heap.size + 1, 1, none⟩ = some (.string ⟨#[]⟩) := cell_of_row _ _ 1 _ _ _ HB1.out
      have z2 : wr.cell? ⟨w.heap.size + 1, 2, none⟩ = some (.slice none 0 0) := cell_of_row _ _ 2 _ _ _ HB1.out
      have f0 : ∀ j, wr.frozen? ⟨w.heap.size + 1, j, none⟩ = false := fun j => by simp [World.frozen?, HB1.out]
      clear hall hrow
      have q0 : (0 : Int) ≤ us.length := by omega
      have q1 : ¬ ((us.length : Int) < t.ks.length) := by have := HALL.out; omega
      go_wp2_with fail
      have hB : ∀ b, b < w.heap.size + 2 → b ∉ (LT.mk 0 ⟨#[]⟩ va vc us).bl := fun b hb hm => by have := (HA.out.done.2.2 b hm).1; omega
      refine bodyPost_ret (v := (LT.mk t.k t.n va vc us).val) (by simp [results, Try.results67, go_sem, z0, z1, z2]; exact ⟨rfl, rfl, rfl, rfl, rfl⟩) rfl ⟨_, rfl, ?_, ?_, ?_⟩
      · rw [LT.ty_eq, LT.ty_eq t]; show Ty.mk t.k t.n (us.map LT.ty) = _; rw [HT.out, HALL.out, List.take_length]
      · exact ((((HA.out.done.mk h.nm h.num.1 h.num.2).far _ (hB _ (by simp)) _).far _ (hB _ (by simp)) _).far _ (hB _ (by simp)) _).mono (by omega)
      · exact ((Below.setCell hg (by simp) _).setCell (by simp) _).setCell (by simp) _

theorem impl_copy (t : LT) : ∀ (w : World), t.Ok w → t.sz ≤ 1048576 → Calls Try.prog 67 #[t.val] w (ToPost w t) := by
  refine LT.ind (P := fun t => ∀ (w : World), t.Ok w → t.sz ≤ 1048576 → Calls Try.prog 67 #[t.val] w (ToPost w t)) (fun k n a c ks ih w h hs => ?_) t
  rw [LT.sz_eq] at hs
  have h1 := szl_ge ks
  have hs' : n.size + LT.sz.szl ks ≤ 1048576 := hs
  exact copy_of (.mk k n a c ks) (fun u hu w2 h2 => ih u hu w2 h2 (by have := sz_mem hu; omega)) w h (by show ks.length ≤ _; omega)

end Go.Proofs.Ytdlbhjkkgiaidaa.Con
