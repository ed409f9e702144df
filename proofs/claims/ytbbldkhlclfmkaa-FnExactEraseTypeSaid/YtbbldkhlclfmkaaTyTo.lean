/-
  The laws' own functions toType and toTypeS: a type that came in is laid anew in new memory. No condition but that the type can be read and is not too large.
-/
import Derived.Test.YtbbldkhlclfmkaaTyNew
import Derived.Outline
import Derived.LoopTactic
import Derived.Lib.Hide
import Derived.Laws.MakeOwn
import Derived.Laws.Rows
namespace Go.Proofs.Ytbbldkhlclfmkaa.Con
open Go.RowKit

def ToPost (w : World) (t : LT) (e : Ending) (w' : World) : Prop := ∃ u : LT, e = .returned u.val ∧ u.ty = t.ty ∧ u.New w.heap.size w' ∧ Gw w w'
def ToPostS (w : World) (ks : List LT) (e : Ending) (w' : World) : Prop := ∃ (us : List LT) (a : Option Addr) (cap : Nat), e = .returned (.slice a us.length cap) ∧ us.map LT.ty = ks.map LT.ty ∧ slNew w.heap.size w' a cap us ∧ Gw w w'

theorem bcell {W w1 : World} (hb : Below W.heap.size W w1) : (∀ b o, b < W.heap.size → w1.cell? ⟨b, o, none⟩ = W.cell? ⟨b, o, none⟩) ∧ (∀ b o, b < W.heap.size → w1.frozen? ⟨b, o, none⟩ = W.frozen? ⟨b, o, none⟩) :=
  ⟨fun b o h => hb.cell (p := ⟨b, o, none⟩) h, fun b o h => hb.frozen (p := ⟨b, o, none⟩) h⟩

theorem ret_sl {a : Option Addr} {n m c : Nat} (h : n = m) : Ending.returned (.slice a n c) = .returned (.slice a m c) := by rw [h]

theorem hfl {w : World} {g n : Nat} {us : List LT} (h : Fill w g n us) : g < w.heap.size := by
  obtain ⟨_, ⟨cs, e, h1, _⟩, _⟩ := h
  exact (Array.getElem?_eq_some_iff.1 h1).1

theorem toType_of (t : LT) (ih : ∀ (w : World), slOk w t.a t.cap t.ks → Calls Try.prog 39 #[.slice t.a t.ks.length t.cap] w (ToPostS w t.ks)) (w : World) (h : t.Ok w) : Calls Try.prog 11 #[t.val] w (ToPost w t) := by
  have hk := h.kids
  go_enter Try.func11, Try.ntmps11
  go_wp2_with fail
  refine (ih _ ?_).mono ?_
  · exact hk.grow ((((Below.refl _ _).alloc (Nat.le_refl _) _).alloc (by simp) _).alloc (by simp; omega) _)
  rintro e w1 ⟨us, a, cap, rfl, hus, hnew, hg⟩
  obtain ⟨hc, hf⟩ := bcell hg
  have hz := hg.size
  have hz' : w.heap.size + 3 ≤ w1.heap.size := by simp at hz; omega
  go_wp2_with fail
  have hgw : Gw w w1 := (((Gw.refl w).alloc _).alloc _).alloc _ |>.trans hg
  have hnew' : slNew (w.heap.size + 3) w1 a cap us := by simpa using hnew
  have hB : ∀ b, b < w.heap.size + 3 → b ∉ (LT.mk 0 ⟨#[]⟩ a cap us).bl := fun b hb hm => by have := (hnew'.2.2 b hm).1; omega
  refine bodyPost_ret (v := (LT.mk t.k t.n a cap us).val) (by simp [results, Try.results11, go_sem, hc]; exact ⟨rfl, rfl, rfl, rfl, rfl⟩) rfl ⟨_, rfl, ?_, ?_, ?_⟩
  · rw [LT.ty_eq, LT.ty_eq t]; show Ty.mk t.k t.n (us.map LT.ty) = _; rw [hus]
  · exact (((((hnew'.mk h.nm h.num.1 h.num.2).far _ (hB _ (by simp)) _).far _ (hB _ (by simp)) _).far _ (hB _ (by simp)) _).far _ (hB _ (by simp)) _).mono (by omega)
  · exact (((Below.setCell hgw (by simp; omega) _).setCell (by simp) _).setCell (by simp) _).setCell (by simp) _

theorem toTypeS_of (ks : List LT) (ih : ∀ t ∈ ks, ∀ (w : World), t.Ok w → Calls Try.prog 11 #[t.val] w (ToPost w t)) (w : World) (a : Option Addr) (cap : Nat) (h : slOk w a cap ks) (hl : ks.length ≤ 1048576) :
    Calls Try.prog 39 #[.slice a ks.length cap] w (ToPostS w ks) := by
  obtain ⟨_, _, hrow⟩ := h
  obtain ⟨i0, hi, hz0, hz1, hz2⟩ := info_parts (P := Try.prog) (e := 29) (z := .agg #[.int .i64 0, .string ⟨#[]⟩, .slice none 0 0]) (size := 3) (bytes := 48) (by kernel_rfl)
  have hmk : ∀ W : World, (Instr.makeSlice 27 (.int .i64 (ks.length : Int)) (.int .i64 (ks.length : Int))).run Try.prog W = .ok (.slice (some ⟨W.heap.size, 0, none⟩) ks.length ks.length) (W.alloc (.cells (madeCells #[.int .i64 0, .string ⟨#[]⟩, .slice none 0 0] (ks.length * 3)) 29)) := fun W => by
    have hr := run_make (P := Try.prog) W 27 29 i0 _ Try.underlying27 hi hz0 .i64 .i64 (ks.length : Int) (ks.length : Int) (by omega) (Int.le_refl _) (by rw [hz2]; omega) (by omega)
    rw [Int.toNat_natCast, hz1] at hr
    exact hr
  have HI := Lib.hid hi
  clear hi hz0 hz1 hz2
  go_enter Try.func39, Try.ntmps39
  go_wp2_with fail
  have hgw0 : Gw w (w.alloc (.cells (madeCells #[.int .i64 0, .string ⟨#[]⟩, .slice none 0 0] (ks.length * 3)) 29)) := (Gw.refl w).alloc _
  go_loopw [4] (fun i wr => ∃ us : List LT, i = .int .i64 us.length ∧ us.map LT.ty = (ks.take us.length).map LT.ty ∧ Fill wr w.heap.size ks.length us ∧ Gw w wr) (fun i _ => ks.length - (intOf i).toNat)
  case atStart => exact ⟨[], rfl, rfl, Fill.start _ _ _ ⟨_, _, heap_alloc_new _ _, by rw [size_madeCells]; omega⟩, hgw0⟩
  case round =>
    obtain ⟨us, rfl, hty, hfill, hg⟩ := hrel
    have HT := Lib.hid hty
    have HF := Lib.hid hfill
    have hj : us.length ≤ ks.length := hfill.1
    clear hty hfill hgw0 HI hmk
    by_cases hlt : us.length < ks.length
    · have hrow' := hrow.resolve_left (fun e => by subst e; simp at hlt)
      obtain ⟨b, o, rfl, hr⟩ := hrow'
      obtain ⟨c0, c1, c2, hk⟩ := rowOk_get (hr.grow hg) us.length hlt
      clear hrow
      go_wp2_with fail
      refine (ih ks[us.length] (List.getElem_mem hlt) _ hk).mono ?_
      rintro e w1 ⟨u, rfl, hu, hnew, hg1⟩
      have HU := Lib.hid hu
      have HN := Lib.hid hnew
      clear hu hnew c0 c1 c2
      have hF1 := HF.out.grow hg1
      obtain ⟨v0, x0⟩ := hF1.room (us.length * 3) (by omega)
      obtain ⟨v1, x1⟩ := hF1.room (us.length * 3 + 1) (by omega)
      obtain ⟨v2, x2⟩ := hF1.room (us.length * 3 + 2) (by omega)
      have y0 := hF1.free (us.length * 3)
      have y1 := hF1.free (us.length * 3 + 1)
      have y2 := hF1.free (us.length * 3 + 2)
      have HF1 := Lib.hid hF1
      clear hF1
      go_wp2_with fail
      go_roundw
      case rel =>
        have hl1 : us.length + 1 = (us ++ [u]).length := by simp
        refine ⟨us ++ [u], by rw [← hl1]; go_num, ?_, HF1.out.put hlt HN.out (fun b hb => ((HF.out.2.2.2.2 b hb).2).lt) (Nat.lt_of_lt_of_le (hfl HF.out) (Nat.le_refl _)), ?_⟩
        · rw [← hl1, List.take_succ_eq_append_getElem hlt, List.map_append, List.map_append, HT.out]; simp [HU.out]
        · exact ((Below.setCell (hg.trans hg1) (by simp) _).setCell (by simp) _).setCell (by simp) _
      case measure => simp [intOf]; omega
    · have hall : us.length = ks.length := by omega
      have HA := Lib.hid hall
      clear hall
      have hdone := HF.out.done (cap := ks.length) (B := w.heap.size) hj (by unfold maxLen; omega) (Nat.le_refl _)
      go_wp2_with fail
      go_ret
      exact ⟨us, _, ks.length, ret_sl HA.out.symm, by rw [HT.out, HA.out, List.take_length], hdone, hg⟩

theorem laws_toType (t : LT) : ∀ (w : World), t.Ok w → t.sz ≤ 1048576 → Calls Try.prog 11 #[t.val] w (ToPost w t) := by
  refine LT.ind (P := fun t => ∀ (w : World), t.Ok w → t.sz ≤ 1048576 → Calls Try.prog 11 #[t.val] w (ToPost w t)) (fun k n a c ks ih w h hs => ?_) t
  rw [LT.sz_eq] at hs
  have h1 := szl_ge ks
  have hs' : n.size + LT.sz.szl ks ≤ 1048576 := hs
  exact toType_of (.mk k n a c ks) (fun w1 h1 => toTypeS_of ks (fun u hu w2 h2 => ih u hu w2 h2 (by have := sz_mem hu; omega)) w1 a c h1 (by omega)) w h

theorem laws_toTypeS (ks : List LT) (w : World) (a : Option Addr) (cap : Nat) (h : slOk w a cap ks) (hs : LT.sz.szl ks ≤ 1048576) : Calls Try.prog 39 #[.slice a ks.length cap] w (ToPostS w ks) :=
  toTypeS_of ks (fun u hu w2 h2 => laws_toType u w2 h2 (by have := sz_mem hu; omega)) w a cap h (by have := szl_ge ks; omega)

end Go.Proofs.Ytbbldkhlclfmkaa.Con
