/-
  Contracts of spec.EraseType, impl.erasedType and impl.EraseType. No condition but that the type lies in memory.
-/
import Derived.Test.YtbbldkhlclfmkaaTyErase
import Derived.Deep.Cut
import Derived.Test.YtbbldkhlclfmkaaTyTxt
namespace Go.Proofs.Ytbbldkhlclfmkaa.Con
open Go.RowKit
set_option linter.unusedVariables false

/-- What EraseType gives. -/
def erased (t : Ty) : Ty := if validB t then t.er else .mk 0 ⟨#[]⟩ []
def ErdPost (w : World) (t : LT) (e : Ending) (w' : World) : Prop := ∃ u : LT, e = .returned u.val ∧ u.ty = erased t.ty ∧ u.New w.heap.size w' ∧ Gw w w'

theorem new_zero (B : Nat) (w : World) : LT.New B w (.mk 0 ⟨#[]⟩ none 0 []) :=
  ⟨LT.ok_mk (Nat.zero_le _) (by simp [LT.k]) (by simp [LT.k]) ⟨Nat.le_refl _, Nat.zero_le _, .inl rfl⟩, by rw [LT.bl_eq]; simp [LT.ks, bls, LT.bl.bls], fun b hb => by rw [LT.bl_eq] at hb; simp [LT.ks, bls, LT.bl.bls] at hb⟩
theorem zero_ty : (LT.mk 0 ⟨#[]⟩ none 0 []).ty = .mk 0 ⟨#[]⟩ [] := by rw [LT.ty_eq]; rfl

theorem ta2_int_fun (W : World) : (Instr.typeAssert (.iface 162 (.agg #[])) 127 130 true).run Try.prog W = .ok (.tuple #[.agg #[.int .i64 0, .string ⟨#[]⟩, .slice none 0 0, .int .i64 0, .string ⟨#[]⟩, .slice none 0 0], .bool false]) W := by kernel_rfl
theorem ta2_int_bang (W : World) : (Instr.typeAssert (.iface 162 (.agg #[])) 127 133 true).run Try.prog W = .ok (.tuple #[.agg #[.int .i64 0, .string ⟨#[]⟩, .slice none 0 0], .bool false]) W := by kernel_rfl
theorem ta2_dat_fun (n : ByteArray) (W : World) : (Instr.typeAssert (.iface 164 (.agg #[.string n])) 127 130 true).run Try.prog W = .ok (.tuple #[.agg #[.int .i64 0, .string ⟨#[]⟩, .slice none 0 0, .int .i64 0, .string ⟨#[]⟩, .slice none 0 0], .bool false]) W := by kernel_rfl
theorem ta2_dat_bang (n : ByteArray) (W : World) : (Instr.typeAssert (.iface 164 (.agg #[.string n])) 127 133 true).run Try.prog W = .ok (.tuple #[.agg #[.int .i64 0, .string ⟨#[]⟩, .slice none 0 0], .bool false]) W := by kernel_rfl
theorem ta2_bang_fun (cs : Array Value) (W : World) : (Instr.typeAssert (.iface 133 (.agg cs)) 127 130 true).run Try.prog W = .ok (.tuple #[.agg #[.int .i64 0, .string ⟨#[]⟩, .slice none 0 0, .int .i64 0, .string ⟨#[]⟩, .slice none 0 0], .bool false]) W := by kernel_rfl
theorem ta2_bang_bang (cs : Array Value) (W : World) : (Instr.typeAssert (.iface 133 (.agg cs)) 127 133 true).run Try.prog W = .ok (.tuple #[.agg cs, .bool true]) W := by kernel_rfl
theorem ta2_fun_fun (cs : Array Value) (W : World) : (Instr.typeAssert (.iface 130 (.agg cs)) 127 130 true).run Try.prog W = .ok (.tuple #[.agg cs, .bool true]) W := by kernel_rfl

theorem spec_eraseType (t : LT) (w : World) (h : t.Ok w) : Calls Try.prog 14 #[t.val] w (ErdPost w t) := by
  have g1 : Gw w ((w.alloc (.cells #[.int .i64 t.k, .string t.n, .slice t.a t.ks.length t.cap] 29)).alloc (.cells #[.int .i64 0, .string ⟨#[]⟩, .slice none 0 0] 29)) := ((Gw.refl w).alloc _).alloc _
  have key := spec_valid t _ (h.grow g1)
  cases hv : validB t.ty with
  | false =>
    rw [hv] at key
    have HE := Lib.hid (show erased t.ty = .mk 0 ⟨#[]⟩ [] from by unfold erased; rw [hv]; rfl)
    clear hv
    go_enter Try.func14, Try.ntmps14
    go_wp2_with fail
    refine key.mono ?_
    rintro e w1 ⟨rfl, hg⟩
    obtain ⟨hc, hf⟩ := bcell hg
    have hz : w.heap.size + 2 ≤ w1.heap.size := by have := hg.size; simp at this; omega
    have g2 := g1.trans hg
    go_wp2_with fail
    refine bodyPost_ret (v := (LT.mk 0 ⟨#[]⟩ none 0 []).val) (by simp [results, Try.results14, go_sem, hc]; exact ⟨rfl, rfl, rfl, rfl, rfl⟩) rfl ⟨_, rfl, by rw [HE.out, zero_ty], new_zero _ _, ?_⟩
    exact ((Below.setCell g2 (by simp) _).setCell (by simp) _).setCell (by simp) _
  | true =>
    rw [hv] at key
    obtain ⟨m, hw, hm⟩ := Wf.of_valid hv
    have HE := Lib.hid (show erased t.ty = t.ty.er from by unfold erased; rw [hv]; rfl)
    clear hv
    go_enter Try.func14, Try.ntmps14
    go_wp2_with fail
    refine key.mono ?_
    rintro e w1 ⟨rfl, hg⟩
    obtain ⟨hc, hf⟩ := bcell hg
    have hz : w.heap.size + 2 ≤ w1.heap.size := by have := hg.size; simp at this; omega
    have g2 := g1.trans hg
    go_wp2_with fail
    refine (spec_erase t m _ hw (h.grow g2)).mono ?_
    rintro e w2 ⟨u, rfl, hu, hnew, hg2⟩
    have HU := Lib.hid hu
    have HN := Lib.hid hnew
    clear hu hnew hc hf
    obtain ⟨hc, hf⟩ := bcell (hg.trans hg2)
    have hz2 : w.heap.size + 2 ≤ w2.heap.size := by have := hg2.size; omega
    have g3 := g2.trans hg2
    go_wp2_with fail
    have hB : ∀ b, b < w.heap.size + 2 → b ∉ u.bl := fun b hb hm => by have := (HN.out.2.2 b hm).1; omega
    refine bodyPost_ret (v := u.val) (by simp [results, Try.results14, go_sem, hc]) rfl ⟨u, rfl, by rw [HU.out, HE.out], ?_, ?_⟩
    · exact (((HN.out.far _ (hB _ (by simp)) _).far _ (hB _ (by simp)) _).far _ (hB _ (by simp)) _).mono (by omega)
    · exact ((Below.setCell g3 (by simp) _).setCell (by simp) _).setCell (by simp) _

theorem empty_text {n : ByteArray} (h : n.toList.isEmpty = true) : n = ⟨#[]⟩ := by
  apply ByteArray.ext
  rw [ByteArray.toList_eq, List.isEmpty_iff] at h
  exact Array.toList_inj.1 (by rw [h])

theorem gw_then {w w1 w2 : World} (h : Below w.heap.size w w1) (k : Gw w1 w2) : Gw w w2 := Below.trans h (Below.mono k h.size)

/-- Two types side by side in a new block. -/
theorem new_pair {B Bu Bv g : Nat} {W0 : World} {u v : LT} (hu : u.New Bu W0) (hv : v.New Bv W0) (hBu : B ≤ Bu) (hsep : ∀ b ∈ u.bl, b < Bv) (hBv : B ≤ Bv) (hBW : B ≤ W0.heap.size) (hg : W0.heap.size = g) :
    slNew B (W0.alloc (.cells #[.int .i64 u.k, .string u.n, .slice u.a u.ks.length u.cap, .int .i64 v.k, .string v.n, .slice v.a v.ks.length v.cap] 29)) (some ⟨g, 0, none⟩) 2 [u, v] := by
  subst hg
  have hgr : Gw W0 (W0.alloc (.cells #[.int .i64 u.k, .string u.n, .slice u.a u.ks.length u.cap, .int .i64 v.k, .string v.n, .slice v.a v.ks.length v.cap] 29)) := (Gw.refl _).alloc _
  have hb := heap_alloc_new W0 (.cells #[.int .i64 u.k, .string u.n, .slice u.a u.ks.length u.cap, .int .i64 v.k, .string v.n, .slice v.a v.ks.length v.cap] 29)
  have hbl : (LT.mk 0 ⟨#[]⟩ (some ⟨W0.heap.size, 0, none⟩) 2 [u, v]).bl = W0.heap.size :: (u.bl ++ v.bl) := by rw [LT.bl_eq]; simp [LT.ks, LT.a, bls, LT.bl.bls]
  refine ⟨LT.ok_mk (Nat.zero_le _) (by simp [LT.k]) (by simp [LT.k]) ⟨Nat.le_refl _, by simp [LT.cap, maxLen], .inr ⟨_, 0, rfl, rowOk_mk fun i hi => ?_⟩⟩, ?_, ?_⟩
  · by_cases h0 : i = 0
    · subst h0
      exact ⟨cell_of_row _ _ 0 _ _ _ hb, cell_of_row _ _ 1 _ _ _ hb, cell_of_row _ _ 2 _ _ _ hb, hu.1.grow hgr⟩
    · obtain rfl : i = 1 := by simp [LT.ks] at hi; omega
      exact ⟨cell_of_row _ _ 3 _ _ _ hb, cell_of_row _ _ 4 _ _ _ hb, cell_of_row _ _ 5 _ _ _ hb, hv.1.grow hgr⟩
  · rw [hbl, List.nodup_cons, List.nodup_append]
    refine ⟨fun hm => ?_, hu.2.1, hv.2.1, fun a ha b hb => ?_⟩
    · rcases List.mem_append.1 hm with hm | hm
      · have := (hu.2.2 _ hm).2.lt; omega
      · have := (hv.2.2 _ hm).2.lt; omega
    · have := hsep a ha; have := (hv.2.2 b hb).1; omega
  · intro b hm
    rw [hbl] at hm
    rcases List.mem_cons.1 hm with rfl | hm
    · exact ⟨hBW, _, _, hb⟩
    · rcases List.mem_append.1 hm with hm | hm
      · exact ⟨Nat.le_trans hBu (hu.2.2 b hm).1, (hu.2.2 b hm).2.grow hgr⟩
      · exact ⟨Nat.le_trans hBv (hv.2.2 b hm).1, (hv.2.2 b hm).2.grow hgr⟩

theorem far3 {w : World} {a b : Nat} (h : a ≠ b) (o : Nat) (i j k : Nat) (x y z : Value) : (((w.setCell ⟨b, i, none⟩ x).setCell ⟨b, j, none⟩ y).setCell ⟨b, k, none⟩ z).cell? ⟨a, o, none⟩ = w.cell? ⟨a, o, none⟩ := by
  rw [World.cell?_setCell_other _ _ _ _ (fun e => h (by injection e with e; exact e.symm)), World.cell?_setCell_other _ _ _ _ (fun e => h (by injection e with e; exact e.symm)), World.cell?_setCell_other _ _ _ _ (fun e => h (by injection e with e; exact e.symm))]

theorem far3A {w : World} {a b : Nat} (hl : a < w.heap.size) (h : a ≠ b) (o : Nat) (i j k : Nat) (x y z : Value) (O : Obj) : ((((w.setCell ⟨b, i, none⟩ x).setCell ⟨b, j, none⟩ y).setCell ⟨b, k, none⟩ z).alloc O).cell? ⟨a, o, none⟩ = w.cell? ⟨a, o, none⟩ := by
  rw [World.cell?_alloc_lt _ _ _ (by simpa [World.setCell] using hl)]
  exact far3 h o i j k x y z

theorem er_after {Wb w2 w3 : World} {x s : Nat} (hg2 : Gw Wb.drew w2) (hg3 : Gw w2 w3) (hlt : x < Wb.heap.size) (hz : s + 2 ≤ x) (zf : ∀ j, Wb.frozen? ⟨s + 1, j, none⟩ = false) (hT : s + 1 < Wb.heap.size) :
    (∀ b o, b < Wb.heap.size → w3.cell? ⟨b, o, none⟩ = Wb.cell? ⟨b, o, none⟩) ∧ (∀ j, w3.frozen? ⟨s + 1, j, none⟩ = false) ∧ x < w3.heap.size ∧ x ≠ s + 1 ∧ s + 1 < w3.heap.size := by
  have h2 := hg2.size
  have h3 := hg3.size
  have h2' : Wb.heap.size ≤ w2.heap.size := h2
  refine ⟨fun b o h => ((bcell hg3).1 b o (by omega)).trans ((bcell hg2).1 b o h), fun j => ((bcell hg3).2 _ j (by omega)).trans (((bcell hg2).2 _ j hT).trans (zf j)), by omega, by omega, by omega⟩

theorem impl_er_int (t : LT) (w : World) (h : t.Ok w) (hk : t.k = 1) (he : t.n.toList.isEmpty = true) (hks : t.ks.length = 0) (hk4 : ¬ t.k = 4) : Calls Try.prog 45 #[t.val] w (ErPost w t) := by
  have g1 : Gw w ((w.alloc (.cells #[.int .i64 t.k, .string t.n, .slice t.a t.ks.length t.cap] 29)).alloc (.cells #[.int .i64 0, .string ⟨#[]⟩, .slice none 0 0] 29)) := ((Gw.refl w).alloc _).alloc _
  have HER := Lib.hid (t.er_other hk4)
  have key := impl_node t _ (h.grow g1) (by rw [hk, hks]; unfold headB; simp [he])
  have hv : nodeV t = .iface 162 (.agg #[]) := by unfold nodeV; rw [if_pos hk]
  rw [hv] at key
  have HKS := Lib.hid hks
  clear hk hks hv hk4
  have ta1 := ta2_int_fun
  have ta2 := ta2_int_bang
  go_enter Try.func45, Try.ntmps45
  go_wp2_with fail
  refine key.mono ?_
  rintro e w1 ⟨rfl, hg⟩
  obtain ⟨hc, hf⟩ := bcell hg
  have hz : w.heap.size + 2 ≤ w1.heap.size := by have := hg.size; simp at this; omega
  have g2 := g1.trans hg
  go_wp2_with fail
  refine bodyPost_ret (v := (LT.mk t.k t.n none 0 []).val) (by simp [results, Try.results45, go_sem, hc]; exact ⟨rfl, rfl, rfl, rfl, rfl⟩) rfl ⟨_, rfl, ?_, ?_, ?_⟩
  · rw [HER.out, List.eq_nil_of_length_eq_zero HKS.out, LT.ty_eq]; rfl
  · exact ⟨LT.ok_mk h.nm h.num.1 h.num.2 ⟨Nat.le_refl _, Nat.zero_le _, .inl rfl⟩, by rw [LT.bl_eq]; simp [LT.ks, bls, LT.bl.bls], fun b hb => by rw [LT.bl_eq] at hb; simp [LT.ks, bls, LT.bl.bls] at hb⟩
  · first
    | exact ((((((Below.setCell (g2.alloc _) (by simp) _).setCell (by simp) _).setCell (by simp) _).alloc (by simp; omega) _)))
    | exact (((Below.setCell g2 (by simp) _).setCell (by simp) _).setCell (by simp) _)
    | (refine Below.alloc (Below.alloc (((Below.setCell g2 (by simp) _).setCell (by simp) _).setCell (by simp) _) (by simp; omega) _) (by simp; omega) _)
    | (refine Below.alloc (((Below.setCell g2 (by simp) _).setCell (by simp) _).setCell (by simp) _) (by simp; omega) _)

theorem impl_er_dat (t : LT) (w : World) (h : t.Ok w) (hk : t.k = 2) (he : dataB t.n = true) (hks : t.ks.length = 0) (hk4 : ¬ t.k = 4) : Calls Try.prog 45 #[t.val] w (ErPost w t) := by
  have g1 : Gw w ((w.alloc (.cells #[.int .i64 t.k, .string t.n, .slice t.a t.ks.length t.cap] 29)).alloc (.cells #[.int .i64 0, .string ⟨#[]⟩, .slice none 0 0] 29)) := ((Gw.refl w).alloc _).alloc _
  have HER := Lib.hid (t.er_other hk4)
  have key := impl_node t _ (h.grow g1) (by rw [hk, hks]; unfold headB; simp [he])
  have hv : nodeV t = .iface 164 (.agg #[.string t.n]) := by unfold nodeV; rw [if_neg (by omega), if_pos hk]
  rw [hv] at key
  have HKS := Lib.hid hks
  clear hk hks hv hk4
  have ta1 := ta2_dat_fun t.n
  have ta2 := ta2_dat_bang t.n
  go_enter Try.func45, Try.ntmps45
  go_wp2_with fail
  refine key.mono ?_
  rintro e w1 ⟨rfl, hg⟩
  obtain ⟨hc, hf⟩ := bcell hg
  have hz : w.heap.size + 2 ≤ w1.heap.size := by have := hg.size; simp at this; omega
  have g2 := g1.trans hg
  go_wp2_with fail
  refine bodyPost_ret (v := (LT.mk t.k t.n none 0 []).val) (by simp [results, Try.results45, go_sem, hc]; exact ⟨rfl, rfl, rfl, rfl, rfl⟩) rfl ⟨_, rfl, ?_, ?_, ?_⟩
  · rw [HER.out, List.eq_nil_of_length_eq_zero HKS.out, LT.ty_eq]; rfl
  · exact ⟨LT.ok_mk h.nm h.num.1 h.num.2 ⟨Nat.le_refl _, Nat.zero_le _, .inl rfl⟩, by rw [LT.bl_eq]; simp [LT.ks, bls, LT.bl.bls], fun b hb => by rw [LT.bl_eq] at hb; simp [LT.ks, bls, LT.bl.bls] at hb⟩
  · first
    | exact ((((((Below.setCell (g2.alloc _) (by simp) _).setCell (by simp) _).setCell (by simp) _).alloc (by simp; omega) _)))
    | exact (((Below.setCell g2 (by simp) _).setCell (by simp) _).setCell (by simp) _)
    | (refine Below.alloc (Below.alloc (((Below.setCell g2 (by simp) _).setCell (by simp) _).setCell (by simp) _) (by simp; omega) _) (by simp; omega) _)
    | (refine Below.alloc (((Below.setCell g2 (by simp) _).setCell (by simp) _).setCell (by simp) _) (by simp; omega) _)

theorem impl_er_bang (t x : LT) (w : World) (h : t.Ok w) (hk : t.k = 4) (he : t.n.toList.isEmpty = true) (hks : t.ks = [x]) (hx : x.Ok w) (key0 : ∀ (w : World), x.Ok w → Calls Try.prog 45 #[x.val] w (ErPost w x)) : Calls Try.prog 45 #[t.val] w (ErPost w t) := by
  have g1 : Gw w ((w.alloc (.cells #[.int .i64 t.k, .string t.n, .slice t.a t.ks.length t.cap] 29)).alloc (.cells #[.int .i64 0, .string ⟨#[]⟩, .slice none 0 0] 29)) := ((Gw.refl w).alloc _).alloc _
  have HER := Lib.hid (t.er_bang x hk hks)
  have key := impl_node t _ (h.grow g1) (by rw [hk, hks]; unfold headB; simp [he])
  have hv : nodeV t = .iface 133 (.agg #[.int .i64 x.k, .string x.n, .slice x.a x.ks.length x.cap]) := by unfold nodeV; rw [if_neg (by omega), if_neg (by omega), if_neg (by omega), hks]; rfl
  rw [hv] at key
  have HKEY := Lib.hid key0
  clear hk hks hv key0
  have ta1 := ta2_bang_fun #[.int .i64 x.k, .string x.n, .slice x.a x.ks.length x.cap]
  have ta2 := ta2_bang_bang #[.int .i64 x.k, .string x.n, .slice x.a x.ks.length x.cap]
  go_enter Try.func45, Try.ntmps45
  go_wp2_with fail
  refine key.mono ?_
  rintro e w1 ⟨rfl, hg⟩
  have hz : w.heap.size + 2 ≤ w1.heap.size := by have := hg.size; simp at this; omega
  have g2 := g1.trans hg
  go_wp2_with fail
  have g3 := g2.alloc (.cells #[.int .i64 x.k, .string x.n, .slice x.a x.ks.length x.cap] 133)
  refine (HKEY.out _ (hx.grow g3)).mono ?_
  rintro e w2 ⟨u, rfl, hu, hnew, hg2⟩
  have hnew' := hnew.mono (B' := w.heap.size + 2) (by simp; omega)
  have HU := Lib.hid hu
  have HN := Lib.hid hnew'
  clear hu hnew hnew'
  obtain ⟨hc, hf⟩ := bcell ((hg.alloc (.cells #[.int .i64 x.k, .string x.n, .slice x.a x.ks.length x.cap] 133)).trans hg2)
  have hz2 : w.heap.size + 2 ≤ w2.heap.size := by have := hg2.size; simp at this; omega
  have g4 := g3.trans hg2
  go_wp2_with fail
  have hB : ∀ b, b < w.heap.size + 2 → b ∉ u.bl := fun b hb hm => by have := (HN.out.2.2 b hm).1; omega
  refine bodyPost_ret (v := u.val) (by simp [results, Try.results45, go_sem, hc]) rfl ⟨u, rfl, by rw [HU.out, HER.out], ?_, ?_⟩
  · exact (((HN.out.far _ (hB _ (by simp)) _).far _ (hB _ (by simp)) _).far _ (hB _ (by simp)) _).mono (by omega)
  · exact ((Below.setCell g4 (by simp) _).setCell (by simp) _).setCell (by simp) _

/-- A function type of two new types. -/
def FtPost (B : Nat) (u v : LT) (w : World) (e : Ending) (w' : World) : Prop := ∃ r : LT, e = .returned r.val ∧ r.ty = Ty.mk 3 ⟨#[]⟩ [u.ty, v.ty] ∧ r.New B w' ∧ Gw w w'
set_option maxRecDepth 100000 in
theorem impl_ft (u v : LT) (B Bu Bv : Nat) (w : World) (hu : u.New Bu w) (hv : v.New Bv w) (hBu : B ≤ Bu) (hsep : ∀ b ∈ u.bl, b < Bv) (hBv : B ≤ Bv) (hBW : B ≤ w.heap.size) : Calls Try.prog 86 #[u.val, v.val] w (FtPost B u v w) := by
  have gA : Gw w (((w.alloc (.cells #[.int .i64 u.k, .string u.n, .slice u.a u.ks.length u.cap] 29)).alloc (.cells #[.int .i64 v.k, .string v.n, .slice v.a v.ks.length v.cap] 29)).alloc (.cells #[.int .i64 0, .string ⟨#[]⟩, .slice none 0 0] 29)) := (((Gw.refl w).alloc _).alloc _).alloc _
  have b1 := ((Box.new w u 29).grow ((Gw.refl _).alloc (.cells #[.int .i64 v.k, .string v.n, .slice v.a v.ks.length v.cap] 29))).grow ((Gw.refl _).alloc (.cells #[.int .i64 0, .string ⟨#[]⟩, .slice none 0 0] 29))
  have b2 := (Box.new (w.alloc (.cells #[.int .i64 u.k, .string u.n, .slice u.a u.ks.length u.cap] 29)) v 29).grow ((Gw.refl _).alloc (.cells #[.int .i64 0, .string ⟨#[]⟩, .slice none 0 0] 29))
  have hr := heap_alloc_new ((w.alloc (.cells #[.int .i64 u.k, .string u.n, .slice u.a u.ks.length u.cap] 29)).alloc (.cells #[.int .i64 v.k, .string v.n, .slice v.a v.ks.length v.cap] 29)) (.cells #[.int .i64 0, .string ⟨#[]⟩, .slice none 0 0] 29)
  rw [World.size_alloc] at b2
  rw [World.size_alloc, World.size_alloc] at hr
  have NU := Lib.hid (hu.grow gA)
  have NV := Lib.hid (hv.grow gA)
  have hun : ∀ b ∈ u.bl, b < w.heap.size := fun b hb => (hu.2.2 b hb).2.lt
  have hvn : ∀ b ∈ v.bl, b < w.heap.size := fun b hb => (hv.2.2 b hb).2.lt
  have HUN := Lib.hid hun
  have HVN := Lib.hid hvn
  have GA := Lib.hid gA
  clear hu hv gA hun hvn
  go_enter Try.func86, Try.ntmps86
  go_upto_region 1 with (fail)
  generalize (((w.alloc (.cells #[.int .i64 u.k, .string u.n, .slice u.a u.ks.length u.cap] 29)).alloc (.cells #[.int .i64 v.k, .string v.n, .slice v.a v.ks.length v.cap] 29)).alloc (.cells #[.int .i64 0, .string ⟨#[]⟩, .slice none 0 0] 29)) = W1 at *
  obtain ⟨z0, z1, z2⟩ := b1.c
  obtain ⟨y0, y1, y2⟩ := b2.c
  have r0 : W1.cell? ⟨w.heap.size + 1 + 1, 0, none⟩ = some (.int .i64 0) := cell_of_row _ _ 0 _ _ _ hr
  have r1 : W1.cell? ⟨w.heap.size + 1 + 1, 1, none⟩ = some (.string ⟨#[]⟩) := cell_of_row _ _ 1 _ _ _ hr
  have r2 : W1.cell? ⟨w.heap.size + 1 + 1, 2, none⟩ = some (.slice none 0 0) := cell_of_row _ _ 2 _ _ _ hr
  have rf : ∀ j, W1.frozen? ⟨w.heap.size + 1 + 1, j, none⟩ = false := fun j => by simp [World.frozen?, hr]
  have rf0 := rf 0
  have rf1 := rf 1
  have rf2 := rf 2
  have lt1 : w.heap.size + 1 + 1 < W1.heap.size := (Array.getElem?_eq_some_iff.1 hr).1
  clear b1 b2 rf hr
  go_wp2_with fail
  have hnu : ∀ j : Nat, (Addr.mk (w.heap.size + 1 + 1) j none).block ∉ u.bl := fun j hm => by have := HUN.out _ hm; simp at this; omega
  have hnv : ∀ j : Nat, (Addr.mk (w.heap.size + 1 + 1) j none).block ∉ v.bl := fun j hm => by have := HVN.out _ hm; simp at this; omega
  have hu4 := (((NU.out.far ⟨w.heap.size + 1 + 1, 0, none⟩ (hnu 0) (.int .i64 3)).far ⟨w.heap.size + 1 + 1, 1, none⟩ (hnu 1) (.string ⟨#[]⟩)).far ⟨w.heap.size + 1 + 1, 2, none⟩ (hnu 2) (.slice (some ⟨W1.heap.size, 0, none⟩) 2 2))
  have hv4 := (((NV.out.far ⟨w.heap.size + 1 + 1, 0, none⟩ (hnv 0) (.int .i64 3)).far ⟨w.heap.size + 1 + 1, 1, none⟩ (hnv 1) (.string ⟨#[]⟩)).far ⟨w.heap.size + 1 + 1, 2, none⟩ (hnv 2) (.slice (some ⟨W1.heap.size, 0, none⟩) 2 2))
  have hsz := GA.out.size
  have hpair := new_pair (B := B) (g := W1.heap.size) hu4 hv4 hBu hsep hBv (by simp [World.setCell]; omega) (by simp [World.setCell])
  refine bodyPost_ret (v := (LT.mk 3 ⟨#[]⟩ (some ⟨W1.heap.size, 0, none⟩) 2 [u, v]).val) (by simp [results, Try.results86, go_sem, lt1, r0, r1, r2]; first | rfl | exact ⟨rfl, rfl, rfl, rfl, rfl⟩) rfl ⟨_, rfl, by rw [LT.ty_eq]; rfl, hpair.mk (Nat.zero_le _) (by decide) (by decide), ?_⟩
  exact (((Below.setCell GA.out (by simp; omega) _).setCell (by simp; omega) _).setCell (by simp; omega) _).alloc (by simp [World.setCell]; omega) _

set_option maxRecDepth 100000 in
theorem impl_er_fun (t x y : LT) (w : World) (h : t.Ok w) (hk : t.k = 3) (he : t.n.toList.isEmpty = true) (hks : t.ks = [x, y]) (hx : x.Ok w) (hy : y.Ok w) (key0 : ∀ (w : World), x.Ok w → Calls Try.prog 45 #[x.val] w (ErPost w x)) (key1 : ∀ (w : World), y.Ok w → Calls Try.prog 45 #[y.val] w (ErPost w y)) : Calls Try.prog 45 #[t.val] w (ErPost w t) := by
  have g1 : Gw w ((w.alloc (.cells #[.int .i64 t.k, .string t.n, .slice t.a t.ks.length t.cap] 29)).alloc (.cells #[.int .i64 0, .string ⟨#[]⟩, .slice none 0 0] 29)) := ((Gw.refl w).alloc _).alloc _
  have hn0 : t.n = ⟨#[]⟩ := empty_text he
  have HER := Lib.hid (show t.ty.er = .mk 3 ⟨#[]⟩ [x.ty.er, y.ty.er] from by rw [t.er_other (by omega), hks, hk, hn0]; rfl)
  have key := impl_node t _ (h.grow g1) (by rw [hk, hks]; unfold headB; simp [he])
  have hv : nodeV t = .iface 130 (.agg #[.int .i64 x.k, .string x.n, .slice x.a x.ks.length x.cap, .int .i64 y.k, .string y.n, .slice y.a y.ks.length y.cap]) := by unfold nodeV; rw [if_neg (by omega), if_neg (by omega), if_pos hk, hks]; rfl
  rw [hv] at key
  have HKEY := Lib.hid key0
  have HKEY1 := Lib.hid key1
  clear hk hks hv key0 key1 hn0
  have ta1 := ta2_fun_fun #[.int .i64 x.k, .string x.n, .slice x.a x.ks.length x.cap, .int .i64 y.k, .string y.n, .slice y.a y.ks.length y.cap]
  go_enter Try.func45, Try.ntmps45
  go_wp2_with fail
  refine key.mono ?_
  rintro e w1 ⟨rfl, hg⟩
  have hz : w.heap.size + 2 ≤ w1.heap.size := by have := hg.size; simp at this; omega
  have g2 := g1.trans hg
  go_wp2_with fail
  obtain ⟨X, hX⟩ : ∃ X, X = Obj.cells #[.int .i64 x.k, .string x.n, .slice x.a x.ks.length x.cap, .int .i64 y.k, .string y.n, .slice y.a y.ks.length y.cap] 130 := ⟨_, rfl⟩
  rw [← hX]
  have hbk := heap_alloc_new w1 X
  have hszX : (w1.alloc X).heap.size = w1.heap.size + 1 := by simp
  have g3 := g2.alloc X
  have hgX := hg.alloc X
  have hB3 : (w1.alloc X).heap[w1.heap.size]? = some (.cells #[.int .i64 x.k, .string x.n, .slice x.a x.ks.length x.cap, .int .i64 y.k, .string y.n, .slice y.a y.ks.length y.cap] 130 (0, 0)) := by rw [hbk, hX]
  clear hbk hX ta1
  generalize w1.alloc X = Wb at *
  have hlt : w1.heap.size < Wb.heap.size := by omega
  have q0 : Wb.cell? ⟨w1.heap.size, 0, none⟩ = some (.int .i64 x.k) := cell_of_row _ _ 0 _ _ _ hB3
  have q1 : Wb.cell? ⟨w1.heap.size, 1, none⟩ = some (.string x.n) := cell_of_row _ _ 1 _ _ _ hB3
  have q2 : Wb.cell? ⟨w1.heap.size, 2, none⟩ = some (.slice x.a x.ks.length x.cap) := cell_of_row _ _ 2 _ _ _ hB3
  have q3 : Wb.cell? ⟨w1.heap.size, 3, none⟩ = some (.int .i64 y.k) := cell_of_row _ _ 3 _ _ _ hB3
  have q4 : Wb.cell? ⟨w1.heap.size, 4, none⟩ = some (.string y.n) := cell_of_row _ _ 4 _ _ _ hB3
  have q5 : Wb.cell? ⟨w1.heap.size, 5, none⟩ = some (.slice y.a y.ks.length y.cap) := cell_of_row _ _ 5 _ _ _ hB3
  obtain ⟨kb, fb⟩ := bcell hgX
  have z0 : Wb.cell? ⟨w.heap.size + 1, 0, none⟩ = some (.int .i64 0) := by rw [kb _ _ (by simp)]; simp
  have z1 : Wb.cell? ⟨w.heap.size + 1, 1, none⟩ = some (.string ⟨#[]⟩) := by rw [kb _ _ (by simp)]; simp
  have z2 : Wb.cell? ⟨w.heap.size + 1, 2, none⟩ = some (.slice none 0 0) := by rw [kb _ _ (by simp)]; simp
  have zf : ∀ j, Wb.frozen? ⟨w.heap.size + 1, j, none⟩ = false := fun j => by rw [fb _ _ (by simp)]; simp
  have hxo := (hx.grow g3).drew
  have hyo := (hy.grow g3).drew
  have hT2 : w.heap.size + 1 < Wb.heap.size := by omega
  clear hB3 kb fb hg hgX
  go_region_held3 (fun W => W.cell? ⟨w1.heap.size, 0, none⟩ = some (.int .i64 x.k) ∧ W.cell? ⟨w1.heap.size, 1, none⟩ = some (.string x.n) ∧ W.cell? ⟨w1.heap.size, 2, none⟩ = some (.slice x.a x.ks.length x.cap) ∧ W.cell? ⟨w1.heap.size, 3, none⟩ = some (.int .i64 y.k) ∧ W.cell? ⟨w1.heap.size, 4, none⟩ = some (.string y.n) ∧ W.cell? ⟨w1.heap.size, 5, none⟩ = some (.slice y.a y.ks.length y.cap))
    (first
      | (with_reducible exact ⟨(k2 _ _ hlt).trans q0, (k2 _ _ hlt).trans q1, (k2 _ _ hlt).trans q2, (k2 _ _ hlt).trans q3, (k2 _ _ hlt).trans q4, (k2 _ _ hlt).trans q5⟩)
      | (with_reducible exact ⟨(k3 _ _ hlt).trans q0, (k3 _ _ hlt).trans q1, (k3 _ _ hlt).trans q2, (k3 _ _ hlt).trans q3, (k3 _ _ hlt).trans q4, (k3 _ _ hlt).trans q5⟩)
      | (with_reducible exact ⟨(k4 _ _ hlt).trans q0, (k4 _ _ hlt).trans q1, (k4 _ _ hlt).trans q2, (k4 _ _ hlt).trans q3, (k4 _ _ hlt).trans q4, (k4 _ _ hlt).trans q5⟩)
      | (with_reducible exact ⟨(far3 hne _ _ _ _ _ _ _).trans ((k4 _ _ hlt).trans q0), (far3 hne _ _ _ _ _ _ _).trans ((k4 _ _ hlt).trans q1), (far3 hne _ _ _ _ _ _ _).trans ((k4 _ _ hlt).trans q2), (far3 hne _ _ _ _ _ _ _).trans ((k4 _ _ hlt).trans q3), (far3 hne _ _ _ _ _ _ _).trans ((k4 _ _ hlt).trans q4), (far3 hne _ _ _ _ _ _ _).trans ((k4 _ _ hlt).trans q5)⟩)
      | exact ⟨q0, q1, q2, q3, q4, q5⟩)
    (first
      | (go_at_call_of 45 (Value.agg #[.int .i64 x.k, .string x.n, .slice x.a x.ks.length x.cap]); refine (HKEY.out _ hxo).mono ?_; rintro e w2 ⟨u, rfl, hu, hnew, hg2⟩; have HU := Lib.hid hu; have HN := Lib.hid hnew; clear hu hnew; have k2 : ∀ b o, b < Wb.heap.size → w2.cell? ⟨b, o, none⟩ = Wb.cell? ⟨b, o, none⟩ := fun b o h => (bcell hg2).1 b o h)
      | (go_at_call_of 45 (Value.agg #[.int .i64 y.k, .string y.n, .slice y.a y.ks.length y.cap]); refine (HKEY1.out _ (hyo.grow hg2)).mono ?_; rintro e w3 ⟨v, rfl, hu, hnew, hg3⟩; have HU1 := Lib.hid hu; have HN1 := Lib.hid hnew; clear hu hnew; have k3 : ∀ b o, b < Wb.heap.size → w3.cell? ⟨b, o, none⟩ = Wb.cell? ⟨b, o, none⟩ := fun b o h => ((bcell hg3).1 b o (Nat.lt_of_lt_of_le h hg2.size)).trans (k2 b o h))
      | (go_at_call 86; refine (impl_ft u v (w.heap.size + 2) Wb.heap.size w2.heap.size _ (by exact (HN.out.grow hg3)) (by exact HN1.out) (by omega) (by exact fun b hb => (HN.out.2.2 b hb).2.lt) (by have h8 : Wb.heap.size ≤ w2.heap.size := hg2.size; omega) (by have h8 : Wb.heap.size ≤ w2.heap.size := hg2.size; have h9 := hg3.size; omega)).mono ?_; rintro e w5 ⟨r, rfl, hr, hnew, hg5⟩; have HR := Lib.hid hr; have HN5 := Lib.hid hnew; clear hr hnew; obtain ⟨k4, f3, l3, hne, hT3⟩ := er_after (Below.trans (show Gw Wb.drew w2 from hg2) (Below.mono hg3 hg2.size)) hg5 hlt hz zf hT2; have s0 := (k4 _ _ hT2).trans z0; have s1 := (k4 _ _ hT2).trans z1; have s2 := (k4 _ _ hT2).trans z2; have f30 := f3 0; have f31 := f3 1; have f32 := f3 2))
  go_wp2_with fail
  have hs2 : Wb.heap.size ≤ w2.heap.size := hg2.size
  have hs3 := hg3.size
  have g4 : Gw w w5 := gw_then (gw_then (Below.trans (g3.drew) (Below.mono hg2 (by show _ ≤ Wb.heap.size; omega))) hg3) hg5
  have hB : ∀ b, b < w.heap.size + 2 → b ∉ r.bl := fun b hb hm => by have := (HN5.out.2.2 b hm).1; omega
  refine bodyPost_ret (v := r.val) (by simp [results, Try.results45, go_sem, s0, s1, s2]) rfl ⟨r, rfl, ?_, ?_, ?_⟩
  · rw [HR.out, HER.out, HU.out, HU1.out]
  · exact (((HN5.out.far _ (hB _ (by simp)) _).far _ (hB _ (by simp)) _).far _ (hB _ (by simp)) _).mono (by omega)
  · exact ((Below.setCell g4 (by simp) _).setCell (by simp) _).setCell (by simp) _

theorem impl_erased (t : LT) : ∀ (m : Nat) (w : World), Wf t.ty m → t.Ok w → Calls Try.prog 45 #[t.val] w (ErPost w t) := by
  refine LT.ind (P := fun t => ∀ (m : Nat) (w : World), Wf t.ty m → t.Ok w → Calls Try.prog 45 #[t.val] w (ErPost w t)) (fun k n a c ks ih m w hw h => ?_) t
  have ety : (LT.mk k n a c ks).ty = .mk k n (ks.map LT.ty) := LT.ty_eq _
  rw [ety] at hw
  have hsl : slOk w a c ks := h.kids
  rcases hw.cases with ⟨rfl, he, hk⟩ | ⟨rfl, he, hk⟩ | ⟨rfl, he, x, y, p, q, hk, h1, h2, rfl⟩ | ⟨rfl, he, x, p, hk, h1, rfl⟩
  · exact impl_er_int (.mk 1 n a c ks) w h rfl he (by simp at hk; subst hk; rfl) (by simp [LT.k])
  · exact impl_er_dat (.mk 2 n a c ks) w h rfl he (by simp at hk; subst hk; rfl) (by simp [LT.k])
  · match ks, hk with
    | [x', y'], hk =>
      simp at hk
      obtain ⟨rfl, rfl⟩ := hk
      obtain ⟨b', o, rfl, hr⟩ := hsl.2.2.resolve_left (by simp)
      obtain ⟨_, _, _, hx⟩ := rowOk_get hr 0 (by simp)
      obtain ⟨_, _, _, hy⟩ := rowOk_get hr 1 (by simp)
      exact impl_er_fun (.mk 3 n _ c [x', y']) x' y' w h rfl he rfl hx hy (fun w1 hw1 => ih x' (by simp) p w1 h1 hw1) (fun w1 hw1 => ih y' (by simp) q w1 h2 hw1)
  · match ks, hk with
    | [x'], hk =>
      simp at hk
      subst hk
      obtain ⟨b', o, rfl, hr⟩ := hsl.2.2.resolve_left (by simp)
      obtain ⟨_, _, _, hx⟩ := rowOk_get hr 0 (by simp)
      exact impl_er_bang (.mk 4 n _ c [x']) x' w h rfl he rfl hx (fun w1 hw1 => ih x' (by simp) p w1 h1 hw1)

theorem impl_eraseType (t : LT) (w : World) (h : t.Ok w) : Calls Try.prog 15 #[t.val] w (ErdPost w t) := by
  have g1 : Gw w ((w.alloc (.cells #[.int .i64 t.k, .string t.n, .slice t.a t.ks.length t.cap] 29)).alloc (.cells #[.int .i64 0, .string ⟨#[]⟩, .slice none 0 0] 29)) := ((Gw.refl w).alloc _).alloc _
  have key := impl_valid t _ (h.grow g1)
  cases hv : validB t.ty with
  | false =>
    rw [hv] at key
    have HE := Lib.hid (show erased t.ty = .mk 0 ⟨#[]⟩ [] from by unfold erased; rw [hv]; rfl)
    clear hv
    go_enter Try.func15, Try.ntmps15
    go_wp2_with fail
    refine key.mono ?_
    rintro e w1 ⟨rfl, hg⟩
    obtain ⟨hc, hf⟩ := bcell hg
    have hz : w.heap.size + 2 ≤ w1.heap.size := by have := hg.size; simp at this; omega
    have g2 := g1.trans hg
    go_wp2_with fail
    refine bodyPost_ret (v := (LT.mk 0 ⟨#[]⟩ none 0 []).val) (by simp [results, Try.results15, go_sem, hc]; exact ⟨rfl, rfl, rfl, rfl, rfl⟩) rfl ⟨_, rfl, by rw [HE.out, zero_ty], new_zero _ _, ?_⟩
    exact ((Below.setCell g2 (by simp) _).setCell (by simp) _).setCell (by simp) _
  | true =>
    rw [hv] at key
    obtain ⟨m, hw, hm⟩ := Wf.of_valid hv
    have HE := Lib.hid (show erased t.ty = t.ty.er from by unfold erased; rw [hv]; rfl)
    clear hv
    go_enter Try.func15, Try.ntmps15
    go_wp2_with fail
    refine key.mono ?_
    rintro e w1 ⟨rfl, hg⟩
    obtain ⟨hc, hf⟩ := bcell hg
    have hz : w.heap.size + 2 ≤ w1.heap.size := by have := hg.size; simp at this; omega
    have g2 := g1.trans hg
    go_wp2_with fail
    refine (impl_erased t m _ hw (h.grow g2)).mono ?_
    rintro e w2 ⟨u, rfl, hu, hnew, hg2⟩
    have HU := Lib.hid hu
    have HN := Lib.hid hnew
    clear hu hnew hc hf
    obtain ⟨hc, hf⟩ := bcell (hg.trans hg2)
    have hz2 : w.heap.size + 2 ≤ w2.heap.size := by have := hg2.size; omega
    have g3 := g2.trans hg2
    go_wp2_with fail
    have hB : ∀ b, b < w.heap.size + 2 → b ∉ u.bl := fun b hb hm => by have := (HN.out.2.2 b hm).1; omega
    refine bodyPost_ret (v := u.val) (by simp [results, Try.results15, go_sem, hc]) rfl ⟨u, rfl, by rw [HU.out, HE.out], ?_, ?_⟩
    · exact (((HN.out.far _ (hB _ (by simp)) _).far _ (hB _ (by simp)) _).far _ (hB _ (by simp)) _).mono (by omega)
    · exact ((Below.setCell g3 (by simp) _).setCell (by simp) _).setCell (by simp) _

end Go.Proofs.Ytbbldkhlclfmkaa.Con
