/-
  Contract of the model's l08Expand: the node is copied with its kids, and the definition takes the place of the needed one. Condition: book, node and kids lie in memory, and the node is such a redex.
-/
import Derived.Test.YtfbgkbgoooepmaaDoorCh
import Derived.Test.YtfbgkbgoooepmaaDoorBk
namespace Go.Proofs.YtfbgkbgoooepmaaDoor.Con
open Go.RowKit
set_option linter.unusedVariables false
attribute [local go_sem ↓] Go.wp_at_zero Go.wp_at_succ

theorem own_same {w F : World} {B n g cap : Nat} {e : TypeId} {xs : List Value} (h : w.ownsRow B e 4 (.slice (some ⟨g, 0, none⟩) n cap) n xs) (hF : F.heap[g]? = w.heap[g]?) : F.ownsRow B e 4 (.slice (some ⟨g, 0, none⟩) n cap) n xs := by
  obtain ⟨h1, h2⟩ := h
  rcases h2 with ⟨hc, _⟩ | ⟨g', cap', cur, hv, hB, hg, r⟩
  · cases hc
  · injection hv with hv1 _ hv2
    injection hv1 with hv1
    injection hv1 with hv1
    subst hv1 hv2
    exact ⟨h1, .inr ⟨g, cap, cur, rfl, hB, hF.trans hg, r⟩⟩
theorem own_base {w : World} {B B' n g cap : Nat} {e : TypeId} {xs : List Value} (h : w.ownsRow B e 4 (.slice (some ⟨g, 0, none⟩) n cap) n xs) (hB' : B' ≤ g) : w.ownsRow B' e 4 (.slice (some ⟨g, 0, none⟩) n cap) n xs := by
  obtain ⟨h1, h2⟩ := h
  rcases h2 with ⟨hc, _⟩ | ⟨g', cap', cur, hv, hB, hg, r⟩
  · cases hc
  · injection hv with hv1 _ hv2
    injection hv1 with hv1
    injection hv1 with hv1
    subst hv1 hv2
    exact ⟨h1, .inr ⟨g, cap, cur, rfl, hB', hg, r⟩⟩
theorem oneF (fs : List LK) : ∀ u ∈ fs.flatMap coE, u.oneCell' = true := fun u hu => by
  obtain ⟨z, _, hz⟩ := List.mem_flatMap.1 hu
  exact one4 _ _ _ _ _ _ _ _ u hz
theorem gw_grownE {w w1 w2 : World} {row : Option Nat} (h : Gw w w1) (hg : w1.grownBy w2 row) (hr : ∀ y, row = some y → w.heap.size ≤ y) : Gw w w2 :=
  ⟨hg.os.trans h.os, hg.tape.trans h.tape, hg.output.trans h.output, Nat.le_trans h.size hg.size, fun b hb => (hg.block b (Nat.lt_of_lt_of_le hb h.size) (fun e => by have := hr b e.symm; omega)).trans (h.block b hb)⟩
theorem own_set {w F : World} {B n g cap : Nat} {e : TypeId} {xs : List LK} {y : LK} (h : w.ownsRow B e 4 (.slice (some ⟨g, 0, none⟩) n cap) n (xs.flatMap coE)) (hn : xs.length = n) (i : Nat) (hi : i < n) (hF : F.heap[g]? = (setRow w g (i * 4) (coE y)).heap[g]?) : F.ownsRow B e 4 (.slice (some ⟨g, 0, none⟩) n cap) n ((xs.set i y).flatMap coE) := by
  obtain ⟨hl, hc⟩ := h
  rcases hc with ⟨hc, _⟩ | ⟨g', cap', cur, hv, hB, hg, hnc, hcm, hs, ht⟩
  · cases hc
  · injection hv with hv1 _ hv2
    injection hv1 with hv1
    injection hv1 with hv1
    subst hv1 hv2
    obtain ⟨cs', e1, e2, e3, e4⟩ := setRow_at g e (coE y) w (i * 4) cur hg (by rw [coLen]; omega)
    refine ⟨by rw [coFlat]; simp [hn], .inr ⟨g, cap, cs', rfl, hB, hF.trans e1, hnc, hcm, by rw [e2, hs], ?_⟩⟩
    refine List.ext_getElem? fun p => ?_
    rw [List.getElem?_take]
    by_cases hp : p < n * 4
    · rw [if_pos hp, Array.getElem?_toList]
      obtain ⟨q, j, hj, rfl⟩ : ∃ q j, j < 4 ∧ p = q * 4 + j := ⟨p / 4, p % 4, Nat.mod_lt _ (by omega), by omega⟩
      have hq : q < n := by omega
      rw [flat_get coLen _ q (by simp; omega) j hj]
      by_cases hqi : q = i
      · subst hqi
        rw [List.getElem_set_self]
        have hjl : j < (coE y).length := by rw [coLen]; exact hj
        rw [List.getElem?_eq_getElem hjl]
        exact e4 j _ (List.getElem?_eq_getElem hjl)
      · rw [List.getElem_set_ne (fun e => hqi e.symm), e3 _ (by rw [coLen]; omega)]
        have := congrArg (fun l => l[q * 4 + j]?) ht
        simp only [List.getElem?_take, if_pos hp, Array.getElem?_toList] at this
        rw [this, flat_get coLen _ q (by omega) j hj]
    · rw [if_neg hp, List.getElem?_eq_none (by rw [coFlat]; simp; omega)]

theorem own_room {w : World} {B n g cap : Nat} {e : TypeId} {xs : List Value} (h : w.ownsRow B e 4 (.slice (some ⟨g, 0, none⟩) n cap) n xs) (i : Nat) (hi : i < n * 4) : (∃ v, w.cell? ⟨g, i, none⟩ = some v) ∧ w.frozen? ⟨g, i, none⟩ = false := by
  rcases h.2 with ⟨hc, _⟩ | ⟨g', cap', cur, hv, hB, hg, hnc, hcm, hs, ht⟩
  · cases hc
  · injection hv with hv1 _ hv2
    injection hv1 with hv1
    injection hv1 with hv1
    subst hv1 hv2
    have hlt : i < cur.size := by omega
    exact ⟨⟨cur[i], by rw [cell_of_row _ _ _ _ _ _ hg, Array.getElem?_eq_getElem hlt]⟩, by simp [World.frozen?, hg]⟩
/-- The node that was written. -/
theorem ex_fin {w : World} {B g cap i N : Nat} {k v : Int} {da : Option Addr} {dc : Nat} {ds : List Int} {fs : List LK} {d : LK} {e : TypeId} (hown : w.ownsRow B e 4 (.slice (some ⟨g, 0, none⟩) fs.length cap) fs.length ((fs.set i d).flatMap coE)) (hf : ∀ z ∈ fs, z.Ok w) (hfb : ∀ z ∈ fs, ∀ y ∈ z.bl, y < N) (hd : d.Ok w) (hdb : ∀ y ∈ d.bl, y < N) (hN : N < g) (hk : cin64 k) (hv : cin64 v) (hs : numSl w da dc ds) (hsb : ∀ y ∈ nbl nB da ds, y < N) :
    (LK.mk k v da dc ds (some ⟨g, 0, none⟩) cap (fs.set i d)).Ok w ∧ ∀ y ∈ (LK.mk k v da dc ds (some ⟨g, 0, none⟩) cap (fs.set i d)).bl, y < N ∨ y = g := by
  have hall : ∀ z ∈ fs.set i d, z.Ok w ∧ ∀ y ∈ z.bl, y < N := fun z hz => by
    rcases List.mem_or_eq_of_mem_set hz with hz | rfl
    · exact ⟨hf z hz, hfb z hz⟩
    · exact ⟨hd, hdb⟩
  have hl : (fs.set i d).length = fs.length := by simp
  have AS : AppS e B w (.slice (some ⟨g, 0, none⟩) (fs.set i d).length cap) (fs.set i d) := ⟨by rw [hl]; exact hown, fun z hz => (hall z hz).1, fun z hz y hy ee => by
    have := (hall z hz).2 y hy
    have e' : g = y := Option.some.inj ee
    omega⟩
  refine ⟨(LK.ok_iff _).2 ⟨⟨hk, hv, hs⟩, AS.done⟩, fun y hy => ?_⟩
  rw [LK.bl_eq] at hy
  rcases List.mem_append.1 hy with hy | hy
  · exact .inl (hsb y hy)
  · have hy' : y ∈ nbl LK.bl (some ⟨g, 0, none⟩) (fs.set i d) := hy
    by_cases hne : fs.set i d = []
    · rw [hne] at hy'; simp [nbl] at hy'
    · rw [nb_ne hne] at hy'
      rcases List.mem_cons.1 hy' with rfl | hy'
      · exact .inr rfl
      · obtain ⟨z, hz, hzy⟩ := List.mem_flatMap.1 hy'
        exact .inl ((hall z hz).2 y hzy)

/-- The place of the needed kid. -/
def exAt (t : Co) : Nat := if (t.ks.getD 0 default).k = 11 then 0 else 1
/-- The node with the definition in the needed kid's place. -/
def exC (ts : List Co) (t : Co) (fs : List Co) : Co := .mk t.k t.v t.ds (fs.set (exAt t) (ts.getD (t.ks.getD (exAt t) default).v.toNat default))

set_option maxRecDepth 100000 in
set_option maxHeartbeats 4000000 in
theorem spec_expand (u : LB) (c : LK) (w : World) (b bc oc bf of fcap : Nat) (fs : List LK) (hu : bOk w u) (hB : BoxB w b u) (h : coAt w bc oc c) (hf : coSl w (some ⟨bf, of, none⟩) fcap fs) (hfl : fs.length ≤ 1000) (hcl : c.ks.length = fs.length) (hat : exAt c.co < c.ks.length) (hV0 : 0 ≤ (c.co.ks.getD (exAt c.co) default).v) (hV1 : (c.co.ks.getD (exAt c.co) default).v < u.ks.length) : Calls Tryd.prog 128 #[.pointer (some ⟨b, 0, none⟩), .pointer (some ⟨bc, oc, none⟩), .slice (some ⟨bf, of, none⟩) fs.length fcap] w (ShrP w (fun y => y ∈ c.bl ∨ y ∈ nbl LK.bl u.a u.ks ∨ y ∈ nbl LK.bl (some ⟨bf, of, none⟩) fs) (exC u.cs c.co (fs.map LK.co))) := by
  have hfp : 0 < fs.length := by omega
  obtain ⟨i0, hi, hz0, hz1, hz2⟩ := info_parts infoK
  have HI := Lib.hid hi
  have HZ0 := Lib.hid hz0
  have HZ1 := Lib.hid hz1
  have HZ2 := Lib.hid hz2
  clear hi hz0 hz1 hz2
  have HFP := Lib.hid hfp
  have HFL := Lib.hid hfl
  have A := Lib.hid h
  have gR := (Gw.refl w).alloc (.cells #[.int .i64 0, .int .i64 0, .slice none 0 0, .slice none 0 0] 30)
  have HR := Lib.hid (heap_alloc_new w (.cells #[.int .i64 0, .int .i64 0, .slice none 0 0, .slice none 0 0] 30))
  have GR := Lib.hid gR
  have A1 := Lib.hid (h.grow gR)
  have HF1 := Lib.hid (gSl.grow coLen coGr hf gR)
  have U1 := Lib.hid (hu.grow gR)
  have B1 := Lib.hid (hB.grow gR)
  have OLD := Lib.hid (show (∀ y ∈ c.bl, y < w.heap.size) ∧ (∀ y ∈ nbl LK.bl u.a u.ks, y < w.heap.size) ∧ (∀ y ∈ nbl LK.bl (some ⟨bf, of, none⟩) fs, y < w.heap.size) from ⟨ok_bl_lt c w h.2, sl_bl_lt hu, sl_bl_lt hf⟩)
  have B0 := Lib.hid hB
  clear h hf gR hfp hfl hu hB
  go_enter Tryd.func128, Tryd.ntmps128
  go_upto_region 1 with (fail)
  generalize w.alloc (.cells #[.int .i64 0, .int .i64 0, .slice none 0 0, .slice none 0 0] 30) = w1 at *
  obtain ⟨p0, p1, p2, p3⟩ := A1.out.c
  have HFR := Lib.hid (show gRow 4 coE LK.Ok w1 fs bf of by
    obtain ⟨b', o', e, hr⟩ := HF1.out.2.2.resolve_left (fun e => by have := HFP.out; rw [e] at this; simp at this)
    injection e with e
    injection e with e1 e2
    subst e1 e2
    exact hr)
  have SK := Lib.hid (show ∀ W, Gw w1 W → W.cell? ⟨bc, oc, none⟩ = some (.int .i64 c.k) ∧ W.cell? ⟨bc, oc + 1, none⟩ = some (.int .i64 c.v) ∧ W.cell? ⟨bc, oc + 2, none⟩ = some (.slice c.da c.ds.length c.dc) from fun W g => ⟨g.cell p0 (cell_lt p0), g.cell p1 (cell_lt p1), g.cell p2 (cell_lt p2)⟩)
  go_cut [7] from 7 to 24 (fun t7 wx => ∃ (T g cap : Nat), t7 = .pointer (some ⟨T, 0, none⟩) ∧ w1.heap.size ≤ T ∧ w1.heap.size ≤ g ∧ g ≠ T ∧ wx.heap[T]? = some (.cells #[.int .i64 c.k, .int .i64 c.v, .slice c.da c.ds.length c.dc, .slice (some ⟨g, 0, none⟩) fs.length cap] 30 (0, 0)) ∧ wx.ownsRow w1.heap.size 30 4 (.slice (some ⟨g, 0, none⟩) fs.length cap) fs.length (fs.flatMap coE) ∧ Gw w1 wx)
  case first =>
    refine wp_region_held_drew (S := fun W => W.cell? ⟨bc, oc, none⟩ = some (.int .i64 c.k) ∧ W.cell? ⟨bc, oc + 1, none⟩ = some (.int .i64 c.v) ∧ W.cell? ⟨bc, oc + 2, none⟩ = some (.slice c.da c.ds.length c.dc)) (by kernel_rfl) ?_ (fun hHeld => ?_)
    · exact SK.out _ (Gw.refl _).drew
    have gK : Gw w1 w1.drew := (Gw.refl w1).drew
    generalize w1.drew = wD at *
    refine wpAnyH_take (i := 0) (oi := { dst := some 9, op := _, type := _, pos := _, after := _, guard := _ }) (v := .pointer (some ⟨bc, oc, none⟩)) rfl (by kernel_rfl) (by kernel_rfl) (by kernel_rfl) (fun _ _ _ h => h) (Or.inl ⟨by rfl, ?_⟩) (by assumption) ?_
    · intro w hSw; obtain ⟨c0, c1, c2⟩ := hSw; go_simp
    try simp only [Act.put, List.setIfInBounds_toArray, List.set_cons_zero, List.set_cons_succ]
    refine wpAnyH_take (i := 1) (oi := { dst := some 10, op := _, type := _, pos := _, after := _, guard := _ }) (v := .pointer (some ⟨bc, oc, none⟩)) rfl (by kernel_rfl) (by kernel_rfl) (by kernel_rfl) (fun _ _ _ h => h) (Or.inl ⟨by rfl, ?_⟩) (by assumption) ?_
    · intro w hSw; obtain ⟨c0, c1, c2⟩ := hSw; go_simp
    try simp only [Act.put, List.setIfInBounds_toArray, List.set_cons_zero, List.set_cons_succ]
    refine wpAnyH_take (i := 2) (oi := { dst := some 11, op := _, type := _, pos := _, after := _, guard := _ }) (v := .pointer (some ⟨bc, oc, none⟩)) rfl (by kernel_rfl) (by kernel_rfl) (by kernel_rfl) (fun _ _ _ h => h) (Or.inl ⟨by rfl, ?_⟩) (by assumption) ?_
    · intro w hSw; obtain ⟨c0, c1, c2⟩ := hSw; go_simp
    try simp only [Act.put, List.setIfInBounds_toArray, List.set_cons_zero, List.set_cons_succ]
    refine wpAnyH_take (i := 3) (oi := { dst := some 12, op := _, type := _, pos := _, after := _, guard := _ }) (v := .int .i64 c.k) rfl (by kernel_rfl) (by kernel_rfl) (by kernel_rfl) (fun _ _ _ h => h) (Or.inl ⟨by rfl, ?_⟩) (by assumption) ?_
    · intro w hSw; obtain ⟨c0, c1, c2⟩ := hSw; go_simp
    try simp only [Act.put, List.setIfInBounds_toArray, List.set_cons_zero, List.set_cons_succ]
    refine wpAnyH_take (i := 4) (oi := { dst := some 13, op := _, type := _, pos := _, after := _, guard := _ }) (v := .pointer (some ⟨bc, oc, none⟩)) rfl (by kernel_rfl) (by kernel_rfl) (by kernel_rfl) (fun _ _ _ h => h) (Or.inl ⟨by rfl, ?_⟩) (by assumption) ?_
    · intro w hSw; obtain ⟨c0, c1, c2⟩ := hSw; go_simp
    try simp only [Act.put, List.setIfInBounds_toArray, List.set_cons_zero, List.set_cons_succ]
    refine wpAnyH_take (i := 5) (oi := { dst := some 14, op := _, type := _, pos := _, after := _, guard := _ }) (v := .pointer (some ⟨bc, oc, none⟩)) rfl (by kernel_rfl) (by kernel_rfl) (by kernel_rfl) (fun _ _ _ h => h) (Or.inl ⟨by rfl, ?_⟩) (by assumption) ?_
    · intro w hSw; obtain ⟨c0, c1, c2⟩ := hSw; go_simp
    try simp only [Act.put, List.setIfInBounds_toArray, List.set_cons_zero, List.set_cons_succ]
    refine wpAnyH_take (i := 6) (oi := { dst := some 15, op := _, type := _, pos := _, after := _, guard := _ }) (v := .pointer (some ⟨bc, oc + 1, none⟩)) rfl (by kernel_rfl) (by kernel_rfl) (by kernel_rfl) (fun _ _ _ h => h) (Or.inl ⟨by rfl, ?_⟩) (by assumption) ?_
    · intro w hSw; obtain ⟨c0, c1, c2⟩ := hSw; go_simp
    try simp only [Act.put, List.setIfInBounds_toArray, List.set_cons_zero, List.set_cons_succ]
    refine wpAnyH_take (i := 7) (oi := { dst := some 16, op := _, type := _, pos := _, after := _, guard := _ }) (v := .int .i64 c.v) rfl (by kernel_rfl) (by kernel_rfl) (by kernel_rfl) (fun _ _ _ h => h) (Or.inl ⟨by rfl, ?_⟩) (by assumption) ?_
    · intro w hSw; obtain ⟨c0, c1, c2⟩ := hSw; go_simp
    try simp only [Act.put, List.setIfInBounds_toArray, List.set_cons_zero, List.set_cons_succ]
    refine wpAnyH_take (i := 8) (oi := { dst := some 17, op := _, type := _, pos := _, after := _, guard := _ }) (v := .pointer (some ⟨bc, oc, none⟩)) rfl (by kernel_rfl) (by kernel_rfl) (by kernel_rfl) (fun _ _ _ h => h) (Or.inl ⟨by rfl, ?_⟩) (by assumption) ?_
    · intro w hSw; obtain ⟨c0, c1, c2⟩ := hSw; go_simp
    try simp only [Act.put, List.setIfInBounds_toArray, List.set_cons_zero, List.set_cons_succ]
    refine wpAnyH_take (i := 9) (oi := { dst := some 18, op := _, type := _, pos := _, after := _, guard := _ }) (v := .pointer (some ⟨bc, oc, none⟩)) rfl (by kernel_rfl) (by kernel_rfl) (by kernel_rfl) (fun _ _ _ h => h) (Or.inl ⟨by rfl, ?_⟩) (by assumption) ?_
    · intro w hSw; obtain ⟨c0, c1, c2⟩ := hSw; go_simp
    try simp only [Act.put, List.setIfInBounds_toArray, List.set_cons_zero, List.set_cons_succ]
    refine wpAnyH_take (i := 10) (oi := { dst := some 19, op := _, type := _, pos := _, after := _, guard := _ }) (v := .pointer (some ⟨bc, oc + 2, none⟩)) rfl (by kernel_rfl) (by kernel_rfl) (by kernel_rfl) (fun _ _ _ h => h) (Or.inl ⟨by rfl, ?_⟩) (by assumption) ?_
    · intro w hSw; obtain ⟨c0, c1, c2⟩ := hSw; go_simp
    try simp only [Act.put, List.setIfInBounds_toArray, List.set_cons_zero, List.set_cons_succ]
    refine wpAnyH_take (i := 11) (oi := { dst := some 20, op := _, type := _, pos := _, after := _, guard := _ }) (v := .slice c.da c.ds.length c.dc) rfl (by kernel_rfl) (by kernel_rfl) (by kernel_rfl) (fun _ _ _ h => h) (Or.inl ⟨by rfl, ?_⟩) (by assumption) ?_
    · intro w hSw; obtain ⟨c0, c1, c2⟩ := hSw; go_simp
    try simp only [Act.put, List.setIfInBounds_toArray, List.set_cons_zero, List.set_cons_succ]
    refine wpAnyH_take (i := 13) (oi := { dst := some 22, op := _, type := _, pos := _, after := _, guard := _ }) (v := .slice (some ⟨bf, of, none⟩) fs.length fcap) rfl (by kernel_rfl) (by kernel_rfl) (by kernel_rfl) (fun _ _ _ h => h) (Or.inl ⟨by rfl, ?_⟩) (by assumption) ?_
    · intro w hSw; obtain ⟨c0, c1, c2⟩ := hSw; go_simp
    try simp only [Act.put, List.setIfInBounds_toArray, List.set_cons_zero, List.set_cons_succ]
    refine wpAnyH_ready (rs := [12, 16]) (by kernel_rfl) (by simp) ?_
    refine AllReadyH.cons (o := { dst := some 21, op := _, type := _, pos := _, after := _, guard := _ }) rfl (fun K hK => ?_) (AllReadyH.cons (o := { dst := some 7, op := _, type := _, pos := _, after := _, guard := _ }) rfl (fun K hK => ?_) AllReadyH.nil)
    · go_simp
      refine hK _ _ (SK.out _ (gK.alloc (.cells #[] 30))) (fun hHeld => ?_)
      clear hK K
      have HM := Lib.hid (made_own wD 30 4)
      have GB := Lib.hid gK.size
      have SZB := Lib.hid (show (wD.alloc (.cells #[] 30)).heap.size = wD.heap.size + 1 by simp)
      replace gK := gK.alloc (.cells #[] 30)
      try simp only [Act.put, List.setIfInBounds_toArray, List.set_cons_zero, List.set_cons_succ]
      generalize wD.alloc (.cells #[] 30) = wb at *
      generalize wD.heap.size = g0 at *
      refine wpAnyH_ready (rs := [14, 16]) (by kernel_rfl) (by simp) ?_
      refine AllReadyH.cons (o := { dst := some 23, op := _, type := _, pos := _, after := _, guard := _ }) rfl (fun K hK => ?_) (AllReadyH.cons (o := { dst := some 7, op := _, type := _, pos := _, after := _, guard := _ }) rfl (fun K hK => ?_) AllReadyH.nil)
      · have NEWS : ∀ j u, (fs.flatMap coE)[j]? = some u → wb.cell? ((⟨bf, of, none⟩ : Addr).add j) = some u := fun j u hj => by rw [Addr.add_lit]; exact (gK.cell (row_flat coLen (by decide) HFR.out j u hj) (cell_lt (row_flat coLen (by decide) HFR.out j u hj)))
        refine wp_append_lies _ _ _ 28 (by rfl) w1.heap.size 30 i0 _ 4 64 Tryd.underlying28 HI.out HZ0.out HZ1.out HZ2.out (by rfl) (by decide) (.slice (some ⟨g0, 0, none⟩) 0 0) 0 [] (by rfl) (own_base HM.out GB.out) ⟨bf, of, none⟩ fs.length fcap (fs.flatMap coE) (by rfl) (coFlat fs) NEWS (oneF fs) HFP.out (by unfold maxLen; have := HFL.out; omega) (by have := HFL.out; omega) gK.size _ rfl ?_
        intro g cap wba hown2 hgr2 hat2 hlt2
        have HOW := Lib.hid (show wba.ownsRow w1.heap.size 30 4 (.slice (some ⟨g, 0, none⟩) fs.length cap) fs.length (fs.flatMap coE) by simpa using hown2)
        have hg2 : Gw w1 wba := gw_grownE gK hgr2 (fun y hy => by simp [Value.ownBlock] at hy; have := GB.out; omega)
        have HG1 := Lib.hid (show w1.heap.size ≤ g ∧ g < wba.heap.size from ⟨by rcases hat2 with h | h; exact (by simp [Value.ownBlock] at h; have := GB.out; omega); exact (by have := gK.size; omega), hlt2⟩)
        refine hK _ _ (SK.out _ hg2) (fun hHeld => ?_)
        replace gK := hg2
        clear hK K hown2 hgr2 hat2 hlt2 hg2 NEWS
        try simp only [Act.put, List.setIfInBounds_toArray, List.set_cons_zero, List.set_cons_succ]
        refine wpAnyH_take (i := 15) (oi := { dst := some 24, op := _, type := _, pos := _, after := _, guard := _ }) (v := .agg #[.int .i64 c.k, .int .i64 c.v, .slice c.da c.ds.length c.dc, .slice (some ⟨g, 0, none⟩) fs.length cap]) rfl (by kernel_rfl) (by kernel_rfl) (by kernel_rfl) (fun _ _ _ h => h) (Or.inl ⟨by rfl, ?_⟩) (by assumption) ?_
        · intro w hSw; obtain ⟨c0, c1, c2⟩ := hSw; go_simp
        try simp only [Act.put, List.setIfInBounds_toArray, List.set_cons_zero, List.set_cons_succ]
        refine wpAnyH_ready (rs := [16]) (by kernel_rfl) (by simp) ?_
        refine AllReadyH.cons (o := { dst := some 7, op := _, type := _, pos := _, after := _, guard := _ }) rfl (fun K hK => ?_) AllReadyH.nil
        go_simp
        refine hK _ _ (SK.out _ (gK.alloc (.cells #[.int .i64 0, .int .i64 0, .slice none 0 0, .slice none 0 0] 30))) (fun hHeld => ?_)
        clear hK K
        have HT := Lib.hid (heap_alloc_new wba (.cells #[.int .i64 0, .int .i64 0, .slice none 0 0, .slice none 0 0] 30))
        have TG := Lib.hid gK.size
        have LT := Lib.hid (show wba.heap.size < (wba.alloc (.cells #[.int .i64 0, .int .i64 0, .slice none 0 0, .slice none 0 0] 30)).heap.size by simp)
        have HGG := Lib.hid (show w1.heap.size ≤ g ∧ g ≠ wba.heap.size from ⟨HG1.out.1, by have := HG1.out.2; omega⟩)
        replace HOW := Lib.hid (own_same HOW.out (Below.heap_alloc wba (.cells #[.int .i64 0, .int .i64 0, .slice none 0 0, .slice none 0 0] 30) g HG1.out.2))
        replace gK := gK.alloc (.cells #[.int .i64 0, .int .i64 0, .slice none 0 0, .slice none 0 0] 30)
        try simp only [Act.put, List.setIfInBounds_toArray, List.set_cons_zero, List.set_cons_succ]
        generalize wba.alloc (.cells #[.int .i64 0, .int .i64 0, .slice none 0 0, .slice none 0 0] 30) = wabl at *
        generalize wba.heap.size = T at *
        obtain ⟨z0, z1, z2, z3, y0, y1, y2, y3⟩ := zero_atP HT.out
        refine wpAnyH_ready (rs := [17]) (by kernel_rfl) (by simp) ?_
        refine AllReadyH.cons (o := { dst := none, op := _, type := _, pos := _, after := _, guard := _ }) rfl (fun K hK => ?_) AllReadyH.nil
        go_simp
        refine hK _ _ (SK.out _ ((((Below.setCell gK TG.out _).setCell TG.out _).setCell TG.out _).setCell TG.out _)) (fun hHeld => ?_)
        clear hK K
        try simp only [Act.put, List.setIfInBounds_toArray, List.set_cons_zero, List.set_cons_succ]
        refine wpAnyH_done (by kernel_rfl) ?_ _
        go_wp2_with fail
        go_meet
        case rel =>
          have far : ∀ (b : Nat), b ≠ T → ∀ p q r s : Value, ((((wabl.setCell ⟨T, 0, none⟩ p).setCell ⟨T, 1, none⟩ q).setCell ⟨T, 2, none⟩ r).setCell ⟨T, 3, none⟩ s).heap[b]? = wabl.heap[b]? := fun b hb p q r s => by
            rw [Below.heap_setCell _ _ _ _ hb, Below.heap_setCell _ _ _ _ hb, Below.heap_setCell _ _ _ _ hb, Below.heap_setCell _ _ _ _ hb]
          refine ⟨T, g, cap, rfl, TG.out, HGG.out.1, HGG.out.2, by simp [World.setCell, Array.getElem?_modify, HT.out], own_same HOW.out (far g HGG.out.2 _ _ _ _), ((((Below.setCell gK TG.out _).setCell TG.out _).setCell TG.out _).setCell TG.out _)⟩
      · go_simp
        refine hK _ _ (SK.out _ (gK.alloc (.cells #[.int .i64 0, .int .i64 0, .slice none 0 0, .slice none 0 0] 30))) (fun hHeld => ?_)
        clear hK K
        have HT := Lib.hid (heap_alloc_new wb (.cells #[.int .i64 0, .int .i64 0, .slice none 0 0, .slice none 0 0] 30))
        have TG := Lib.hid gK.size
        have LT := Lib.hid (show wb.heap.size < (wb.alloc (.cells #[.int .i64 0, .int .i64 0, .slice none 0 0, .slice none 0 0] 30)).heap.size by simp)
        replace HM := Lib.hid (HM.out.alloc (.cells #[.int .i64 0, .int .i64 0, .slice none 0 0, .slice none 0 0] 30))
        have HGT := Lib.hid (show g0 < wb.heap.size by have := SZB.out; omega)
        replace gK := gK.alloc (.cells #[.int .i64 0, .int .i64 0, .slice none 0 0, .slice none 0 0] 30)
        try simp only [Act.put, List.setIfInBounds_toArray, List.set_cons_zero, List.set_cons_succ]
        generalize wb.alloc (.cells #[.int .i64 0, .int .i64 0, .slice none 0 0, .slice none 0 0] 30) = wbl at *
        generalize wb.heap.size = T at *
        refine wpAnyH_ready (rs := [14]) (by kernel_rfl) (by simp) ?_
        refine AllReadyH.cons (o := { dst := some 23, op := _, type := _, pos := _, after := _, guard := _ }) rfl (fun K hK => ?_) AllReadyH.nil
        have NEWS : ∀ j u, (fs.flatMap coE)[j]? = some u → wbl.cell? ((⟨bf, of, none⟩ : Addr).add j) = some u := fun j u hj => by rw [Addr.add_lit]; exact (gK.cell (row_flat coLen (by decide) HFR.out j u hj) (cell_lt (row_flat coLen (by decide) HFR.out j u hj)))
        refine wp_append_lies _ _ _ 28 (by rfl) w1.heap.size 30 i0 _ 4 64 Tryd.underlying28 HI.out HZ0.out HZ1.out HZ2.out (by rfl) (by decide) (.slice (some ⟨g0, 0, none⟩) 0 0) 0 [] (by rfl) (own_base HM.out GB.out) ⟨bf, of, none⟩ fs.length fcap (fs.flatMap coE) (by rfl) (coFlat fs) NEWS (oneF fs) HFP.out (by unfold maxLen; have := HFL.out; omega) (by have := HFL.out; omega) gK.size _ rfl ?_
        intro g cap wbla hown2 hgr2 hat2 hlt2
        have HOW := Lib.hid (show wbla.ownsRow w1.heap.size 30 4 (.slice (some ⟨g, 0, none⟩) fs.length cap) fs.length (fs.flatMap coE) by simpa using hown2)
        have hg2 : Gw w1 wbla := gw_grownE gK hgr2 (fun y hy => by simp [Value.ownBlock] at hy; have := GB.out; omega)
        replace HT := Lib.hid ((hgr2.block T LT.out (fun e => by simp [Value.ownBlock] at e; have := HGT.out; omega)).trans HT.out)
        have HGG := Lib.hid (show w1.heap.size ≤ g ∧ g ≠ T from ⟨by rcases hat2 with h | h; exact (by simp [Value.ownBlock] at h; have := GB.out; omega); exact (by have := gK.size; omega), by rcases hat2 with h | h; exact (by simp [Value.ownBlock] at h; have := HGT.out; omega); exact (by have := LT.out; omega)⟩)
        refine hK _ _ (SK.out _ hg2) (fun hHeld => ?_)
        replace gK := hg2
        clear hK K hown2 hgr2 hat2 hlt2 hg2 NEWS
        try simp only [Act.put, List.setIfInBounds_toArray, List.set_cons_zero, List.set_cons_succ]
        refine wpAnyH_take (i := 15) (oi := { dst := some 24, op := _, type := _, pos := _, after := _, guard := _ }) (v := .agg #[.int .i64 c.k, .int .i64 c.v, .slice c.da c.ds.length c.dc, .slice (some ⟨g, 0, none⟩) fs.length cap]) rfl (by kernel_rfl) (by kernel_rfl) (by kernel_rfl) (fun _ _ _ h => h) (Or.inl ⟨by rfl, ?_⟩) (by assumption) ?_
        · intro w hSw; obtain ⟨c0, c1, c2⟩ := hSw; go_simp
        try simp only [Act.put, List.setIfInBounds_toArray, List.set_cons_zero, List.set_cons_succ]
        obtain ⟨z0, z1, z2, z3, y0, y1, y2, y3⟩ := zero_atP HT.out
        refine wpAnyH_ready (rs := [17]) (by kernel_rfl) (by simp) ?_
        refine AllReadyH.cons (o := { dst := none, op := _, type := _, pos := _, after := _, guard := _ }) rfl (fun K hK => ?_) AllReadyH.nil
        go_simp
        refine hK _ _ (SK.out _ ((((Below.setCell gK TG.out _).setCell TG.out _).setCell TG.out _).setCell TG.out _)) (fun hHeld => ?_)
        clear hK K
        try simp only [Act.put, List.setIfInBounds_toArray, List.set_cons_zero, List.set_cons_succ]
        refine wpAnyH_done (by kernel_rfl) ?_ _
        go_wp2_with fail
        go_meet
        case rel =>
          have far : ∀ (b : Nat), b ≠ T → ∀ p q r s : Value, ((((wbla.setCell ⟨T, 0, none⟩ p).setCell ⟨T, 1, none⟩ q).setCell ⟨T, 2, none⟩ r).setCell ⟨T, 3, none⟩ s).heap[b]? = wbla.heap[b]? := fun b hb p q r s => by
            rw [Below.heap_setCell _ _ _ _ hb, Below.heap_setCell _ _ _ _ hb, Below.heap_setCell _ _ _ _ hb, Below.heap_setCell _ _ _ _ hb]
          refine ⟨T, g, cap, rfl, TG.out, HGG.out.1, HGG.out.2, by simp [World.setCell, Array.getElem?_modify, HT.out], own_same HOW.out (far g HGG.out.2 _ _ _ _), ((((Below.setCell gK TG.out _).setCell TG.out _).setCell TG.out _).setCell TG.out _)⟩
    · go_simp
      refine hK _ _ (SK.out _ (gK.alloc (.cells #[.int .i64 0, .int .i64 0, .slice none 0 0, .slice none 0 0] 30))) (fun hHeld => ?_)
      clear hK K
      have HT := Lib.hid (heap_alloc_new wD (.cells #[.int .i64 0, .int .i64 0, .slice none 0 0, .slice none 0 0] 30))
      have TG := Lib.hid gK.size
      have LT := Lib.hid (show wD.heap.size < (wD.alloc (.cells #[.int .i64 0, .int .i64 0, .slice none 0 0, .slice none 0 0] 30)).heap.size by simp)
      replace gK := gK.alloc (.cells #[.int .i64 0, .int .i64 0, .slice none 0 0, .slice none 0 0] 30)
      try simp only [Act.put, List.setIfInBounds_toArray, List.set_cons_zero, List.set_cons_succ]
      generalize wD.alloc (.cells #[.int .i64 0, .int .i64 0, .slice none 0 0, .slice none 0 0] 30) = wl at *
      generalize wD.heap.size = T at *
      refine wpAnyH_ready (rs := [12]) (by kernel_rfl) (by simp) ?_
      refine AllReadyH.cons (o := { dst := some 21, op := _, type := _, pos := _, after := _, guard := _ }) rfl (fun K hK => ?_) AllReadyH.nil
      go_simp
      refine hK _ _ (SK.out _ (gK.alloc (.cells #[] 30))) (fun hHeld => ?_)
      clear hK K
      have HM := Lib.hid (made_own wl 30 4)
      have GB := Lib.hid gK.size
      replace HT := Lib.hid ((Below.heap_alloc wl (.cells #[] 30) _ LT.out).trans HT.out)
      have HGT := Lib.hid (show T < wl.heap.size from LT.out)
      replace LT := Lib.hid (show T < (wl.alloc (.cells #[] 30)).heap.size by have := LT.out; simp; omega)
      have SZB := Lib.hid (show (wl.alloc (.cells #[] 30)).heap.size = wl.heap.size + 1 by simp)
      replace gK := gK.alloc (.cells #[] 30)
      try simp only [Act.put, List.setIfInBounds_toArray, List.set_cons_zero, List.set_cons_succ]
      generalize wl.alloc (.cells #[] 30) = wlb at *
      generalize wl.heap.size = g0 at *
      refine wpAnyH_ready (rs := [14]) (by kernel_rfl) (by simp) ?_
      refine AllReadyH.cons (o := { dst := some 23, op := _, type := _, pos := _, after := _, guard := _ }) rfl (fun K hK => ?_) AllReadyH.nil
      have NEWS : ∀ j u, (fs.flatMap coE)[j]? = some u → wlb.cell? ((⟨bf, of, none⟩ : Addr).add j) = some u := fun j u hj => by rw [Addr.add_lit]; exact (gK.cell (row_flat coLen (by decide) HFR.out j u hj) (cell_lt (row_flat coLen (by decide) HFR.out j u hj)))
      refine wp_append_lies _ _ _ 28 (by rfl) w1.heap.size 30 i0 _ 4 64 Tryd.underlying28 HI.out HZ0.out HZ1.out HZ2.out (by rfl) (by decide) (.slice (some ⟨g0, 0, none⟩) 0 0) 0 [] (by rfl) (own_base HM.out GB.out) ⟨bf, of, none⟩ fs.length fcap (fs.flatMap coE) (by rfl) (coFlat fs) NEWS (oneF fs) HFP.out (by unfold maxLen; have := HFL.out; omega) (by have := HFL.out; omega) gK.size _ rfl ?_
      intro g cap wbla hown2 hgr2 hat2 hlt2
      have HOW := Lib.hid (show wbla.ownsRow w1.heap.size 30 4 (.slice (some ⟨g, 0, none⟩) fs.length cap) fs.length (fs.flatMap coE) by simpa using hown2)
      have hg2 : Gw w1 wbla := gw_grownE gK hgr2 (fun y hy => by simp [Value.ownBlock] at hy; have := GB.out; omega)
      replace HT := Lib.hid ((hgr2.block T LT.out (fun e => by simp [Value.ownBlock] at e; have := HGT.out; omega)).trans HT.out)
      have HGG := Lib.hid (show w1.heap.size ≤ g ∧ g ≠ T from ⟨by rcases hat2 with h | h; exact (by simp [Value.ownBlock] at h; have := GB.out; omega); exact (by have := gK.size; omega), by rcases hat2 with h | h; exact (by simp [Value.ownBlock] at h; have := HGT.out; omega); exact (by have := LT.out; omega)⟩)
      refine hK _ _ (SK.out _ hg2) (fun hHeld => ?_)
      replace gK := hg2
      clear hK K hown2 hgr2 hat2 hlt2 hg2 NEWS
      try simp only [Act.put, List.setIfInBounds_toArray, List.set_cons_zero, List.set_cons_succ]
      refine wpAnyH_take (i := 15) (oi := { dst := some 24, op := _, type := _, pos := _, after := _, guard := _ }) (v := .agg #[.int .i64 c.k, .int .i64 c.v, .slice c.da c.ds.length c.dc, .slice (some ⟨g, 0, none⟩) fs.length cap]) rfl (by kernel_rfl) (by kernel_rfl) (by kernel_rfl) (fun _ _ _ h => h) (Or.inl ⟨by rfl, ?_⟩) (by assumption) ?_
      · intro w hSw; obtain ⟨c0, c1, c2⟩ := hSw; go_simp
      try simp only [Act.put, List.setIfInBounds_toArray, List.set_cons_zero, List.set_cons_succ]
      obtain ⟨z0, z1, z2, z3, y0, y1, y2, y3⟩ := zero_atP HT.out
      refine wpAnyH_ready (rs := [17]) (by kernel_rfl) (by simp) ?_
      refine AllReadyH.cons (o := { dst := none, op := _, type := _, pos := _, after := _, guard := _ }) rfl (fun K hK => ?_) AllReadyH.nil
      go_simp
      refine hK _ _ (SK.out _ ((((Below.setCell gK TG.out _).setCell TG.out _).setCell TG.out _).setCell TG.out _)) (fun hHeld => ?_)
      clear hK K
      try simp only [Act.put, List.setIfInBounds_toArray, List.set_cons_zero, List.set_cons_succ]
      refine wpAnyH_done (by kernel_rfl) ?_ _
      go_wp2_with fail
      go_meet
      case rel =>
        have far : ∀ (b : Nat), b ≠ T → ∀ p q r s : Value, ((((wbla.setCell ⟨T, 0, none⟩ p).setCell ⟨T, 1, none⟩ q).setCell ⟨T, 2, none⟩ r).setCell ⟨T, 3, none⟩ s).heap[b]? = wbla.heap[b]? := fun b hb p q r s => by
          rw [Below.heap_setCell _ _ _ _ hb, Below.heap_setCell _ _ _ _ hb, Below.heap_setCell _ _ _ _ hb, Below.heap_setCell _ _ _ _ hb]
        refine ⟨T, g, cap, rfl, TG.out, HGG.out.1, HGG.out.2, by simp [World.setCell, Array.getElem?_modify, HT.out], own_same HOW.out (far g HGG.out.2 _ _ _ _), ((((Below.setCell gK TG.out _).setCell TG.out _).setCell TG.out _).setCell TG.out _)⟩
  obtain ⟨T, g, cap, rfl, hT0, hg0, hgT, hTT, hOW, g3⟩ := hcut
  have HTT := Lib.hid hTT
  have HOW := Lib.hid hOW
  have HGT := Lib.hid hgT
  have G3 := Lib.hid g3
  have LR := Lib.hid (Array.getElem?_eq_some_iff.1 HR.out).1
  have RC := Lib.hid ((g3.block _ LR.out).trans HR.out)
  have HGW := Lib.hid (show w.heap.size ≤ g by have := LR.out; omega)
  have HGW2 := Lib.hid (show w.heap.size < g by have := LR.out; omega)
  have HWC := Lib.hid (show w.heap.size ≤ wc.heap.size by have := LR.out; have := g3.size; omega)
  have HFOK := Lib.hid (show ∀ z ∈ fs, z.Ok w1 from fun z hz => by
    obtain ⟨i, hi, rfl⟩ := List.mem_iff_getElem.1 hz
    exact (HFR.out i hi).2)
  have HFBL := Lib.hid (show ∀ z ∈ fs, ∀ y ∈ z.bl, y ∈ nbl LK.bl (some ⟨bf, of, none⟩) fs from fun z hz y hy => by
    rw [nb_ne (fun e => by rw [e] at hz; cases hz)]
    exact List.mem_cons_of_mem _ (List.mem_flatMap.2 ⟨z, hz, hy⟩))
  have hck : 0 < c.ks.length := by have := HFP.out; omega
  obtain ⟨bk, ok, ha, x⟩ := kid_zero (A1.out.grow g3) hck
  have hne0 : ¬ c.ks = [] := fun e => by rw [e] at hck; simp at hck
  have hfe0 : ¬ fs = [] := fun e => by have := HFP.out; rw [e] at this; simp at this
  obtain ⟨V, hV⟩ : ∃ V, V = (c.co.ks.getD (exAt c.co) default).v := ⟨_, rfl⟩
  rw [← hV] at hV0 hV1
  have hVn : V.toNat < u.ks.length := by omega
  obtain ⟨bb, ob, hua, hdV⟩ := coAt.kid (U1.out.grow g3) V.toNat hVn
  obtain ⟨d, hd⟩ : ∃ d, d = u.ks[V.toNat] := ⟨_, rfl⟩
  rw [← hd] at hdV
  have EXC0 : exC u.cs c.co (fs.map LK.co) = .mk c.k c.v c.ds ((fs.map LK.co).set (exAt c.co) d.co) := by
    unfold exC
    rw [c.co_k, c.co_v, c.co_ds, ← hV, getD_co (show V.toNat < u.cs.length by rw [LB.cs, List.length_map]; exact hVn)]
    simp [LB.cs, hd]
  have HDOK := Lib.hid hdV.2
  have HDBL := Lib.hid (show ∀ y ∈ d.bl, y ∈ nbl LK.bl u.a u.ks from fun y hy => by
    rw [hua, nb_ne (fun e => by rw [e] at hV1; simp at hV1; omega)]
    exact List.mem_cons_of_mem _ (List.mem_flatMap.2 ⟨d, by rw [hd]; exact List.getElem_mem _, hy⟩))
  obtain ⟨d0, d1, d2, d3⟩ := hdV.c
  obtain ⟨p0, p1, p2, p3⟩ := (A1.out.grow g3).c
  have s1 := (B1.out.grow g3).c
  have s0 : wc.cell? ⟨T, 3, none⟩ = some (.slice (some ⟨g, 0, none⟩) fs.length cap) := cell_of_row _ _ 3 _ _ _ hTT
  rw [ha] at p3
  rw [hua] at s1
  have HNG := Lib.hid (show b ≠ g ∧ bc ≠ g ∧ bk ≠ g ∧ bb ≠ g from by
    have h1 : b < w.heap.size := B0.out.lt
    have h2 : bc < w.heap.size := A.out.lt
    have h3 : bk ∈ c.bl := by
      rw [LK.bl_eq, ha]
      refine List.mem_append.2 (.inr ?_)
      rw [nb_ne hne0]
      exact List.mem_cons_self ..
    have h4 : bb ∈ nbl LK.bl u.a u.ks := by rw [hua, nb_ne (fun e => by rw [e] at hV1; simp at hV1; omega)]; exact List.mem_cons_self ..
    have h5 := OLD.out.1 bk h3
    have h6 := OLD.out.2.1 bb h4
    have := HGW2.out
    exact ⟨by omega, by omega, by omega, by omega⟩)
  have hix : V < (u.ks.length : Int) := hV1
  obtain ⟨z0k, hz0k⟩ : ∃ z, z = c.ks[0] := ⟨_, rfl⟩
  have EK0 := nd_one hck
  rw [← hz0k] at x EK0
  obtain ⟨x0, x1, x2, x3⟩ := x.c
  by_cases h11 : z0k.k = 11
  · have EA : exAt c.co = 0 := by unfold exAt; rw [EK0, if_pos h11]
    rw [EA] at hV EXC0
    have s3 : wc.cell? ⟨bk, ok + 1, none⟩ = some (.int .i64 V) := by rw [hV, nd_oneV hck, ← hz0k]; exact x1
    have EXC := Lib.hid EXC0
    have hi0 : 0 < c.ks.length := by omega
    have hi0' : (0 : Int) < c.ks.length := by omega
    have HATF := Lib.hid (show 0 < fs.length from HFP.out)
    have s2 := p3
    have q11 : (z0k.k != 11) = false := by simp [h11]
    clear hV EXC0 h11 EA hd ha hua x hz0k EK0 hdV hTT hOW hgT g3 p1 p2 x1 x2 x3 hat hcl hck hT0 hg0
    go_wp2_with fail
    go_upto_region 5 with (fail)
    refine wp_region_held_drew (S := fun W => W.cell? ⟨T, 3, none⟩ = some (.slice (some ⟨g, 0, none⟩) fs.length cap) ∧ W.cell? ⟨b, 0, none⟩ = some (.slice (some ⟨bb, ob, none⟩) u.ks.length u.cap) ∧ W.cell? ⟨bc, oc + 3, none⟩ = some (.slice (some ⟨bk, ok, none⟩) c.ks.length c.cap) ∧ W.cell? ⟨bk, ok + 1, none⟩ = some (.int .i64 V) ∧ W.cell? ⟨bb, ob + V.toNat * 4, none⟩ = some (.int .i64 d.k) ∧ W.cell? ⟨bb, ob + V.toNat * 4 + 1, none⟩ = some (.int .i64 d.v) ∧ W.cell? ⟨bb, ob + V.toNat * 4 + 2, none⟩ = some (.slice d.da d.ds.length d.dc) ∧ W.cell? ⟨bb, ob + V.toNat * 4 + 3, none⟩ = some (.slice d.a d.ks.length d.cap)) (by kernel_rfl) ?_ (fun hHeld => ?_)
    · exact ⟨s0, s1, s2, s3, d0, d1, d2, d3⟩
    have gD := (Gw.refl wc).drew
    have HTD := Lib.hid (show wc.drew.heap[T]? = _ from HTT.out)
    have HOWD := Lib.hid (show wc.drew.ownsRow w1.heap.size 30 4 (.slice (some ⟨g, 0, none⟩) fs.length cap) fs.length (fs.flatMap coE) from HOW.out)
    generalize wc.drew = wd at *
    refine wpAnyH_take (i := 0) (oi := { dst := some 33, op := _, type := _, pos := _, after := _, guard := _ }) (v := .pointer (some ⟨T, 3, none⟩)) rfl (by kernel_rfl) (by kernel_rfl) (by kernel_rfl) (fun _ _ _ h => h) (Or.inl ⟨by rfl, ?_⟩) (by assumption) ?_
    · intro w hSw; obtain ⟨s0, s1, s2, s3, d0, d1, d2, d3⟩ := hSw; go_simp
    try simp only [Act.put, List.setIfInBounds_toArray, List.set_cons_zero, List.set_cons_succ]
    refine wpAnyH_take (i := 1) (oi := { dst := some 34, op := _, type := _, pos := _, after := _, guard := _ }) (v := .slice (some ⟨g, 0, none⟩) fs.length cap) rfl (by kernel_rfl) (by kernel_rfl) (by kernel_rfl) (fun _ _ _ h => h) (Or.inl ⟨by rfl, ?_⟩) (by assumption) ?_
    · intro w hSw; obtain ⟨s0, s1, s2, s3, d0, d1, d2, d3⟩ := hSw; go_simp
    try simp only [Act.put, List.setIfInBounds_toArray, List.set_cons_zero, List.set_cons_succ]
    refine wpAnyH_take (i := 2) (oi := { dst := some 35, op := _, type := _, pos := _, after := _, guard := _ }) (v := .int .i64 0) rfl (by kernel_rfl) (by kernel_rfl) (by kernel_rfl) (fun _ _ _ h => h) (Or.inl ⟨by rfl, ?_⟩) (by assumption) ?_
    · intro w hSw; obtain ⟨s0, s1, s2, s3, d0, d1, d2, d3⟩ := hSw; go_simp
    try simp only [Act.put, List.setIfInBounds_toArray, List.set_cons_zero, List.set_cons_succ]
    refine wpAnyH_take (i := 3) (oi := { dst := some 36, op := _, type := _, pos := _, after := _, guard := _ }) (v := .pointer (some ⟨b, 0, none⟩)) rfl (by kernel_rfl) (by kernel_rfl) (by kernel_rfl) (fun _ _ _ h => h) (Or.inl ⟨by rfl, ?_⟩) (by assumption) ?_
    · intro w hSw; obtain ⟨s0, s1, s2, s3, d0, d1, d2, d3⟩ := hSw; go_simp
    try simp only [Act.put, List.setIfInBounds_toArray, List.set_cons_zero, List.set_cons_succ]
    refine wpAnyH_take (i := 4) (oi := { dst := some 37, op := _, type := _, pos := _, after := _, guard := _ }) (v := .pointer (some ⟨b, 0, none⟩)) rfl (by kernel_rfl) (by kernel_rfl) (by kernel_rfl) (fun _ _ _ h => h) (Or.inl ⟨by rfl, ?_⟩) (by assumption) ?_
    · intro w hSw; obtain ⟨s0, s1, s2, s3, d0, d1, d2, d3⟩ := hSw; go_simp
    try simp only [Act.put, List.setIfInBounds_toArray, List.set_cons_zero, List.set_cons_succ]
    refine wpAnyH_take (i := 5) (oi := { dst := some 38, op := _, type := _, pos := _, after := _, guard := _ }) (v := .pointer (some ⟨b, 0, none⟩)) rfl (by kernel_rfl) (by kernel_rfl) (by kernel_rfl) (fun _ _ _ h => h) (Or.inl ⟨by rfl, ?_⟩) (by assumption) ?_
    · intro w hSw; obtain ⟨s0, s1, s2, s3, d0, d1, d2, d3⟩ := hSw; go_simp
    try simp only [Act.put, List.setIfInBounds_toArray, List.set_cons_zero, List.set_cons_succ]
    refine wpAnyH_take (i := 6) (oi := { dst := some 39, op := _, type := _, pos := _, after := _, guard := _ }) (v := .slice (some ⟨bb, ob, none⟩) u.ks.length u.cap) rfl (by kernel_rfl) (by kernel_rfl) (by kernel_rfl) (fun _ _ _ h => h) (Or.inl ⟨by rfl, ?_⟩) (by assumption) ?_
    · intro w hSw; obtain ⟨s0, s1, s2, s3, d0, d1, d2, d3⟩ := hSw; go_simp
    try simp only [Act.put, List.setIfInBounds_toArray, List.set_cons_zero, List.set_cons_succ]
    refine wpAnyH_take (i := 7) (oi := { dst := some 40, op := _, type := _, pos := _, after := _, guard := _ }) (v := .pointer (some ⟨bc, oc, none⟩)) rfl (by kernel_rfl) (by kernel_rfl) (by kernel_rfl) (fun _ _ _ h => h) (Or.inl ⟨by rfl, ?_⟩) (by assumption) ?_
    · intro w hSw; obtain ⟨s0, s1, s2, s3, d0, d1, d2, d3⟩ := hSw; go_simp
    try simp only [Act.put, List.setIfInBounds_toArray, List.set_cons_zero, List.set_cons_succ]
    refine wpAnyH_take (i := 8) (oi := { dst := some 41, op := _, type := _, pos := _, after := _, guard := _ }) (v := .pointer (some ⟨bc, oc, none⟩)) rfl (by kernel_rfl) (by kernel_rfl) (by kernel_rfl) (fun _ _ _ h => h) (Or.inl ⟨by rfl, ?_⟩) (by assumption) ?_
    · intro w hSw; obtain ⟨s0, s1, s2, s3, d0, d1, d2, d3⟩ := hSw; go_simp
    try simp only [Act.put, List.setIfInBounds_toArray, List.set_cons_zero, List.set_cons_succ]
    refine wpAnyH_take (i := 9) (oi := { dst := some 42, op := _, type := _, pos := _, after := _, guard := _ }) (v := .pointer (some ⟨bc, oc + 3, none⟩)) rfl (by kernel_rfl) (by kernel_rfl) (by kernel_rfl) (fun _ _ _ h => h) (Or.inl ⟨by rfl, ?_⟩) (by assumption) ?_
    · intro w hSw; obtain ⟨s0, s1, s2, s3, d0, d1, d2, d3⟩ := hSw; go_simp
    try simp only [Act.put, List.setIfInBounds_toArray, List.set_cons_zero, List.set_cons_succ]
    refine wpAnyH_take (i := 10) (oi := { dst := some 43, op := _, type := _, pos := _, after := _, guard := _ }) (v := .slice (some ⟨bk, ok, none⟩) c.ks.length c.cap) rfl (by kernel_rfl) (by kernel_rfl) (by kernel_rfl) (fun _ _ _ h => h) (Or.inl ⟨by rfl, ?_⟩) (by assumption) ?_
    · intro w hSw; obtain ⟨s0, s1, s2, s3, d0, d1, d2, d3⟩ := hSw; go_simp
    try simp only [Act.put, List.setIfInBounds_toArray, List.set_cons_zero, List.set_cons_succ]
    refine wpAnyH_take (i := 11) (oi := { dst := some 44, op := _, type := _, pos := _, after := _, guard := _ }) (v := .int .i64 0) rfl (by kernel_rfl) (by kernel_rfl) (by kernel_rfl) (fun _ _ _ h => h) (Or.inl ⟨by rfl, ?_⟩) (by assumption) ?_
    · intro w hSw; obtain ⟨s0, s1, s2, s3, d0, d1, d2, d3⟩ := hSw; go_simp
    try simp only [Act.put, List.setIfInBounds_toArray, List.set_cons_zero, List.set_cons_succ]
    refine wpAnyH_take (i := 12) (oi := { dst := some 45, op := _, type := _, pos := _, after := _, guard := _ }) (v := .pointer (some ⟨bk, ok, none⟩)) rfl (by kernel_rfl) (by kernel_rfl) (by kernel_rfl) (fun _ _ _ h => h) (Or.inl ⟨by rfl, ?_⟩) (by assumption) ?_
    · intro w hSw; obtain ⟨s0, s1, s2, s3, d0, d1, d2, d3⟩ := hSw; go_simp
    try simp only [Act.put, List.setIfInBounds_toArray, List.set_cons_zero, List.set_cons_succ]
    refine wpAnyH_take (i := 13) (oi := { dst := some 46, op := _, type := _, pos := _, after := _, guard := _ }) (v := .pointer (some ⟨bk, ok + 1, none⟩)) rfl (by kernel_rfl) (by kernel_rfl) (by kernel_rfl) (fun _ _ _ h => h) (Or.inl ⟨by rfl, ?_⟩) (by assumption) ?_
    · intro w hSw; obtain ⟨s0, s1, s2, s3, d0, d1, d2, d3⟩ := hSw; go_simp
    try simp only [Act.put, List.setIfInBounds_toArray, List.set_cons_zero, List.set_cons_succ]
    refine wpAnyH_take (i := 14) (oi := { dst := some 47, op := _, type := _, pos := _, after := _, guard := _ }) (v := .int .i64 V) rfl (by kernel_rfl) (by kernel_rfl) (by kernel_rfl) (fun _ _ _ h => h) (Or.inl ⟨by rfl, ?_⟩) (by assumption) ?_
    · intro w hSw; obtain ⟨s0, s1, s2, s3, d0, d1, d2, d3⟩ := hSw; go_simp
    try simp only [Act.put, List.setIfInBounds_toArray, List.set_cons_zero, List.set_cons_succ]
    refine wpAnyH_take (i := 15) (oi := { dst := some 48, op := _, type := _, pos := _, after := _, guard := _ }) (v := .pointer (some ⟨bb, ob + V.toNat * 4, none⟩)) rfl (by kernel_rfl) (by kernel_rfl) (by kernel_rfl) (fun _ _ _ h => h) (Or.inl ⟨by rfl, ?_⟩) (by assumption) ?_
    · intro w hSw; obtain ⟨s0, s1, s2, s3, d0, d1, d2, d3⟩ := hSw; go_simp
    try simp only [Act.put, List.setIfInBounds_toArray, List.set_cons_zero, List.set_cons_succ]
    refine wpAnyH_take (i := 16) (oi := { dst := some 49, op := _, type := _, pos := _, after := _, guard := _ }) (v := d.val) rfl (by kernel_rfl) (by kernel_rfl) (by kernel_rfl) (fun _ _ _ h => h) (Or.inl ⟨by rfl, ?_⟩) (by assumption) ?_
    · intro w hSw; obtain ⟨s0, s1, s2, s3, d0, d1, d2, d3⟩ := hSw; go_simp
    try simp only [Act.put, List.setIfInBounds_toArray, List.set_cons_zero, List.set_cons_succ]
    refine wpAnyH_take (i := 17) (oi := { dst := some 50, op := _, type := _, pos := _, after := _, guard := _ }) (v := .pointer (some ⟨g, 0, none⟩)) rfl (by kernel_rfl) (by kernel_rfl) (by kernel_rfl) (fun _ _ _ h => h) (Or.inl ⟨by rfl, ?_⟩) (by assumption) ?_
    · intro w hSw; obtain ⟨s0, s1, s2, s3, d0, d1, d2, d3⟩ := hSw; go_simp
    try simp only [Act.put, List.setIfInBounds_toArray, List.set_cons_zero, List.set_cons_succ]
    obtain ⟨⟨v0, x0⟩, z0⟩ := own_room HOWD.out 0 (by have := HATF.out; omega)
    obtain ⟨⟨v1, x1⟩, z1⟩ := own_room HOWD.out 1 (by have := HATF.out; omega)
    obtain ⟨⟨v2, x2⟩, z2⟩ := own_room HOWD.out 2 (by have := HATF.out; omega)
    obtain ⟨⟨v3, x3⟩, z3⟩ := own_room HOWD.out 3 (by have := HATF.out; omega)
    refine wpAnyH_ready (rs := [18]) (by kernel_rfl) (by simp) ?_
    refine AllReadyH.cons (o := { dst := none, op := _, type := _, pos := _, after := _, guard := _ }) rfl (fun K hK => ?_) AllReadyH.nil
    go_simp
    have kk : ∀ bq o v, bq ≠ g → wc.cell? ⟨bq, o, none⟩ = some v → ((((wd.setCell ⟨g, 0, none⟩ (.int .i64 d.k)).setCell ⟨g, 1, none⟩ (.int .i64 d.v)).setCell ⟨g, 2, none⟩ (.slice d.da d.ds.length d.dc)).setCell ⟨g, 3, none⟩ (.slice d.a d.ks.length d.cap)).cell? ⟨bq, o, none⟩ = some v := fun bq o v hb hv => (World.cell?_of_block (a := ⟨bq, o, none⟩) ((setRow_far g bq hb (coE d) wd 0).trans (gD.block bq (cell_lt hv)))).trans hv
    refine hK _ _ ⟨kk _ _ _ (fun e => HGT.out e.symm) s0, kk _ _ _ HNG.out.1 s1, kk _ _ _ HNG.out.2.1 s2, kk _ _ _ HNG.out.2.2.1 s3, kk _ _ _ HNG.out.2.2.2 d0, kk _ _ _ HNG.out.2.2.2 d1, kk _ _ _ HNG.out.2.2.2 d2, kk _ _ _ HNG.out.2.2.2 d3⟩ (fun hHeld => ?_)
    clear hK K kk x0 x1 x2 x3 z0 z1 z2 z3
    try simp only [Act.put, List.setIfInBounds_toArray, List.set_cons_zero, List.set_cons_succ]
    refine wpAnyH_done (by kernel_rfl) ?_ _
    have OWN2 := Lib.hid (own_set (F := ((((wd.setCell ⟨g, 0, none⟩ (.int .i64 d.k)).setCell ⟨g, 1, none⟩ (.int .i64 d.v)).setCell ⟨g, 2, none⟩ (.slice d.da d.ds.length d.dc)).setCell ⟨g, 3, none⟩ (.slice d.a d.ks.length d.cap))) (y := d) HOWD.out rfl 0 (by have := HATF.out; omega) rfl)
    have FARF := Lib.hid (show ∀ bq, bq ≠ g → ((((wd.setCell ⟨g, 0, none⟩ (.int .i64 d.k)).setCell ⟨g, 1, none⟩ (.int .i64 d.v)).setCell ⟨g, 2, none⟩ (.slice d.da d.ds.length d.dc)).setCell ⟨g, 3, none⟩ (.slice d.a d.ks.length d.cap)).heap[bq]? = wc.heap[bq]? ∨ ¬ bq < wc.heap.size from fun bq hb => by
      by_cases hl : bq < wc.heap.size
      · exact .inl ((setRow_far g bq hb (coE d) wd 0).trans (gD.block bq hl))
      · exact .inr hl)
    have GF := Lib.hid (show Gw w ((((wd.setCell ⟨g, 0, none⟩ (.int .i64 d.k)).setCell ⟨g, 1, none⟩ (.int .i64 d.v)).setCell ⟨g, 2, none⟩ (.slice d.da d.ds.length d.dc)).setCell ⟨g, 3, none⟩ (.slice d.a d.ks.length d.cap)) from (((Below.setCell (GR.out.trans (G3.out.trans gD)) HGW.out _).setCell HGW.out _).setCell HGW.out _).setCell HGW.out _)
    clear HTD HOWD gD s0 s1 s2 s3 d0 d1 d2 d3
    go_upto_region 6 with (fail)
    generalize ((((wd.setCell ⟨g, 0, none⟩ (.int .i64 d.k)).setCell ⟨g, 1, none⟩ (.int .i64 d.v)).setCell ⟨g, 2, none⟩ (.slice d.da d.ds.length d.dc)).setCell ⟨g, 3, none⟩ (.slice d.a d.ks.length d.cap)) = wf at *
    have far : ∀ bq, bq ≠ g → bq < wc.heap.size → wf.heap[bq]? = wc.heap[bq]? := fun bq hb hl => (FARF.out bq hb).elim id (fun e => absurd hl e)
    have HTF := (far T (fun e => HGT.out e.symm) (Array.getElem?_eq_some_iff.1 HTT.out).1).trans HTT.out
    have t0 : wf.cell? ⟨T, 0, none⟩ = some (.int .i64 c.k) := cell_of_row _ _ 0 _ _ _ HTF
    have t1 : wf.cell? ⟨T, 1, none⟩ = some (.int .i64 c.v) := cell_of_row _ _ 1 _ _ _ HTF
    have t2 : wf.cell? ⟨T, 2, none⟩ = some (.slice c.da c.ds.length c.dc) := cell_of_row _ _ 2 _ _ _ HTF
    have t3 : wf.cell? ⟨T, 3, none⟩ = some (.slice (some ⟨g, 0, none⟩) fs.length cap) := cell_of_row _ _ 3 _ _ _ HTF
    have RF := (far w.heap.size (by have := HGW2.out; omega) (Array.getElem?_eq_some_iff.1 RC.out).1).trans RC.out
    obtain ⟨r0, r1, r2, r3, rf0, rf1, rf2, rf3⟩ := zero_atP RF
    have X := Lib.hid (ex_fin (i := 0) OWN2.out (fun z hz => ok_far ((HFOK.out z hz).grow G3.out) (fun y hy => far y (by have := HGW2.out; have := OLD.out.2.2 y (HFBL.out z hz y hy); omega) (by have := (HFBL.out z hz y hy); have := OLD.out.2.2 y this; have := HWC.out; omega))) (fun z hz y hy => OLD.out.2.2 y (HFBL.out z hz y hy)) (show d.Ok wf from ok_far HDOK.out (fun y hy => far y (by have := HGW2.out; have := OLD.out.2.1 y (HDBL.out y hy); omega) (by have := OLD.out.2.1 y (HDBL.out y hy); have := HWC.out; omega))) (fun y hy => OLD.out.2.1 y (HDBL.out y hy)) HGW2.out A.out.2.kin A.out.2.vin (show numSl wf c.da c.dc c.ds from A.out.2.dat.grow GF.out) (fun y hy => OLD.out.1 y (by rw [LK.bl_eq]; exact List.mem_append.2 (.inl hy))))
    clear RF HTF far
    go_wp2_with fail
    refine bodyPost_ret (v := (LK.mk c.k c.v c.da c.dc c.ds (some ⟨g, 0, none⟩) cap (fs.set 0 d)).val) (by simp [results, Tryd.results128, go_sem, r0, r1, r2, r3]; exact ⟨rfl, rfl, ⟨rfl, rfl, rfl⟩, rfl, by simp [LK.ks], rfl⟩) rfl ⟨_, rfl, ok_far X.out.1 fun y hy => ?_, by rw [LK.co_eq, EXC.out]; simp [LK.k, LK.v, LK.ds, LK.ks, List.map_set], fun y hy => ?_, by_fourP GF.out⟩
    · have hne : y ≠ w.heap.size := by rcases X.out.2 y hy with h | h <;> (have := HGW2.out; omega)
      rw [Below.heap_setCell _ _ _ _ hne, Below.heap_setCell _ _ _ _ hne, Below.heap_setCell _ _ _ _ hne, Below.heap_setCell _ _ _ _ hne]
    · rw [LK.bl_eq] at hy
      rcases List.mem_append.1 hy with hy | hy
      · exact .inr (.inl (by rw [LK.bl_eq]; exact List.mem_append.2 (.inl hy)))
      · have hy' : y ∈ nbl LK.bl (some ⟨g, 0, none⟩) (fs.set 0 d) := hy
        have hne : fs.set 0 d ≠ [] := fun e => by have h0 := congrArg List.length e; rw [List.length_set] at h0; have h9 := HFP.out; rw [h0] at h9; exact absurd h9 (by simp)
        rw [nb_ne hne] at hy'
        rcases List.mem_cons.1 hy' with rfl | hy'
        · exact .inl (by have := HGW2.out; omega)
        · obtain ⟨z, hz, hzy⟩ := List.mem_flatMap.1 hy'
          rcases List.mem_or_eq_of_mem_set hz with hz | rfl
          · exact .inr (.inr (.inr (HFBL.out z hz y hzy)))
          · exact .inr (.inr (.inl (HDBL.out y hzy)))
  · have EA : exAt c.co = 1 := by unfold exAt; rw [EK0, if_neg h11]
    rw [EA] at hV EXC0 hat
    have x1' := kid_one (A1.out.grow g3) hat ha
    have s3 : wc.cell? ⟨bk, ok + 4 + 1, none⟩ = some (.int .i64 V) := by
      rw [hV, getD_co (show 1 < c.co.ks.length by rw [c.co_len]; exact hat), c.co_kid 1 hat, LK.co_v]
      exact x1'.c.2.1
    have EXC := Lib.hid EXC0
    have HATF := Lib.hid (show 1 < fs.length by omega)
    have s2 := p3
    have q11 : (z0k.k != 11) = true := by simpa using h11
    have hi0 : 0 < c.ks.length := by omega
    have hi0' : (0 : Int) < c.ks.length := by omega
    have hi1 : 1 < c.ks.length := by omega
    have hi1' : (1 : Int) < c.ks.length := by omega
    have hi2 : (1 : Int) < fs.length := by omega
    clear hV EXC0 h11 EA hd ha hua x x1' hz0k EK0 hdV hTT hOW hgT g3 p1 p2 x1 x2 x3 hat hcl hck hT0 hg0
    go_wp2_with fail
    go_upto_region 5 with (fail)
    refine wp_region_held_drew (S := fun W => W.cell? ⟨T, 3, none⟩ = some (.slice (some ⟨g, 0, none⟩) fs.length cap) ∧ W.cell? ⟨b, 0, none⟩ = some (.slice (some ⟨bb, ob, none⟩) u.ks.length u.cap) ∧ W.cell? ⟨bc, oc + 3, none⟩ = some (.slice (some ⟨bk, ok, none⟩) c.ks.length c.cap) ∧ W.cell? ⟨bk, ok + 4 + 1, none⟩ = some (.int .i64 V) ∧ W.cell? ⟨bb, ob + V.toNat * 4, none⟩ = some (.int .i64 d.k) ∧ W.cell? ⟨bb, ob + V.toNat * 4 + 1, none⟩ = some (.int .i64 d.v) ∧ W.cell? ⟨bb, ob + V.toNat * 4 + 2, none⟩ = some (.slice d.da d.ds.length d.dc) ∧ W.cell? ⟨bb, ob + V.toNat * 4 + 3, none⟩ = some (.slice d.a d.ks.length d.cap)) (by kernel_rfl) ?_ (fun hHeld => ?_)
    · exact ⟨s0, s1, s2, s3, d0, d1, d2, d3⟩
    have gD := (Gw.refl wc).drew
    have HTD := Lib.hid (show wc.drew.heap[T]? = _ from HTT.out)
    have HOWD := Lib.hid (show wc.drew.ownsRow w1.heap.size 30 4 (.slice (some ⟨g, 0, none⟩) fs.length cap) fs.length (fs.flatMap coE) from HOW.out)
    generalize wc.drew = wd at *
    refine wpAnyH_take (i := 0) (oi := { dst := some 33, op := _, type := _, pos := _, after := _, guard := _ }) (v := .pointer (some ⟨T, 3, none⟩)) rfl (by kernel_rfl) (by kernel_rfl) (by kernel_rfl) (fun _ _ _ h => h) (Or.inl ⟨by rfl, ?_⟩) (by assumption) ?_
    · intro w hSw; obtain ⟨s0, s1, s2, s3, d0, d1, d2, d3⟩ := hSw; go_simp
    try simp only [Act.put, List.setIfInBounds_toArray, List.set_cons_zero, List.set_cons_succ]
    refine wpAnyH_take (i := 1) (oi := { dst := some 34, op := _, type := _, pos := _, after := _, guard := _ }) (v := .slice (some ⟨g, 0, none⟩) fs.length cap) rfl (by kernel_rfl) (by kernel_rfl) (by kernel_rfl) (fun _ _ _ h => h) (Or.inl ⟨by rfl, ?_⟩) (by assumption) ?_
    · intro w hSw; obtain ⟨s0, s1, s2, s3, d0, d1, d2, d3⟩ := hSw; go_simp
    try simp only [Act.put, List.setIfInBounds_toArray, List.set_cons_zero, List.set_cons_succ]
    refine wpAnyH_take (i := 2) (oi := { dst := some 35, op := _, type := _, pos := _, after := _, guard := _ }) (v := .int .i64 1) rfl (by kernel_rfl) (by kernel_rfl) (by kernel_rfl) (fun _ _ _ h => h) (Or.inl ⟨by rfl, ?_⟩) (by assumption) ?_
    · intro w hSw; obtain ⟨s0, s1, s2, s3, d0, d1, d2, d3⟩ := hSw; go_simp
    try simp only [Act.put, List.setIfInBounds_toArray, List.set_cons_zero, List.set_cons_succ]
    refine wpAnyH_take (i := 3) (oi := { dst := some 36, op := _, type := _, pos := _, after := _, guard := _ }) (v := .pointer (some ⟨b, 0, none⟩)) rfl (by kernel_rfl) (by kernel_rfl) (by kernel_rfl) (fun _ _ _ h => h) (Or.inl ⟨by rfl, ?_⟩) (by assumption) ?_
    · intro w hSw; obtain ⟨s0, s1, s2, s3, d0, d1, d2, d3⟩ := hSw; go_simp
    try simp only [Act.put, List.setIfInBounds_toArray, List.set_cons_zero, List.set_cons_succ]
    refine wpAnyH_take (i := 4) (oi := { dst := some 37, op := _, type := _, pos := _, after := _, guard := _ }) (v := .pointer (some ⟨b, 0, none⟩)) rfl (by kernel_rfl) (by kernel_rfl) (by kernel_rfl) (fun _ _ _ h => h) (Or.inl ⟨by rfl, ?_⟩) (by assumption) ?_
    · intro w hSw; obtain ⟨s0, s1, s2, s3, d0, d1, d2, d3⟩ := hSw; go_simp
    try simp only [Act.put, List.setIfInBounds_toArray, List.set_cons_zero, List.set_cons_succ]
    refine wpAnyH_take (i := 5) (oi := { dst := some 38, op := _, type := _, pos := _, after := _, guard := _ }) (v := .pointer (some ⟨b, 0, none⟩)) rfl (by kernel_rfl) (by kernel_rfl) (by kernel_rfl) (fun _ _ _ h => h) (Or.inl ⟨by rfl, ?_⟩) (by assumption) ?_
    · intro w hSw; obtain ⟨s0, s1, s2, s3, d0, d1, d2, d3⟩ := hSw; go_simp
    try simp only [Act.put, List.setIfInBounds_toArray, List.set_cons_zero, List.set_cons_succ]
    refine wpAnyH_take (i := 6) (oi := { dst := some 39, op := _, type := _, pos := _, after := _, guard := _ }) (v := .slice (some ⟨bb, ob, none⟩) u.ks.length u.cap) rfl (by kernel_rfl) (by kernel_rfl) (by kernel_rfl) (fun _ _ _ h => h) (Or.inl ⟨by rfl, ?_⟩) (by assumption) ?_
    · intro w hSw; obtain ⟨s0, s1, s2, s3, d0, d1, d2, d3⟩ := hSw; go_simp
    try simp only [Act.put, List.setIfInBounds_toArray, List.set_cons_zero, List.set_cons_succ]
    refine wpAnyH_take (i := 7) (oi := { dst := some 40, op := _, type := _, pos := _, after := _, guard := _ }) (v := .pointer (some ⟨bc, oc, none⟩)) rfl (by kernel_rfl) (by kernel_rfl) (by kernel_rfl) (fun _ _ _ h => h) (Or.inl ⟨by rfl, ?_⟩) (by assumption) ?_
    · intro w hSw; obtain ⟨s0, s1, s2, s3, d0, d1, d2, d3⟩ := hSw; go_simp
    try simp only [Act.put, List.setIfInBounds_toArray, List.set_cons_zero, List.set_cons_succ]
    refine wpAnyH_take (i := 8) (oi := { dst := some 41, op := _, type := _, pos := _, after := _, guard := _ }) (v := .pointer (some ⟨bc, oc, none⟩)) rfl (by kernel_rfl) (by kernel_rfl) (by kernel_rfl) (fun _ _ _ h => h) (Or.inl ⟨by rfl, ?_⟩) (by assumption) ?_
    · intro w hSw; obtain ⟨s0, s1, s2, s3, d0, d1, d2, d3⟩ := hSw; go_simp
    try simp only [Act.put, List.setIfInBounds_toArray, List.set_cons_zero, List.set_cons_succ]
    refine wpAnyH_take (i := 9) (oi := { dst := some 42, op := _, type := _, pos := _, after := _, guard := _ }) (v := .pointer (some ⟨bc, oc + 3, none⟩)) rfl (by kernel_rfl) (by kernel_rfl) (by kernel_rfl) (fun _ _ _ h => h) (Or.inl ⟨by rfl, ?_⟩) (by assumption) ?_
    · intro w hSw; obtain ⟨s0, s1, s2, s3, d0, d1, d2, d3⟩ := hSw; go_simp
    try simp only [Act.put, List.setIfInBounds_toArray, List.set_cons_zero, List.set_cons_succ]
    refine wpAnyH_take (i := 10) (oi := { dst := some 43, op := _, type := _, pos := _, after := _, guard := _ }) (v := .slice (some ⟨bk, ok, none⟩) c.ks.length c.cap) rfl (by kernel_rfl) (by kernel_rfl) (by kernel_rfl) (fun _ _ _ h => h) (Or.inl ⟨by rfl, ?_⟩) (by assumption) ?_
    · intro w hSw; obtain ⟨s0, s1, s2, s3, d0, d1, d2, d3⟩ := hSw; go_simp
    try simp only [Act.put, List.setIfInBounds_toArray, List.set_cons_zero, List.set_cons_succ]
    refine wpAnyH_take (i := 11) (oi := { dst := some 44, op := _, type := _, pos := _, after := _, guard := _ }) (v := .int .i64 1) rfl (by kernel_rfl) (by kernel_rfl) (by kernel_rfl) (fun _ _ _ h => h) (Or.inl ⟨by rfl, ?_⟩) (by assumption) ?_
    · intro w hSw; obtain ⟨s0, s1, s2, s3, d0, d1, d2, d3⟩ := hSw; go_simp
    try simp only [Act.put, List.setIfInBounds_toArray, List.set_cons_zero, List.set_cons_succ]
    refine wpAnyH_take (i := 12) (oi := { dst := some 45, op := _, type := _, pos := _, after := _, guard := _ }) (v := .pointer (some ⟨bk, ok + 4, none⟩)) rfl (by kernel_rfl) (by kernel_rfl) (by kernel_rfl) (fun _ _ _ h => h) (Or.inl ⟨by rfl, ?_⟩) (by assumption) ?_
    · intro w hSw; obtain ⟨s0, s1, s2, s3, d0, d1, d2, d3⟩ := hSw; go_simp
    try simp only [Act.put, List.setIfInBounds_toArray, List.set_cons_zero, List.set_cons_succ]
    refine wpAnyH_take (i := 13) (oi := { dst := some 46, op := _, type := _, pos := _, after := _, guard := _ }) (v := .pointer (some ⟨bk, ok + 4 + 1, none⟩)) rfl (by kernel_rfl) (by kernel_rfl) (by kernel_rfl) (fun _ _ _ h => h) (Or.inl ⟨by rfl, ?_⟩) (by assumption) ?_
    · intro w hSw; obtain ⟨s0, s1, s2, s3, d0, d1, d2, d3⟩ := hSw; go_simp
    try simp only [Act.put, List.setIfInBounds_toArray, List.set_cons_zero, List.set_cons_succ]
    refine wpAnyH_take (i := 14) (oi := { dst := some 47, op := _, type := _, pos := _, after := _, guard := _ }) (v := .int .i64 V) rfl (by kernel_rfl) (by kernel_rfl) (by kernel_rfl) (fun _ _ _ h => h) (Or.inl ⟨by rfl, ?_⟩) (by assumption) ?_
    · intro w hSw; obtain ⟨s0, s1, s2, s3, d0, d1, d2, d3⟩ := hSw; go_simp
    try simp only [Act.put, List.setIfInBounds_toArray, List.set_cons_zero, List.set_cons_succ]
    refine wpAnyH_take (i := 15) (oi := { dst := some 48, op := _, type := _, pos := _, after := _, guard := _ }) (v := .pointer (some ⟨bb, ob + V.toNat * 4, none⟩)) rfl (by kernel_rfl) (by kernel_rfl) (by kernel_rfl) (fun _ _ _ h => h) (Or.inl ⟨by rfl, ?_⟩) (by assumption) ?_
    · intro w hSw; obtain ⟨s0, s1, s2, s3, d0, d1, d2, d3⟩ := hSw; go_simp
    try simp only [Act.put, List.setIfInBounds_toArray, List.set_cons_zero, List.set_cons_succ]
    refine wpAnyH_take (i := 16) (oi := { dst := some 49, op := _, type := _, pos := _, after := _, guard := _ }) (v := d.val) rfl (by kernel_rfl) (by kernel_rfl) (by kernel_rfl) (fun _ _ _ h => h) (Or.inl ⟨by rfl, ?_⟩) (by assumption) ?_
    · intro w hSw; obtain ⟨s0, s1, s2, s3, d0, d1, d2, d3⟩ := hSw; go_simp
    try simp only [Act.put, List.setIfInBounds_toArray, List.set_cons_zero, List.set_cons_succ]
    refine wpAnyH_take (i := 17) (oi := { dst := some 50, op := _, type := _, pos := _, after := _, guard := _ }) (v := .pointer (some ⟨g, 4, none⟩)) rfl (by kernel_rfl) (by kernel_rfl) (by kernel_rfl) (fun _ _ _ h => h) (Or.inl ⟨by rfl, ?_⟩) (by assumption) ?_
    · intro w hSw; obtain ⟨s0, s1, s2, s3, d0, d1, d2, d3⟩ := hSw; go_simp
    try simp only [Act.put, List.setIfInBounds_toArray, List.set_cons_zero, List.set_cons_succ]
    obtain ⟨⟨v0, x0⟩, z0⟩ := own_room HOWD.out 4 (by have := HATF.out; omega)
    obtain ⟨⟨v1, x1⟩, z1⟩ := own_room HOWD.out 5 (by have := HATF.out; omega)
    obtain ⟨⟨v2, x2⟩, z2⟩ := own_room HOWD.out 6 (by have := HATF.out; omega)
    obtain ⟨⟨v3, x3⟩, z3⟩ := own_room HOWD.out 7 (by have := HATF.out; omega)
    refine wpAnyH_ready (rs := [18]) (by kernel_rfl) (by simp) ?_
    refine AllReadyH.cons (o := { dst := none, op := _, type := _, pos := _, after := _, guard := _ }) rfl (fun K hK => ?_) AllReadyH.nil
    go_simp
    have kk : ∀ bq o v, bq ≠ g → wc.cell? ⟨bq, o, none⟩ = some v → ((((wd.setCell ⟨g, 4, none⟩ (.int .i64 d.k)).setCell ⟨g, 5, none⟩ (.int .i64 d.v)).setCell ⟨g, 6, none⟩ (.slice d.da d.ds.length d.dc)).setCell ⟨g, 7, none⟩ (.slice d.a d.ks.length d.cap)).cell? ⟨bq, o, none⟩ = some v := fun bq o v hb hv => (World.cell?_of_block (a := ⟨bq, o, none⟩) ((setRow_far g bq hb (coE d) wd 4).trans (gD.block bq (cell_lt hv)))).trans hv
    refine hK _ _ ⟨kk _ _ _ (fun e => HGT.out e.symm) s0, kk _ _ _ HNG.out.1 s1, kk _ _ _ HNG.out.2.1 s2, kk _ _ _ HNG.out.2.2.1 s3, kk _ _ _ HNG.out.2.2.2 d0, kk _ _ _ HNG.out.2.2.2 d1, kk _ _ _ HNG.out.2.2.2 d2, kk _ _ _ HNG.out.2.2.2 d3⟩ (fun hHeld => ?_)
    clear hK K kk x0 x1 x2 x3 z0 z1 z2 z3
    try simp only [Act.put, List.setIfInBounds_toArray, List.set_cons_zero, List.set_cons_succ]
    refine wpAnyH_done (by kernel_rfl) ?_ _
    have OWN2 := Lib.hid (own_set (F := ((((wd.setCell ⟨g, 4, none⟩ (.int .i64 d.k)).setCell ⟨g, 5, none⟩ (.int .i64 d.v)).setCell ⟨g, 6, none⟩ (.slice d.da d.ds.length d.dc)).setCell ⟨g, 7, none⟩ (.slice d.a d.ks.length d.cap))) (y := d) HOWD.out rfl 1 (by have := HATF.out; omega) rfl)
    have FARF := Lib.hid (show ∀ bq, bq ≠ g → ((((wd.setCell ⟨g, 4, none⟩ (.int .i64 d.k)).setCell ⟨g, 5, none⟩ (.int .i64 d.v)).setCell ⟨g, 6, none⟩ (.slice d.da d.ds.length d.dc)).setCell ⟨g, 7, none⟩ (.slice d.a d.ks.length d.cap)).heap[bq]? = wc.heap[bq]? ∨ ¬ bq < wc.heap.size from fun bq hb => by
      by_cases hl : bq < wc.heap.size
      · exact .inl ((setRow_far g bq hb (coE d) wd 4).trans (gD.block bq hl))
      · exact .inr hl)
    have GF := Lib.hid (show Gw w ((((wd.setCell ⟨g, 4, none⟩ (.int .i64 d.k)).setCell ⟨g, 5, none⟩ (.int .i64 d.v)).setCell ⟨g, 6, none⟩ (.slice d.da d.ds.length d.dc)).setCell ⟨g, 7, none⟩ (.slice d.a d.ks.length d.cap)) from (((Below.setCell (GR.out.trans (G3.out.trans gD)) HGW.out _).setCell HGW.out _).setCell HGW.out _).setCell HGW.out _)
    clear HTD HOWD gD s0 s1 s2 s3 d0 d1 d2 d3
    go_upto_region 6 with (fail)
    generalize ((((wd.setCell ⟨g, 4, none⟩ (.int .i64 d.k)).setCell ⟨g, 5, none⟩ (.int .i64 d.v)).setCell ⟨g, 6, none⟩ (.slice d.da d.ds.length d.dc)).setCell ⟨g, 7, none⟩ (.slice d.a d.ks.length d.cap)) = wf at *
    have far : ∀ bq, bq ≠ g → bq < wc.heap.size → wf.heap[bq]? = wc.heap[bq]? := fun bq hb hl => (FARF.out bq hb).elim id (fun e => absurd hl e)
    have HTF := (far T (fun e => HGT.out e.symm) (Array.getElem?_eq_some_iff.1 HTT.out).1).trans HTT.out
    have t0 : wf.cell? ⟨T, 0, none⟩ = some (.int .i64 c.k) := cell_of_row _ _ 0 _ _ _ HTF
    have t1 : wf.cell? ⟨T, 1, none⟩ = some (.int .i64 c.v) := cell_of_row _ _ 1 _ _ _ HTF
    have t2 : wf.cell? ⟨T, 2, none⟩ = some (.slice c.da c.ds.length c.dc) := cell_of_row _ _ 2 _ _ _ HTF
    have t3 : wf.cell? ⟨T, 3, none⟩ = some (.slice (some ⟨g, 0, none⟩) fs.length cap) := cell_of_row _ _ 3 _ _ _ HTF
    have RF := (far w.heap.size (by have := HGW2.out; omega) (Array.getElem?_eq_some_iff.1 RC.out).1).trans RC.out
    obtain ⟨r0, r1, r2, r3, rf0, rf1, rf2, rf3⟩ := zero_atP RF
    have X := Lib.hid (ex_fin (i := 1) OWN2.out (fun z hz => ok_far ((HFOK.out z hz).grow G3.out) (fun y hy => far y (by have := HGW2.out; have := OLD.out.2.2 y (HFBL.out z hz y hy); omega) (by have := (HFBL.out z hz y hy); have := OLD.out.2.2 y this; have := HWC.out; omega))) (fun z hz y hy => OLD.out.2.2 y (HFBL.out z hz y hy)) (show d.Ok wf from ok_far HDOK.out (fun y hy => far y (by have := HGW2.out; have := OLD.out.2.1 y (HDBL.out y hy); omega) (by have := OLD.out.2.1 y (HDBL.out y hy); have := HWC.out; omega))) (fun y hy => OLD.out.2.1 y (HDBL.out y hy)) HGW2.out A.out.2.kin A.out.2.vin (show numSl wf c.da c.dc c.ds from A.out.2.dat.grow GF.out) (fun y hy => OLD.out.1 y (by rw [LK.bl_eq]; exact List.mem_append.2 (.inl hy))))
    clear RF HTF far
    go_wp2_with fail
    refine bodyPost_ret (v := (LK.mk c.k c.v c.da c.dc c.ds (some ⟨g, 0, none⟩) cap (fs.set 1 d)).val) (by simp [results, Tryd.results128, go_sem, r0, r1, r2, r3]; exact ⟨rfl, rfl, ⟨rfl, rfl, rfl⟩, rfl, by simp [LK.ks], rfl⟩) rfl ⟨_, rfl, ok_far X.out.1 fun y hy => ?_, by rw [LK.co_eq, EXC.out]; simp [LK.k, LK.v, LK.ds, LK.ks, List.map_set], fun y hy => ?_, by_fourP GF.out⟩
    · have hne : y ≠ w.heap.size := by rcases X.out.2 y hy with h | h <;> (have := HGW2.out; omega)
      rw [Below.heap_setCell _ _ _ _ hne, Below.heap_setCell _ _ _ _ hne, Below.heap_setCell _ _ _ _ hne, Below.heap_setCell _ _ _ _ hne]
    · rw [LK.bl_eq] at hy
      rcases List.mem_append.1 hy with hy | hy
      · exact .inr (.inl (by rw [LK.bl_eq]; exact List.mem_append.2 (.inl hy)))
      · have hy' : y ∈ nbl LK.bl (some ⟨g, 0, none⟩) (fs.set 1 d) := hy
        have hne : fs.set 1 d ≠ [] := fun e => by have h0 := congrArg List.length e; rw [List.length_set] at h0; have h9 := HFP.out; rw [h0] at h9; exact absurd h9 (by simp)
        rw [nb_ne hne] at hy'
        rcases List.mem_cons.1 hy' with rfl | hy'
        · exact .inl (by have := HGW2.out; omega)
        · obtain ⟨z, hz, hzy⟩ := List.mem_flatMap.1 hy'
          rcases List.mem_or_eq_of_mem_set hz with hz | rfl
          · exact .inr (.inr (.inr (HFBL.out z hz y hzy)))
          · exact .inr (.inr (.inl (HDBL.out y hzy)))

end Go.Proofs.YtfbgkbgoooepmaaDoor.Con
