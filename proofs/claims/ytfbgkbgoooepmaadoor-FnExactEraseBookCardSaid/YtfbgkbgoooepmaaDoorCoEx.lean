/-
  Contracts of the program's erasedNode, builder.result with it, newResult and EraseCore, and of the model's EraseCore. Condition: the core term lies in memory, and the table of forms reads as the program's text lays it.
-/
import Derived.Test.YtfbgkbgoooepmaaDoorCoEm
import Derived.Test.YtfbgkbgoooepmaaDoorCoIn
import Derived.Test.YtfbgkbgoooepmaaDoorCoCl
import Derived.Test.YtfbgkbgoooepmaaDoorCoMk
namespace Go.Proofs.YtfbgkbgoooepmaaDoor.Con
open Go.RowKit
set_option linter.unusedVariables false
attribute [local go_sem ↓] Go.wp_at_zero Go.wp_at_succ

set_option maxRecDepth 100000 in
/-- instantiated: its blocks and its place lie in the two core terms or are new. -/
theorem impl_instZ (u a : LK) (w : World) (b o ab ao : Nat) (h : coAt w b o u) (ha : coAt w ab ao a) (hu : okC u.co = true) (hka : okC a.co = true) : Calls Tryd.prog 80 #[.pointer (some ⟨b, o, none⟩), .pointer (some ⟨ab, ao, none⟩)] w fun e w' =>
    ∃ (b' o' : Nat) (x : LK), e = .returned (.pointer (some ⟨b', o', none⟩)) ∧ coAt w' b' o' x ∧ x.co = u.co.pu a.co 0 ∧ Gw w w' ∧ ∀ y, (y = b' ∨ y ∈ x.bl) → w.heap.size ≤ y ∨ y ∈ u.bl ∨ y ∈ a.bl ∨ y = b ∨ y = ab := by
  obtain ⟨Z, hZ⟩ : ∃ Z : Nat → Prop, Z = fun y => y < w.heap.size ∧ y ∉ u.bl ∧ y ∉ a.bl ∧ y ≠ b ∧ y ≠ ab := ⟨_, rfl⟩
  obtain ⟨wA, hwA⟩ : ∃ wA, wA = ((w.alloc (.cells #[.pointer (some ⟨ab, ao, none⟩)] 61)).alloc (.map #[] 0)).alloc (.cells #[.map (some (w.heap.size + 1))] 113) := ⟨_, rfl⟩
  have gA : Gw w wA := by rw [hwA]; exact (((Gw.refl w).alloc _).alloc _).alloc _
  have b1 : wA.heap[w.heap.size]? = some (.cells #[.pointer (some ⟨ab, ao, none⟩)] 61 (0, 0)) := by
    rw [hwA]
    exact ((((Gw.refl (w.alloc (.cells #[.pointer (some ⟨ab, ao, none⟩)] 61))).alloc (.map #[] 0)).alloc _).block w.heap.size (by simp)).trans (heap_alloc_new w _)
  have b2 : wA.heap[w.heap.size + 1]? = some (.map #[] 0) := by
    rw [hwA]
    have := heap_alloc_new (w.alloc (.cells #[.pointer (some ⟨ab, ao, none⟩)] 61)) (.map #[] 0)
    rw [World.size_alloc] at this
    exact (((Gw.refl _).alloc _).block (w.heap.size + 1) (by simp)).trans this
  have b3 : wA.heap[w.heap.size + 2]? = some (.cells #[.map (some (w.heap.size + 1))] 113 (0, 0)) := by
    rw [hwA]
    have := heap_alloc_new ((w.alloc (.cells #[.pointer (some ⟨ab, ao, none⟩)] 61)).alloc (.map #[] 0)) (.cells #[.map (some (w.heap.size + 1))] 113)
    rw [World.size_alloc, World.size_alloc] at this
    exact this
  have HI : InsI wA Z (w.heap.size + 2) w.heap.size (w.heap.size + 1) ab ao a := by
    refine ⟨cell_of_row _ _ 0 _ _ _ b3, cell_of_row _ _ 0 _ _ _ b1, ⟨⟨#[], 0, b2, by simp⟩, fun e => ?_⟩, ha.grow gA, fun e => ?_, fun e => ?_, fun e => ?_, fun y hy e => ?_⟩
    · rw [hZ] at e; have := e.1; omega
    · rw [hZ] at e; have := e.1; omega
    · rw [hZ] at e; have := e.1; omega
    · rw [hZ] at e; exact e.2.2.2.2 rfl
    · rw [hZ] at e; exact e.2.2.1 hy
  have gd := okC_good hu
  have K := in_all u wA Z b o 0 0 (w.heap.size + 2) w.heap.size (w.heap.size + 1) ab ao a (h.grow gA) HI (fun y e => by rw [hZ] at e; have := e.1; have := gA.size; omega) (fun e => by rw [hZ] at e; exact e.2.2.2.1 rfl) (fun y hy e => by rw [hZ] at e; exact e.2.1 hy) gd.1 hka (by have := gd.2.1; omega) (by have := gd.2.1; omega)
  have KK := Lib.hid K
  have GA := Lib.hid gA
  have HWA := Lib.hid hwA
  have HZ := Lib.hid hZ
  clear h ha hu hka gA b1 b2 b3 HI gd K hwA hZ
  go_enter Tryd.func80, Tryd.ntmps80
  have hmm : ∀ W : World, (Instr.makeMap 113 none).run Tryd.prog W = .ok (.map (some W.heap.size)) (W.alloc (.map #[] 0)) := fun W => by kernel_rfl
  go_upto_region 2 with (fail)
  clear hmm
  rw [← HWA.out]
  go_wp2_with fail
  refine KK.out.mono ?_
  rintro e w2 ⟨xb, xo, x, rfl, hx, hxc, hzb, hzy, _, hc⟩
  have F := Lib.hid (show ∃ (b' o' : Nat) (x : LK), Ending.returned (.pointer (some ⟨xb, xo, none⟩)) = .returned (.pointer (some ⟨b', o', none⟩)) ∧ coAt w2 b' o' x ∧ x.co = u.co.pu a.co 0 ∧ Gw w w2 ∧ ∀ y, (y = b' ∨ y ∈ x.bl) → w.heap.size ≤ y ∨ y ∈ u.bl ∨ y ∈ a.bl ∨ y = b ∨ y = ab from ⟨xb, xo, x, rfl, hx, hxc, Below.trans GA.out (hc.gw GA.out.size (fun b hb e => by omega)), fun y hy => by
    have hn : ¬ Z y := by
      rcases hy with rfl | hy
      · exact hzb
      · exact hzy y hy
    rw [HZ.out] at hn
    rcases Nat.lt_or_ge y w.heap.size with h1 | h1
    · by_cases h2 : y ∈ u.bl
      · exact .inr (.inl h2)
      · by_cases h3 : y ∈ a.bl
        · exact .inr (.inr (.inl h3))
        · by_cases h4 : y = b
          · exact .inr (.inr (.inr (.inl h4)))
          · by_cases h5 : y = ab
            · exact .inr (.inr (.inr (.inr h5)))
            · exact absurd ⟨h1, h2, h3, h4, h5⟩ hn
    · exact .inl h1⟩)
  clear hx hxc hzb hzy hc KK
  go_wp2_with fail
  go_ret
  exact F.out

theorem row_mem {u : LK} {b o : Nat} (ha : u.a = some ⟨b, o, none⟩) (hne : u.ks ≠ []) : b ∈ u.bl := by
  rw [LK.bl_eq, ha]
  refine List.mem_append.2 (.inr ?_)
  rw [nb_ne hne]
  exact List.mem_cons_self ..
/-- What erasedNode gives of a node whose kids are erased. -/
def EnP (w : World) (x : LK) (bx : Nat) (e : Ending) (w' : World) : Prop := ∃ (b o : Nat) (y : LK), e = .returned (.pointer (some ⟨b, o, none⟩)) ∧ coAt w' b o y ∧ y.co = erN x.k x.v x.ds (x.ks.map LK.co) ∧ Gw w w' ∧ ∀ z, (z = b ∨ z ∈ y.bl) → z = bx ∨ z ∈ x.bl ∨ w.heap.size ≤ z
set_option maxRecDepth 100000 in
theorem impl_erasedNode (x : LK) (w : World) (b o : Nat) (pn : Value) (h : coAt w b o x) (hk : (x.k = 6 → x.ks.length = 1) ∧ (x.k = 7 → x.ks.length = 2)) (hok : ∀ i (hi : i < x.ks.length), okC x.ks[i].co = true) : Calls Tryd.prog 82 #[pn, .pointer (some ⟨b, o, none⟩)] w (EnP w x b) := by
  obtain ⟨p0, p1, p2, p3⟩ := h.c
  by_cases h6 : x.k = 6
  · have c6 : (x.k == 6) = true := by simpa using h6
    have hl1 : 0 < x.ks.length := by rw [hk.1 h6]; omega
    obtain ⟨bk, ok, ha, hx0⟩ := coAt.kid h.2.kids 0 hl1
    rw [ha] at p3
    simp only [Nat.zero_mul, Nat.add_zero] at hx0
    have ix0 : (0 : Int) < x.ks.length := by omega
    have FIN := Lib.hid (show EnP w x b (.returned (.pointer (some ⟨bk, ok, none⟩))) w from ⟨bk, ok, x.ks[0], rfl, hx0, by
      unfold erN
      rw [if_pos h6, getD_lt (by simpa using hl1)]
      simp, Gw.refl w, fun z hz => by
      rcases hz with rfl | hz
      · exact .inr (.inl (row_mem ha (fun e => by rw [e] at hl1; simp at hl1)))
      · exact .inr (.inl (kid_bl ha 0 hl1 hz))⟩)
    clear h hk hok h6 hx0 ha
    go_enter Tryd.func82, Tryd.ntmps82
    go_wp2_with fail
    go_ret
    exact FIN.out
  have c6 : (x.k == 6) = false := by simpa using h6
  by_cases h7 : x.k = 7
  · have c7 : (x.k == 7) = true := by simpa using h7
    have hl2 : 1 < x.ks.length := by rw [hk.2 h7]; omega
    have hl1 : 0 < x.ks.length := by omega
    obtain ⟨bk, ok, ha, hx1⟩ := coAt.kid h.2.kids 1 hl2
    have hx0 : coAt w bk (ok + 0 * 4) x.ks[0] := by
      obtain ⟨bk', ok', e, h'⟩ := coAt.kid h.2.kids 0 hl1
      rw [ha] at e
      injection e with e
      injection e with e1 e2
      subst e1 e2
      exact h'
    rw [ha] at p3
    simp only [Nat.zero_mul, Nat.add_zero, Nat.one_mul] at hx0 hx1
    have ix0 : (0 : Int) < x.ks.length := by omega
    have ix1 : (1 : Int) < x.ks.length := by omega
    have KI := Lib.hid (impl_instZ x.ks[1] x.ks[0] w.drew bk (ok + 4) bk ok (hx1.grow (Gw.refl w).drew) (hx0.grow (Gw.refl w).drew) (hok 1 hl2) (hok 0 hl1))
    have EE := Lib.hid (show x.ks[1].co.pu x.ks[0].co 0 = erN x.k x.v x.ds (x.ks.map LK.co) by
      unfold erN
      rw [if_neg h6, if_pos h7, getD_lt (by simpa using hl2), getD_lt (by simpa using hl1)]
      simp)
    have BL := Lib.hid (show (∀ y ∈ x.ks[1].bl, y ∈ x.bl) ∧ (∀ y ∈ x.ks[0].bl, y ∈ x.bl) ∧ bk ∈ x.bl from ⟨fun y hy => kid_bl ha 1 hl2 hy, fun y hy => kid_bl ha 0 hl1 hy, row_mem ha (fun e => by rw [e] at hl1; simp at hl1)⟩)
    clear h hk hok h6 h7 hx0 hx1 ha
    go_enter Tryd.func82, Tryd.ntmps82
    go_wp2_with fail
    have lA := cell_lt p3
    go_region_held3 (fun W => W.cell? ⟨b, o + 3, none⟩ = some (.slice (some ⟨bk, ok, none⟩) x.ks.length x.cap))
      (first | exact p3 | exact (g3.cell p3 lA))
      (first
        | (go_at_call 80; refine KI.out.mono ?_; rintro e w3 ⟨b', o', y, rfl, hy, hyc, g3, hbl⟩))
    have FIN := Lib.hid (show EnP w x b (.returned (.pointer (some ⟨b', o', none⟩))) w3 from ⟨b', o', y, rfl, hy, hyc.trans EE.out, gw_drewL g3, fun z hz => by
      rcases hbl z hz with h1 | h1 | h1 | h1 | h1
      · exact .inr (.inr h1)
      · exact .inr (.inl (BL.out.1 z h1))
      · exact .inr (.inl (BL.out.2.1 z h1))
      · subst h1; exact .inr (.inl BL.out.2.2)
      · subst h1; exact .inr (.inl BL.out.2.2)⟩)
    clear hy hyc g3 hbl
    go_wp2_with fail
    go_ret
    exact FIN.out
  · have c7 : (x.k == 7) = false := by simpa using h7
    have FIN := Lib.hid (show EnP w x b (.returned (.pointer (some ⟨b, o, none⟩))) w from ⟨b, o, x, rfl, h, by
      unfold erN
      rw [if_neg h6, if_neg h7, LK.co_eq], Gw.refl w, fun z hz => by
      rcases hz with rfl | hz
      · exact .inl rfl
      · exact .inr (.inl hz)⟩)
    clear h hk hok h6 h7
    go_enter Tryd.func82, Tryd.ntmps82
    go_wp2_with fail
    go_ret
    exact FIN.out

def RsP (w : World) (u : LK) (e : Ending) (w' : World) : Prop := ∃ p, e = .returned (.pointer p) ∧ Gw w w' ∧ ((u.co.er = none ∧ p = none) ∨ ∃ (b o : Nat) (x : LK), p = some ⟨b, o, none⟩ ∧ coAt w' b o x ∧ u.co.er = some x.co ∧ ∀ y, (y = b ∨ y ∈ x.bl) → y ∈ u.bl ∨ w.heap.size ≤ y)
def KRs (u : LK) : Prop := ∀ (w : World) (b o : Nat), coAt w b o u → u.co.all headC = true → KTbl w → Calls Tryd.prog 114 #[.func (.func 82) #[] #[], .pointer (some ⟨b, o, none⟩)] w (RsP w u)

/-- The state of result's loop. -/
def RsRel (w : World) (u : LK) (T Bk : Nat) (i : Value) (wr : World) : Prop := ∃ (us : List LK) (v : Value), i = .int .i64 us.length ∧ us.length ≤ u.ks.length ∧ (∀ j (h : j < us.length) (h2 : j < u.ks.length), u.ks[j].co.er = some us[j].co) ∧ AppS 30 Bk wr v us ∧
  wr.heap[T]? = some (.cells #[.int .i64 u.k, .int .i64 u.v, .slice u.da u.ds.length u.dc, v] 30 (0, 0)) ∧ (∀ x ∈ us, ∀ y ∈ x.bl, y ≠ T ∧ (y ∈ u.bl ∨ w.heap.size ≤ y)) ∧ Gw w wr ∧ Bk ≤ wr.heap.size

theorem rs_next {w wr wq w2 F : World} {u x : LK} {T Bk xb : Nat} {us : List LK} {va : Option Addr} {vc g cap : Nat}
    (HA : AppS 30 Bk wr (.slice va us.length vc) us) (HE : ∀ j (h : j < us.length) (h2 : j < u.ks.length), u.ks[j].co.er = some us[j].co) (hlt : us.length < u.ks.length) (HK : u.ks[us.length].co.er = some x.co)
    (HT : wr.heap[T]? = some (.cells #[.int .i64 u.k, .int .i64 u.v, .slice u.da u.ds.length u.dc, .slice va us.length vc] 30 (0, 0))) (HTB : w.heap.size ≤ T ∧ T < Bk) (HG : Gw w wr) (HQ : Gw wr wq) (OX : x.Ok wq) (HX : ∀ y, (y = xb ∨ y ∈ x.bl) → (y ∈ u.bl ∧ y < w.heap.size) ∨ wr.heap.size ≤ y) (HBS : ∀ x ∈ us, ∀ y ∈ x.bl, y ≠ T ∧ (y ∈ u.bl ∨ w.heap.size ≤ y)) (HBW : w.heap.size ≤ Bk ∧ Bk ≤ wr.heap.size)
    (HO2 : w2.ownsRow Bk 30 4 (.slice (some ⟨g, 0, none⟩) (us.length + 1) cap) (us.length + 1) (us.flatMap coE ++ zeE)) (HG2 : (wq.alloc (.cells #[.int .i64 0, .int .i64 0, .slice none 0 0, .slice none 0 0] 30)).grownBy w2 (Value.slice va us.length vc).ownBlock) (HA2 : (Value.slice va us.length vc).ownBlock = some g ∨ g = (wq.alloc (.cells #[.int .i64 0, .int .i64 0, .slice none 0 0, .slice none 0 0] 30)).heap.size) (HF : AppF w2 F g T us.length x (.slice (some ⟨g, 0, none⟩) (us.length + 1) cap)) :
    RsRel w u T Bk (.int .i64 (us.length + 1)) F := by
  have gA : Gw wr (wq.alloc (.cells #[.int .i64 0, .int .i64 0, .slice none 0 0, .slice none 0 0] 30)) := HQ.alloc _
  have hv : ∀ y, (Value.slice va us.length vc).ownBlock = some y → Bk ≤ y ∧ y < wr.heap.size := fun y hy => HA.1.lt y hy
  have hxT : T ∉ x.bl := fun e => by rcases HX T (.inr e) with h | h <;> omega
  have P := AppS.put1 (HA.grow gA) (OX.grow ((Gw.refl wq).alloc (.cells #[.int .i64 0, .int .i64 0, .slice none 0 0, .slice none 0 0] 30))) (fun y hy e => by have := hv y e; rcases HX y (.inr hy) with h | h <;> omega) HO2 HG2 (HA2.imp id (fun e => by omega)) ⟨fun z hz e => (HBS z hz T e).1 rfl, hxT⟩ HF
  obtain ⟨hf0, hf1, hf2, hf3⟩ := HF
  have hs := gA.size
  have gB : Bk ≤ g := by
    rcases HA2 with e | e
    · exact (hv g e).1
    · omega
  have key2 : ∀ b, b < Bk → w2.heap[b]? = wr.heap[b]? := fun b h => (HG2.block b (by omega) (fun e => by have := hv b e.symm; omega)).trans (gA.block b (by omega))
  have key : ∀ b, b < Bk → b ≠ T → F.heap[b]? = wr.heap[b]? := fun b h hb => (hf3 b (by omega) hb).trans (key2 b h)
  refine ⟨us ++ [x], .slice (some ⟨g, 0, none⟩) (us.length + 1) cap, by rw [List.length_append]; rfl, by rw [List.length_append, List.length_singleton]; omega, fun j h h2 => ?_, P, ?_, fun z hz y hy => ?_, ?_, ?_⟩
  · by_cases hj : j < us.length
    · rw [List.getElem_append_left hj]; exact HE j hj h2
    · have : j = us.length := by simp at h; omega
      subst this
      simp only [List.getElem_append_right (Nat.le_refl _), Nat.sub_self, List.getElem_cons_zero]
      exact HK
  · rw [hf2]
    have := (key2 T HTB.2).trans HT
    simp [World.setCell, Array.getElem?_modify, this]
  · rcases List.mem_append.1 hz with hz | hz
    · exact HBS z hz y hy
    · obtain rfl : z = x := by simpa using hz
      refine ⟨fun e => hxT (e ▸ hy), ?_⟩
      rcases HX y (.inr hy) with h | h
      · exact .inl h.1
      · exact .inr (by omega)
  · obtain ⟨e1, e2, e3, e4⟩ := hf0
    exact ⟨e1.trans (HG2.os.trans (gA.os.trans HG.os)), e2.trans (HG2.tape.trans (gA.tape.trans HG.tape)), e3.trans (HG2.output.trans (gA.output.trans HG.output)), by have := HG2.size; have := HG.size; omega, fun b hb => (key b (by omega) (by omega)).trans (HG.block b hb)⟩
  · have := HG2.size
    have := hf0.2.2.2
    omega

set_option maxRecDepth 100000 in
set_option maxHeartbeats 4000000 in
theorem rs_of (u : LK) (ih : ∀ t ∈ u.ks, KRs t) : KRs u := by
  intro w b o h hok hTb
  obtain ⟨i0, hi, hz0, hz1, hz2⟩ := info_parts infoK
  have HI := Lib.hid hi
  have HZ0 := Lib.hid hz0
  have HZ1 := Lib.hid hz1
  have HZ2 := Lib.hid hz2
  clear hi hz0 hz1 hz2
  have HH := Lib.hid (head_of hok)
  obtain ⟨s1, s2, s3, s4⟩ := headC_sm HH.out
  have HOK := Lib.hid hok
  have A := Lib.hid h
  have hll := h.2.kl
  obtain ⟨p0, p1, p2, p3⟩ := h.c
  have lA := h.lt
  have gR := (Gw.refl w).alloc (.cells #[.int .i64 u.k, .int .i64 u.v, .slice u.da u.ds.length u.dc, .slice none 0 0] 30)
  have HT0 := Lib.hid (heap_alloc_new w (.cells #[.int .i64 u.k, .int .i64 u.v, .slice u.da u.ds.length u.dc, .slice none 0 0] 30))
  have A1 := Lib.hid (h.grow gR)
  have GR := Lib.hid gR
  have TB := Lib.hid hTb
  have UB := Lib.hid (show ∀ y ∈ u.bl, y < w.heap.size from fun y hy => ok_bl_lt u w h.2 y hy)
  have SZ := Lib.hid (show (w.alloc (.cells #[.int .i64 u.k, .int .i64 u.v, .slice u.da u.ds.length u.dc, .slice none 0 0] 30)).heap.size = w.heap.size + 1 by simp)
  clear h hok gR hTb
  go_enter Tryd.func114, Tryd.ntmps114
  go_upto_region 3 with (fail)
  obtain ⟨T, hTe⟩ : ∃ T, T = w.heap.size := ⟨_, rfl⟩
  rw [← hTe] at HT0 SZ
  rw [← hTe]
  have HTE := Lib.hid hTe
  clear p0 p1 p2 p3 lA hTe
  generalize w.alloc (.cells #[.int .i64 u.k, .int .i64 u.v, .slice u.da u.ds.length u.dc, .slice none 0 0] 30) = w1 at *
  obtain ⟨p0, p1, p2, p3⟩ := A1.out.c
  go_wp2_with fail
  obtain ⟨Bk, hBk0⟩ : ∃ Bk, Bk = T + 1 := ⟨_, rfl⟩
  have HB0 := Lib.hid hBk0
  clear p0 p1 p2 p3 hBk0
  go_loopw [18] (fun i wr => RsRel w u T Bk i wr) (fun i _ => u.ks.length - (intOf i).toNat)
  case atStart => exact ⟨[], .slice none 0 0, rfl, Nat.zero_le _, (fun j h => by simp at h), AppS.nil _ _ _, HT0.out, (fun x hx => by cases hx), GR.out, by rw [HB0.out, SZ.out]; exact Nat.le_refl _⟩
  case round =>
    obtain ⟨us, v, rfl, hle, hers, happ, hb2, hbs, hg, hBk⟩ := hrel
    have HERS := Lib.hid hers
    have HA := Lib.hid happ
    have HTR := Lib.hid hb2
    have HBS := Lib.hid hbs
    have HG5 := Lib.hid hg
    obtain ⟨va, vc, rfl⟩ := happ.form
    have A5 := Lib.hid (coAt.grow A.out hg)
    have HTB9 := Lib.hid (show w.heap.size ≤ T ∧ T < Bk from ⟨by have := HTE.out; omega, by have := HB0.out; omega⟩)
    have HBW := Lib.hid (show w.heap.size ≤ Bk ∧ Bk ≤ wr.heap.size from ⟨by have := HTB9.out; omega, hBk⟩)
    clear hers happ hbs hg hBk
    obtain ⟨p0, p1, p2, p3⟩ := A5.out.c
    by_cases hlt : us.length < u.ks.length
    · obtain ⟨bk, ok, ha, hkid⟩ := coAt.kid A5.out.2.kids us.length hlt
      rw [ha] at p3
      have KB := Lib.hid (show ∀ y, y ∈ u.ks[us.length].bl → y ∈ u.bl from fun y hy => kid_bl (u := u) ha us.length hlt hy)
      have q0 : (0 : Int) ≤ us.length := by omega
      have q1' : (us.length : Int) < u.ks.length := by omega
      have IH := Lib.hid (ih u.ks[us.length] (List.getElem_mem hlt) wr bk (ok + us.length * 4) hkid (all_kid HOK.out us.length hlt) (TB.out.grow HG5.out))
      have LEN := Lib.hid (show us.length + 1 ≤ 4 by omega)
      clear ha hkid hb2 hle p0 p1 p2
      go_wp2_with fail
      refine IH.out.mono ?_
      rintro e wq ⟨p, rfl, hg1, hc⟩
      have HQ := Lib.hid hg1
      rcases hc with ⟨hk, rfl⟩ | ⟨xb, xo, x, rfl, hx, hk, hbl⟩
      · have F := Lib.hid (show RsP w u (.returned (.pointer none)) wq from ⟨none, rfl, HG5.out.trans hg1, .inl ⟨er_none_kid us.length (by rw [u.co_len]; exact hlt) (by rw [u.co_kid us.length hlt]; exact hk), rfl⟩⟩)
        clear hk hg1 IH p3
        go_wp2_with fail
        go_ret
        exact F.out
      · have HEK := Lib.hid hk
        have OX := Lib.hid hx.2
        have HXB := Lib.hid (show ∀ y, (y = xb ∨ y ∈ x.bl) → (y ∈ u.bl ∧ y < w.heap.size) ∨ wr.heap.size ≤ y from fun y hy => by
          rcases hbl y hy with h1 | h1
          · exact .inl ⟨KB.out y h1, UB.out y (KB.out y h1)⟩
          · exact .inr h1)
        have HTB := Lib.hid ((hg1.block T (by have := HTB9.out; have := HBW.out; omega)).trans HTR.out)
        have HOWN := Lib.hid (HA.out.grow hg1).1
        have HBK := Lib.hid (show Bk ≤ wq.heap.size by have := HBW.out; have := hg1.size; omega)
        have hlT : T < wq.heap.size := by have := HTB9.out; have := HBK.out; omega
        have hlX : xb < wq.heap.size := hx.lt
        have HTO := Lib.hid (show (Value.slice va us.length vc).ownBlock ≠ some T from fun e => by have := (HA.out.1.lt T e).1; have := HTB9.out; omega)
        have HXO := Lib.hid (show (Value.slice va us.length vc).ownBlock ≠ some xb from fun e => by
          have h1 := HA.out.1.lt xb e
          rcases HXB.out xb (.inl rfl) with h2 | h2
          · have := HBW.out; omega
          · omega)
        have HXT := Lib.hid (show xb ≠ T by
          rcases HXB.out xb (.inl rfl) with h2 | h2
          · have := HTB9.out; omega
          · have := HTB9.out; have := HBW.out; omega)
        have y3 : wq.cell? ⟨T, 3, none⟩ = some (.slice va us.length vc) := cell_of_row _ _ 3 _ _ _ HTB.out
        obtain ⟨e0, e1, e2, e3⟩ := hx.c
        clear hk hx hbl hg1 IH p3
        go_upto_region 9 with (fail)
        have y3 : wq.drew.cell? ⟨T, 3, none⟩ = some (.slice va us.length vc) := y3
        have e0 : wq.drew.cell? ⟨xb, xo, none⟩ = some (.int .i64 x.k) := e0
        have e1 : wq.drew.cell? ⟨xb, xo + 1, none⟩ = some (.int .i64 x.v) := e1
        have e2 : wq.drew.cell? ⟨xb, xo + 2, none⟩ = some (.slice x.da x.ds.length x.dc) := e2
        have e3 : wq.drew.cell? ⟨xb, xo + 3, none⟩ = some (.slice x.a x.ks.length x.cap) := e3
        have HOWN := Lib.hid (show wq.drew.ownsRow Bk 30 4 (.slice va us.length vc) us.length (us.flatMap coE) from HOWN.out)
        have HBK := Lib.hid (show Bk ≤ wq.drew.heap.size from HBK.out)
        have hlT : T < wq.drew.heap.size := hlT
        have hlX : xb < wq.drew.heap.size := hlX
        have HTB := Lib.hid (show wq.drew.heap[T]? = _ from HTB.out)
        have HWD := Lib.hid (show Gw wq wq.drew from (Gw.refl wq).drew)
        obtain ⟨S, hS⟩ : ∃ S : Array Bool → World → Prop, S = fun L X => (L.getD 11 true = false → X.cell? ⟨T, 3, none⟩ = some (.slice va us.length vc)) ∧ X.cell? ⟨xb, xo, none⟩ = some (.int .i64 x.k) ∧ X.cell? ⟨xb, xo + 1, none⟩ = some (.int .i64 x.v) ∧ X.cell? ⟨xb, xo + 2, none⟩ = some (.slice x.da x.ds.length x.dc) ∧ X.cell? ⟨xb, xo + 3, none⟩ = some (.slice x.a x.ks.length x.cap) := ⟨_, rfl⟩
        have HS := Lib.hid hS
        have HIND := Lib.hid (show ∀ i, i ≠ 11 → ∀ L X, S (L.setIfInBounds i true) X ↔ S L X from fun i hi L X => by rw [hS]; simp only; rw [getD_set_ne true hi])
        have SK := Lib.hid (show ∀ L X X', S L X → X'.heap[T]? = X.heap[T]? → X'.heap[xb]? = X.heap[xb]? → S L X' from fun L X X' h e1 e2 => by
          rw [hS] at h ⊢
          exact ⟨fun e => (World.cell?_of_block (a := ⟨T, 3, none⟩) e1).trans (h.1 e), (World.cell?_of_block (a := ⟨xb, xo, none⟩) e2).trans h.2.1, (World.cell?_of_block (a := ⟨xb, xo + 1, none⟩) e2).trans h.2.2.1, (World.cell?_of_block (a := ⟨xb, xo + 2, none⟩) e2).trans h.2.2.2.1, (World.cell?_of_block (a := ⟨xb, xo + 3, none⟩) e2).trans h.2.2.2.2⟩)
        have s0 : S (Array.replicate 12 false) wq.drew := by rw [hS]; exact ⟨fun _ => y3, e0, e1, e2, e3⟩
        have hmx : Tryd.prog.follows .mixedOrders = true := by kernel_rfl
        clear hS
        refine any_plain (S := S) hmx ?_
        generalize wq.drew = wd at *
        refine anyL_take (i := 0) (oi := { dst := some 31, op := _, type := _, pos := _, after := _, guard := _ }) (v := .pointer (some ⟨T, 3, none⟩)) rfl (by kernel_rfl) (by kernel_rfl) (by kernel_rfl) (fun _ _ _ h => h) (HIND.out 0 (by decide)) (fun _ => True) (fun _ _ _ _ _ _ => trivial) trivial (Or.inl ⟨by rfl, ?hy0⟩) s0 ?rest0
        case hy0 =>
          rintro X _
          go_simp
        have s1 := (HIND.out 0 (by decide) _ _).2 s0
        clear s0
        try simp only [Act.put, List.setIfInBounds_toArray, List.set_cons_zero, List.set_cons_succ]
        refine anyL_take (i := 1) (oi := { dst := some 32, op := _, type := _, pos := _, after := _, guard := _ }) (v := .slice va us.length vc) rfl (by kernel_rfl) (by kernel_rfl) (by kernel_rfl) (fun _ _ _ h => h) (HIND.out 1 (by decide)) (fun L => L.getD 11 true = false) ?hG1 rfl (Or.inl ⟨by rfl, ?hy1⟩) s1 ?rest1
        case hG1 =>
          rintro L j h9 hi hj hne
          obtain ⟨g1, _⟩ := mem_ready.1 hi
          obtain ⟨g2, oj, hoj, hall⟩ := mem_ready.1 hj
          have n9 : j ≠ 11 := fun e => by
            subst e
            cases hoj
            exact getD_clash g1 (hall { on := 1, ground := .phase } (by simp) (by rfl))
          exact (getD_set_ne true n9).trans h9
        case hy1 =>
          rintro X ⟨L, h9, h⟩
          rw [HS.out] at h
          have c3 := h.1 h9
          clear h
          go_simp
        have s2 := (HIND.out 1 (by decide) _ _).2 s1
        clear s1
        try simp only [Act.put, List.setIfInBounds_toArray, List.set_cons_zero, List.set_cons_succ]
        refine anyL_take (i := 2) (oi := { dst := some 33, op := _, type := _, pos := _, after := _, guard := _ }) (v := .pointer (some ⟨xb, xo, none⟩)) rfl (by kernel_rfl) (by kernel_rfl) (by kernel_rfl) (fun _ _ _ h => h) (HIND.out 2 (by decide)) (fun _ => True) (fun _ _ _ _ _ _ => trivial) trivial (Or.inl ⟨by rfl, ?hy2⟩) s2 ?rest2
        case hy2 =>
          rintro X _
          go_simp
        have s3 := (HIND.out 2 (by decide) _ _).2 s2
        clear s2
        try simp only [Act.put, List.setIfInBounds_toArray, List.set_cons_zero, List.set_cons_succ]
        refine anyL_take (i := 3) (oi := { dst := some 34, op := _, type := _, pos := _, after := _, guard := _ }) (v := .pointer (some ⟨xb, xo, none⟩)) rfl (by kernel_rfl) (by kernel_rfl) (by kernel_rfl) (fun _ _ _ h => h) (HIND.out 3 (by decide)) (fun _ => True) (fun _ _ _ _ _ _ => trivial) trivial (Or.inl ⟨by rfl, ?hy3⟩) s3 ?rest3
        case hy3 =>
          rintro X _
          go_simp
        have s4 := (HIND.out 3 (by decide) _ _).2 s3
        clear s3
        try simp only [Act.put, List.setIfInBounds_toArray, List.set_cons_zero, List.set_cons_succ]
        refine anyL_take (i := 4) (oi := { dst := some 35, op := _, type := _, pos := _, after := _, guard := _ }) (v := x.val) rfl (by kernel_rfl) (by kernel_rfl) (by kernel_rfl) (fun _ _ _ h => h) (HIND.out 4 (by decide)) (fun _ => True) (fun _ _ _ _ _ _ => trivial) trivial (Or.inl ⟨by rfl, ?hy4⟩) s4 ?rest4
        case hy4 =>
          rintro X ⟨L, _, h⟩
          rw [HS.out] at h
          obtain ⟨_, c0, c1, c2, c3⟩ := h
          go_simp
        have s5 := (HIND.out 4 (by decide) _ _).2 s4
        clear s4
        try simp only [Act.put, List.setIfInBounds_toArray, List.set_cons_zero, List.set_cons_succ]
        refine anyL_take (i := 5) (oi := { dst := some 36, op := _, type := _, pos := _, after := _, guard := _ }) (v := .int .i64 us.length) rfl (by kernel_rfl) (by kernel_rfl) (by kernel_rfl) (fun _ _ _ h => h) (HIND.out 5 (by decide)) (fun _ => True) (fun _ _ _ _ _ _ => trivial) trivial (Or.inl ⟨by rfl, ?hy5⟩) s5 ?rest5
        case hy5 =>
          rintro X _
          go_simp
        have s6 := (HIND.out 5 (by decide) _ _).2 s5
        clear s5
        try simp only [Act.put, List.setIfInBounds_toArray, List.set_cons_zero, List.set_cons_succ]
        refine anyL_step (i := 6) (o := { dst := some 37, op := _, type := _, pos := _, after := _, guard := _ }) rfl (by kernel_rfl) (by rfl) (fun K hK => ?_)
        go_simp
        have s7 := (HIND.out 6 (by decide) _ _).2 (SK.out _ _ (wd.alloc (.cells #[.int .i64 0, .int .i64 0, .slice none 0 0, .slice none 0 0] 30)) s6 (Below.heap_alloc _ _ _ hlT) (Below.heap_alloc _ _ _ hlX))
        refine hK.out _ _ s7 ?_
        clear s6 hK K
        try simp only [Act.put, List.setIfInBounds_toArray, List.set_cons_zero, List.set_cons_succ]
        refine anyL_step (i := 7) (o := { dst := some 38, op := _, type := _, pos := _, after := _, guard := _ }) rfl (by kernel_rfl) (by rfl) (fun K hK => ?_)
        refine wp_append_lies _ _ _ 28 (by rfl) Bk 30 i0 _ 4 64 Tryd.underlying28 HI.out HZ0.out HZ1.out HZ2.out (by rfl) (by decide) (.slice va us.length vc) us.length (us.flatMap coE) (by rfl) (HOWN.out.alloc _) ⟨wd.heap.size, 0, none⟩ 1 1 [.int .i64 0, .int .i64 0, .slice none 0 0, .slice none 0 0] (by rfl) (by rfl) (World.news_of_block (heap_alloc_new wd _)) (one4 _ _ _ _ _ _ _ _) (by decide) (by unfold maxLen; have := LEN.out; omega) (by have := LEN.out; omega) (Nat.le_trans HBK.out (by simp)) _ rfl ?_
        intro g cap w2 hown2 hgr2 hat2 hlt2
        have HO2 := Lib.hid hown2
        have HG2 := Lib.hid hgr2
        have HA2 := Lib.hid hat2
        have kT : w2.heap[T]? = (wd.alloc (.cells #[.int .i64 0, .int .i64 0, .slice none 0 0, .slice none 0 0] 30)).heap[T]? := hgr2.block T (by simp; omega) (fun e => HTO.out e.symm)
        have kX : w2.heap[xb]? = (wd.alloc (.cells #[.int .i64 0, .int .i64 0, .slice none 0 0, .slice none 0 0] 30)).heap[xb]? := hgr2.block xb (by simp; omega) (fun e => HXO.out e.symm)
        have HGT := Lib.hid (show g ≠ T from fun e => by
          rcases hat2 with h | h
          · exact HTO.out (by rw [h, e])
          · simp at h; omega)
        have HGX := Lib.hid (show g ≠ xb from fun e => by
          rcases hat2 with h | h
          · exact HXO.out (by rw [h, e])
          · simp at h; omega)
        have s8 := (HIND.out 7 (by decide) _ _).2 (SK.out _ _ w2 s7 kT kX)
        have kT0 : w2.heap[T]? = wd.heap[T]? := kT.trans (Below.heap_alloc _ _ _ hlT)
        have y4 : w2.cell? ⟨T, 3, none⟩ = some (.slice va us.length vc) := (World.cell?_of_block (a := ⟨T, 3, none⟩) kT0).trans y3
        have f4 : w2.frozen? ⟨T, 3, none⟩ = false := by simp [World.frozen?, kT0, HTB.out]
        have room : ∀ j, j < 4 → (∃ v, w2.cell? ⟨g, us.length * 4 + j, none⟩ = some v) ∧ w2.frozen? ⟨g, us.length * 4 + j, none⟩ = false := fun j hj => by
          rcases hown2.2 with ⟨hc, _⟩ | ⟨g', cap', cur, hv, _, hg, hn, _, hs, _⟩
          · cases hc
          · injection hv with hv1 _ hv2
            injection hv1 with hv1
            injection hv1 with hv1
            subst hv1 hv2
            have hlt : us.length * 4 + j < cur.size := by omega
            exact ⟨⟨cur[us.length * 4 + j], by rw [cell_of_row _ _ _ _ _ _ hg, Array.getElem?_eq_getElem hlt]⟩, by simp [World.frozen?, hg]⟩
        obtain ⟨⟨v0, x0⟩, z0⟩ := room 0 (by omega)
        obtain ⟨⟨v1, x1⟩, z1⟩ := room 1 (by omega)
        obtain ⟨⟨v2, x2⟩, z2⟩ := room 2 (by omega)
        obtain ⟨⟨v3, x3⟩, z3⟩ := room 3 (by omega)
        rw [Nat.add_zero] at x0 z0
        refine hK.out _ _ s8 ?_
        clear s7 hK K hown2 hgr2 hat2 kT kX kT0 room
        try simp only [Act.put, List.setIfInBounds_toArray, List.set_cons_zero, List.set_cons_succ]
        have hix0 : (0 : Int) ≤ us.length := by omega
        have hix1 : (us.length : Int) < (us.length : Int) + 1 := by omega
        have hix2 : ¬ ((us.length : Int) + 1 ≤ us.length) := by omega
        refine anyL_take (i := 8) (oi := { dst := some 39, op := _, type := _, pos := _, after := _, guard := _ }) (v := .pointer (some ⟨g, us.length * 4, none⟩)) rfl (by kernel_rfl) (by kernel_rfl) (by kernel_rfl) (fun _ _ _ h => h) (HIND.out 8 (by decide)) (fun _ => True) (fun _ _ _ _ _ _ => trivial) trivial (Or.inl ⟨by rfl, ?hy8⟩) s8 ?rest8
        case hy8 =>
          rintro X _
          go_simp
        have s9 := (HIND.out 8 (by decide) _ _).2 s8
        clear s8
        try simp only [Act.put, List.setIfInBounds_toArray, List.set_cons_zero, List.set_cons_succ]
        clear hix0 hix1 hix2
        refine anyL_take (i := 10) (oi := { dst := some 40, op := _, type := _, pos := _, after := _, guard := _ }) (v := .pointer (some ⟨T, 3, none⟩)) rfl (by kernel_rfl) (by kernel_rfl) (by kernel_rfl) (fun _ _ _ h => h) (HIND.out 10 (by decide)) (fun _ => True) (fun _ _ _ _ _ _ => trivial) trivial (Or.inl ⟨by rfl, ?hy10⟩) s9 ?rest10
        case hy10 =>
          rintro X _
          go_simp
        have s10 := (HIND.out 10 (by decide) _ _).2 s9
        clear s9
        try simp only [Act.put, List.setIfInBounds_toArray, List.set_cons_zero, List.set_cons_succ]
        have keepX := Lib.hid (show ∀ X' : World, X'.heap[xb]? = w2.heap[xb]? → X'.cell? ⟨xb, xo, none⟩ = some (.int .i64 x.k) ∧ X'.cell? ⟨xb, xo + 1, none⟩ = some (.int .i64 x.v) ∧ X'.cell? ⟨xb, xo + 2, none⟩ = some (.slice x.da x.ds.length x.dc) ∧ X'.cell? ⟨xb, xo + 3, none⟩ = some (.slice x.a x.ks.length x.cap) from fun X' e => by
          have h := s10
          rw [HS.out] at h
          obtain ⟨_, c0, c1, c2, c3⟩ := h
          exact ⟨(World.cell?_of_block (a := ⟨xb, xo, none⟩) e).trans c0, (World.cell?_of_block (a := ⟨xb, xo + 1, none⟩) e).trans c1, (World.cell?_of_block (a := ⟨xb, xo + 2, none⟩) e).trans c2, (World.cell?_of_block (a := ⟨xb, xo + 3, none⟩) e).trans c3⟩)
        refine anyL_two (i := 9) (j := 11) (oi := { dst := none, op := _, type := _, pos := _, after := _, guard := _ }) (oj := { dst := none, op := _, type := _, pos := _, after := _, guard := _ }) rfl rfl (by kernel_rfl) (by rfl) (by rfl) (fun K hK => ?_) (fun K hK => ?_)
        · go_simp
          have hkT := setRow_far g T (fun e => HGT.out e.symm) (coE x) w2 (us.length * 4)
          have hkX := setRow_far g xb (fun e => HGX.out e.symm) (coE x) w2 (us.length * 4)
          have sM := SK.out _ _ (setRow w2 g (us.length * 4) (coE x)) ((HIND.out 9 (by decide) _ _).2 s10) hkT hkX
          rw [setRow_four] at sM
          refine hK.out _ _ sM ?_
          clear hkT hkX sM hK K x0 x1 x2 x3 z0 z1 z2 z3
          try simp only [Act.put, List.setIfInBounds_toArray, List.set_cons_zero, List.set_cons_succ]
          refine anyL_step (i := 11) (o := { dst := none, op := _, type := _, pos := _, after := _, guard := _ }) rfl (by kernel_rfl) (by rfl) (fun K hK => ?_)
          have y5 : (setRow w2 g (us.length * 4) (coE x)).cell? ⟨T, 3, none⟩ = some (.slice va us.length vc) := (World.cell?_of_block (a := ⟨T, 3, none⟩) (setRow_far g T (fun e => HGT.out e.symm) _ _ _)).trans y4
          have f5 : (setRow w2 g (us.length * 4) (coE x)).frozen? ⟨T, 3, none⟩ = false := by
            have := setRow_far g T (fun e => HGT.out e.symm) (coE x) w2 (us.length * 4)
            simp only [World.frozen?] at f4 ⊢
            rw [this]; exact f4
          rw [setRow_four] at y5 f5
          have hE1 : _ ∧ _ ∧ _ ∧ _ := keepX.out _ ((Below.heap_setCell (setRow w2 g (us.length * 4) (coE x)) ⟨T, 3, none⟩ (.slice (some ⟨g, 0, none⟩) (us.length + 1) cap) xb HXT.out).trans (setRow_far g xb (fun e => HGX.out e.symm) _ _ _))
          rw [setRow_four] at hE1
          go_simp
          refine hK.out _ _ (by rw [HS.out]; exact ⟨fun e => (by cases e), hE1⟩) ?_
          clear hK K y5 f5
          refine anyL_done (by kernel_rfl) ?_ _
          have HAF := Lib.hid (appF1 w2 g T us.length x (.slice (some ⟨g, 0, none⟩) (us.length + 1) cap) HGT.out)
          rw [setRow_four] at HAF
          go_wp2_with fail
          go_roundw
          case rel => exact rs_next HA.out HERS.out hlt HEK.out HTR.out HTB9.out HG5.out (HQ.out.trans HWD.out) (OX.out.grow HWD.out) HXB.out HBS.out HBW.out HO2.out HG2.out HA2.out HAF.out
          case measure => simp [intOf]; omega
        · go_simp
          have hE2 := keepX.out _ (Below.heap_setCell w2 ⟨T, 3, none⟩ (.slice (some ⟨g, 0, none⟩) (us.length + 1) cap) xb HXT.out)
          refine hK.out _ _ (by rw [HS.out]; exact ⟨fun e => (by cases e), hE2⟩) ?_
          clear hK K y4 f4 hE2
          try simp only [Act.put, List.setIfInBounds_toArray, List.set_cons_zero, List.set_cons_succ]
          refine anyL_step (i := 9) (o := { dst := none, op := _, type := _, pos := _, after := _, guard := _ }) rfl (by kernel_rfl) (by rfl) (fun K hK => ?_)
          have hx : ∀ o, (w2.setCell ⟨T, 3, none⟩ (.slice (some ⟨g, 0, none⟩) (us.length + 1) cap)).cell? ⟨g, o, none⟩ = w2.cell? ⟨g, o, none⟩ := fun o => World.cell?_setCell_other _ _ _ _ (fun e => HGT.out (by injection e with e; exact e.symm))
          have hf : ∀ o, (w2.setCell ⟨T, 3, none⟩ (.slice (some ⟨g, 0, none⟩) (us.length + 1) cap)).frozen? ⟨g, o, none⟩ = w2.frozen? ⟨g, o, none⟩ := fun o => by simp only [World.frozen?]; rw [Below.heap_setCell _ _ _ _ HGT.out]
          have x0' := (hx _).trans x0
          have x1' := (hx _).trans x1
          have x2' := (hx _).trans x2
          have x3' := (hx _).trans x3
          have z0' := (hf _).trans z0
          have z1' := (hf _).trans z1
          have z2' := (hf _).trans z2
          have z3' := (hf _).trans z3
          clear x0 x1 x2 x3 z0 z1 z2 z3 hx hf
          have hE3 := keepX.out _ ((setRow_far g xb (fun e => HGX.out e.symm) (coE x) (w2.setCell ⟨T, 3, none⟩ (.slice (some ⟨g, 0, none⟩) (us.length + 1) cap)) (us.length * 4)).trans (Below.heap_setCell w2 ⟨T, 3, none⟩ (.slice (some ⟨g, 0, none⟩) (us.length + 1) cap) xb HXT.out))
          rw [setRow_four] at hE3
          go_simp
          refine hK.out _ _ (by rw [HS.out]; exact ⟨fun e => (by cases e), hE3⟩) ?_
          clear hK K x0' x1' x2' x3' z0' z1' z2' z3'
          refine anyL_done (by kernel_rfl) ?_ _
          have HAF := Lib.hid (appF2 w2 g T us.length x (.slice (some ⟨g, 0, none⟩) (us.length + 1) cap) HGT.out)
          rw [setRow_four] at HAF
          go_wp2_with fail
          go_roundw
          case rel => exact rs_next HA.out HERS.out hlt HEK.out HTR.out HTB9.out HG5.out (HQ.out.trans HWD.out) (OX.out.grow HWD.out) HXB.out HBS.out HBW.out HO2.out HG2.out HA2.out HAF.out
          case measure => simp [intOf]; omega
    · have hall : us.length = u.ks.length := by omega
      obtain ⟨rs, hrs⟩ : ∃ rs, rs = us.map LK.co := ⟨_, rfl⟩
      have HER := Lib.hid (show u.co.er = if okC (erN u.k u.v u.ds rs) = true then some (erN u.k u.v u.ds rs) else none by
        have := er_kids (t := u.co) (rs := rs) (by rw [hrs, u.co_len]; simp [hall]) (fun i h1 h2 => by
          have h3 : i < us.length := by rw [u.co_len] at h1; omega
          have := HERS.out i h3 (by omega)
          rw [u.co_kid i (by omega), this]
          congr 1
          simp [hrs])
        rw [u.co_k, u.co_v, u.co_ds] at this
        exact this)
      have HOKS := Lib.hid (show ∀ i (h : i < us.length), okC us[i].co = true from fun i h => er_ok (HERS.out i h (by omega)))
      obtain ⟨⟨ok1, ok2, ok3⟩, _⟩ := (LK.ok_iff _).1 A5.out.2
      have OXX : (LK.mk u.k u.v u.da u.dc u.ds va vc us).Ok wr := (LK.ok_iff _).2 ⟨⟨ok1, ok2, ok3⟩, HA.out.done⟩
      have FX := Lib.hid (show coAt wr T 0 (LK.mk u.k u.v u.da u.dc u.ds va vc us) from ⟨fun j v hv => by
        rw [cell_of_row _ _ _ _ _ _ hb2, Nat.zero_add]
        have : (#[.int .i64 u.k, .int .i64 u.v, .slice u.da u.ds.length u.dc, .slice va us.length vc] : Array Value).toList = coE (LK.mk u.k u.v u.da u.dc u.ds va vc us) := rfl
        rw [← Array.getElem?_toList, this]
        exact hv, OXX⟩)
      have BLX := Lib.hid (show ∀ y ∈ (LK.mk u.k u.v u.da u.dc u.ds va vc us).bl, y ∈ u.bl ∨ w.heap.size ≤ y from fun y hy => by
        rw [LK.bl_eq] at hy
        rcases List.mem_append.1 hy with hy | hy
        · exact .inl (by rw [LK.bl_eq]; exact List.mem_append.2 (.inl hy))
        · have hy' : y ∈ nbl LK.bl va us := hy
          by_cases hne : us = []
          · subst hne; simp [nbl] at hy'
          · rcases HA.out.done.2.2 with e | ⟨g, o', e, _⟩
            · exact absurd e hne
            · have hge := HA.out.mem e
              subst e
              rw [nb_ne hne] at hy'
              rcases List.mem_cons.1 hy' with rfl | hy'
              · exact .inr (by have := HBW.out; omega)
              · obtain ⟨z, hz, hzy⟩ := List.mem_flatMap.1 hy'
                exact (HBS.out z hz y hzy).2)
      have KN := Lib.hid (impl_erasedNode (LK.mk u.k u.v u.da u.dc u.ds va vc us) wr T 0 (.pointer (some ⟨b, o, none⟩)) FX.out (by
        have := headC_kids HH.out
        exact ⟨fun e => hall.trans (this.1 e), fun e => hall.trans (this.2 e)⟩) HOKS.out)
      have HRS := Lib.hid (show erN (LK.mk u.k u.v u.da u.dc u.ds va vc us).k (LK.mk u.k u.v u.da u.dc u.ds va vc us).v (LK.mk u.k u.v u.da u.dc u.ds va vc us).ds ((LK.mk u.k u.v u.da u.dc u.ds va vc us).ks.map LK.co) = erN u.k u.v u.ds rs by rw [hrs]; rfl)
      have q0 : (0 : Int) ≤ us.length := by omega
      have q1' : ¬ ((us.length : Int) < u.ks.length) := by omega
      clear hrs hle hlt ok1 ok2 ok3 OXX p0 p1 p2 p3 hb2
      go_wp2_with fail
      refine KN.out.mono ?_
      rintro e w3 ⟨b', o', y, rfl, hy, hyc, g3, hbl⟩
      have HYC := Lib.hid (hyc.trans HRS.out)
      have AY := Lib.hid hy
      have G3 := Lib.hid (HG5.out.trans g3)
      have PB := Lib.hid (show ∀ z, (z = b' ∨ z ∈ y.bl) → z ∈ u.bl ∨ w.heap.size ≤ z from fun z hz => by
        rcases hbl z hz with h1 | h1 | h1
        · exact .inr (by have := HTB9.out; omega)
        · exact BLX.out z h1
        · exact .inr (by have := HG5.out.size; omega))
      have KV0 := impl_validCo y w3 hy.2 (TB.out.grow G3.out)
      rw [HYC.out] at KV0
      obtain ⟨y0, y1, y2, y3⟩ := hy.c
      clear hy hyc hbl g3 KN
      cases hv : okC (erN u.k u.v u.ds rs) with
      | false =>
        rw [hv] at KV0
        have KV := Lib.hid KV0
        have E := Lib.hid (show u.co.er = none by rw [HER.out, hv]; rfl)
        clear KV0 hv
        go_wp2_with fail
        refine KV.out.mono ?_
        rintro e w4 ⟨rfl, g4⟩
        have F := Lib.hid (show RsP w u (.returned (.pointer none)) w4 from ⟨none, rfl, G3.out.trans g4, .inl ⟨E.out, rfl⟩⟩)
        clear g4 y0 y1 y2 y3
        go_wp2_with fail
        go_ret
        exact F.out
      | true =>
        rw [hv] at KV0
        have KV := Lib.hid KV0
        have E := Lib.hid (show u.co.er = some y.co by rw [HER.out, if_pos hv, HYC.out])
        clear KV0 hv
        go_wp2_with fail
        refine KV.out.mono ?_
        rintro e w4 ⟨rfl, g4⟩
        have F := Lib.hid (show RsP w u (.returned (.pointer (some ⟨b', o', none⟩))) w4 from ⟨_, rfl, G3.out.trans g4, .inr ⟨b', o', y, rfl, AY.out.grow g4, E.out, PB.out⟩⟩)
        clear g4 y0 y1 y2 y3
        go_wp2_with fail
        go_ret
        exact F.out

theorem rs_all (u : LK) : KRs u := by
  refine LK.ind (P := KRs) (fun k v da dc ds a c ks ih => ?_) u
  exact rs_of (.mk k v da dc ds a c ks) ih

/-- The code and the core term that EraseCore gives back. -/
def esCd (t : Co) : Int := if closC t = true then (if t.er.isSome = true then 0 else 4) else 1
def esRs (t : Co) : Co := if closC t = true then t.er.getD zeC else zeC
def EsP (w : World) (t : Co) (e : Ending) (w' : World) : Prop := ∃ x : LK, e = .returned (.tuple #[x.val, .int .i64 (esCd t)]) ∧ x.co = esRs t ∧ x.New w.heap.size w' ∧ Gw w w'
theorem esCd_no {t : Co} (h : closC t = false) : esCd t = 1 ∧ esRs t = zeC := by unfold esCd esRs; rw [h]; exact ⟨rfl, rfl⟩
theorem esCd_some {t r : Co} (h : closC t = true) (hr : t.er = some r) : esCd t = 0 ∧ esRs t = r := by unfold esCd esRs; rw [if_pos h, if_pos h, hr]; exact ⟨rfl, rfl⟩
theorem esCd_none {t : Co} (h : closC t = true) (hr : t.er = none) : esCd t = 4 ∧ esRs t = zeC := by unfold esCd esRs; rw [if_pos h, if_pos h, hr]; exact ⟨rfl, rfl⟩
theorem by_fourM {w w2 : World} {n : Nat} (h : Gw w w2) {x0 x1 x2 x3 : Value} : Gw w ((((w2.setCell ⟨w.heap.size + n, 0, none⟩ x0).setCell ⟨w.heap.size + n, 1, none⟩ x1).setCell ⟨w.heap.size + n, 2, none⟩ x2).setCell ⟨w.heap.size + n, 3, none⟩ x3) := by_fourN h

set_option maxRecDepth 100000 in
set_option maxHeartbeats 1000000 in
theorem spec_eraseCo (u : LK) (w : World) (h : u.Ok w) : Calls Tryd.prog 41 #[u.val] w (EsP w u.co) := by
  have hA := coAt.new (e := 30) h
  have gR := ((Gw.refl w).alloc (u.obj 30)).alloc (.cells #[.int .i64 0, .int .i64 0, .slice none 0 0, .slice none 0 0] 30)
  have hR := heap_alloc_new (w.alloc (u.obj 30)) (.cells #[.int .i64 0, .int .i64 0, .slice none 0 0, .slice none 0 0] 30)
  rw [World.size_alloc] at hR
  have HA := Lib.hid (hA.grow ((Gw.refl (w.alloc (u.obj 30))).alloc (.cells #[.int .i64 0, .int .i64 0, .slice none 0 0, .slice none 0 0] 30)))
  have G := Lib.hid gR
  have HR := Lib.hid hR
  clear h hA gR hR
  go_enter Tryd.func41, Tryd.ntmps41
  go_upto_region 1 with (fail)
  generalize ((w.alloc (.cells #[.int .i64 u.k, .int .i64 u.v, .slice u.da u.ds.length u.dc, .slice u.a u.ks.length u.cap] 30)).alloc (.cells #[.int .i64 0, .int .i64 0, .slice none 0 0, .slice none 0 0] 30)) = w1 at *
  have KO := spec_l06Closed u w1 _ _ HA.out
  have HR1 := Lib.hid (Array.getElem?_eq_some_iff.1 HR.out).1
  cases hcl : closC u.co with
  | false =>
    rw [hcl] at KO
    have KOO := Lib.hid KO
    have C := Lib.hid (esCd_no hcl)
    clear KO hcl
    go_wp2_with fail
    refine KOO.out.mono ?_
    rintro e w2 ⟨rfl, g2⟩
    have R2 := Lib.hid ((g2.block _ HR1.out).trans HR.out)
    have G2 := Lib.hid (G.out.trans g2)
    clear g2 KOO
    obtain ⟨r0, r1, r2, r3, rf0, rf1, rf2, rf3⟩ := zero_atP R2.out
    go_wp2_with fail
    refine bodyPost_ret (v := .tuple #[zeK.val, .int .i64 1]) (by simp [results, Tryd.results41, go_sem, r0, r1, r2, r3]; exact ⟨rfl, rfl, ⟨rfl, rfl, rfl⟩, rfl, rfl, rfl⟩) rfl ⟨zeK, by rw [C.out.1], by rw [C.out.2]; rfl, zeK_new _ _, by_four G2.out⟩
  | true =>
    rw [hcl] at KO
    have KOO := Lib.hid KO
    have HCL := Lib.hid hcl
    have CC := Lib.hid (closC_cl hcl)
    clear KO hcl
    go_wp2_with fail
    refine KOO.out.mono ?_
    rintro e w2 ⟨rfl, g2⟩
    have R2 := Lib.hid ((g2.block _ HR1.out).trans HR.out)
    have G2 := Lib.hid (G.out.trans g2)
    have L2 := Lib.hid (Nat.lt_of_lt_of_le HR1.out g2.size)
    have GD := Lib.hid (okC_good CC.out.1)
    have KE := Lib.hid (erm_all u w2 _ _ 0 (HA.out.grow g2) GD.out.1 CC.out.2 (Int.le_refl _) (by have := GD.out.2.1; omega))
    clear g2 KOO
    go_wp2_with fail
    refine KE.out.mono ?_
    rintro e w3 ⟨x, c, rfl, hc, hnew, g3⟩
    have F := Lib.hid (show c = esCd u.co ∧ x.co = esRs u.co by
      rcases hc with ⟨h1, h2⟩ | ⟨h1, h2, h3⟩
      · obtain ⟨e1, e2⟩ := esCd_some HCL.out h1
        exact ⟨h2.trans e1.symm, e2.symm⟩
      · obtain ⟨e1, e2⟩ := esCd_none HCL.out h1
        exact ⟨h2.trans e1.symm, h3.trans e2.symm⟩)
    have NX := Lib.hid hnew
    have R3 := Lib.hid ((g3.block _ L2.out).trans R2.out)
    have G3 := Lib.hid (G2.out.trans g3)
    clear hc hnew g3 KE
    obtain ⟨r0, r1, r2, r3, rf0, rf1, rf2, rf3⟩ := zero_atP R3.out
    go_wp2_with fail
    refine bodyPost_ret (v := .tuple #[x.val, .int .i64 c]) (by simp [results, Tryd.results41, go_sem, r0, r1, r2, r3]) rfl ⟨x, by rw [F.out.1], F.out.2, ?_, by_four G3.out⟩
    refine (gNew.same coFr NX.out fun y hy => ?_).mono (by have := L2.out; omega)
    have := (NX.out.2.2 y hy).1
    have := L2.out
    rw [Below.heap_setCell _ _ _ _ (by simp; omega), Below.heap_setCell _ _ _ _ (by simp; omega), Below.heap_setCell _ _ _ _ (by simp; omega), Below.heap_setCell _ _ _ _ (by simp; omega)]

set_option maxRecDepth 100000 in
set_option maxHeartbeats 1000000 in
theorem impl_newResult (u : LK) (w : World) (b o : Nat) (h : coAt w b o u) (hok : u.co.all headC = true) (hT : KTbl w) : Calls Tryd.prog 83 #[.func (.func 82) #[] #[], .pointer (some ⟨b, o, none⟩)] w (ErP w u.co) := by
  have gR := (Gw.refl w).alloc (.cells #[.int .i64 0, .int .i64 0, .slice none 0 0, .slice none 0 0] 30)
  have HR := Lib.hid (heap_alloc_new w (.cells #[.int .i64 0, .int .i64 0, .slice none 0 0, .slice none 0 0] 30))
  have G := Lib.hid gR
  have KR := Lib.hid (rs_all u _ b o (h.grow gR) hok (hT.grow gR))
  clear h hok hT gR
  go_enter Tryd.func83, Tryd.ntmps83
  go_upto_region 1 with (fail)
  generalize w.alloc (.cells #[.int .i64 0, .int .i64 0, .slice none 0 0, .slice none 0 0] 30) = w1 at *
  have HR1 := Lib.hid (Array.getElem?_eq_some_iff.1 HR.out).1
  go_wp2_with fail
  refine KR.out.mono ?_
  rintro e w2 ⟨p, rfl, g2, hc⟩
  have R2 := Lib.hid ((g2.block _ HR1.out).trans HR.out)
  have G2 := Lib.hid (G.out.trans g2)
  have L2 := Lib.hid (Nat.lt_of_lt_of_le HR1.out g2.size)
  rcases hc with ⟨hk, rfl⟩ | ⟨xb, xo, x, rfl, hx, hk, hbl⟩
  · have E := Lib.hid hk
    clear hk g2 KR
    obtain ⟨r0, r1, r2, r3, rf0, rf1, rf2, rf3⟩ := zero_atP R2.out
    go_wp2_with fail
    refine bodyPost_ret (v := .tuple #[zeK.val, .int .i64 4]) (by simp [results, Tryd.results83, go_sem, r0, r1, r2, r3]; exact ⟨rfl, rfl, ⟨rfl, rfl, rfl⟩, rfl, rfl, rfl⟩) rfl ⟨zeK, 4, rfl, .inr ⟨E.out, rfl, rfl⟩, zeK_new _ _, by_fourP G2.out⟩
  · have E := Lib.hid hk
    have KC := Lib.hid (cp_all x w2 xb xo hx (okC_good (er_ok hk)).1)
    clear hk hx hbl g2 KR
    go_wp2_with fail
    refine KC.out.mono ?_
    rintro e w3 ⟨y, rfl, hy, hnew, g3⟩
    have HY := Lib.hid hy
    have NY := Lib.hid hnew
    have R3 := Lib.hid ((g3.block _ L2.out).trans R2.out)
    have G3 := Lib.hid (G2.out.trans g3)
    clear hy hnew g3 KC
    obtain ⟨r0, r1, r2, r3, rf0, rf1, rf2, rf3⟩ := zero_atP R3.out
    go_wp2_with fail
    refine bodyPost_ret (v := .tuple #[y.val, .int .i64 0]) (by simp [results, Tryd.results83, go_sem, r0, r1, r2, r3]) rfl ⟨y, 0, rfl, .inl ⟨by rw [E.out, HY.out], rfl⟩, ?_, by_fourP G3.out⟩
    refine (gNew.same coFr NY.out fun z hz => ?_).mono (by have := L2.out; omega)
    have := (NY.out.2.2 z hz).1
    have := L2.out
    rw [Below.heap_setCell _ _ _ _ (by simp; omega), Below.heap_setCell _ _ _ _ (by simp; omega), Below.heap_setCell _ _ _ _ (by simp; omega), Below.heap_setCell _ _ _ _ (by simp; omega)]

set_option maxRecDepth 100000 in
set_option maxHeartbeats 1000000 in
theorem impl_eraseCo (u : LK) (w : World) (h : u.Ok w) (hT : KTbl w) : Calls Tryd.prog 42 #[u.val] w (EsP w u.co) := by
  have hA := coAt.new (e := 30) h
  have gR := ((Gw.refl w).alloc (u.obj 30)).alloc (.cells #[.int .i64 0, .int .i64 0, .slice none 0 0, .slice none 0 0] 30)
  have hR := heap_alloc_new (w.alloc (u.obj 30)) (.cells #[.int .i64 0, .int .i64 0, .slice none 0 0, .slice none 0 0] 30)
  rw [World.size_alloc] at hR
  have HA := Lib.hid (hA.grow ((Gw.refl (w.alloc (u.obj 30))).alloc (.cells #[.int .i64 0, .int .i64 0, .slice none 0 0, .slice none 0 0] 30)))
  have G := Lib.hid gR
  have HR := Lib.hid hR
  have TB := Lib.hid (hT.grow gR)
  clear h hA gR hR hT
  go_enter Tryd.func42, Tryd.ntmps42
  go_upto_region 1 with (fail)
  generalize ((w.alloc (.cells #[.int .i64 u.k, .int .i64 u.v, .slice u.da u.ds.length u.dc, .slice u.a u.ks.length u.cap] 30)).alloc (.cells #[.int .i64 0, .int .i64 0, .slice none 0 0, .slice none 0 0] 30)) = w1 at *
  have KO := impl_closed u w1 HA.out.2 TB.out
  have HR1 := Lib.hid (Array.getElem?_eq_some_iff.1 HR.out).1
  obtain ⟨p0, p1, p2, p3⟩ := HA.out.c
  simp only [Nat.zero_add] at p1 p2 p3
  cases hcl : closC u.co with
  | false =>
    rw [hcl] at KO
    have KOO := Lib.hid KO
    have C := Lib.hid (esCd_no hcl)
    clear KO hcl
    go_wp2_with fail
    refine KOO.out.mono ?_
    rintro e w2 ⟨rfl, g2⟩
    have R2 := Lib.hid ((g2.block _ HR1.out).trans HR.out)
    have G2 := Lib.hid (G.out.trans g2)
    clear g2 KOO p0 p1 p2 p3
    obtain ⟨r0, r1, r2, r3, rf0, rf1, rf2, rf3⟩ := zero_atP R2.out
    go_wp2_with fail
    refine bodyPost_ret (v := .tuple #[zeK.val, .int .i64 1]) (by simp [results, Tryd.results42, go_sem, r0, r1, r2, r3]; exact ⟨rfl, rfl, ⟨rfl, rfl, rfl⟩, rfl, rfl, rfl⟩) rfl ⟨zeK, by rw [C.out.1], by rw [C.out.2]; rfl, zeK_new _ _, by_four G2.out⟩
  | true =>
    rw [hcl] at KO
    have KOO := Lib.hid KO
    have HCL := Lib.hid hcl
    have CC := Lib.hid (closC_cl hcl)
    clear KO hcl
    go_wp2_with fail
    refine KOO.out.mono ?_
    rintro e w2 ⟨rfl, g2⟩
    have R2 := Lib.hid ((g2.block _ HR1.out).trans HR.out)
    have G2 := Lib.hid (G.out.trans g2)
    have L2 := Lib.hid (Nat.lt_of_lt_of_le HR1.out g2.size)
    have GD := Lib.hid (okC_good CC.out.1)
    have KE := Lib.hid (impl_newResult u w2 _ _ (HA.out.grow g2) GD.out.1 (TB.out.grow g2))
    clear g2 KOO p0 p1 p2 p3
    go_wp2_with fail
    refine KE.out.mono ?_
    rintro e w3 ⟨x, c, rfl, hc, hnew, g3⟩
    have F := Lib.hid (show c = esCd u.co ∧ x.co = esRs u.co by
      rcases hc with ⟨h1, h2⟩ | ⟨h1, h2, h3⟩
      · obtain ⟨e1, e2⟩ := esCd_some HCL.out h1
        exact ⟨h2.trans e1.symm, e2.symm⟩
      · obtain ⟨e1, e2⟩ := esCd_none HCL.out h1
        exact ⟨h2.trans e1.symm, h3.trans e2.symm⟩)
    have NX := Lib.hid hnew
    have R3 := Lib.hid ((g3.block _ L2.out).trans R2.out)
    have G3 := Lib.hid (G2.out.trans g3)
    clear hc hnew g3 KE
    obtain ⟨r0, r1, r2, r3, rf0, rf1, rf2, rf3⟩ := zero_atP R3.out
    go_wp2_with fail
    refine bodyPost_ret (v := .tuple #[x.val, .int .i64 c]) (by simp [results, Tryd.results42, go_sem, r0, r1, r2, r3]) rfl ⟨x, by rw [F.out.1], F.out.2, ?_, by_four G3.out⟩
    refine (gNew.same coFr NX.out fun y hy => ?_).mono (by have := L2.out; omega)
    have := (NX.out.2.2 y hy).1
    have := L2.out
    rw [Below.heap_setCell _ _ _ _ (by simp; omega), Below.heap_setCell _ _ _ _ (by simp; omega), Below.heap_setCell _ _ _ _ (by simp; omega), Below.heap_setCell _ _ _ _ (by simp; omega)]
theorem es_mcn {u : LK} {t : Co} (h : u.co = esRs t) : 1 + u.mcn ≤ 8000000 := by
  rw [mcn_co, h]
  unfold esRs
  by_cases hc : closC t = true
  · rw [if_pos hc]
    cases hr : t.er with
    | none => show 1 + (2 + 0 + 0) ≤ 8000000; decide
    | some r => have := ok_mc (er_ok hr); show 1 + r.mc ≤ 8000000; omega
  · rw [if_neg hc]; show 1 + (2 + 0 + 0) ≤ 8000000; decide

end Go.Proofs.YtfbgkbgoooepmaaDoor.Con
