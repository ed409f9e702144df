/-
  Contracts of the model's l08Contract over all kinds and of l08Inner. Condition: book and term lie in memory, the term is a core term and its references name definitions of the book.
  Contract of the model's IsNormal. Condition: book and term lie in memory.
-/
import Derived.Test.YtfbgkbgoooepmaaDoorCx
import Derived.Test.YtfbgkbgoooepmaaDoorNm
namespace Go.Proofs.YtfbgkbgoooepmaaDoor.Con
open Go.RowKit
set_option linter.unusedVariables false
attribute [local go_sem ↓] Go.wp_at_zero Go.wp_at_succ

def conC (ts : List Co) (t : Co) : Int × Co :=
  if t.rd = 1 then (vcCd (((t.ks.getD 0 default).ks.getD 0 default).pu (t.ks.getD 1 default) 0), if vcCd (((t.ks.getD 0 default).ks.getD 0 default).pu (t.ks.getD 1 default) 0) = 0 then ((t.ks.getD 0 default).ks.getD 0 default).pu (t.ks.getD 1 default) 0 else zeC)
  else if t.rd = 2 then (0, .mk 2 (opV t.v (t.ks.getD 0 default).v (t.ks.getD 1 default).v) [] [])
  else if t.rd = 3 then (0, chC t (t.ks.getD 0 default).ks) else (0, exC ts t t.ks)
theorem rdF_cases (k : Int) (l : Nat) (k0 v0 k1 : Int) : rdF k l k0 v0 k1 = 0 ∨ (rdF k l k0 v0 k1 = 1 ∧ k = 5 ∧ k0 = 4) ∨ (rdF k l k0 v0 k1 = 2 ∧ k = 3 ∧ k0 = 2 ∧ k1 = 2) ∨ (rdF k l k0 v0 k1 = 3 ∧ (k = 10 ∨ k = 9 ∧ k0 = 8 ∧ v0 < l)) ∨ (rdF k l k0 v0 k1 = 4 ∧ (k = 5 ∨ k = 3 ∨ k = 9 ∨ k = 10) ∧ (k0 = 11 ∨ (k = 3 ∧ k0 = 2 ∧ k1 = 11))) := by
  unfold rdF
  repeat' split
  all_goals simp_all
theorem okC_kid {t : Co} (h : okC t = true) (i : Nat) (hi : i < t.ks.length) : okC t.ks[i] = true := decide_eq_true (by
  obtain ⟨a, b, c⟩ := goodC_kid (okC_good h) i hi
  exact ⟨a, by omega, by omega⟩)
theorem okC_kidK {c : LK} (h : okC c.co = true) (i : Nat) (hi : i < c.ks.length) : okC c.ks[i].co = true := by
  have := okC_kid h i (by rw [c.co_len]; exact hi)
  rwa [c.co_kid i hi] at this
theorem CtP.mono {w : World} {A B : Nat → Prop} {c : Int} {t : Co} {e : Ending} {w' : World} (h : CtP w A c t e w') (hAB : ∀ y, A y → B y) : CtP w B c t e w' := by
  obtain ⟨x, h1, h2, h3, h4, h5⟩ := h
  exact ⟨x, h1, h2, h3, fun y hy => (h4 y hy).imp id (hAB y), h5⟩
theorem lam_len {k v : Int} {ds : List Int} {l : Nat} (h : headC k v ds l = true) (hk : k = 4) : 0 < l := by
  subst hk
  unfold headC at h
  simp only [Bool.and_eq_true] at h
  have h1 := h.1
  unfold inV at h1
  simp only [decide_eq_true_eq] at h1
  have e1 : coLo 4 = 1 := rfl
  omega
theorem klen_le {c : LK} (h : okC c.co = true) : c.ks.length ≤ 400 := by
  have h1 := (okC_good h).2.2
  rw [Co.nn_eq] at h1
  have h2 : ∀ l : List Co, l.length ≤ cnns l := fun l => by
    induction l with
    | nil => simp
    | cons t ts ih => have := t.nn_pos; simp only [cnns, Co.nn.nns, List.length_cons] at ih ⊢; omega
  have := h2 c.co.ks
  rw [c.co_len] at this
  omega
theorem ref_v {n : Int} {k v : Int} {ds : List Int} {l : Nat} (h : refH n k v ds l = true) (hh : headC k v ds l = true) (hk : k = 11) : 0 ≤ v ∧ v < n := by
  subst hk
  unfold refH at h
  rw [Bool.and_eq_true] at h
  have h1 := h.1
  simp at h1
  unfold headC at hh
  simp only [Bool.and_eq_true] at hh
  have h3 := hh.2.2.1
  have h3' : inV v 0 23 = true := h3
  unfold inV at h3'
  simp only [decide_eq_true_eq] at h3'
  omega

theorem spec_contract (u : LB) (c : LK) (w : World) (b bc oc : Nat) (hu : bOk w u) (hB : BoxB w b u) (h : coAt w bc oc c) (ho : okC c.co = true) (hr : c.co.all (refH u.ks.length) = true) (hn : c.co.rd ≠ 0) : Calls Tryd.prog 116 #[.pointer (some ⟨b, 0, none⟩), .pointer (some ⟨bc, oc, none⟩), .int .i64 c.co.rd] w (CtP w (fun y => y ∈ c.bl ∨ y ∈ nbl LK.bl u.a u.ks) (conC u.cs c.co).1 (conC u.cs c.co).2) := by
  have hh := all_hd (okC_good ho).1
  have hR := all_hd hr
  have L := rd_len hh.1
  have hfl := klen_le ho
  have hl0 : 0 < c.ks.length := by
    by_cases h5 : c.k = 5
    · have := L.1 (.inl h5); omega
    by_cases h3 : c.k = 3
    · have := L.1 (.inr h3); omega
    by_cases h9 : c.k = 9
    · exact L.2.1 (.inl h9)
    by_cases h10 : c.k = 10
    · exact L.2.1 (.inr h10)
    exact absurd (rd_no c h5 h3 h9 h10) hn
  obtain ⟨bk, ok, ha, hx0⟩ := kid_zero h hl0
  have E0 : c.co.ks.getD 0 default = c.ks[0].co := by rw [getD_co (show 0 < c.co.ks.length by rw [c.co_len]; exact hl0), c.co_kid 0 hl0]
  have E1 : ∀ h1 : 1 < c.ks.length, c.co.ks.getD 1 default = c.ks[1].co := fun h1 => by rw [getD_co (show 1 < c.co.ks.length by rw [c.co_len]; exact h1), c.co_kid 1 h1]
  have RD := rd_one c hl0
  have KB : ∀ y, y ∈ nbl LK.bl c.ks[0].a c.ks[0].ks → y ∈ c.bl := fun y hy => kid_bl ha 0 hl0 (by rw [LK.bl_eq]; exact List.mem_append.2 (.inr hy))
  rcases rdF_cases c.k c.ds.length c.ks[0].k c.ks[0].v (c.co.ks.getD 1 default).k with e | ⟨e, hk, hk0⟩ | ⟨e, hk, hk0, hk1⟩ | ⟨e, hk⟩ | ⟨e, hk, hk0⟩
  · exact absurd (RD.trans e) hn
  · have hl1 := L.1 (.inl hk)
    have hm := lam_len (hh.2 0 hl0) hk0
    obtain ⟨bl, ol, hb, hy⟩ := kid_zero hx0 hm
    have K := ct_one u c c.ks[0] c.ks[1] w b bc oc bk ok bl ol h hl1 ha hx0 (kid_one h hl1 ha) hm hb c.ks[0].ks[0] hy (okC_kidK (okC_kidK ho 0 hl0) 0 hm) (okC_kidK ho 1 hl1)
    have E00 : (c.ks[0].co.ks.getD 0 default) = c.ks[0].ks[0].co := by rw [getD_co (show 0 < c.ks[0].co.ks.length by rw [LK.co_len]; exact hm), LK.co_kid _ 0 hm]
    have hc : conC u.cs c.co = (vcCd (c.ks[0].ks[0].co.pu c.ks[1].co 0), if vcCd (c.ks[0].ks[0].co.pu c.ks[1].co 0) = 0 then c.ks[0].ks[0].co.pu c.ks[1].co 0 else zeC) := by
      unfold conC
      rw [if_pos (RD.trans e), E0, E1 hl1, E00]
    rw [RD.trans e, hc]
    exact K.mono fun e w' hp => hp.mono fun y hy => hy.elim
  · have hl1 := L.1 (.inr hk)
    have K := ct_two u c c.ks[0] c.ks[1] w b bc oc bk ok h hl1 ha hx0 (kid_one h hl1 ha)
    have hc : conC u.cs c.co = (0, .mk 2 (opV c.v c.ks[0].v c.ks[1].v) [] []) := by
      unfold conC
      rw [RD.trans e, if_neg (by decide), if_pos rfl, E0, E1 hl1, LK.co_v, LK.co_v, LK.co_v]
    rw [RD.trans e, hc]
    exact K.mono fun e w' hp => hp.mono fun y hy => hy.elim
  · have hl8 : (c.ks[0].ks.length) ≤ 1000 := by have := klen_le (okC_kidK ho 0 hl0); omega
    have hv0 : (c.co.ks.getD 0 default).v = c.ks[0].v := by rw [E0, LK.co_v]
    have K := ct_three u c c.ks[0] w b bc oc bk ok h hl0 ha hx0 hh.1 (by
      rw [hv0]
      rcases hk with hk | ⟨h9, h8, hv⟩
      · exact .inl hk
      · exact .inr ⟨h9, (rd_len (hh.2 0 hl0)).2.2 h8, hv⟩) hl8
    have hc : conC u.cs c.co = ((0 : Int), chC c.co (c.ks[0].ks.map LK.co)) := by
      unfold conC
      rw [RD.trans e, if_neg (by decide), if_neg (by decide), if_pos rfl, E0, LK.co_ks]
    rw [RD.trans e, hc]
    exact K.mono fun e w' hp => hp.mono fun y hy => .inl (KB y hy)
  · have hx : exAt c.co < c.ks.length ∧ (c.co.ks.getD (exAt c.co) default).k = 11 := by
      unfold exAt
      rw [E0, LK.co_k]
      by_cases h11 : c.ks[0].k = 11
      · rw [if_pos h11, E0, LK.co_k]; exact ⟨hl0, h11⟩
      · rw [if_neg h11]
        obtain ⟨h3, _, h1⟩ := hk0.resolve_left h11
        exact ⟨L.1 (.inr h3), h1⟩
    have hv : 0 ≤ (c.co.ks.getD (exAt c.co) default).v ∧ (c.co.ks.getD (exAt c.co) default).v < (u.ks.length : Int) := by
      have h1 := hx.2
      rw [getD_co (show exAt c.co < c.co.ks.length by rw [c.co_len]; exact hx.1), c.co_kid _ hx.1] at h1 ⊢
      rw [LK.co_k] at h1
      rw [LK.co_v]
      exact ref_v (hR.2 _ hx.1) (hh.2 _ hx.1) h1
    have K := ct_four u c w b bc oc bk ok hu hB h ha (by omega) hx.1 hv.1 hv.2
    have hc : conC u.cs c.co = (0, exC u.cs c.co (c.ks.map LK.co)) := by
      unfold conC
      rw [RD.trans e, if_neg (by decide), if_neg (by decide), if_neg (by decide), LK.co_ks]
    rw [RD.trans e, hc]
    exact K.mono fun e w' hp => hp.mono fun y hy => by
      rcases hy with hy | hy | hy
      · exact .inl hy
      · exact .inr hy
      · exact .inl (by rw [LK.bl_eq, ha]; exact List.mem_append.2 (.inr hy))

/-- The kind, the code and the contracted term of the leftmost outermost redex. -/
def Co.inr (ts : List Co) : Co → Int × Int × Co
  | .mk k v ds ks => if (Co.mk k v ds ks).rd = 0 then (if (inrs ts ks).1 = 0 then (0, 0, zeC) else ((inrs ts ks).1, (inrs ts ks).2.1, .mk k v ds (inrs ts ks).2.2)) else ((Co.mk k v ds ks).rd, (conC ts (.mk k v ds ks)).1, (conC ts (.mk k v ds ks)).2)
where inrs (ts : List Co) : List Co → Int × Int × List Co
  | [] => (0, 0, [])
  | t :: rest => if (Co.inr ts t).1 = 0 then ((inrs ts rest).1, (inrs ts rest).2.1, t :: (inrs ts rest).2.2) else ((Co.inr ts t).1, (Co.inr ts t).2.1, (Co.inr ts t).2.2 :: rest)
theorem inr_yes {ts : List Co} {t : Co} (h : t.rd ≠ 0) : t.inr ts = (t.rd, (conC ts t).1, (conC ts t).2) := by cases t; rw [Co.inr]; rw [if_neg h]
theorem inr_no {ts : List Co} {t : Co} (h : t.rd = 0) : t.inr ts = if (Co.inr.inrs ts t.ks).1 = 0 then (0, 0, zeC) else ((Co.inr.inrs ts t.ks).1, (Co.inr.inrs ts t.ks).2.1, .mk t.k t.v t.ds (Co.inr.inrs ts t.ks).2.2) := by cases t; rw [Co.inr]; rw [if_pos h]; rfl
theorem inrs_none {ts ks : List Co} (h : ∀ x (hx : x < ks.length), (ks[x].inr ts).1 = 0) : (Co.inr.inrs ts ks).1 = 0 := by
  induction ks with
  | nil => rfl
  | cons t rest ih =>
    have h0 : (Co.inr ts t).1 = 0 := h 0 (by simp)
    rw [Co.inr.inrs, if_pos h0]
    exact ih fun x hx => h (x + 1) (by simpa using hx)
theorem inrs_at {ts ks : List Co} (j : Nat) (hj : j < ks.length) (h : ∀ x (hx : x < ks.length), x < j → (ks[x].inr ts).1 = 0) (hn : (ks[j].inr ts).1 ≠ 0) : Co.inr.inrs ts ks = ((ks[j].inr ts).1, (ks[j].inr ts).2.1, ks.set j (ks[j].inr ts).2.2) := by
  induction ks generalizing j with
  | nil => simp at hj
  | cons t rest ih =>
    cases j with
    | zero =>
      have hn' : ¬ (Co.inr ts t).1 = 0 := hn
      rw [Co.inr.inrs, if_neg hn']; rfl
    | succ j =>
      have h0 : (Co.inr ts t).1 = 0 := h 0 (by simp) (by omega)
      rw [Co.inr.inrs, if_pos h0, ih j (by simpa using hj) (fun x hx hlt => h (x + 1) (by simpa using hx) (by omega)) hn]
      rfl
theorem inr_nm (ts : List Co) (u : LK) : (u.co.inr ts).1 = 0 ↔ u.co.nm = true := by
  refine LK.ind (P := fun u => (u.co.inr ts).1 = 0 ↔ u.co.nm = true) (fun k v da dc ds a cap ks ih => ?_) u
  obtain ⟨c, hc⟩ : ∃ c, c = LK.mk k v da dc ds a cap ks := ⟨_, rfl⟩
  rw [← hc]
  have ih' : ∀ t ∈ c.ks, (t.co.inr ts).1 = 0 ↔ t.co.nm = true := by rw [hc]; exact ih
  rw [Co.nm_eq, Bool.and_eq_true, beq_iff_eq, nms_iff]
  by_cases h : c.co.rd = 0
  · rw [inr_no h]
    constructor
    · intro h0
      refine ⟨h, fun t ht => ?_⟩
      have h1 : (Co.inr.inrs ts c.co.ks).1 = 0 := by
        by_cases h2 : (Co.inr.inrs ts c.co.ks).1 = 0
        · exact h2
        · rw [if_neg h2] at h0; exact h0
      have h3 : ∀ (l : List Co), (Co.inr.inrs ts l).1 = 0 → ∀ t ∈ l, (t.inr ts).1 = 0 := fun l => by
        induction l with
        | nil => intro _ t ht; cases ht
        | cons a rest ihl =>
          intro hl t ht
          rw [Co.inr.inrs] at hl
          by_cases ha : (a.inr ts).1 = 0
          · rw [if_pos ha] at hl
            rcases List.mem_cons.1 ht with rfl | ht
            · exact ha
            · exact ihl hl t ht
          · rw [if_neg ha] at hl; exact absurd hl ha
      have h4 := h3 _ h1 t ht
      rw [LK.co_ks] at ht
      obtain ⟨s, hs, rfl⟩ := List.mem_map.1 ht
      exact (ih' s hs).1 h4
    · rintro ⟨_, h2⟩
      rw [if_pos (inrs_none fun x hx => by
        have hx' : x < c.ks.length := by rw [← c.co_len]; exact hx
        have h3 := h2 c.co.ks[x] (List.getElem_mem hx)
        rw [c.co_kid x hx'] at h3 ⊢
        exact (ih' _ (List.getElem_mem hx')).2 h3)]
  · rw [inr_yes h]
    exact ⟨fun e => absurd e h, fun e => absurd e.1 h⟩

def CopyP (e : TypeId) (w1 wx : World) (T g cap : Nat) (fs : List LK) (row : Array Value) : Prop := w1.heap.size ≤ T ∧ w1.heap.size ≤ g ∧ g ≠ T ∧ wx.heap[T]? = some (.cells row e (0, 0)) ∧ wx.ownsRow w1.heap.size e 4 (.slice (some ⟨g, 0, none⟩) fs.length cap) fs.length (fs.flatMap coE) ∧ Gw w1 wx
def InP (ts : List Co) (t : Co) (w : World) (A : Nat → Prop) (e : Ending) (w' : World) : Prop := ∃ x : LK, e = .returned (.tuple #[x.val, .int .i64 (t.inr ts).1, .int .i64 (t.inr ts).2.1]) ∧ x.Ok w' ∧ x.co = (t.inr ts).2.2 ∧ (∀ y ∈ x.bl, w.heap.size ≤ y ∨ A y) ∧ Gw w w'
def KIn (u : LB) (c : LK) : Prop := ∀ (w : World) (b bc oc : Nat), bOk w u → BoxB w b u → coAt w bc oc c → okC c.co = true → c.co.all (refH u.ks.length) = true → Calls Tryd.prog 86 #[.pointer (some ⟨b, 0, none⟩), .pointer (some ⟨bc, oc, none⟩)] w (InP u.cs c.co w (fun y => y ∈ c.bl ∨ y ∈ nbl LK.bl u.a u.ks))

set_option maxRecDepth 100000 in
set_option maxHeartbeats 1000000 in
theorem kin_yes (u : LB) (c : LK) (w : World) (b bc oc : Nat) (hu : bOk w u) (hB : BoxB w b u) (h : coAt w bc oc c) (ho : okC c.co = true) (hr : c.co.all (refH u.ks.length) = true) (hn : c.co.rd ≠ 0) : Calls Tryd.prog 86 #[.pointer (some ⟨b, 0, none⟩), .pointer (some ⟨bc, oc, none⟩)] w (InP u.cs c.co w (fun y => y ∈ c.bl ∨ y ∈ nbl LK.bl u.a u.ks)) := by
  have hh := all_hd (okC_good ho).1
  have HR := Lib.hid (heap_alloc_new w (.cells #[.int .i64 0, .int .i64 0, .slice none 0 0, .slice none 0 0] 30))
  have GR := Lib.hid ((Gw.refl w).alloc (.cells #[.int .i64 0, .int .i64 0, .slice none 0 0, .slice none 0 0] 30))
  have KKH := Lib.hid (fun (w1 : World) (g : Gw w w1) => spec_l08Kind c w1 bc oc (h.grow g) hh.1 hh.2)
  have KCH := Lib.hid (fun (w1 : World) (g : Gw w w1) => spec_contract u c w1 b bc oc (hu.grow g) (hB.grow g) (h.grow g) ho hr hn)
  have HA := Lib.hid (show ∀ y, (y ∈ c.bl ∨ y ∈ nbl LK.bl u.a u.ks) → y < w.heap.size from fun y hy => hy.elim (ok_bl_lt c w h.2 y) (sl_bl_lt hu y))
  have F := Lib.hid (inr_yes (ts := u.cs) hn)
  obtain ⟨kd, hkd⟩ : ∃ k, k = c.co.rd := ⟨_, rfl⟩
  rw [← hkd] at KKH KCH F hn
  obtain ⟨cd, hcd⟩ : ∃ k, k = (conC u.cs c.co).1 := ⟨_, rfl⟩
  rw [← hcd] at KCH F
  have q : (kd != 0) = true := by simpa using hn
  clear hu hB h ho hr hn hh hkd hcd
  go_enter Tryd.func86, Tryd.ntmps86
  go_upto_region 1 with (fail)
  generalize w.alloc (.cells #[.int .i64 0, .int .i64 0, .slice none 0 0, .slice none 0 0] 30) = w1 at *
  go_wp2_with fail
  refine (KKH.out w1 GR.out).mono ?_
  rintro e w2 ⟨rfl, g2⟩
  have G2 := Lib.hid g2
  clear g2
  go_wp2_with fail
  refine (KCH.out w2 (GR.out.trans G2.out)).mono ?_
  rintro e w3 ⟨x, rfl, hok, hx, hbl, g3⟩
  have HX := Lib.hid hx
  have XOK := Lib.hid (hok.grow ((Gw.refl w3).alloc (x.obj 30)))
  have XBL := Lib.hid hbl
  have BX := Lib.hid (BoxK.new w3 x 30)
  have SZ := Lib.hid (show w.heap.size ≤ w2.heap.size ∧ w.heap.size < w2.heap.size from ⟨(GR.out.trans G2.out).size, by have := (Array.getElem?_eq_some_iff.1 HR.out).1; have := G2.out.size; omega⟩)
  have G4 := Lib.hid (show Gw w1 (w3.alloc (x.obj 30)) from (G2.out.trans g3).alloc _)
  clear hok hx hbl g3
  go_upto_region 4 with (fail)
  generalize w3.alloc (.cells #[.int .i64 x.k, .int .i64 x.v, .slice x.da x.ds.length x.dc, .slice x.a x.ks.length x.cap] 30) = w4 at *
  have R4 := (G4.out.block _ (Array.getElem?_eq_some_iff.1 HR.out).1).trans HR.out
  obtain ⟨r0, r1, r2, r3, rf0, rf1, rf2, rf3⟩ := zero_atP R4
  obtain ⟨e0, e1, e2, e3⟩ := BX.out.c
  clear R4
  go_wp2_with fail
  refine bodyPost_ret (v := .tuple #[x.val, .int .i64 kd, .int .i64 cd]) (by simp [results, Tryd.results86, go_sem, r0, r1, r2, r3]) rfl ⟨x, by rw [F.out], ok_far XOK.out fun y hy => ?_, by rw [F.out]; exact HX.out, fun y hy => (XBL.out y hy).imp (fun h => by have := SZ.out; omega) id, by_fourP (GR.out.trans G4.out)⟩
  have hne : y ≠ w.heap.size := by rcases XBL.out y hy with h | h; (have := SZ.out; omega); (have := HA.out y h; omega)
  rw [Below.heap_setCell _ _ _ _ hne, Below.heap_setCell _ _ _ _ hne, Below.heap_setCell _ _ _ _ hne, Below.heap_setCell _ _ _ _ hne]

set_option maxRecDepth 100000 in
set_option maxHeartbeats 8000000 in
theorem kin_no (u : LB) (c : LK) (ih : ∀ t ∈ c.ks, KIn u t) (w : World) (b bc oc : Nat) (hu : bOk w u) (hB : BoxB w b u) (h : coAt w bc oc c) (ho : okC c.co = true) (hr : c.co.all (refH u.ks.length) = true) (hn : c.co.rd = 0) : Calls Tryd.prog 86 #[.pointer (some ⟨b, 0, none⟩), .pointer (some ⟨bc, oc, none⟩)] w (InP u.cs c.co w (fun y => y ∈ c.bl ∨ y ∈ nbl LK.bl u.a u.ks)) := by
  obtain ⟨i0, hi, hz0, hz1, hz2⟩ := info_parts infoK
  have HI := Lib.hid hi
  have HZ0 := Lib.hid hz0
  have HZ1 := Lib.hid hz1
  have HZ2 := Lib.hid hz2
  clear hi hz0 hz1 hz2
  have hh := all_hd (okC_good ho).1
  have HR := Lib.hid (heap_alloc_new w (.cells #[.int .i64 0, .int .i64 0, .slice none 0 0, .slice none 0 0] 30))
  have GR := Lib.hid ((Gw.refl w).alloc (.cells #[.int .i64 0, .int .i64 0, .slice none 0 0, .slice none 0 0] 30))
  have KKH := Lib.hid (fun (w1 : World) (g : Gw w w1) => spec_l08Kind c w1 bc oc (h.grow g) hh.1 hh.2)
  rw [hn] at KKH
  have IHH := Lib.hid (fun (W : World) (g : Gw w W) (j : Nat) (hj : j < c.ks.length) (bk ok : Nat) (hk : coAt W bk ok c.ks[j]) => ih c.ks[j] (List.getElem_mem hj) W b bk ok (hu.grow g) (hB.grow g) hk (okC_kidK ho j hj) (all_kid hr j hj))
  have HA := Lib.hid (show ∀ y, (y ∈ c.bl ∨ y ∈ nbl LK.bl u.a u.ks) → y < w.heap.size from fun y hy => hy.elim (ok_bl_lt c w h.2 y) (sl_bl_lt hu y))
  have A := Lib.hid h
  have FN := Lib.hid (inr_no (ts := u.cs) hn)
  have HFL := Lib.hid (show c.ks.length ≤ 1000 by have := klen_le ho; omega)
  have hll : c.ks.length ≤ 9223372036854775807 := h.2.kl
  clear hu hB h ho hr hn hh ih
  go_enter Tryd.func86, Tryd.ntmps86
  go_upto_region 1 with (fail)
  generalize w.alloc (.cells #[.int .i64 0, .int .i64 0, .slice none 0 0, .slice none 0 0] 30) = wz at *
  go_wp2_with fail
  refine (KKH.out wz GR.out).mono ?_
  rintro e w2 ⟨rfl, g2⟩
  have G2 := Lib.hid g2
  clear g2
  go_wp2_with fail
  go_loopw [10] (fun i wr => ∃ j : Nat, j ≤ c.ks.length ∧ i = .int .i64 j ∧ Gw wz wr ∧ ∀ x (hx : x < c.ks.length), x < j → (c.ks[x].co.inr u.cs).1 = 0) (fun i _ => c.ks.length - (intOf i).toNat)
  case atStart => exact ⟨0, by omega, rfl, G2.out, fun x _ h => absurd h (by omega)⟩
  case round =>
    obtain ⟨j, hj, rfl, hg, hall⟩ := hrel
    have HALL := Lib.hid hall
    have HG := Lib.hid hg
    have A3 := Lib.hid (A.out.grow (GR.out.trans hg))
    clear hall hg
    obtain ⟨p0, p1, p2, p3⟩ := A3.out.c
    by_cases hlt : j < c.ks.length
    · obtain ⟨bf, of, ha, hkid⟩ := coAt.kid A3.out.2.kids j hlt
      rw [ha] at p3
      have r0 : (0 : Int) ≤ j := by omega
      have r1 : (j : Int) < c.ks.length := by omega
      have KEY := Lib.hid (IHH.out wr (GR.out.trans HG.out) j hlt bf (of + j * 4) hkid)
      have HKB := Lib.hid (fun (y : Nat) (hy : y ∈ c.ks[j].bl) => kid_bl ha j hlt hy)
      obtain ⟨kd, hkd⟩ : ∃ k, k = (c.ks[j].co.inr u.cs).1 := ⟨_, rfl⟩
      obtain ⟨cd, hcd⟩ : ∃ k, k = (c.ks[j].co.inr u.cs).2.1 := ⟨_, rfl⟩
      unfold InP at KEY
      rw [← hkd, ← hcd] at KEY
      have HJ := Lib.hid hlt
      have HKD := Lib.hid hkd
      have HCD := Lib.hid hcd
      have HAA := Lib.hid ha
      clear ha hkid hkd hcd p0 p1 p2
      go_wp2_with fail
      refine KEY.out.mono ?_
      rintro e w3 ⟨x, rfl, hok, hx, hbl, g3⟩
      have XOK2 := Lib.hid hx
      have BX := Lib.hid (BoxK.new w3 x 30)
      have XOK := Lib.hid (show x.Ok (w3.alloc (x.obj 30)) ∧ ∀ y ∈ x.bl, y < w3.heap.size from ⟨hok.grow ((Gw.refl w3).alloc _), ok_bl_lt x w3 hok⟩)
      have HXB := Lib.hid (show ∀ y ∈ x.bl, w.heap.size < y ∨ (y ∈ c.bl ∨ y ∈ nbl LK.bl u.a u.ks) from fun y hy => by
        rcases hbl y hy with h | h | h
        · exact .inl (by have h1 := (Array.getElem?_eq_some_iff.1 HR.out).1; have := HG.out.size; omega)
        · exact .inr (.inl (HKB.out y h))
        · exact .inr (.inr h))
      have GZ := Lib.hid (show Gw wz (w3.alloc (x.obj 30)) from (HG.out.trans g3).alloc _)
      have HWX := Lib.hid (show w.heap.size ≤ w3.heap.size from (GR.out.trans (HG.out.trans g3)).size)
      clear hok hx hbl g3 KEY p3
      go_upto_region 9 with (fail)
      obtain ⟨XB, hXB⟩ : ∃ y, y = w3.heap.size := ⟨_, rfl⟩
      rw [← hXB] at BX XOK HWX
      rw [← hXB]
      clear hXB
      generalize w3.alloc (.cells #[.int .i64 x.k, .int .i64 x.v, .slice x.da x.ds.length x.dc, .slice x.a x.ks.length x.cap] 30) = w1 at *
      by_cases h0 : kd = 0
      · have q : (kd == 0) = true := by simpa using h0
        have HK0 := Lib.hid (show (c.ks[j].co.inr u.cs).1 = 0 from HKD.out.symm.trans h0)
        clear h0
        go_wp2_with fail
        go_roundw
        case rel =>
          refine ⟨j + 1, by omega, by go_num, GZ.out, fun y hy hi => ?_⟩
          by_cases e : y = j
          · subst e; exact HK0.out
          · exact HALL.out y hy (by omega)
        case measure => simp [intOf]; omega
      · have q : (kd == 0) = false := by simpa using h0
        have FK := Lib.hid (show (c.co.inr u.cs).1 = kd ∧ (c.co.inr u.cs).2.1 = cd ∧ (c.co.inr u.cs).2.2 = .mk c.k c.v c.ds ((c.ks.map LK.co).set j (c.ks[j].co.inr u.cs).2.2) by
          have hj' : j < c.co.ks.length := by rw [c.co_len]; exact hlt
          have hk' := c.co_kid j hlt
          have h1 := inrs_at (ts := u.cs) (ks := c.co.ks) j hj' (fun y hy hyj => by
            have hy' : y < c.ks.length := by rw [← c.co_len]; exact hy
            rw [c.co_kid y hy']; exact HALL.out y hy' hyj) (by rw [hk', ← HKD.out]; exact h0)
          rw [hk', ← HKD.out, ← HCD.out] at h1
          have h2 := FN.out
          rw [h1, if_neg h0] at h2
          rw [h2, LK.co_k, LK.co_v, LK.co_ds, LK.co_ks]
          exact ⟨rfl, rfl, rfl⟩)
        have HFP := Lib.hid (show 0 < c.ks.length by omega)
        have A1 := Lib.hid (A.out.grow (GR.out.trans GZ.out))
        have RR := Lib.hid ((GZ.out.block _ (Array.getElem?_eq_some_iff.1 HR.out).1).trans HR.out)
        have G1 := Lib.hid (GR.out.trans GZ.out)
        have HFR := Lib.hid (show gRow 4 coE LK.Ok w1 c.ks bf of by
          obtain ⟨b', o', e, hr⟩ := A1.out.2.kids.2.2.resolve_left (fun e => by have := HFP.out; rw [e] at this; simp at this)
          rw [HAA.out] at e
          injection e with e
          injection e with e1 e2
          subst e1 e2
          exact hr)
        have HFBL := Lib.hid (show ∀ z ∈ c.ks, ∀ y ∈ z.bl, y ∈ c.bl from fun z hz y hy => by
          obtain ⟨i, hi, rfl⟩ := List.mem_iff_getElem.1 hz
          exact kid_bl HAA.out i hi hy)
        have HFOK := Lib.hid (show ∀ z ∈ c.ks, z.Ok w1 ∧ ∀ y ∈ z.bl, y < XB from fun z hz => by
          obtain ⟨i, hi, rfl⟩ := List.mem_iff_getElem.1 hz
          exact ⟨(HFR.out i hi).2, fun y hy => by have := HA.out y (.inl (HFBL.out _ hz y hy)); have := HWX.out; omega⟩)
        have HCK := Lib.hid (show cin64 c.k ∧ cin64 c.v ∧ numSl w1 c.da c.dc c.ds ∧ ∀ y ∈ nbl nB c.da c.ds, y < XB from by
          have h1 := (LK.ok_iff c).1 A1.out.2
          exact ⟨h1.1.1, h1.1.2.1, h1.1.2.2, fun y hy => by have := HA.out y (.inl (by rw [LK.bl_eq]; exact List.mem_append.2 (.inl hy))); have := HWX.out; omega⟩)
        have SK := Lib.hid (show ∀ W, Gw w1 W → W.cell? ⟨bc, oc, none⟩ = some (.int .i64 c.k) ∧ W.cell? ⟨bc, oc + 1, none⟩ = some (.int .i64 c.v) ∧ W.cell? ⟨bc, oc + 2, none⟩ = some (.slice c.da c.ds.length c.dc) ∧ W.cell? ⟨bc, oc + 3, none⟩ = some (.slice (some ⟨bf, of, none⟩) c.ks.length c.cap) from fun W g => by
          obtain ⟨p0, p1, p2, p3⟩ := (A1.out.grow g).c
          rw [HAA.out] at p3
          exact ⟨p0, p1, p2, p3⟩)
        clear h0 r0 r1
        go_wp2_with fail
        go_upto_region 10 with (fail)
        refine wp_region_held_drew (S := fun W => W.cell? ⟨bc, oc, none⟩ = some (.int .i64 c.k) ∧ W.cell? ⟨bc, oc + 1, none⟩ = some (.int .i64 c.v) ∧ W.cell? ⟨bc, oc + 2, none⟩ = some (.slice c.da c.ds.length c.dc) ∧ W.cell? ⟨bc, oc + 3, none⟩ = some (.slice (some ⟨bf, of, none⟩) c.ks.length c.cap)) (by kernel_rfl) ?_ (fun hHeld => ?_)
        · exact SK.out _ (Gw.refl _).drew
        have gK : Gw w1 w1.drew := (Gw.refl w1).drew
        generalize w1.drew = wD at *
        refine wpAnyH_take (i := 0) (oi := { dst := some 52, op := _, type := _, pos := _, after := _, guard := _ }) (v := .pointer (some ⟨bc, oc, none⟩)) rfl (by kernel_rfl) (by kernel_rfl) (by kernel_rfl) (fun _ _ _ h => h) (Or.inl ⟨by rfl, ?_⟩) (by assumption) ?_
        · intro w hSw; obtain ⟨c0, c1, c2, c3⟩ := hSw; go_simp
        try simp only [Act.put, List.setIfInBounds_toArray, List.set_cons_zero, List.set_cons_succ]
        refine wpAnyH_take (i := 1) (oi := { dst := some 53, op := _, type := _, pos := _, after := _, guard := _ }) (v := .pointer (some ⟨bc, oc, none⟩)) rfl (by kernel_rfl) (by kernel_rfl) (by kernel_rfl) (fun _ _ _ h => h) (Or.inl ⟨by rfl, ?_⟩) (by assumption) ?_
        · intro w hSw; obtain ⟨c0, c1, c2, c3⟩ := hSw; go_simp
        try simp only [Act.put, List.setIfInBounds_toArray, List.set_cons_zero, List.set_cons_succ]
        refine wpAnyH_take (i := 2) (oi := { dst := some 54, op := _, type := _, pos := _, after := _, guard := _ }) (v := .pointer (some ⟨bc, oc, none⟩)) rfl (by kernel_rfl) (by kernel_rfl) (by kernel_rfl) (fun _ _ _ h => h) (Or.inl ⟨by rfl, ?_⟩) (by assumption) ?_
        · intro w hSw; obtain ⟨c0, c1, c2, c3⟩ := hSw; go_simp
        try simp only [Act.put, List.setIfInBounds_toArray, List.set_cons_zero, List.set_cons_succ]
        refine wpAnyH_take (i := 3) (oi := { dst := some 55, op := _, type := _, pos := _, after := _, guard := _ }) (v := .int .i64 c.k) rfl (by kernel_rfl) (by kernel_rfl) (by kernel_rfl) (fun _ _ _ h => h) (Or.inl ⟨by rfl, ?_⟩) (by assumption) ?_
        · intro w hSw; obtain ⟨c0, c1, c2, c3⟩ := hSw; go_simp
        try simp only [Act.put, List.setIfInBounds_toArray, List.set_cons_zero, List.set_cons_succ]
        refine wpAnyH_take (i := 4) (oi := { dst := some 56, op := _, type := _, pos := _, after := _, guard := _ }) (v := .pointer (some ⟨bc, oc, none⟩)) rfl (by kernel_rfl) (by kernel_rfl) (by kernel_rfl) (fun _ _ _ h => h) (Or.inl ⟨by rfl, ?_⟩) (by assumption) ?_
        · intro w hSw; obtain ⟨c0, c1, c2, c3⟩ := hSw; go_simp
        try simp only [Act.put, List.setIfInBounds_toArray, List.set_cons_zero, List.set_cons_succ]
        refine wpAnyH_take (i := 5) (oi := { dst := some 57, op := _, type := _, pos := _, after := _, guard := _ }) (v := .pointer (some ⟨bc, oc, none⟩)) rfl (by kernel_rfl) (by kernel_rfl) (by kernel_rfl) (fun _ _ _ h => h) (Or.inl ⟨by rfl, ?_⟩) (by assumption) ?_
        · intro w hSw; obtain ⟨c0, c1, c2, c3⟩ := hSw; go_simp
        try simp only [Act.put, List.setIfInBounds_toArray, List.set_cons_zero, List.set_cons_succ]
        refine wpAnyH_take (i := 6) (oi := { dst := some 58, op := _, type := _, pos := _, after := _, guard := _ }) (v := .pointer (some ⟨bc, oc + 1, none⟩)) rfl (by kernel_rfl) (by kernel_rfl) (by kernel_rfl) (fun _ _ _ h => h) (Or.inl ⟨by rfl, ?_⟩) (by assumption) ?_
        · intro w hSw; obtain ⟨c0, c1, c2, c3⟩ := hSw; go_simp
        try simp only [Act.put, List.setIfInBounds_toArray, List.set_cons_zero, List.set_cons_succ]
        refine wpAnyH_take (i := 7) (oi := { dst := some 59, op := _, type := _, pos := _, after := _, guard := _ }) (v := .int .i64 c.v) rfl (by kernel_rfl) (by kernel_rfl) (by kernel_rfl) (fun _ _ _ h => h) (Or.inl ⟨by rfl, ?_⟩) (by assumption) ?_
        · intro w hSw; obtain ⟨c0, c1, c2, c3⟩ := hSw; go_simp
        try simp only [Act.put, List.setIfInBounds_toArray, List.set_cons_zero, List.set_cons_succ]
        refine wpAnyH_take (i := 8) (oi := { dst := some 60, op := _, type := _, pos := _, after := _, guard := _ }) (v := .pointer (some ⟨bc, oc, none⟩)) rfl (by kernel_rfl) (by kernel_rfl) (by kernel_rfl) (fun _ _ _ h => h) (Or.inl ⟨by rfl, ?_⟩) (by assumption) ?_
        · intro w hSw; obtain ⟨c0, c1, c2, c3⟩ := hSw; go_simp
        try simp only [Act.put, List.setIfInBounds_toArray, List.set_cons_zero, List.set_cons_succ]
        refine wpAnyH_take (i := 9) (oi := { dst := some 61, op := _, type := _, pos := _, after := _, guard := _ }) (v := .pointer (some ⟨bc, oc, none⟩)) rfl (by kernel_rfl) (by kernel_rfl) (by kernel_rfl) (fun _ _ _ h => h) (Or.inl ⟨by rfl, ?_⟩) (by assumption) ?_
        · intro w hSw; obtain ⟨c0, c1, c2, c3⟩ := hSw; go_simp
        try simp only [Act.put, List.setIfInBounds_toArray, List.set_cons_zero, List.set_cons_succ]
        refine wpAnyH_take (i := 10) (oi := { dst := some 62, op := _, type := _, pos := _, after := _, guard := _ }) (v := .pointer (some ⟨bc, oc + 2, none⟩)) rfl (by kernel_rfl) (by kernel_rfl) (by kernel_rfl) (fun _ _ _ h => h) (Or.inl ⟨by rfl, ?_⟩) (by assumption) ?_
        · intro w hSw; obtain ⟨c0, c1, c2, c3⟩ := hSw; go_simp
        try simp only [Act.put, List.setIfInBounds_toArray, List.set_cons_zero, List.set_cons_succ]
        refine wpAnyH_take (i := 11) (oi := { dst := some 63, op := _, type := _, pos := _, after := _, guard := _ }) (v := .slice c.da c.ds.length c.dc) rfl (by kernel_rfl) (by kernel_rfl) (by kernel_rfl) (fun _ _ _ h => h) (Or.inl ⟨by rfl, ?_⟩) (by assumption) ?_
        · intro w hSw; obtain ⟨c0, c1, c2, c3⟩ := hSw; go_simp
        try simp only [Act.put, List.setIfInBounds_toArray, List.set_cons_zero, List.set_cons_succ]
        refine wpAnyH_take (i := 13) (oi := { dst := some 65, op := _, type := _, pos := _, after := _, guard := _ }) (v := .pointer (some ⟨bc, oc, none⟩)) rfl (by kernel_rfl) (by kernel_rfl) (by kernel_rfl) (fun _ _ _ h => h) (Or.inl ⟨by rfl, ?_⟩) (by assumption) ?_
        · intro w hSw; obtain ⟨c0, c1, c2, c3⟩ := hSw; go_simp
        try simp only [Act.put, List.setIfInBounds_toArray, List.set_cons_zero, List.set_cons_succ]
        refine wpAnyH_take (i := 14) (oi := { dst := some 66, op := _, type := _, pos := _, after := _, guard := _ }) (v := .pointer (some ⟨bc, oc, none⟩)) rfl (by kernel_rfl) (by kernel_rfl) (by kernel_rfl) (fun _ _ _ h => h) (Or.inl ⟨by rfl, ?_⟩) (by assumption) ?_
        · intro w hSw; obtain ⟨c0, c1, c2, c3⟩ := hSw; go_simp
        try simp only [Act.put, List.setIfInBounds_toArray, List.set_cons_zero, List.set_cons_succ]
        refine wpAnyH_take (i := 15) (oi := { dst := some 67, op := _, type := _, pos := _, after := _, guard := _ }) (v := .pointer (some ⟨bc, oc + 3, none⟩)) rfl (by kernel_rfl) (by kernel_rfl) (by kernel_rfl) (fun _ _ _ h => h) (Or.inl ⟨by rfl, ?_⟩) (by assumption) ?_
        · intro w hSw; obtain ⟨c0, c1, c2, c3⟩ := hSw; go_simp
        try simp only [Act.put, List.setIfInBounds_toArray, List.set_cons_zero, List.set_cons_succ]
        refine wpAnyH_take (i := 16) (oi := { dst := some 68, op := _, type := _, pos := _, after := _, guard := _ }) (v := .slice (some ⟨bf, of, none⟩) c.ks.length c.cap) rfl (by kernel_rfl) (by kernel_rfl) (by kernel_rfl) (fun _ _ _ h => h) (Or.inl ⟨by rfl, ?_⟩) (by assumption) ?_
        · intro w hSw; obtain ⟨c0, c1, c2, c3⟩ := hSw; go_simp
        try simp only [Act.put, List.setIfInBounds_toArray, List.set_cons_zero, List.set_cons_succ]
        refine wpAnyH_ready (rs := [12, 19]) (by kernel_rfl) (by simp) ?_
        refine AllReadyH.cons (o := { dst := some 64, op := _, type := _, pos := _, after := _, guard := _ }) rfl (fun K hK => ?_) (AllReadyH.cons (o := { dst := some 14, op := _, type := _, pos := _, after := _, guard := _ }) rfl (fun K hK => ?_) AllReadyH.nil)
        · go_simp
          refine hK _ _ (SK.out _ (gK.alloc (.cells #[] 30))) (fun hHeld => ?_)
          clear hK K
          have HM := Lib.hid (made_own wD 30 4)
          have GB := Lib.hid gK.size
          have SZB := Lib.hid (show (wD.alloc (.cells #[] 30)).heap.size = wD.heap.size + 1 by simp)
          replace gK := gK.alloc (.cells #[] 30)
          try simp only [Act.put, List.setIfInBounds_toArray, List.set_cons_zero, List.set_cons_succ]
          generalize wD.alloc (.cells #[] 30) = wb at *
          generalize wD.heap.size = g0 at *
          refine wpAnyH_ready (rs := [17, 19]) (by kernel_rfl) (by simp) ?_
          refine AllReadyH.cons (o := { dst := some 69, op := _, type := _, pos := _, after := _, guard := _ }) rfl (fun K hK => ?_) (AllReadyH.cons (o := { dst := some 14, op := _, type := _, pos := _, after := _, guard := _ }) rfl (fun K hK => ?_) AllReadyH.nil)
          · have NEWS : ∀ j u, (c.ks.flatMap coE)[j]? = some u → wb.cell? ((⟨bf, of, none⟩ : Addr).add j) = some u := fun j u hj => by rw [Addr.add_lit]; exact (gK.cell (row_flat coLen (by decide) HFR.out j u hj) (cell_lt (row_flat coLen (by decide) HFR.out j u hj)))
            refine wp_append_lies _ _ _ 28 (by rfl) w1.heap.size 30 i0 _ 4 64 Tryd.underlying28 HI.out HZ0.out HZ1.out HZ2.out (by rfl) (by decide) (.slice (some ⟨g0, 0, none⟩) 0 0) 0 [] (by rfl) (own_base HM.out GB.out) ⟨bf, of, none⟩ c.ks.length c.cap (c.ks.flatMap coE) (by rfl) (coFlat c.ks) NEWS (oneF c.ks) HFP.out (by unfold maxLen; have := HFL.out; omega) (by have := HFL.out; omega) gK.size _ rfl ?_
            intro g cap wba hown2 hgr2 hat2 hlt2
            have HOW := Lib.hid (show wba.ownsRow w1.heap.size 30 4 (.slice (some ⟨g, 0, none⟩) c.ks.length cap) c.ks.length (c.ks.flatMap coE) by simpa using hown2)
            have hg2 : Gw w1 wba := gw_grownE gK hgr2 (fun y hy => by simp [Value.ownBlock] at hy; have := GB.out; omega)
            have HG1 := Lib.hid (show w1.heap.size ≤ g ∧ g < wba.heap.size from ⟨by rcases hat2 with h | h; exact (by simp [Value.ownBlock] at h; have := GB.out; omega); exact (by have := gK.size; omega), hlt2⟩)
            refine hK _ _ (SK.out _ hg2) (fun hHeld => ?_)
            replace gK := hg2
            clear hK K hown2 hgr2 hat2 hlt2 hg2 NEWS
            try simp only [Act.put, List.setIfInBounds_toArray, List.set_cons_zero, List.set_cons_succ]
            refine wpAnyH_take (i := 18) (oi := { dst := some 70, op := _, type := _, pos := _, after := _, guard := _ }) (v := .agg #[.int .i64 c.k, .int .i64 c.v, .slice c.da c.ds.length c.dc, .slice (some ⟨g, 0, none⟩) c.ks.length cap]) rfl (by kernel_rfl) (by kernel_rfl) (by kernel_rfl) (fun _ _ _ h => h) (Or.inl ⟨by rfl, ?_⟩) (by assumption) ?_
            · intro w hSw; obtain ⟨c0, c1, c2, c3⟩ := hSw; go_simp
            try simp only [Act.put, List.setIfInBounds_toArray, List.set_cons_zero, List.set_cons_succ]
            refine wpAnyH_ready (rs := [19]) (by kernel_rfl) (by simp) ?_
            refine AllReadyH.cons (o := { dst := some 14, op := _, type := _, pos := _, after := _, guard := _ }) rfl (fun K hK => ?_) AllReadyH.nil
            go_simp
            refine hK _ _ (SK.out _ (gK.alloc (.cells #[.int .i64 0, .int .i64 0, .slice none 0 0, .slice none 0 0] 30))) (fun hHeld => ?_)
            clear hK K
            have HT := Lib.hid (heap_alloc_new wba (.cells #[.int .i64 0, .int .i64 0, .slice none 0 0, .slice none 0 0] 30))
            have TG := Lib.hid gK.size
            have LT := Lib.hid (show wba.heap.size < (wba.alloc (.cells #[.int .i64 0, .int .i64 0, .slice none 0 0, .slice none 0 0] 30)).heap.size by simp)
            have HGG := Lib.hid (show w1.heap.size ≤ g ∧ g ≠ wba.heap.size from ⟨HG1.out.1, by have := HG1.out.2; omega⟩)
            replace HOW := Lib.hid (own_same HOW.out (Below.heap_alloc wba (.cells #[.int .i64 0, .int .i64 0, .slice none 0 0, .slice none 0 0] 30) g HG1.out.2))
            replace gK := gK.alloc (.cells #[.int .i64 0, .int .i64 0, .slice none 0 0, .slice none 0 0] 30)
            try simp only [Act.put, List.setIfInBounds_toArray, List.set_cons_zero, List.set_cons_succ]
            generalize wba.alloc (.cells #[.int .i64 0, .int .i64 0, .slice none 0 0, .slice none 0 0] 30) = wabl at *
            generalize wba.heap.size = T at *
            obtain ⟨z0, z1, z2, z3, y0, y1, y2, y3⟩ := zero_atP HT.out
            refine wpAnyH_ready (rs := [20]) (by kernel_rfl) (by simp) ?_
            refine AllReadyH.cons (o := { dst := none, op := _, type := _, pos := _, after := _, guard := _ }) rfl (fun K hK => ?_) AllReadyH.nil
            go_simp
            refine hK _ _ (SK.out _ ((((Below.setCell gK TG.out _).setCell TG.out _).setCell TG.out _).setCell TG.out _)) (fun hHeld => ?_)
            clear hK K
            try simp only [Act.put, List.setIfInBounds_toArray, List.set_cons_zero, List.set_cons_succ]
            refine wpAnyH_done (by kernel_rfl) ?_ _
            have far : ∀ (b : Nat), b ≠ T → ((((wabl.setCell ⟨T, 0, none⟩ (.int .i64 c.k)).setCell ⟨T, 1, none⟩ (.int .i64 c.v)).setCell ⟨T, 2, none⟩ (.slice c.da c.ds.length c.dc)).setCell ⟨T, 3, none⟩ (.slice (some ⟨g, 0, none⟩) c.ks.length cap)).heap[b]? = wabl.heap[b]? := fun b hb => by
              rw [Below.heap_setCell _ _ _ _ hb, Below.heap_setCell _ _ _ _ hb, Below.heap_setCell _ _ _ _ hb, Below.heap_setCell _ _ _ _ hb]
            have HCP := Lib.hid (show CopyP 30 w1 ((((wabl.setCell ⟨T, 0, none⟩ (.int .i64 c.k)).setCell ⟨T, 1, none⟩ (.int .i64 c.v)).setCell ⟨T, 2, none⟩ (.slice c.da c.ds.length c.dc)).setCell ⟨T, 3, none⟩ (.slice (some ⟨g, 0, none⟩) c.ks.length cap)) T g cap c.ks #[.int .i64 c.k, .int .i64 c.v, .slice c.da c.ds.length c.dc, .slice (some ⟨g, 0, none⟩) c.ks.length cap] from ⟨TG.out, HGG.out.1, HGG.out.2, by simp [World.setCell, Array.getElem?_modify, HT.out], own_same HOW.out (far g HGG.out.2), ((((Below.setCell gK TG.out _).setCell TG.out _).setCell TG.out _).setCell TG.out _)⟩)
            clear far HT HOW HGG TG gK z0 z1 z2 z3 y0 y1 y2 y3
            go_upto_region 11 with (fail)
            generalize ((((wabl.setCell ⟨T, 0, none⟩ (.int .i64 c.k)).setCell ⟨T, 1, none⟩ (.int .i64 c.v)).setCell ⟨T, 2, none⟩ (.slice c.da c.ds.length c.dc)).setCell ⟨T, 3, none⟩ (.slice (some ⟨g, 0, none⟩) c.ks.length cap)) = wc at *
            have X0 := HCP.out
            obtain ⟨hT0, hg0, hgT, hTT, hOW, g3⟩ := X0
            have HTT := Lib.hid hTT
            have HOW := Lib.hid hOW
            have HGT := Lib.hid hgT
            have G3 := Lib.hid g3
            have HG0 := Lib.hid hg0
            obtain ⟨e0, e1, e2, e3⟩ := (BX.out.grow g3).c
            have RC := Lib.hid ((g3.block _ (Array.getElem?_eq_some_iff.1 RR.out).1).trans RR.out)
            have HRX := Lib.hid (show w.heap.size < w1.heap.size ∧ XB < w1.heap.size from ⟨(Array.getElem?_eq_some_iff.1 RR.out).1, BX.out.lt⟩)
            have s0 : wc.cell? ⟨T, 3, none⟩ = some (.slice (some ⟨g, 0, none⟩) c.ks.length cap) := cell_of_row _ _ 3 _ _ _ HTT.out
            obtain ⟨⟨v0, x0⟩, z0⟩ := own_room HOW.out (j * 4) (by have := HJ.out; omega)
            obtain ⟨⟨v1, x1⟩, z1⟩ := own_room HOW.out (j * 4 + 1) (by have := HJ.out; omega)
            obtain ⟨⟨v2, x2⟩, z2⟩ := own_room HOW.out (j * 4 + 2) (by have := HJ.out; omega)
            obtain ⟨⟨v3, x3⟩, z3⟩ := own_room HOW.out (j * 4 + 3) (by have := HJ.out; omega)
            have r0' : (0 : Int) ≤ j := by omega
            have r1' : (j : Int) < c.ks.length := by have := HJ.out; omega
            have HWG := Lib.hid (show w.heap.size ≤ g by have := HRX.out; have := HG0.out; omega)
            clear hT0 hg0 hgT hTT hOW g3 HCP
            go_upto_region 12 with (fail)
            have OWN2 := Lib.hid (own_set (F := ((((wc.setCell ⟨g, j * 4, none⟩ (.int .i64 x.k)).setCell ⟨g, j * 4 + 1, none⟩ (.int .i64 x.v)).setCell ⟨g, j * 4 + 2, none⟩ (.slice x.da x.ds.length x.dc)).setCell ⟨g, j * 4 + 3, none⟩ (.slice x.a x.ks.length x.cap))) (y := x) HOW.out rfl j HJ.out rfl)
            have FARF := Lib.hid (show ∀ bq, bq ≠ g → ((((wc.setCell ⟨g, j * 4, none⟩ (.int .i64 x.k)).setCell ⟨g, j * 4 + 1, none⟩ (.int .i64 x.v)).setCell ⟨g, j * 4 + 2, none⟩ (.slice x.da x.ds.length x.dc)).setCell ⟨g, j * 4 + 3, none⟩ (.slice x.a x.ks.length x.cap)).heap[bq]? = wc.heap[bq]? from fun bq hb => setRow_far g bq hb (coE x) wc (j * 4))
            have GF := Lib.hid (show Gw w ((((wc.setCell ⟨g, j * 4, none⟩ (.int .i64 x.k)).setCell ⟨g, j * 4 + 1, none⟩ (.int .i64 x.v)).setCell ⟨g, j * 4 + 2, none⟩ (.slice x.da x.ds.length x.dc)).setCell ⟨g, j * 4 + 3, none⟩ (.slice x.a x.ks.length x.cap)) from (((Below.setCell (G1.out.trans G3.out) HWG.out _).setCell HWG.out _).setCell HWG.out _).setCell HWG.out _)
            clear x0 x1 x2 x3 z0 z1 z2 z3 s0 e0 e1 e2 e3
            generalize ((((wc.setCell ⟨g, j * 4, none⟩ (.int .i64 x.k)).setCell ⟨g, j * 4 + 1, none⟩ (.int .i64 x.v)).setCell ⟨g, j * 4 + 2, none⟩ (.slice x.da x.ds.length x.dc)).setCell ⟨g, j * 4 + 3, none⟩ (.slice x.a x.ks.length x.cap)) = wf at *
            have HTF := (FARF.out T (fun e => HGT.out e.symm)).trans HTT.out
            have t0 : wf.cell? ⟨T, 0, none⟩ = some (.int .i64 c.k) := cell_of_row _ _ 0 _ _ _ HTF
            have t1 : wf.cell? ⟨T, 1, none⟩ = some (.int .i64 c.v) := cell_of_row _ _ 1 _ _ _ HTF
            have t2 : wf.cell? ⟨T, 2, none⟩ = some (.slice c.da c.ds.length c.dc) := cell_of_row _ _ 2 _ _ _ HTF
            have t3 : wf.cell? ⟨T, 3, none⟩ = some (.slice (some ⟨g, 0, none⟩) c.ks.length cap) := cell_of_row _ _ 3 _ _ _ HTF
            have RF := (FARF.out w.heap.size (by have := HRX.out; have := HG0.out; omega)).trans RC.out
            obtain ⟨q0, q1, q2, q3, qf0, qf1, qf2, qf3⟩ := zero_atP RF
            have OKW : ∀ (z : LK), z.Ok w1 → (∀ y ∈ z.bl, y < XB) → z.Ok wf := fun z hz hb => ok_far (hz.grow G3.out) fun y hy => FARF.out y (by have := hb y hy; have := HG0.out; have := HRX.out; omega)
            have X := Lib.hid (ex_fin (N := XB) (i := j) OWN2.out (fun z hz => OKW z (HFOK.out z hz).1 (HFOK.out z hz).2) (fun z hz => (HFOK.out z hz).2) (OKW x XOK.out.1 XOK.out.2) XOK.out.2 (by have := HRX.out; have := HG0.out; omega) HCK.out.1 HCK.out.2.1 ((LK.ok_iff c).1 (OKW c A1.out.2 (fun y hy => by have := HA.out y (.inl hy); have := HWX.out; omega))).1.2.2 HCK.out.2.2.2)
            have HBL := Lib.hid (show ∀ y ∈ (LK.mk c.k c.v c.da c.dc c.ds (some ⟨g, 0, none⟩) cap (c.ks.set j x)).bl, w.heap.size < y ∨ (y ∈ c.bl ∨ y ∈ nbl LK.bl u.a u.ks) from fun y hy => by
              rw [LK.bl_eq] at hy
              rcases List.mem_append.1 hy with hy | hy
              · exact .inr (.inl (by rw [LK.bl_eq]; exact List.mem_append.2 (.inl hy)))
              · have hy' : y ∈ nbl LK.bl (some ⟨g, 0, none⟩) (c.ks.set j x) := hy
                have hne : c.ks.set j x ≠ [] := fun e => by have h0 := congrArg List.length e; rw [List.length_set] at h0; have h9 := HFP.out; rw [h0] at h9; exact absurd h9 (by simp)
                rw [nb_ne hne] at hy'
                rcases List.mem_cons.1 hy' with rfl | hy'
                · exact .inl (by have := HG0.out; have := HRX.out; omega)
                · obtain ⟨z, hz, hzy⟩ := List.mem_flatMap.1 hy'
                  rcases List.mem_or_eq_of_mem_set hz with hz | rfl
                  · exact .inr (.inl (HFBL.out z hz y hzy))
                  · exact HXB.out y hzy)
            clear OKW RF HTF
            go_wp2_with fail
            refine bodyPost_ret (v := .tuple #[(LK.mk c.k c.v c.da c.dc c.ds (some ⟨g, 0, none⟩) cap (c.ks.set j x)).val, .int .i64 kd, .int .i64 cd]) (by simp [results, Tryd.results86, go_sem, q0, q1, q2, q3]; exact ⟨rfl, rfl, ⟨rfl, rfl, rfl⟩, rfl, by simp [LK.ks], rfl⟩) rfl ⟨_, by rw [FK.out.1, FK.out.2.1], ok_far X.out.1 fun y hy => ?_, by rw [FK.out.2.2, LK.co_eq]; simp [LK.k, LK.v, LK.ds, LK.ks, List.map_set, XOK2.out], fun y hy => ?_, by_fourP GF.out⟩
            · have hne : y ≠ w.heap.size := by rcases HBL.out y hy with h | h; (omega); (have := HA.out y h; omega)
              rw [Below.heap_setCell _ _ _ _ hne, Below.heap_setCell _ _ _ _ hne, Below.heap_setCell _ _ _ _ hne, Below.heap_setCell _ _ _ _ hne]
            · exact (HBL.out y hy).imp Nat.le_of_lt id
          · go_simp
            refine hK _ _ (SK.out _ (gK.alloc (.cells #[.int .i64 0, .int .i64 0, .slice none 0 0, .slice none 0 0] 30))) (fun hHeld => ?_)
            clear hK K
            have HT := Lib.hid (heap_alloc_new wb (.cells #[.int .i64 0, .int .i64 0, .slice none 0 0, .slice none 0 0] 30))
            have TG := Lib.hid gK.size
            have LT := Lib.hid (show wb.heap.size < (wb.alloc (.cells #[.int .i64 0, .int .i64 0, .slice none 0 0, .slice none 0 0] 30)).heap.size by simp)
            replace HM := Lib.hid (HM.out.alloc (.cells #[.int .i64 0, .int .i64 0, .slice none 0 0, .slice none 0 0] 30))
            have HGT := Lib.hid (show g0 < wb.heap.size by have := SZB.out; omega)
            replace gK := gK.alloc (.cells #[.int .i64 0, .int .i64 0, .slice none 0 0, .slice none 0 0] 30)
            try simp only [Act.put, List.setIfInBounds_toArray, List.set_cons_zero, List.set_cons_succ]
            generalize wb.alloc (.cells #[.int .i64 0, .int .i64 0, .slice none 0 0, .slice none 0 0] 30) = wbl at *
            generalize wb.heap.size = T at *
            refine wpAnyH_ready (rs := [17]) (by kernel_rfl) (by simp) ?_
            refine AllReadyH.cons (o := { dst := some 69, op := _, type := _, pos := _, after := _, guard := _ }) rfl (fun K hK => ?_) AllReadyH.nil
            have NEWS : ∀ j u, (c.ks.flatMap coE)[j]? = some u → wbl.cell? ((⟨bf, of, none⟩ : Addr).add j) = some u := fun j u hj => by rw [Addr.add_lit]; exact (gK.cell (row_flat coLen (by decide) HFR.out j u hj) (cell_lt (row_flat coLen (by decide) HFR.out j u hj)))
            refine wp_append_lies _ _ _ 28 (by rfl) w1.heap.size 30 i0 _ 4 64 Tryd.underlying28 HI.out HZ0.out HZ1.out HZ2.out (by rfl) (by decide) (.slice (some ⟨g0, 0, none⟩) 0 0) 0 [] (by rfl) (own_base HM.out GB.out) ⟨bf, of, none⟩ c.ks.length c.cap (c.ks.flatMap coE) (by rfl) (coFlat c.ks) NEWS (oneF c.ks) HFP.out (by unfold maxLen; have := HFL.out; omega) (by have := HFL.out; omega) gK.size _ rfl ?_
            intro g cap wbla hown2 hgr2 hat2 hlt2
            have HOW := Lib.hid (show wbla.ownsRow w1.heap.size 30 4 (.slice (some ⟨g, 0, none⟩) c.ks.length cap) c.ks.length (c.ks.flatMap coE) by simpa using hown2)
            have hg2 : Gw w1 wbla := gw_grownE gK hgr2 (fun y hy => by simp [Value.ownBlock] at hy; have := GB.out; omega)
            replace HT := Lib.hid ((hgr2.block T LT.out (fun e => by simp [Value.ownBlock] at e; have := HGT.out; omega)).trans HT.out)
            have HGG := Lib.hid (show w1.heap.size ≤ g ∧ g ≠ T from ⟨by rcases hat2 with h | h; exact (by simp [Value.ownBlock] at h; have := GB.out; omega); exact (by have := gK.size; omega), by rcases hat2 with h | h; exact (by simp [Value.ownBlock] at h; have := HGT.out; omega); exact (by have := LT.out; omega)⟩)
            refine hK _ _ (SK.out _ hg2) (fun hHeld => ?_)
            replace gK := hg2
            clear hK K hown2 hgr2 hat2 hlt2 hg2 NEWS
            try simp only [Act.put, List.setIfInBounds_toArray, List.set_cons_zero, List.set_cons_succ]
            refine wpAnyH_take (i := 18) (oi := { dst := some 70, op := _, type := _, pos := _, after := _, guard := _ }) (v := .agg #[.int .i64 c.k, .int .i64 c.v, .slice c.da c.ds.length c.dc, .slice (some ⟨g, 0, none⟩) c.ks.length cap]) rfl (by kernel_rfl) (by kernel_rfl) (by kernel_rfl) (fun _ _ _ h => h) (Or.inl ⟨by rfl, ?_⟩) (by assumption) ?_
            · intro w hSw; obtain ⟨c0, c1, c2, c3⟩ := hSw; go_simp
            try simp only [Act.put, List.setIfInBounds_toArray, List.set_cons_zero, List.set_cons_succ]
            obtain ⟨z0, z1, z2, z3, y0, y1, y2, y3⟩ := zero_atP HT.out
            refine wpAnyH_ready (rs := [20]) (by kernel_rfl) (by simp) ?_
            refine AllReadyH.cons (o := { dst := none, op := _, type := _, pos := _, after := _, guard := _ }) rfl (fun K hK => ?_) AllReadyH.nil
            go_simp
            refine hK _ _ (SK.out _ ((((Below.setCell gK TG.out _).setCell TG.out _).setCell TG.out _).setCell TG.out _)) (fun hHeld => ?_)
            clear hK K
            try simp only [Act.put, List.setIfInBounds_toArray, List.set_cons_zero, List.set_cons_succ]
            refine wpAnyH_done (by kernel_rfl) ?_ _
            have far : ∀ (b : Nat), b ≠ T → ((((wbla.setCell ⟨T, 0, none⟩ (.int .i64 c.k)).setCell ⟨T, 1, none⟩ (.int .i64 c.v)).setCell ⟨T, 2, none⟩ (.slice c.da c.ds.length c.dc)).setCell ⟨T, 3, none⟩ (.slice (some ⟨g, 0, none⟩) c.ks.length cap)).heap[b]? = wbla.heap[b]? := fun b hb => by
              rw [Below.heap_setCell _ _ _ _ hb, Below.heap_setCell _ _ _ _ hb, Below.heap_setCell _ _ _ _ hb, Below.heap_setCell _ _ _ _ hb]
            have HCP := Lib.hid (show CopyP 30 w1 ((((wbla.setCell ⟨T, 0, none⟩ (.int .i64 c.k)).setCell ⟨T, 1, none⟩ (.int .i64 c.v)).setCell ⟨T, 2, none⟩ (.slice c.da c.ds.length c.dc)).setCell ⟨T, 3, none⟩ (.slice (some ⟨g, 0, none⟩) c.ks.length cap)) T g cap c.ks #[.int .i64 c.k, .int .i64 c.v, .slice c.da c.ds.length c.dc, .slice (some ⟨g, 0, none⟩) c.ks.length cap] from ⟨TG.out, HGG.out.1, HGG.out.2, by simp [World.setCell, Array.getElem?_modify, HT.out], own_same HOW.out (far g HGG.out.2), ((((Below.setCell gK TG.out _).setCell TG.out _).setCell TG.out _).setCell TG.out _)⟩)
            clear far HT HOW HGG TG gK z0 z1 z2 z3 y0 y1 y2 y3
            go_upto_region 11 with (fail)
            generalize ((((wbla.setCell ⟨T, 0, none⟩ (.int .i64 c.k)).setCell ⟨T, 1, none⟩ (.int .i64 c.v)).setCell ⟨T, 2, none⟩ (.slice c.da c.ds.length c.dc)).setCell ⟨T, 3, none⟩ (.slice (some ⟨g, 0, none⟩) c.ks.length cap)) = wc at *
            have X0 := HCP.out
            obtain ⟨hT0, hg0, hgT, hTT, hOW, g3⟩ := X0
            have HTT := Lib.hid hTT
            have HOW := Lib.hid hOW
            have HGT := Lib.hid hgT
            have G3 := Lib.hid g3
            have HG0 := Lib.hid hg0
            obtain ⟨e0, e1, e2, e3⟩ := (BX.out.grow g3).c
            have RC := Lib.hid ((g3.block _ (Array.getElem?_eq_some_iff.1 RR.out).1).trans RR.out)
            have HRX := Lib.hid (show w.heap.size < w1.heap.size ∧ XB < w1.heap.size from ⟨(Array.getElem?_eq_some_iff.1 RR.out).1, BX.out.lt⟩)
            have s0 : wc.cell? ⟨T, 3, none⟩ = some (.slice (some ⟨g, 0, none⟩) c.ks.length cap) := cell_of_row _ _ 3 _ _ _ HTT.out
            obtain ⟨⟨v0, x0⟩, z0⟩ := own_room HOW.out (j * 4) (by have := HJ.out; omega)
            obtain ⟨⟨v1, x1⟩, z1⟩ := own_room HOW.out (j * 4 + 1) (by have := HJ.out; omega)
            obtain ⟨⟨v2, x2⟩, z2⟩ := own_room HOW.out (j * 4 + 2) (by have := HJ.out; omega)
            obtain ⟨⟨v3, x3⟩, z3⟩ := own_room HOW.out (j * 4 + 3) (by have := HJ.out; omega)
            have r0' : (0 : Int) ≤ j := by omega
            have r1' : (j : Int) < c.ks.length := by have := HJ.out; omega
            have HWG := Lib.hid (show w.heap.size ≤ g by have := HRX.out; have := HG0.out; omega)
            clear hT0 hg0 hgT hTT hOW g3 HCP
            go_upto_region 12 with (fail)
            have OWN2 := Lib.hid (own_set (F := ((((wc.setCell ⟨g, j * 4, none⟩ (.int .i64 x.k)).setCell ⟨g, j * 4 + 1, none⟩ (.int .i64 x.v)).setCell ⟨g, j * 4 + 2, none⟩ (.slice x.da x.ds.length x.dc)).setCell ⟨g, j * 4 + 3, none⟩ (.slice x.a x.ks.length x.cap))) (y := x) HOW.out rfl j HJ.out rfl)
            have FARF := Lib.hid (show ∀ bq, bq ≠ g → ((((wc.setCell ⟨g, j * 4, none⟩ (.int .i64 x.k)).setCell ⟨g, j * 4 + 1, none⟩ (.int .i64 x.v)).setCell ⟨g, j * 4 + 2, none⟩ (.slice x.da x.ds.length x.dc)).setCell ⟨g, j * 4 + 3, none⟩ (.slice x.a x.ks.length x.cap)).heap[bq]? = wc.heap[bq]? from fun bq hb => setRow_far g bq hb (coE x) wc (j * 4))
            have GF := Lib.hid (show Gw w ((((wc.setCell ⟨g, j * 4, none⟩ (.int .i64 x.k)).setCell ⟨g, j * 4 + 1, none⟩ (.int .i64 x.v)).setCell ⟨g, j * 4 + 2, none⟩ (.slice x.da x.ds.length x.dc)).setCell ⟨g, j * 4 + 3, none⟩ (.slice x.a x.ks.length x.cap)) from (((Below.setCell (G1.out.trans G3.out) HWG.out _).setCell HWG.out _).setCell HWG.out _).setCell HWG.out _)
            clear x0 x1 x2 x3 z0 z1 z2 z3 s0 e0 e1 e2 e3
            generalize ((((wc.setCell ⟨g, j * 4, none⟩ (.int .i64 x.k)).setCell ⟨g, j * 4 + 1, none⟩ (.int .i64 x.v)).setCell ⟨g, j * 4 + 2, none⟩ (.slice x.da x.ds.length x.dc)).setCell ⟨g, j * 4 + 3, none⟩ (.slice x.a x.ks.length x.cap)) = wf at *
            have HTF := (FARF.out T (fun e => HGT.out e.symm)).trans HTT.out
            have t0 : wf.cell? ⟨T, 0, none⟩ = some (.int .i64 c.k) := cell_of_row _ _ 0 _ _ _ HTF
            have t1 : wf.cell? ⟨T, 1, none⟩ = some (.int .i64 c.v) := cell_of_row _ _ 1 _ _ _ HTF
            have t2 : wf.cell? ⟨T, 2, none⟩ = some (.slice c.da c.ds.length c.dc) := cell_of_row _ _ 2 _ _ _ HTF
            have t3 : wf.cell? ⟨T, 3, none⟩ = some (.slice (some ⟨g, 0, none⟩) c.ks.length cap) := cell_of_row _ _ 3 _ _ _ HTF
            have RF := (FARF.out w.heap.size (by have := HRX.out; have := HG0.out; omega)).trans RC.out
            obtain ⟨q0, q1, q2, q3, qf0, qf1, qf2, qf3⟩ := zero_atP RF
            have OKW : ∀ (z : LK), z.Ok w1 → (∀ y ∈ z.bl, y < XB) → z.Ok wf := fun z hz hb => ok_far (hz.grow G3.out) fun y hy => FARF.out y (by have := hb y hy; have := HG0.out; have := HRX.out; omega)
            have X := Lib.hid (ex_fin (N := XB) (i := j) OWN2.out (fun z hz => OKW z (HFOK.out z hz).1 (HFOK.out z hz).2) (fun z hz => (HFOK.out z hz).2) (OKW x XOK.out.1 XOK.out.2) XOK.out.2 (by have := HRX.out; have := HG0.out; omega) HCK.out.1 HCK.out.2.1 ((LK.ok_iff c).1 (OKW c A1.out.2 (fun y hy => by have := HA.out y (.inl hy); have := HWX.out; omega))).1.2.2 HCK.out.2.2.2)
            have HBL := Lib.hid (show ∀ y ∈ (LK.mk c.k c.v c.da c.dc c.ds (some ⟨g, 0, none⟩) cap (c.ks.set j x)).bl, w.heap.size < y ∨ (y ∈ c.bl ∨ y ∈ nbl LK.bl u.a u.ks) from fun y hy => by
              rw [LK.bl_eq] at hy
              rcases List.mem_append.1 hy with hy | hy
              · exact .inr (.inl (by rw [LK.bl_eq]; exact List.mem_append.2 (.inl hy)))
              · have hy' : y ∈ nbl LK.bl (some ⟨g, 0, none⟩) (c.ks.set j x) := hy
                have hne : c.ks.set j x ≠ [] := fun e => by have h0 := congrArg List.length e; rw [List.length_set] at h0; have h9 := HFP.out; rw [h0] at h9; exact absurd h9 (by simp)
                rw [nb_ne hne] at hy'
                rcases List.mem_cons.1 hy' with rfl | hy'
                · exact .inl (by have := HG0.out; have := HRX.out; omega)
                · obtain ⟨z, hz, hzy⟩ := List.mem_flatMap.1 hy'
                  rcases List.mem_or_eq_of_mem_set hz with hz | rfl
                  · exact .inr (.inl (HFBL.out z hz y hzy))
                  · exact HXB.out y hzy)
            clear OKW RF HTF
            go_wp2_with fail
            refine bodyPost_ret (v := .tuple #[(LK.mk c.k c.v c.da c.dc c.ds (some ⟨g, 0, none⟩) cap (c.ks.set j x)).val, .int .i64 kd, .int .i64 cd]) (by simp [results, Tryd.results86, go_sem, q0, q1, q2, q3]; exact ⟨rfl, rfl, ⟨rfl, rfl, rfl⟩, rfl, by simp [LK.ks], rfl⟩) rfl ⟨_, by rw [FK.out.1, FK.out.2.1], ok_far X.out.1 fun y hy => ?_, by rw [FK.out.2.2, LK.co_eq]; simp [LK.k, LK.v, LK.ds, LK.ks, List.map_set, XOK2.out], fun y hy => ?_, by_fourP GF.out⟩
            · have hne : y ≠ w.heap.size := by rcases HBL.out y hy with h | h; (omega); (have := HA.out y h; omega)
              rw [Below.heap_setCell _ _ _ _ hne, Below.heap_setCell _ _ _ _ hne, Below.heap_setCell _ _ _ _ hne, Below.heap_setCell _ _ _ _ hne]
            · exact (HBL.out y hy).imp Nat.le_of_lt id
        · go_simp
          refine hK _ _ (SK.out _ (gK.alloc (.cells #[.int .i64 0, .int .i64 0, .slice none 0 0, .slice none 0 0] 30))) (fun hHeld => ?_)
          clear hK K
          have HT := Lib.hid (heap_alloc_new wD (.cells #[.int .i64 0, .int .i64 0, .slice none 0 0, .slice none 0 0] 30))
          have TG := Lib.hid gK.size
          have LT := Lib.hid (show wD.heap.size < (wD.alloc (.cells #[.int .i64 0, .int .i64 0, .slice none 0 0, .slice none 0 0] 30)).heap.size by simp)
          replace gK := gK.alloc (.cells #[.int .i64 0, .int .i64 0, .slice none 0 0, .slice none 0 0] 30)
          try simp only [Act.put, List.setIfInBounds_toArray, List.set_cons_zero, List.set_cons_succ]
          generalize wD.alloc (.cells #[.int .i64 0, .int .i64 0, .slice none 0 0, .slice none 0 0] 30) = wl at *
          generalize wD.heap.size = T at *
          refine wpAnyH_ready (rs := [12]) (by kernel_rfl) (by simp) ?_
          refine AllReadyH.cons (o := { dst := some 64, op := _, type := _, pos := _, after := _, guard := _ }) rfl (fun K hK => ?_) AllReadyH.nil
          go_simp
          refine hK _ _ (SK.out _ (gK.alloc (.cells #[] 30))) (fun hHeld => ?_)
          clear hK K
          have HM := Lib.hid (made_own wl 30 4)
          have GB := Lib.hid gK.size
          replace HT := Lib.hid ((Below.heap_alloc wl (.cells #[] 30) _ LT.out).trans HT.out)
          have HGT := Lib.hid (show T < wl.heap.size from LT.out)
          replace LT := Lib.hid (show T < (wl.alloc (.cells #[] 30)).heap.size by have := LT.out; simp; omega)
          have SZB := Lib.hid (show (wl.alloc (.cells #[] 30)).heap.size = wl.heap.size + 1 by simp)
          replace gK := gK.alloc (.cells #[] 30)
          try simp only [Act.put, List.setIfInBounds_toArray, List.set_cons_zero, List.set_cons_succ]
          generalize wl.alloc (.cells #[] 30) = wlb at *
          generalize wl.heap.size = g0 at *
          refine wpAnyH_ready (rs := [17]) (by kernel_rfl) (by simp) ?_
          refine AllReadyH.cons (o := { dst := some 69, op := _, type := _, pos := _, after := _, guard := _ }) rfl (fun K hK => ?_) AllReadyH.nil
          have NEWS : ∀ j u, (c.ks.flatMap coE)[j]? = some u → wlb.cell? ((⟨bf, of, none⟩ : Addr).add j) = some u := fun j u hj => by rw [Addr.add_lit]; exact (gK.cell (row_flat coLen (by decide) HFR.out j u hj) (cell_lt (row_flat coLen (by decide) HFR.out j u hj)))
          refine wp_append_lies _ _ _ 28 (by rfl) w1.heap.size 30 i0 _ 4 64 Tryd.underlying28 HI.out HZ0.out HZ1.out HZ2.out (by rfl) (by decide) (.slice (some ⟨g0, 0, none⟩) 0 0) 0 [] (by rfl) (own_base HM.out GB.out) ⟨bf, of, none⟩ c.ks.length c.cap (c.ks.flatMap coE) (by rfl) (coFlat c.ks) NEWS (oneF c.ks) HFP.out (by unfold maxLen; have := HFL.out; omega) (by have := HFL.out; omega) gK.size _ rfl ?_
          intro g cap wbla hown2 hgr2 hat2 hlt2
          have HOW := Lib.hid (show wbla.ownsRow w1.heap.size 30 4 (.slice (some ⟨g, 0, none⟩) c.ks.length cap) c.ks.length (c.ks.flatMap coE) by simpa using hown2)
          have hg2 : Gw w1 wbla := gw_grownE gK hgr2 (fun y hy => by simp [Value.ownBlock] at hy; have := GB.out; omega)
          replace HT := Lib.hid ((hgr2.block T LT.out (fun e => by simp [Value.ownBlock] at e; have := HGT.out; omega)).trans HT.out)
          have HGG := Lib.hid (show w1.heap.size ≤ g ∧ g ≠ T from ⟨by rcases hat2 with h | h; exact (by simp [Value.ownBlock] at h; have := GB.out; omega); exact (by have := gK.size; omega), by rcases hat2 with h | h; exact (by simp [Value.ownBlock] at h; have := HGT.out; omega); exact (by have := LT.out; omega)⟩)
          refine hK _ _ (SK.out _ hg2) (fun hHeld => ?_)
          replace gK := hg2
          clear hK K hown2 hgr2 hat2 hlt2 hg2 NEWS
          try simp only [Act.put, List.setIfInBounds_toArray, List.set_cons_zero, List.set_cons_succ]
          refine wpAnyH_take (i := 18) (oi := { dst := some 70, op := _, type := _, pos := _, after := _, guard := _ }) (v := .agg #[.int .i64 c.k, .int .i64 c.v, .slice c.da c.ds.length c.dc, .slice (some ⟨g, 0, none⟩) c.ks.length cap]) rfl (by kernel_rfl) (by kernel_rfl) (by kernel_rfl) (fun _ _ _ h => h) (Or.inl ⟨by rfl, ?_⟩) (by assumption) ?_
          · intro w hSw; obtain ⟨c0, c1, c2, c3⟩ := hSw; go_simp
          try simp only [Act.put, List.setIfInBounds_toArray, List.set_cons_zero, List.set_cons_succ]
          obtain ⟨z0, z1, z2, z3, y0, y1, y2, y3⟩ := zero_atP HT.out
          refine wpAnyH_ready (rs := [20]) (by kernel_rfl) (by simp) ?_
          refine AllReadyH.cons (o := { dst := none, op := _, type := _, pos := _, after := _, guard := _ }) rfl (fun K hK => ?_) AllReadyH.nil
          go_simp
          refine hK _ _ (SK.out _ ((((Below.setCell gK TG.out _).setCell TG.out _).setCell TG.out _).setCell TG.out _)) (fun hHeld => ?_)
          clear hK K
          try simp only [Act.put, List.setIfInBounds_toArray, List.set_cons_zero, List.set_cons_succ]
          refine wpAnyH_done (by kernel_rfl) ?_ _
          have far : ∀ (b : Nat), b ≠ T → ((((wbla.setCell ⟨T, 0, none⟩ (.int .i64 c.k)).setCell ⟨T, 1, none⟩ (.int .i64 c.v)).setCell ⟨T, 2, none⟩ (.slice c.da c.ds.length c.dc)).setCell ⟨T, 3, none⟩ (.slice (some ⟨g, 0, none⟩) c.ks.length cap)).heap[b]? = wbla.heap[b]? := fun b hb => by
            rw [Below.heap_setCell _ _ _ _ hb, Below.heap_setCell _ _ _ _ hb, Below.heap_setCell _ _ _ _ hb, Below.heap_setCell _ _ _ _ hb]
          have HCP := Lib.hid (show CopyP 30 w1 ((((wbla.setCell ⟨T, 0, none⟩ (.int .i64 c.k)).setCell ⟨T, 1, none⟩ (.int .i64 c.v)).setCell ⟨T, 2, none⟩ (.slice c.da c.ds.length c.dc)).setCell ⟨T, 3, none⟩ (.slice (some ⟨g, 0, none⟩) c.ks.length cap)) T g cap c.ks #[.int .i64 c.k, .int .i64 c.v, .slice c.da c.ds.length c.dc, .slice (some ⟨g, 0, none⟩) c.ks.length cap] from ⟨TG.out, HGG.out.1, HGG.out.2, by simp [World.setCell, Array.getElem?_modify, HT.out], own_same HOW.out (far g HGG.out.2), ((((Below.setCell gK TG.out _).setCell TG.out _).setCell TG.out _).setCell TG.out _)⟩)
          clear far HT HOW HGG TG gK z0 z1 z2 z3 y0 y1 y2 y3
          go_upto_region 11 with (fail)
          generalize ((((wbla.setCell ⟨T, 0, none⟩ (.int .i64 c.k)).setCell ⟨T, 1, none⟩ (.int .i64 c.v)).setCell ⟨T, 2, none⟩ (.slice c.da c.ds.length c.dc)).setCell ⟨T, 3, none⟩ (.slice (some ⟨g, 0, none⟩) c.ks.length cap)) = wc at *
          have X0 := HCP.out
          obtain ⟨hT0, hg0, hgT, hTT, hOW, g3⟩ := X0
          have HTT := Lib.hid hTT
          have HOW := Lib.hid hOW
          have HGT := Lib.hid hgT
          have G3 := Lib.hid g3
          have HG0 := Lib.hid hg0
          obtain ⟨e0, e1, e2, e3⟩ := (BX.out.grow g3).c
          have RC := Lib.hid ((g3.block _ (Array.getElem?_eq_some_iff.1 RR.out).1).trans RR.out)
          have HRX := Lib.hid (show w.heap.size < w1.heap.size ∧ XB < w1.heap.size from ⟨(Array.getElem?_eq_some_iff.1 RR.out).1, BX.out.lt⟩)
          have s0 : wc.cell? ⟨T, 3, none⟩ = some (.slice (some ⟨g, 0, none⟩) c.ks.length cap) := cell_of_row _ _ 3 _ _ _ HTT.out
          obtain ⟨⟨v0, x0⟩, z0⟩ := own_room HOW.out (j * 4) (by have := HJ.out; omega)
          obtain ⟨⟨v1, x1⟩, z1⟩ := own_room HOW.out (j * 4 + 1) (by have := HJ.out; omega)
          obtain ⟨⟨v2, x2⟩, z2⟩ := own_room HOW.out (j * 4 + 2) (by have := HJ.out; omega)
          obtain ⟨⟨v3, x3⟩, z3⟩ := own_room HOW.out (j * 4 + 3) (by have := HJ.out; omega)
          have r0' : (0 : Int) ≤ j := by omega
          have r1' : (j : Int) < c.ks.length := by have := HJ.out; omega
          have HWG := Lib.hid (show w.heap.size ≤ g by have := HRX.out; have := HG0.out; omega)
          clear hT0 hg0 hgT hTT hOW g3 HCP
          go_upto_region 12 with (fail)
          have OWN2 := Lib.hid (own_set (F := ((((wc.setCell ⟨g, j * 4, none⟩ (.int .i64 x.k)).setCell ⟨g, j * 4 + 1, none⟩ (.int .i64 x.v)).setCell ⟨g, j * 4 + 2, none⟩ (.slice x.da x.ds.length x.dc)).setCell ⟨g, j * 4 + 3, none⟩ (.slice x.a x.ks.length x.cap))) (y := x) HOW.out rfl j HJ.out rfl)
          have FARF := Lib.hid (show ∀ bq, bq ≠ g → ((((wc.setCell ⟨g, j * 4, none⟩ (.int .i64 x.k)).setCell ⟨g, j * 4 + 1, none⟩ (.int .i64 x.v)).setCell ⟨g, j * 4 + 2, none⟩ (.slice x.da x.ds.length x.dc)).setCell ⟨g, j * 4 + 3, none⟩ (.slice x.a x.ks.length x.cap)).heap[bq]? = wc.heap[bq]? from fun bq hb => setRow_far g bq hb (coE x) wc (j * 4))
          have GF := Lib.hid (show Gw w ((((wc.setCell ⟨g, j * 4, none⟩ (.int .i64 x.k)).setCell ⟨g, j * 4 + 1, none⟩ (.int .i64 x.v)).setCell ⟨g, j * 4 + 2, none⟩ (.slice x.da x.ds.length x.dc)).setCell ⟨g, j * 4 + 3, none⟩ (.slice x.a x.ks.length x.cap)) from (((Below.setCell (G1.out.trans G3.out) HWG.out _).setCell HWG.out _).setCell HWG.out _).setCell HWG.out _)
          clear x0 x1 x2 x3 z0 z1 z2 z3 s0 e0 e1 e2 e3
          generalize ((((wc.setCell ⟨g, j * 4, none⟩ (.int .i64 x.k)).setCell ⟨g, j * 4 + 1, none⟩ (.int .i64 x.v)).setCell ⟨g, j * 4 + 2, none⟩ (.slice x.da x.ds.length x.dc)).setCell ⟨g, j * 4 + 3, none⟩ (.slice x.a x.ks.length x.cap)) = wf at *
          have HTF := (FARF.out T (fun e => HGT.out e.symm)).trans HTT.out
          have t0 : wf.cell? ⟨T, 0, none⟩ = some (.int .i64 c.k) := cell_of_row _ _ 0 _ _ _ HTF
          have t1 : wf.cell? ⟨T, 1, none⟩ = some (.int .i64 c.v) := cell_of_row _ _ 1 _ _ _ HTF
          have t2 : wf.cell? ⟨T, 2, none⟩ = some (.slice c.da c.ds.length c.dc) := cell_of_row _ _ 2 _ _ _ HTF
          have t3 : wf.cell? ⟨T, 3, none⟩ = some (.slice (some ⟨g, 0, none⟩) c.ks.length cap) := cell_of_row _ _ 3 _ _ _ HTF
          have RF := (FARF.out w.heap.size (by have := HRX.out; have := HG0.out; omega)).trans RC.out
          obtain ⟨q0, q1, q2, q3, qf0, qf1, qf2, qf3⟩ := zero_atP RF
          have OKW : ∀ (z : LK), z.Ok w1 → (∀ y ∈ z.bl, y < XB) → z.Ok wf := fun z hz hb => ok_far (hz.grow G3.out) fun y hy => FARF.out y (by have := hb y hy; have := HG0.out; have := HRX.out; omega)
          have X := Lib.hid (ex_fin (N := XB) (i := j) OWN2.out (fun z hz => OKW z (HFOK.out z hz).1 (HFOK.out z hz).2) (fun z hz => (HFOK.out z hz).2) (OKW x XOK.out.1 XOK.out.2) XOK.out.2 (by have := HRX.out; have := HG0.out; omega) HCK.out.1 HCK.out.2.1 ((LK.ok_iff c).1 (OKW c A1.out.2 (fun y hy => by have := HA.out y (.inl hy); have := HWX.out; omega))).1.2.2 HCK.out.2.2.2)
          have HBL := Lib.hid (show ∀ y ∈ (LK.mk c.k c.v c.da c.dc c.ds (some ⟨g, 0, none⟩) cap (c.ks.set j x)).bl, w.heap.size < y ∨ (y ∈ c.bl ∨ y ∈ nbl LK.bl u.a u.ks) from fun y hy => by
            rw [LK.bl_eq] at hy
            rcases List.mem_append.1 hy with hy | hy
            · exact .inr (.inl (by rw [LK.bl_eq]; exact List.mem_append.2 (.inl hy)))
            · have hy' : y ∈ nbl LK.bl (some ⟨g, 0, none⟩) (c.ks.set j x) := hy
              have hne : c.ks.set j x ≠ [] := fun e => by have h0 := congrArg List.length e; rw [List.length_set] at h0; have h9 := HFP.out; rw [h0] at h9; exact absurd h9 (by simp)
              rw [nb_ne hne] at hy'
              rcases List.mem_cons.1 hy' with rfl | hy'
              · exact .inl (by have := HG0.out; have := HRX.out; omega)
              · obtain ⟨z, hz, hzy⟩ := List.mem_flatMap.1 hy'
                rcases List.mem_or_eq_of_mem_set hz with hz | rfl
                · exact .inr (.inl (HFBL.out z hz y hzy))
                · exact HXB.out y hzy)
          clear OKW RF HTF
          go_wp2_with fail
          refine bodyPost_ret (v := .tuple #[(LK.mk c.k c.v c.da c.dc c.ds (some ⟨g, 0, none⟩) cap (c.ks.set j x)).val, .int .i64 kd, .int .i64 cd]) (by simp [results, Tryd.results86, go_sem, q0, q1, q2, q3]; exact ⟨rfl, rfl, ⟨rfl, rfl, rfl⟩, rfl, by simp [LK.ks], rfl⟩) rfl ⟨_, by rw [FK.out.1, FK.out.2.1], ok_far X.out.1 fun y hy => ?_, by rw [FK.out.2.2, LK.co_eq]; simp [LK.k, LK.v, LK.ds, LK.ks, List.map_set, XOK2.out], fun y hy => ?_, by_fourP GF.out⟩
          · have hne : y ≠ w.heap.size := by rcases HBL.out y hy with h | h; (omega); (have := HA.out y h; omega)
            rw [Below.heap_setCell _ _ _ _ hne, Below.heap_setCell _ _ _ _ hne, Below.heap_setCell _ _ _ _ hne, Below.heap_setCell _ _ _ _ hne]
          · exact (HBL.out y hy).imp Nat.le_of_lt id
    · obtain rfl : j = c.ks.length := by omega
      have F := Lib.hid (show c.co.inr u.cs = (0, 0, zeC) by
        rw [FN.out, if_pos]
        exact inrs_none fun y hy => by
          have hy' : y < c.ks.length := by rw [← c.co_len]; exact hy
          rw [c.co_kid y hy']; exact HALL.out y hy' hy')
      have R4 := (HG.out.block _ (Array.getElem?_eq_some_iff.1 HR.out).1).trans HR.out
      obtain ⟨r0, r1, r2, r3, rf0, rf1, rf2, rf3⟩ := zero_atP R4
      clear R4
      go_wp2_with fail
      refine bodyPost_ret (v := .tuple #[.agg #[.int .i64 0, .int .i64 0, .slice none 0 0, .slice none 0 0], .int .i64 0, .int .i64 0]) (by simp [results, Tryd.results86, go_sem, r0, r1, r2, r3]) rfl ⟨LK.mk 0 0 none 0 [] none 0 [], (by rw [F.out]; rfl), leaf_ok _ 0 0 (by unfold cin64; omega) (by unfold cin64; omega), (by rw [F.out]; rfl), (fun y hy => by rw [leaf_bl] at hy; cases hy), by_fourP (GR.out.trans HG.out)⟩

theorem kin_all (u : LB) (c : LK) : KIn u c := by
  refine LK.ind (P := KIn u) (fun k v da dc ds a cap ks ih => ?_) c
  intro w b bc oc hu hB h ho hr
  by_cases hn : (LK.mk k v da dc ds a cap ks).co.rd = 0
  · exact kin_no u (.mk k v da dc ds a cap ks) ih w b bc oc hu hB h ho hr hn
  · exact kin_yes u (.mk k v da dc ds a cap ks) w b bc oc hu hB h ho hr hn

end Go.Proofs.YtfbgkbgoooepmaaDoor.Con

namespace Go.Proofs.YtfbgkbgoooepmaaDoor.Con
open Go.RowKit
set_option linter.unusedVariables false

set_option maxRecDepth 100000 in
set_option maxHeartbeats 1000000 in
theorem spec_nm (u : LB) (c : LK) (w : World) (h : bOk w u) (hc : c.Ok w) : Calls Tryd.prog 47 #[u.val, c.val] w (BoolGw (msC u.cs c.co && c.co.nm) w) := by
  have gA : Gw w ((w.alloc (.cells #[.slice u.a u.ks.length u.cap] 42)).alloc (c.obj 30)) := ((Gw.refl w).alloc _).alloc _
  have BB := Lib.hid ((BoxB.new w u 42).grow ((Gw.refl _).alloc (c.obj 30)))
  have hBK := BoxK.new (w.alloc (.cells #[.slice u.a u.ks.length u.cap] 42)) c 30
  rw [World.size_alloc] at hBK
  have OB := Lib.hid (h.grow gA)
  have CA := Lib.hid (hBK.at (hc.grow gA))
  have GA := Lib.hid gA
  have HL := Lib.hid (show u.cs.length = u.ks.length by simp [LB.cs])
  clear h hc gA hBK
  go_enter Tryd.func47, Tryd.ntmps47
  go_upto_region 1 with (fail)
  generalize ((w.alloc (.cells #[.slice u.a u.ks.length u.cap] 42)).alloc (.cells #[.int .i64 c.k, .int .i64 c.v, .slice c.da c.ds.length c.dc, .slice c.a c.ks.length c.cap] 30)) = w1 at *
  have KM0 := spec_l08State u c w1 w.heap.size (w.heap.size + 1) 0 OB.out BB.out CA.out
  cases hm : msC u.cs c.co with
  | false =>
    rw [hm] at KM0
    have KM := Lib.hid KM0
    have F := Lib.hid (show (msC u.cs c.co && c.co.nm) = false by rw [hm]; rfl)
    clear KM0 hm
    go_wp2_with fail
    refine KM.out.mono ?_
    rintro e w2 ⟨rfl, g2⟩
    go_wp2_with fail
    go_ret
    exact ⟨ret_b F.out.symm, GA.out.trans g2⟩
  | true =>
    rw [hm] at KM0
    have KM := Lib.hid KM0
    have HMS := Lib.hid hm
    have HM := Lib.hid (show okC c.co = true ∧ c.co.all (refH u.ks.length) = true by
      unfold msC at hm
      simp only [Bool.and_eq_true] at hm
      exact ⟨clos_ok hm.2.1, by have := hm.2.2.2.1; rwa [HL.out] at this⟩)
    clear KM0 hm
    go_wp2_with fail
    refine KM.out.mono ?_
    rintro e w2 ⟨rfl, g2⟩
    have G2 := Lib.hid g2
    have KI := Lib.hid (kin_all u c w2 w.heap.size (w.heap.size + 1) 0 (OB.out.grow g2) (BB.out.grow g2) (CA.out.grow g2) HM.out.1 HM.out.2)
    have EQ := Lib.hid (inr_nm u.cs c)
    obtain ⟨kd, hkd⟩ : ∃ k, k = (c.co.inr u.cs).1 := ⟨_, rfl⟩
    unfold InP at KI
    rw [← hkd] at KI EQ
    obtain ⟨cd, hcd⟩ : ∃ k, k = (c.co.inr u.cs).2.1 := ⟨_, rfl⟩
    rw [← hcd] at KI
    clear g2 hkd hcd
    go_wp2_with fail
    refine KI.out.mono ?_
    rintro e w3 ⟨x, rfl, hok, hx, hbl, g3⟩
    have G3 := Lib.hid (GA.out.trans (G2.out.trans g3))
    have F := Lib.hid (show (kd == 0) = c.co.nm by
      cases hb : c.co.nm with
      | true => rw [EQ.out.2 hb]; rfl
      | false =>
        have : kd ≠ 0 := fun e => by have := EQ.out.1 e; rw [hb] at this; cases this
        simpa using this)
    clear hok hx hbl g3 EQ KI
    go_upto_region 4 with (fail)
    have G4 := Lib.hid (G3.out.alloc (x.obj 30))
    generalize w3.alloc (.cells #[.int .i64 x.k, .int .i64 x.v, .slice x.da x.ds.length x.dc, .slice x.a x.ks.length x.cap] 30) = w4 at *
    go_wp2_with fail
    go_ret
    exact ⟨ret_b (by rw [HMS.out, F.out]; rfl), G4.out⟩

end Go.Proofs.YtfbgkbgoooepmaaDoor.Con
