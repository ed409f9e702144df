/-
  Which fields have finite values, as a function on types; contracts of the model's l02Lives and l02LivesBy. Condition: the types are valid and known.
-/
import Derived.Test.YtdlbhjkkgiaidaaDaLaw
import Derived.Deep.Cut
namespace Go.Proofs.Ytdlbhjkkgiaidaa.Con
open Go.RowKit
set_option linter.unusedVariables false

/-- What is known of a name. -/
def lk : List ByteArray → List Bool → ByteArray → Bool
  | x :: xs, b :: bs, n => if x.toList == n.toList then b else lk xs bs n
  | _, _, _ => false
def Ty.live (ns : List ByteArray) (L : List Bool) : Ty → Bool
  | .mk k n ks => if k = 2 then lk ns L n else if k = 4 then lh ks else true
where lh : List Ty → Bool
  | [] => true
  | t :: _ => t.live ns L

theorem lk_ix {n : ByteArray} : ∀ (ns : List ByteArray) (L : List Bool) (j : Nat), IsIx n ns j → L.length = ns.length → L[j]? = some (lk ns L n)
  | [], L, j, h, _ => by
    rcases h with ⟨i, e, h1, _⟩ | ⟨e, _⟩
    · simp at h1
    · omega
  | x :: xs, [], j, h, hl => by simp at hl
  | x :: xs, b :: bs, j, h, hl => by
    rcases h with ⟨i, e, h1, h2⟩ | ⟨e, _⟩
    · obtain rfl : i = j := by omega
      by_cases hx : x = n
      · subst hx
        have : i = 0 := by
          rcases Nat.eq_zero_or_pos i with h | h
          · exact h
          · exact absurd rfl (h2 0 h)
        subst this
        simp [lk]
      · match i, h1, h2 with
        | 0, h1, _ => exact absurd (by simpa using h1) hx
        | i + 1, h1, h2 =>
          have hb := toList_ne hx
          have := lk_ix xs bs i (.inl ⟨i, rfl, by simpa using h1, fun y hy e => h2 (y + 1) (by omega) (by simpa using e)⟩) (by simpa using hl)
          simp only [lk, hb]
          simpa using this
    · omega

theorem LT.live_eq (ns : List ByteArray) (L : List Bool) (t : LT) : t.ty.live ns L = if t.k = 2 then lk ns L t.n else if t.k = 4 then Ty.live.lh ns L (t.ks.map LT.ty) else true := by
  rw [LT.ty_eq, Ty.live]

/-- Valid up to a depth, and known. -/
def Wk (ns : List ByteArray) (d : Nat) (t : LT) : Prop := t.ty.nd d ≠ none ∧ t.ty.known ns = true
theorem Wk.of {ns : List ByteArray} {t : LT} (h : fB ns t.ty = true) : Wk ns 6 t := by
  unfold fB at h
  rw [Bool.and_eq_true] at h
  refine ⟨fun e => ?_, h.2⟩
  have := h.1
  unfold validB at this
  rw [e] at this
  cases this
theorem Wk.pos {ns : List ByteArray} {d : Nat} {t : LT} (h : Wk ns d t) : ∃ e, d = e + 1 := by
  cases d with
  | zero => exact absurd (nd_zero _) h.1
  | succ e => exact ⟨e, rfl⟩
theorem Wk.head {ns : List ByteArray} {d : Nat} {t : LT} (h : Wk ns (d + 1) t) : headB t.k t.n t.ks.length = true := by
  have := h.1
  rw [LT.ty_eq, nd_succ, List.length_map] at this
  cases hb : headB t.k t.n t.ks.length with
  | false => rw [hb] at this; simp at this
  | true => rfl
theorem Wk.bang {ns : List ByteArray} {d : Nat} {t : LT} (h : Wk ns (d + 1) t) (h4 : t.k = 4) : ∃ u, t.ks = [u] ∧ Wk ns d u ∧ ∀ L, t.ty.live ns L = u.ty.live ns L := by
  have hh := h.head
  have hl : t.ks.length = 1 := by
    rcases head_cases hh with ⟨e, _⟩ | ⟨e, _⟩ | ⟨e, _⟩ | ⟨_, _, e⟩
    · omega
    · omega
    · omega
    · exact e
  match hks : t.ks, hl with
  | [u], _ =>
    refine ⟨u, rfl, ⟨?_, ?_⟩, fun L => ?_⟩
    · have := h.1
      rw [LT.ty_eq, nd_succ, List.length_map, hh, if_pos rfl, hks, List.map_cons, List.map_nil, ndl_cons] at this
      intro e
      rw [e] at this
      simp at this
    · have := h.2
      rw [known_other (by omega), hks] at this
      simpa using this
    · rw [LT.live_eq, if_neg (by omega), if_pos h4, hks]; rfl
theorem Wk.data {ns : List ByteArray} {d : Nat} {t : LT} (h : Wk ns d t) (h2 : t.k = 2) : hasB ns t.n = true := by
  have := h.2
  rw [LT.ty_eq, Ty.known, if_pos h2] at this
  exact this

/-- The place of a known name. -/
theorem ix_known {n : ByteArray} {ns : List ByteArray} {r : Int} (h : IsIx n ns r) (hn : hasB ns n = true) : ∃ j : Nat, r = j ∧ j < ns.length ∧ IsIx n ns (j : Int) := by
  rcases h with ⟨j, rfl, h1, h2⟩ | ⟨rfl, h1⟩
  · exact ⟨j, rfl, (List.getElem?_eq_some_iff.1 h1).1, .inl ⟨j, rfl, h1, h2⟩⟩
  · obtain ⟨i, hi, e⟩ := List.mem_iff_getElem.1 (hasB_iff.1 hn)
    exact absurd (by rw [List.getElem?_eq_getElem hi, e]) (h1 i)

/-- A row of booleans in a block. -/
def Lv (w : World) (g : Nat) (L : List Bool) : Prop := w.heap[g]? = some (.cells (L.map Value.bool).toArray 4 (0, 0))
theorem Lv.lt {w : World} {g : Nat} {L : List Bool} (h : Lv w g L) : g < w.heap.size := (Array.getElem?_eq_some_iff.1 h).1
theorem Lv.grow {w w' : World} {g : Nat} {L : List Bool} (h : Lv w g L) (k : Gw w w') : Lv w' g L := (k.block g h.lt).trans h
theorem Lv.cell {w : World} {g : Nat} {L : List Bool} (h : Lv w g L) {j : Nat} {b : Bool} (hj : L[j]? = some b) : w.cell? ⟨g, j, none⟩ = some (.bool b) := by
  rw [cell_of_row _ _ j _ _ _ h]
  simp [hj]
theorem Lv.frozen {w : World} {g : Nat} {L : List Bool} (h : Lv w g L) (j : Nat) : w.frozen? ⟨g, j, none⟩ = false := by
  unfold Lv at h; simp [World.frozen?, h]
theorem Lv.set {w : World} {g : Nat} {L : List Bool} (h : Lv w g L) (j : Nat) (b : Bool) : Lv (w.setCell ⟨g, j, none⟩ (.bool b)) g (L.set j b) := by
  unfold Lv at *
  simp [World.setCell, Array.getElem?_modify, h, List.map_set]

theorem spec_lives (ds : List LD) (L : List Bool) (hL : L.length = ds.length) : ∀ (d : Nat) (t : LT), Wk (ds.map LN.n) d t → ∀ (w : World) (a : Option Addr) (cap g c : Nat), dsOk w a cap ds → Lv w g L → L.length ≤ 4 → t.Ok w →
    Calls Try.prog 105 #[.slice a ds.length cap, .slice (some ⟨g, 0, none⟩) L.length c, t.val] w (BoolGw (t.ty.live (ds.map LN.n) L) w)
  | 0, t, h, _, _, _, _, _, _, _, _, _ => absurd (nd_zero _) h.1
  | d + 1, t, h, w, a, cap, g, c, hd, hv, h4, ht => by
    have g1 : Gw w (w.alloc (.cells #[.int .i64 t.k, .string t.n, .slice t.a t.ks.length t.cap] 29)) := (Gw.refl w).alloc _
    have BX := Box.new w t 29
    have HD := Lib.hid (dsOk.grow hd g1)
    have HT := Lib.hid (ht.grow g1)
    have HV := Lib.hid (hv.grow g1)
    have G1 := Lib.hid g1
    have HW := Lib.hid h
    have HL := Lib.hid hL
    clear hd ht hv h g1 hL
    by_cases h2 : t.k = 2
    · have HLV := Lib.hid (show t.ty.live (ds.map LN.n) L = lk (ds.map LN.n) L t.n by rw [LT.live_eq, if_pos h2])
      have HN := Lib.hid (HW.out.data h2)
      have H2 := Lib.hid h2
      clear h2
      go_enter Try.func105, Try.ntmps105
      go_upto_region 1 with (fail)
      generalize w.alloc (.cells #[.int .i64 t.k, .string t.n, .slice t.a t.ks.length t.cap] 29) = w1 at *
      obtain ⟨p0, p1, p2⟩ := BX.c
      rw [H2.out] at p0
      go_wp2_with fail
      refine (spec_named ds w1 a cap t.n HD.out).mono ?_
      rintro e w2 ⟨r, rfl, hr, g2⟩
      obtain ⟨j, rfl, hj, hix⟩ := ix_known hr HN.out
      have hlk := lk_ix _ _ _ hix (by rw [HL.out, List.length_map])
      have hc := (HV.out.grow g2).cell hlk
      rw [List.length_map, ← HL.out] at hj
      have q0 : (0 : Int) ≤ j := by omega
      have q1 : (j : Int) < L.length := by omega
      clear hr hix hlk p0 p1 p2
      go_wp2_with fail
      go_ret
      exact ⟨ret_b HLV.out.symm, G1.out.trans g2⟩
    · have hd2 : (t.k == 2) = false := by simpa using h2
      by_cases h4' : t.k = 4
      · obtain ⟨u, hks, hwu, hlive⟩ := HW.out.bang h4'
        have HLV := Lib.hid (hlive L)
        have HWU := Lib.hid hwu
        have hsl := HT.out.kids
        obtain ⟨b, o, ha, hr⟩ := hsl.2.2.resolve_left (by rw [hks]; simp)
        obtain ⟨c0, c1, c2, hu⟩ := rowOk_get hr 0 (by rw [hks]; simp)
        have e0 : t.ks[0]'(by rw [hks]; simp) = u := by simp [hks]
        have hlen : t.ks.length = 1 := by rw [hks]; rfl
        rw [e0] at c0 c1 c2 hu
        simp only [Nat.zero_mul, Nat.add_zero] at c0 c1 c2
        have HA := Lib.hid ha
        have HLN := Lib.hid hlen
        have HU := Lib.hid hu
        have H4 := Lib.hid h4'
        clear hks hwu hlive hsl hr hu e0 ha hlen h2 h4' hd2
        go_enter Try.func105, Try.ntmps105
        go_upto_region 1 with (fail)
        generalize w.alloc (.cells #[.int .i64 t.k, .string t.n, .slice t.a t.ks.length t.cap] 29) = w1 at *
        obtain ⟨p0, p1, p2⟩ := BX.c
        rw [H4.out] at p0
        rw [HA.out, HLN.out] at p2
        go_wp2_with fail
        refine (spec_lives ds L HL.out d u HWU.out w1 a cap g c HD.out HV.out h4 HU.out).mono ?_
        rintro e w2 ⟨rfl, g2⟩
        clear p0 p1 p2 c0 c1 c2
        go_wp2_with fail
        go_ret
        exact ⟨ret_b HLV.out.symm, G1.out.trans g2⟩
      · have hd4 : (t.k == 4) = false := by simpa using h4'
        have HLV := Lib.hid (show t.ty.live (ds.map LN.n) L = true by rw [LT.live_eq, if_neg h2, if_neg h4'])
        go_enter Try.func105, Try.ntmps105
        go_upto_region 1 with (fail)
        generalize w.alloc (.cells #[.int .i64 t.k, .string t.n, .slice t.a t.ks.length t.cap] 29) = w1 at *
        obtain ⟨p0, p1, p2⟩ := BX.c
        clear h2 h4'
        go_wp2_with fail
        go_ret
        exact ⟨ret_b HLV.out.symm, G1.out⟩

/-- All fields of a constructor have values. -/
def cLive (ns : List ByteArray) (L : List Bool) (c : CD) : Bool := c.2.all (Ty.live ns L)

theorem cLive_bad {ns : List ByteArray} {L : List Bool} {c : LC} {j : Nat} (hj : j < c.xs.length) (h : c.xs[j].ty.live ns L = false) : cLive ns L (cty c) = false := by
  unfold cLive cty
  exact List.all_eq_false.2 ⟨_, List.mem_map.2 ⟨_, List.getElem_mem hj, rfl⟩, by rw [h]; simp⟩
theorem cLive_all {ns : List ByteArray} {L : List Bool} {c : LC} (h : ∀ i (hi : i < c.xs.length), i < c.xs.length → c.xs[i].ty.live ns L = true) : cLive ns L (cty c) = true := by
  unfold cLive cty
  exact List.all_eq_true.2 fun u hu => by
    obtain ⟨t, ht, rfl⟩ := List.mem_map.1 hu
    obtain ⟨i, hi, rfl⟩ := List.mem_iff_getElem.1 ht
    exact h i hi hi

theorem cB_field {ns : List ByteArray} {c : LC} (h : cB ns (cty c) = true) {j : Nat} (hj : j < c.xs.length) : fB ns c.xs[j].ty = true := by
  unfold cB fsB cty at h
  rw [Bool.and_eq_true, Bool.and_eq_true] at h
  exact List.all_eq_true.1 h.2.2 _ (List.mem_map.2 ⟨_, List.getElem_mem hj, rfl⟩)

set_option maxHeartbeats 1000000 in
theorem spec_livesBy (ds : List LD) (L : List Bool) (hL : L.length = ds.length) (cc : LC) (hcb : cB (ds.map LN.n) (cty cc) = true) (w : World) (a : Option Addr) (cap g c : Nat) (hd : dsOk w a cap ds) (hv : Lv w g L) (h4 : L.length ≤ 4) (h : cOk w cc) :
    Calls Try.prog 80 #[.slice a ds.length cap, .slice (some ⟨g, 0, none⟩) L.length c, cc.val] w (BoolGw (cLive (ds.map LN.n) L (cty cc)) w) := by
  have hl : cc.xs.length ≤ 9223372036854775807 := Nat.le_trans h.2.1 h.2.2.1
  have g1 : Gw w (w.alloc (.cells #[.string cc.n, .slice cc.a cc.xs.length cc.cap] 66)) := (Gw.refl w).alloc _
  have CB := Lib.hid (show CBox (w.alloc (.cells #[.string cc.n, .slice cc.a cc.xs.length cc.cap] 66)) w.heap.size cc from heap_alloc_new w _)
  have HD := Lib.hid (dsOk.grow hd g1)
  have HC := Lib.hid (h.grow g1)
  have HV := Lib.hid (hv.grow g1)
  have G1 := Lib.hid g1
  have HCB := Lib.hid hcb
  have HL := Lib.hid hL
  clear hd hv h g1 hcb hL
  go_enter Try.func80, Try.ntmps80
  go_upto_region 1 with (fail)
  generalize w.alloc (.cells #[.string cc.n, .slice cc.a cc.xs.length cc.cap] 66) = w1 at *
  go_wp2_with fail
  go_loopw [7] (fun i wr => ∃ j : Nat, j ≤ cc.xs.length ∧ i = .int .i64 j ∧ Gw w1 wr ∧ ∀ x (hx : x < cc.xs.length), x < j → cc.xs[x].ty.live (ds.map LN.n) L = true) (fun i _ => cc.xs.length - (intOf i).toNat)
  case atStart => exact ⟨0, by omega, rfl, Gw.refl _, fun x _ h => absurd h (by omega)⟩
  case round =>
    obtain ⟨j, hj, rfl, hg, hall⟩ := hrel
    have HALL := Lib.hid hall
    have HG := Lib.hid hg
    obtain ⟨p0, p1⟩ := (CB.out.grow hg).c
    clear hall hg
    by_cases hlt : j < cc.xs.length
    · obtain ⟨b1, o1, e1, r1⟩ := HC.out.2.2.2.resolve_left (fun e => by rw [e] at hlt; simp at hlt)
      obtain ⟨c0, c1, c2, hk⟩ := rowOk_get (r1.grow HG.out) j hlt
      rw [e1] at p1
      have q0 : (0 : Int) ≤ j := by omega
      have q1 : (j : Int) < cc.xs.length := by omega
      have key := spec_lives ds L HL.out 6 cc.xs[j] (Wk.of (cB_field HCB.out hlt)) wr a cap g c (dsOk.grow HD.out HG.out) (HV.out.grow HG.out) h4 hk
      clear e1 r1 hk
      cases hb : cc.xs[j].ty.live (ds.map LN.n) L with
      | false =>
        rw [hb] at key
        have KEY := Lib.hid key
        have HB := Lib.hid (cLive_bad (c := cc) hlt hb)
        clear key hb
        go_wp2_with fail
        refine KEY.out.mono ?_
        rintro e w2 ⟨rfl, g2⟩
        clear c0 c1 c2 p0 p1
        go_wp2_with fail
        go_ret
        exact ⟨ret_b HB.out.symm, (G1.out.trans HG.out).trans g2⟩
      | true =>
        rw [hb] at key
        have KEY := Lib.hid key
        have HB := Lib.hid hb
        clear key hb
        go_wp2_with fail
        refine KEY.out.mono ?_
        rintro e w2 ⟨rfl, g2⟩
        clear c0 c1 c2 p0 p1
        go_wp2_with fail
        go_roundw
        case rel =>
          refine ⟨j + 1, by omega, by go_num, HG.out.trans g2, fun x hx hi => ?_⟩
          by_cases e : x = j
          · subst e; exact HB.out
          · exact HALL.out x hx (by omega)
        case measure => simp [intOf]; omega
    · obtain rfl : j = cc.xs.length := by omega
      go_wp2_with fail
      go_ret
      exact ⟨ret_b (cLive_all HALL.out).symm, G1.out.trans HG.out⟩

end Go.Proofs.Ytdlbhjkkgiaidaa.Con
