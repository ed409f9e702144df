/-
  Contracts of the program's declaredType and validFields. No condition but that declarations and types lie in memory.
-/
import Derived.Test.YtkfplnnncfkjfaaDoorDaVal
import Derived.Test.YtkfplnnncfkjfaaDoorTyValid
namespace Go.Proofs.YtkfplnnncfkjfaaDoor.Con
open Go.RowKit
set_option linter.unusedVariables false

theorem known_nms (ns : List ByteArray) : ∀ (d : Nat) (t : Ty), t.nd d ≠ none → (t.known ns = true ↔ ∀ nm ∈ t.nms, nm ∈ ns)
  | 0, t, h => absurd (nd_zero t) h
  | d + 1, .mk k n ks, h => by
    rw [nd_succ] at h
    have hh : headB k n ks.length = true := by
      cases hb : headB k n ks.length with
      | false => rw [hb] at h; simp at h
      | true => rfl
    rw [hh] at h
    have hl : ndl ks d ≠ none := fun e => h (by rw [e]; rfl)
    have key : ∀ ks : List Ty, ndl ks d ≠ none → (Ty.known.kn ns ks = true ↔ ∀ nm ∈ Ty.nms.nmsl ks, nm ∈ ns) := by
      intro ks
      induction ks with
      | nil => intro _; simp [Ty.known.kn, Ty.nms.nmsl]
      | cons u us ih =>
        intro h
        rw [ndl_cons] at h
        have h1 : u.nd d ≠ none := fun e => h (by rw [e])
        have h2 : ndl us d ≠ none := fun e => h (by rw [e]; cases u.nd d <;> rfl)
        simp only [Ty.known.kn, Ty.nms.nmsl, Bool.and_eq_true, known_nms ns d u h1, ih h2, List.mem_append]
        constructor
        · rintro ⟨a, b⟩ nm (h | h)
          · exact a nm h
          · exact b nm h
        · exact fun a => ⟨fun nm h => a nm (.inl h), fun nm h => a nm (.inr h)⟩
    by_cases hk : k = 2
    · have : ks = [] := by
        rcases head_cases hh with ⟨e, _⟩ | ⟨_, _, e⟩ | ⟨e, _⟩ | ⟨e, _⟩
        · omega
        · exact List.eq_nil_of_length_eq_zero e
        · omega
        · omega
      subst this
      have e : (ns.any fun x => x.toList == n.toList) = hasB ns n := rfl
      rw [Ty.known, if_pos hk, Ty.nms, if_pos hk, Ty.nms.nmsl, e, hasB_iff]
      simp
    · rw [Ty.known, if_neg hk, Ty.nms, if_neg hk]
      simpa using key ks hl

theorem valid_known {ns : List ByteArray} {t : Ty} (h : validB t = true) : fB ns t = true ↔ ∀ nm ∈ t.nms, nm ∈ ns := by
  unfold fB
  rw [h, Bool.true_and]
  refine known_nms ns 6 t fun e => ?_
  unfold validB at h
  rw [e] at h
  cases h

theorem ta_int_dat (W : World) : (Instr.typeAssert (.iface 178 (.agg #[])) 161 173 true).run Tryd.prog W = .ok (.tuple #[.agg #[.string ⟨#[]⟩], .bool false]) W := by kernel_rfl
theorem tb_dat_dat (n : ByteArray) (W : World) : (Instr.typeAssert (.iface 173 (.agg #[.string n])) 161 173 true).run Tryd.prog W = .ok (.tuple #[.agg #[.string n], .bool true]) W := by kernel_rfl
theorem tb_fun_dat (cs : Array Value) (W : World) : (Instr.typeAssert (.iface 180 (.agg cs)) 161 173 true).run Tryd.prog W = .ok (.tuple #[.agg #[.string ⟨#[]⟩], .bool false]) W := by kernel_rfl
theorem tb_bang_dat (cs : Array Value) (W : World) : (Instr.typeAssert (.iface 182 (.agg cs)) 161 173 true).run Tryd.prog W = .ok (.tuple #[.agg #[.string ⟨#[]⟩], .bool false]) W := by kernel_rfl

/-- The node of a datum or not. -/
theorem node_data (p : LT) (hh : headB p.k p.n p.ks.length = true) : ∃ tt vv nm b, nodeV p = .iface tt vv ∧ (∀ W : World, (Instr.typeAssert (.iface tt vv) 161 173 true).run Tryd.prog W = .ok (.tuple #[.agg #[.string nm], .bool b]) W) ∧ (b = true ↔ p.k = 2) ∧ (b = true → nm = p.n) := by
  rcases head_cases hh with ⟨h, _⟩ | ⟨h, _⟩ | ⟨h, _⟩ | ⟨h, _⟩
  · exact ⟨_, _, _, _, by unfold nodeV; rw [if_pos h], ta_int_dat, by simp; omega, by simp⟩
  · exact ⟨_, _, _, _, by unfold nodeV; rw [if_neg (by omega), if_pos h], tb_dat_dat _, by simp [h], by simp⟩
  · exact ⟨_, _, _, _, by unfold nodeV; rw [if_neg (by omega), if_neg (by omega), if_pos h], tb_fun_dat _, by simp; omega, by simp⟩
  · exact ⟨_, _, _, _, by unfold nodeV; rw [if_neg (by omega), if_neg (by omega), if_neg (by omega)], tb_bang_dat _, by simp; omega, by simp⟩

theorem ix_neg {nm : ByteArray} {ns : List ByteArray} {r : Int} (h : IsIx nm ns r) : decide (r < 0) = !hasB ns nm := by
  rcases h with ⟨j, rfl, h1, _⟩ | ⟨rfl, h1⟩
  · rw [hasB_iff.2 (List.mem_of_getElem? h1)]; simp
  · have : hasB ns nm = false := hasB_false.2 fun hm => by
      obtain ⟨i, hi, e⟩ := List.mem_iff_getElem.1 hm
      exact h1 i (by rw [List.getElem?_eq_getElem hi, e])
    rw [this]; simp

set_option maxHeartbeats 1000000 in
theorem impl_declared (ds : List LD) (t : LT) (w : World) (a : Option Addr) (cap : Nat) (hd : dsOk w a cap ds) (h : t.Ok w) : Calls Tryd.prog 113 #[.slice a ds.length cap, t.val] w (BoolGw (fB (ds.map LN.n) t.ty) w) := by
  have g1 : Gw w (w.alloc (.cells #[.int .i64 t.k, .string t.n, .slice t.a t.ks.length t.cap] 47)) := (Gw.refl w).alloc _
  have key := impl_nodes t _ (h.grow g1)
  have G1 := Lib.hid g1
  have HD := Lib.hid hd
  clear g1 h hd
  go_enter Tryd.func113, Tryd.ntmps113
  go_wp2_with fail
  refine key.mono ?_
  rintro e w1 ⟨hg, ⟨hv, rfl⟩ | ⟨hv, P, nv, rfl, ⟨⟨na, nc, rfl⟩, hown⟩, hs, hok, hnm⟩⟩
  · have HV := Lib.hid (show fB (ds.map LN.n) t.ty = false by unfold fB; rw [hv]; rfl)
    have HG := Lib.hid (G1.out.trans hg)
    clear hv hg key
    go_wp2_with fail
    go_loopw [14] (fun i wr => i = .int .i64 0 ∧ Gw w wr) (fun i _ => 0)
    case atStart => exact ⟨rfl, HG.out⟩
    case round =>
      obtain ⟨rfl, hg⟩ := hrel
      go_wp2_with fail
      go_ret
      exact ⟨ret_b HV.out.symm, hg⟩
  · have h0 := size_pos hv
    have h2 := size_le t.ty
    have hp : 0 < P.length := by omega
    have hp2 : P.length ≤ 16 := by omega
    have HV := Lib.hid (valid_known (ns := ds.map LN.n) hv)
    have HG := Lib.hid (G1.out.trans hg)
    have OWN := Lib.hid hown
    have OK := Lib.hid hok
    have NM := Lib.hid hnm
    clear hv hg key hown hok hnm hs h0 h2
    go_wp2_with fail
    go_loopw [14] (fun i wr => ∃ j : Nat, j ≤ P.length ∧ i = .int .i64 j ∧ Gw w1 wr ∧ ∀ x (hx : x < P.length), x < j → P[x].k = 2 → P[x].n ∈ ds.map LN.n) (fun i _ => P.length - (intOf i).toNat)
    case atStart => exact ⟨0, by omega, rfl, Gw.refl _, fun x _ h => absurd h (by omega)⟩
    case round =>
      obtain ⟨j, hj, rfl, hg, hall⟩ := hrel
      have HALL := Lib.hid hall
      have HGR := Lib.hid hg
      clear hall
      by_cases hlt : j < P.length
      · obtain ⟨g, nc', e1, hgl, q2, q3⟩ : ∃ g c, (Value.slice na P.length nc) = .slice (some ⟨g, 0, none⟩) P.length c ∧ g < w1.heap.size ∧ P.length ≤ c ∧ c ≤ maxLen := by
          rcases OWN.out.2 with ⟨_, h0⟩ | ⟨g, cap, cur, hv, _, hgg, h1, h2, _⟩
          · omega
          · exact ⟨g, cap, hv, (Array.getElem?_eq_some_iff.1 hgg).1, h1, h2⟩
        injection e1 with e1 _ e3
        subst e1 e3
        obtain ⟨tt, vv, nm, bb, hnv, hta, hb2, hbn⟩ := node_data P[j] (OK.out _ (List.getElem_mem hlt)).1
        have hc : wr.cell? ⟨g, j, none⟩ = some (.iface tt vv) := by
          refine hg.cell ?_ hgl
          rw [OWN.out.cellAt j (by omega), List.getElem?_map, List.getElem?_eq_getElem hlt, ← hnv]
          rfl
        have r0 : (0 : Int) ≤ j := by omega
        have r1 : (j : Int) < P.length := by omega
        have HB2 := Lib.hid hb2
        have HBN := Lib.hid hbn
        have HNV := Lib.hid hnv
        clear hb2 hbn hnv hg
        cases bb with
        | false =>
          go_wp2_with fail
          go_roundw
          case rel =>
            refine ⟨j + 1, by omega, by go_num, HGR.out.alloc _, fun x hx hi hk => ?_⟩
            by_cases e : x = j
            · subst e; exact absurd (HB2.out.2 hk) (by simp)
            · exact HALL.out x hx (by omega) hk
          case measure => simp [intOf]; omega
        | true =>
          have HNM := Lib.hid (show nm = P[j].n from HBN.out rfl)
          have HK := Lib.hid (show P[j].k = 2 from HB2.out.1 rfl)
          have key := impl_dataIndex ds (wr.alloc (.cells #[.string nm] 173)) a cap nm (dsOk.grow HD.out (HG.out.trans (HGR.out.alloc _)))
          have KEY := Lib.hid key
          clear key
          go_wp2_with fail
          refine KEY.out.mono ?_
          rintro e w2 ⟨r, rfl, hr, hg2⟩
          have hix := ix_neg hr
          have HG2 := Lib.hid ((HGR.out.alloc _).trans hg2)
          clear hr hg2 hc
          cases hh : hasB (ds.map LN.n) nm with
          | false =>
            rw [hh] at hix
            have HF := Lib.hid (show fB (ds.map LN.n) t.ty = false by
              rw [Bool.eq_false_iff]
              intro hf
              have := HV.out.1 hf nm ((NM.out nm).1 ⟨_, List.getElem_mem hlt, HK.out, HNM.out.symm⟩)
              exact hasB_false.1 hh this)
            clear hh
            go_wp2_with fail
            go_ret
            exact ⟨ret_b HF.out.symm, HG.out.trans HG2.out⟩
          | true =>
            rw [hh] at hix
            have HIN := Lib.hid (hasB_iff.1 hh)
            clear hh
            go_wp2_with fail
            go_roundw
            case rel =>
              refine ⟨j + 1, by omega, by go_num, HG2.out, fun x hx hi hk => ?_⟩
              by_cases e : x = j
              · subst e; rw [← HNM.out]; exact HIN.out
              · exact HALL.out x hx (by omega) hk
            case measure => simp [intOf]; omega
      · obtain rfl : j = P.length := by omega
        clear hg
        have hpd : decide ((0 : Int) < P.length) = true := decide_eq_true (by omega)
        have HF := Lib.hid (show fB (ds.map LN.n) t.ty = true from HV.out.2 fun nm hm => by
          obtain ⟨p, hp, h1, h2⟩ := (NM.out nm).2 hm
          obtain ⟨x, hx, rfl⟩ := List.mem_iff_getElem.1 hp
          rw [← h2]
          exact HALL.out x hx hx h1)
        go_wp2_with fail
        go_ret
        exact ⟨ret_b HF.out.symm, HG.out.trans HGR.out⟩

set_option maxHeartbeats 1000000 in
theorem impl_fields (ds : List LD) (ks : List LT) (w : World) (a b : Option Addr) (cap c : Nat) (hd : dsOk w a cap ds) (h : slOk w b c ks) : Calls Tryd.prog 94 #[.slice a ds.length cap, .slice b ks.length c] w (BoolGw (fsB (ds.map LN.n) (ks.map LT.ty)) w) := by
  have hl : ks.length ≤ 9223372036854775807 := Nat.le_trans h.1 h.2.1
  have hr1 := h.2.2
  have HD := Lib.hid hd
  clear h hd
  by_cases h3 : ks.length ≤ 3
  · have HL := Lib.hid h3
    go_enter Tryd.func94, Tryd.ntmps94
    go_wp2_with fail
    go_loopw [12] (fun i wr => ∃ j : Nat, j ≤ ks.length ∧ i = .int .i64 j ∧ Gw w wr ∧ ∀ x (hx : x < ks.length), x < j → fB (ds.map LN.n) ks[x].ty = true) (fun i _ => ks.length - (intOf i).toNat)
    case atStart => exact ⟨0, by omega, rfl, Gw.refl _, fun x _ h => absurd h (by omega)⟩
    case round =>
      obtain ⟨j, hj, rfl, hg, hall⟩ := hrel
      have HALL := Lib.hid hall
      have HG := Lib.hid hg
      clear hall
      by_cases hlt : j < ks.length
      · obtain ⟨b1, o1, rfl, r1⟩ := hr1.resolve_left (fun e => by rw [e] at hlt; simp at hlt)
        obtain ⟨c0, c1, c2, hk⟩ := rowOk_get (r1.grow hg) j hlt
        have q0 : (0 : Int) ≤ j := by omega
        have q1 : (j : Int) < ks.length := by omega
        have g1 : Gw wr (wr.alloc (.cells #[.int .i64 ks[j].k, .string ks[j].n, .slice ks[j].a ks[j].ks.length ks[j].cap] 47)) := (Gw.refl wr).alloc _
        have key := impl_declared ds ks[j] _ a cap (dsOk.grow HD.out (hg.trans g1)) (hk.grow g1)
        have G1 := Lib.hid (hg.trans g1)
        clear hr1 r1 hk g1 hg
        cases hf : fB (ds.map LN.n) ks[j].ty with
        | false =>
          rw [hf] at key
          have KEY := Lib.hid key
          have HF := Lib.hid (fsB_bad hlt hf)
          clear key hf
          go_wp2_with fail
          refine KEY.out.mono ?_
          rintro e w2 ⟨rfl, hg2⟩
          clear c0 c1 c2
          go_wp2_with fail
          go_ret
          exact ⟨ret_b HF.out.symm, G1.out.trans hg2⟩
        | true =>
          rw [hf] at key
          have KEY := Lib.hid key
          have HF := Lib.hid hf
          clear key hf
          go_wp2_with fail
          refine KEY.out.mono ?_
          rintro e w2 ⟨rfl, hg2⟩
          clear c0 c1 c2
          go_wp2_with fail
          go_roundw
          case rel =>
            refine ⟨j + 1, by omega, by go_num, G1.out.trans hg2, fun x hx hi => ?_⟩
            by_cases e : x = j
            · subst e; exact HF.out
            · exact HALL.out x hx (by omega)
          case measure => simp [intOf]; omega
      · obtain rfl : j = ks.length := by omega
        clear hg hr1
        go_wp2_with fail
        go_ret
        exact ⟨ret_b (fsB_all HL.out HALL.out).symm, HG.out⟩
  · have HL := Lib.hid (fsB_len (ns := ds.map LN.n) (fs := ks.map LT.ty) (by simpa using h3))
    go_enter Tryd.func94, Tryd.ntmps94
    go_wp2_with fail
    go_ret
    exact ⟨ret_b HL.out.symm, Gw.refl _⟩

end Go.Proofs.YtkfplnnncfkjfaaDoor.Con
