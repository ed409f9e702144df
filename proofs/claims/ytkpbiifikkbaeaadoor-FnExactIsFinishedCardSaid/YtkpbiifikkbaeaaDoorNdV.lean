/-
  Contracts of the model's l09Closure, l09IsValue, l09Frame, l09Book, l09Ok, ValidNeed and IsFinished. Condition: book and state lie in memory and are not too large.
-/
import Derived.Test.YtkpbiifikkbaeaaDoorMs
import Derived.Test.YtkpbiifikkbaeaaDoorNdAt
namespace Go.Proofs.YtkpbiifikkbaeaaDoor.Con
open Go.RowKit
set_option linter.unusedVariables false

def KAb2 (u : LK) : Prop := ∀ (w : World) (b o d lv : Nat), coAt w b o u → u.co.all headC = true → d + u.co.dp ≤ 2000000 → Calls Tryd.prog 100 #[.pointer (some ⟨b, o, none⟩), .int .i64 d] w (BoolGw ((u.co.pl d lv).any freeP) w)

set_option maxRecDepth 2000000 in
set_option maxHeartbeats 20000000 in
theorem kab2_of (u : LK) (ih : ∀ t ∈ u.ks, KAb2 t) : KAb2 u := by
  intro w b o d lv h hok hd
  have hll := h.2.kl
  have A := Lib.hid h
  have HOK := Lib.hid hok
  have PE := Lib.hid (pl_eq u.co d lv)
  obtain ⟨p0, p1, p2, p3⟩ := h.c
  clear h
  by_cases h1 : u.k = 1
  · have hl := var_leaf hok (by rw [u.co_k]; exact h1)
    have F := Lib.hid (show (u.co.pl d lv).any freeP = decide ((d : Int) ≤ u.v) by
      rw [PE.out, hl, kpl_zero, List.any_cons, List.any_nil, Bool.or_false, u.co_k, u.co_v, h1]; rfl)
    have q : (u.k == 1) = true := by simpa using h1
    clear h1 hok hl
    by_cases hv : (d : Int) ≤ u.v
    · have F2 := Lib.hid (show (u.co.pl d lv).any freeP = true by rw [F.out, decide_eq_true hv])
      clear F
      go_enter Tryd.func100, Tryd.ntmps100
      go_wp2_with fail
      go_ret
      exact ⟨ret_b (by rw [F2.out]), Gw.refl _⟩
    · have F2 := Lib.hid (show (u.co.pl d lv).any freeP = false by rw [F.out, decide_eq_false hv])
      clear F
      go_enter Tryd.func100, Tryd.ntmps100
      go_wp2_with fail
      go_ret
      exact ⟨ret_b (by rw [F2.out]), Gw.refl _⟩
  have q1 : (u.k == 1) = false := by simpa using h1
  have F := Lib.hid (show (u.co.pl d lv).any freeP = (kpl u.co d lv u.co.ks.length).any freeP by
    rw [PE.out, List.any_cons]; unfold freeP; simp only [u.co_k, q1, Bool.false_and, Bool.false_or])
  clear h1 hok
  go_enter Tryd.func100, Tryd.ntmps100
  go_wp2_with fail
  clear p0 p1 p2 p3 q1
  go_loopw [5] (fun i wr => ∃ j : Nat, j ≤ u.ks.length ∧ i = .int .i64 j ∧ Gw w wr ∧ (kpl u.co d lv j).any freeP = false) (fun i _ => u.ks.length - (intOf i).toNat)
  case atStart => exact ⟨0, by omega, rfl, Gw.refl _, rfl⟩
  case round =>
    obtain ⟨j, hj, rfl, hg, hall⟩ := hrel
    have HALL := Lib.hid hall
    have HG := Lib.hid hg
    have A3 := Lib.hid (A.out.grow hg)
    clear hall hg
    obtain ⟨p0, p1, p2, p3⟩ := A3.out.c
    by_cases hlt : j < u.ks.length
    · obtain ⟨bk, ok, ha, hkid⟩ := coAt.kid A3.out.2.kids j hlt
      rw [ha] at p3
      have r0 : (0 : Int) ≤ j := by omega
      have r1 : (j : Int) < u.ks.length := by omega
      have hdk := dp_kid j hlt
      have hb1 := bndK_le u.k j
      obtain ⟨p, hp⟩ : ∃ p, p = bndK u.k j := ⟨_, rfl⟩
      have KS := Lib.hid (show kpl u.co d lv (j + 1) = kpl u.co d lv j ++ u.ks[j].co.pl (d + p) (lv + bxK u.k) by
        rw [kpl_succ _ _ _ _ (by rw [u.co_len]; exact hlt), u.co_kid j hlt, u.co_k, hp])
      have KB := Lib.hid (spec_cbinds u wr.drew b o j (by omega) (A3.out.grow (Gw.refl wr).drew))
      rw [← hp] at KB hb1
      have KEY := Lib.hid (ih u.ks[j] (List.getElem_mem hlt) wr.drew bk (ok + j * 4) (d + p) (lv + bxK u.k) (hkid.grow (Gw.refl wr).drew) (all_kid HOK.out j hlt) (by omega))
      rw [show ((d + p : Nat) : Int) = (d : Int) + p by omega] at KEY
      have wr1 : IntKind.i64.wrap ((d : Int) + p) = (d : Int) + p := by unfold IntKind.wrap; simp [IntKind.signed, IntKind.bits]; omega
      clear ha hkid hp
      go_wp2_with fail
      refine wp_region_still_tail 11 (by kernel_rfl) (by kernel_rfl) ?_
      simp only [List.take_succ_cons, List.take_zero, List.drop_succ_cons, List.drop_zero]
      iterate 9 still_step
      still_call KB.out
      iterate 1 still_step
      refine wpStill_nil ?_
      change wpList _ _ _ _ _ wr.drew
      go_wp2_with fail
      refine KEY.out.mono ?_
      rintro e w3 ⟨rfl, g3⟩
      have G3 := Lib.hid (HG.out.trans ((Gw.refl wr).drew.trans g3))
      clear g3 KEY p0 p1 p2 p3 KB
      cases hb : (u.ks[j].co.pl (d + p) (lv + bxK u.k)).any freeP with
      | true =>
        have FF := Lib.hid (show (kpl u.co d lv u.co.ks.length).any freeP = true by
          obtain ⟨x, hx, hx2⟩ := List.any_eq_true.1 hb
          refine List.any_eq_true.2 ⟨x, ?_, hx2⟩
          unfold kpl
          refine List.mem_flatMap.2 ⟨j, by rw [u.co_len]; exact List.mem_range.2 hlt, ?_⟩
          have h1 := kpl_succ u.co d lv j (by rw [u.co_len]; exact hlt)
          rw [KS.out] at h1
          have h2 := List.append_cancel_left h1
          rw [List.getD, List.getElem?_eq_getElem (by rw [u.co_len]; exact hlt)]
          show x ∈ (u.co.ks[j]'(by rw [u.co_len]; exact hlt)).pl (d + bndK u.co.k j) (lv + bxK u.co.k)
          rw [← h2]; exact hx)
        clear hb
        go_wp2_with fail
        go_ret
        exact ⟨ret_b (by rw [F.out, FF.out]), G3.out⟩
      | false =>
        have HB := Lib.hid hb
        clear hb
        go_wp2_with fail
        go_roundw
        case rel => exact ⟨j + 1, by omega, by go_num, G3.out, by rw [KS.out, List.any_append, HALL.out, HB.out]; rfl⟩
        case measure => simp [intOf]; omega
    · obtain rfl : j = u.ks.length := by omega
      have FF := Lib.hid (show (kpl u.co d lv u.co.ks.length).any freeP = false by rw [u.co_len]; exact HALL.out)
      go_wp2_with fail
      go_ret
      exact ⟨ret_b (by rw [F.out, FF.out]), HG.out⟩

theorem kab2_all (u : LK) : KAb2 u := by
  refine LK.ind (P := KAb2) (fun k v da dc ds a cap ks ih => ?_) u
  exact kab2_of (.mk k v da dc ds a cap ks) ih

/-- Validity of the parts of a state for a book of n definitions, as far as its addresses fulfil A. -/
def clG (n : Int) (A : Int → Bool) (u : LClP) : Bool := okC u.1 && (u.1.all erH && (u.1.all (refH n) && (!((u.1.pl u.2.length 0).any freeP) && (decide (u.2.length ≤ 256) && u.2.all A))))
def fldC (u : LClP) : Bool := decide (u.1.ks.length = u.2.length) && (List.range u.1.ks.length).all fun i => ((u.1.ks.getD i default).k == 1) && ((u.1.ks.getD i default).v == (i : Int))
def valC (u : LClP) : Bool := if u.1.k = 4 ∨ u.1.k = 2 then true else if u.1.k = 8 then fldC u else false
def nocC (u : LClP) : Bool := (u.1.k == 0) && ((u.1.v == 0) && (decide (u.1.ds.length = 0) && (decide (u.1.ks.length = 0) && decide (u.2.length = 0))))
def frG (n : Int) (A : Int → Bool) (f : LFrP) : Bool :=
  if f.1 = 3 then inV f.2.1 1 6 && (decide (f.2.2.1.length = 0) && clG n A f.2.2.2)
  else nocC f.2.2.2 && (if f.1 = 1 ∨ f.1 = 2 then A f.2.1 && decide (f.2.2.1.length = 0)
    else if f.1 = 4 then inV f.2.1 1 6 && (decide (f.2.2.1.length = 1) && inV (f.2.2.1.getD 0 0) (-2147483648) 2147483647)
    else if f.1 = 5 then (f.2.1 == 0) && (inV f.2.2.1.length 1 4 && coD f.2.2.1 n)
    else if f.1 = 6 then (f.2.1 == 0) && (decide (f.2.2.1.length = 2) && coD f.2.2.1 n) else false)
def thG (n : Int) (A : Int → Bool) (c : LThP) : Bool := clG n A c.2 && (!c.1 || valC c.2)
def inH (h : Int) : Int → Bool := fun x => inV x 0 (h - 1)
def ndG (ts : List Co) (A : Int → Bool) (m : LNdP) : Bool := ebC ts && (decide (m.2.2.length ≤ 2000) && (decide (m.2.1.length ≤ 400) && (clG ts.length A m.1 && (m.2.1.all (frG ts.length A) && m.2.2.all (thG ts.length A)))))
def okNd (ts : List Co) (m : LNdP) : Bool := ndG ts (inH m.2.2.length) m
def doneC (m : LNdP) : Bool := decide (m.2.1.length = 0) && valC m.1

theorem spec_l09Book (u : LB) (w : World) (b : Nat) (h : bOk w u) (hB : BoxB w b u) : Calls Tryd.prog 66 #[.pointer (some ⟨b, 0, none⟩)] w (BoolGw (ebC u.cs) w) := by
  have hl := h.len
  have OB := Lib.hid h
  have BB := Lib.hid hB
  have KB0 := spec_l06Book u w b h hB
  clear h hB
  cases h1 : bkC u.cs with
  | false =>
    rw [h1] at KB0
    have KB := Lib.hid KB0
    have F := Lib.hid (show ebC u.cs = false by unfold ebC; rw [h1]; rfl)
    clear KB0 h1 hl
    go_enter Tryd.func66, Tryd.ntmps66
    go_wp2_with fail
    refine KB.out.mono ?_
    rintro e w1 ⟨rfl, g1⟩
    go_wp2_with fail
    go_ret
    exact ⟨ret_b F.out.symm, g1⟩
  | true =>
  rw [h1] at KB0
  have KB := Lib.hid KB0
  have F := Lib.hid (show ebC u.cs = u.cs.all fun d => d.all erH by unfold ebC; rw [h1]; simp)
  clear KB0 h1
  go_enter Tryd.func66, Tryd.ntmps66
  go_wp2_with fail
  refine KB.out.mono ?_
  rintro e w4 ⟨rfl, g4⟩
  have G4 := Lib.hid g4
  clear g4
  go_wp2_with fail
  go_loopw [3] (fun i wr => ∃ j : Nat, j ≤ u.ks.length ∧ i = .int .i64 j ∧ (∀ x (hx : x < u.ks.length), x < j → u.ks[x].co.all erH = true) ∧ Gw w wr) (fun i _ => u.ks.length - (intOf i).toNat)
  case atStart => exact ⟨0, by omega, rfl, (fun x _ h => absurd h (by omega)), G4.out⟩
  case round =>
    obtain ⟨j, hj, rfl, hall, hg⟩ := hrel
    have HALL := Lib.hid hall
    have HG := Lib.hid hg
    have p0 := (BB.out.grow hg).c
    clear hall
    by_cases hlt : j < u.ks.length
    · obtain ⟨bk, ok, ha, hkid⟩ := coAt.kid (OB.out.grow hg) j hlt
      rw [ha] at p0
      have q0 : (0 : Int) ≤ j := by omega
      have q1 : (j : Int) < u.ks.length := by omega
      have KK0 := ker_all u.ks[j] wr bk (ok + j * 4) hkid
      clear ha hkid hg
      cases he : u.ks[j].co.all erH with
      | false =>
        rw [he] at KK0
        have KK := Lib.hid KK0
        have FF := Lib.hid (show ebC u.cs = false by
          rw [F.out]
          exact List.all_eq_false.2 ⟨u.ks[j].co, by rw [LB.cs]; exact List.mem_map_of_mem (List.getElem_mem hlt), by rw [he]; simp⟩)
        clear KK0 he
        go_wp2_with fail
        refine KK.out.mono ?_
        rintro e w5 ⟨rfl, g5⟩
        clear p0
        go_wp2_with fail
        go_ret
        exact ⟨ret_b FF.out.symm, HG.out.trans g5⟩
      | true =>
        rw [he] at KK0
        have KK := Lib.hid KK0
        have HE := Lib.hid he
        clear KK0 he
        go_wp2_with fail
        refine KK.out.mono ?_
        rintro e w5 ⟨rfl, g5⟩
        have G5 := Lib.hid (HG.out.trans g5)
        clear p0 g5
        go_wp2_with fail
        go_roundw
        case rel =>
          refine ⟨j + 1, by omega, by go_num, fun x hx hxj => ?_, G5.out⟩
          by_cases e : x = j
          · subst e; exact HE.out
          · exact HALL.out x hx (by omega)
        case measure => simp [intOf]; omega
    · have q1 : ¬ ((j : Int) < u.ks.length) := by omega
      have FF := Lib.hid (show ebC u.cs = true by
        rw [F.out, List.all_eq_true]
        intro d hd
        rw [LB.cs] at hd
        obtain ⟨z, hz, rfl⟩ := List.mem_map.1 hd
        obtain ⟨i, hi, rfl⟩ := List.mem_iff_getElem.1 hz
        exact HALL.out i hi (by omega))
      clear hg
      go_wp2_with fail
      go_ret
      exact ⟨ret_b FF.out.symm, HG.out⟩

set_option maxRecDepth 100000 in
set_option maxHeartbeats 4000000 in
theorem spec_l09Cl (u : LB) (c : LCl) (heap : Nat) (w : World) (b bc oc : Nat) (hb : BoxB w b u) (hx : clAt w bc oc c) (hh : heap ≤ 1048576) (he : c.e.length ≤ 1048576) : Calls Tryd.prog 67 #[.pointer (some ⟨b, 0, none⟩), .pointer (some ⟨bc, oc, none⟩), .int .i64 heap] w (BoolGw (clG u.ks.length (inH heap) c.pu) w) := by
  have AX := Lib.hid hx
  have p0 := hb.c
  have p4 := hx.1 4 _ rfl
  have lb := hb.lt
  have lc := hx.lt rfl
  have HE := Lib.hid he
  have he1 : c.e.length ≤ 9223372036854775807 := by omega
  clear hb hx he
  go_enter Tryd.func67, Tryd.ntmps67
  go_upto_region 1 with (fail)
  have K00 := fun (W : World) (g : Gw w W) => spec_l06Ok c.t W bc oc (AX.out.t.grow g)
  cases h0 : okC c.t.co with
  | false =>
    rw [h0] at K00
    have K0 := Lib.hid K00
    have F := Lib.hid (show clG u.ks.length (inH heap) c.pu = false by unfold clG LCl.pu; simp [h0])
    clear K00 h0
    refine wp_region_held_drew (S := fun W => W.cell? ⟨b, 0, none⟩ = some (.slice u.a u.ks.length u.cap) ∧ W.cell? ⟨bc, oc + 4, none⟩ = some (.slice c.ea c.e.length c.ec)) (by kernel_rfl) ?_ (fun hHeld => ?_)
    · exact ⟨p0, p4⟩
    refine wpAnyH_take (i := 0) (oi := { dst := some 8, op := _, type := _, pos := _, after := _, guard := _ }) (v := .pointer (some ⟨bc, oc, none⟩)) rfl (by kernel_rfl) (by kernel_rfl) (by kernel_rfl) (fun _ _ _ h => h) (Or.inl ⟨by rfl, ?_⟩) (by assumption) ?_
    · intro w hSw; obtain ⟨p0, p4⟩ := hSw; go_simp
    try simp only [Act.put, List.setIfInBounds_toArray, List.set_cons_zero, List.set_cons_succ]
    refine wpAnyH_take (i := 1) (oi := { dst := some 9, op := _, type := _, pos := _, after := _, guard := _ }) (v := .pointer (some ⟨bc, oc, none⟩)) rfl (by kernel_rfl) (by kernel_rfl) (by kernel_rfl) (fun _ _ _ h => h) (Or.inl ⟨by rfl, ?_⟩) (by assumption) ?_
    · intro w hSw; obtain ⟨p0, p4⟩ := hSw; go_simp
    try simp only [Act.put, List.setIfInBounds_toArray, List.set_cons_zero, List.set_cons_succ]
    refine wpAnyH_take (i := 2) (oi := { dst := some 10, op := _, type := _, pos := _, after := _, guard := _ }) (v := .pointer (some ⟨bc, oc, none⟩)) rfl (by kernel_rfl) (by kernel_rfl) (by kernel_rfl) (fun _ _ _ h => h) (Or.inl ⟨by rfl, ?_⟩) (by assumption) ?_
    · intro w hSw; obtain ⟨p0, p4⟩ := hSw; go_simp
    try simp only [Act.put, List.setIfInBounds_toArray, List.set_cons_zero, List.set_cons_succ]
    refine wpAnyH_ready (rs := [3]) (by kernel_rfl) (by simp) ?_
    refine AllReadyH.cons (o := { dst := some 11, op := _, type := _, pos := _, after := _, guard := _ }) rfl (fun K hK => ?_) AllReadyH.nil
    go_simp
    go_at_call 99
    refine (K0.out w.drew ((Gw.refl w).drew)).mono ?_
    rintro e w2 ⟨rfl, g2⟩
    have k2 : ∀ b o, b < w.heap.size → w2.cell? ⟨b, o, none⟩ = w.cell? ⟨b, o, none⟩ := fun b o h => (bcell g2).1 b o h
    go_wp2_with fail
    refine hK.out _ _ ⟨(k2 _ _ lb).trans p0, (k2 _ _ lc).trans p4⟩ (fun hHeld => ?_)
    clear hK K
    try simp only [Act.put, List.setIfInBounds_toArray, List.set_cons_zero, List.set_cons_succ]
    refine wpAnyH_take (i := 4) (oi := { dst := some 12, op := _, type := _, pos := _, after := _, guard := _ }) (v := .bool true) rfl (by kernel_rfl) (by kernel_rfl) (by kernel_rfl) (fun _ _ _ h => h) (Or.inl ⟨by rfl, ?_⟩) (by assumption) ?_
    · intro w hSw; obtain ⟨p0, p4⟩ := hSw; go_simp
    try simp only [Act.put, List.setIfInBounds_toArray, List.set_cons_zero, List.set_cons_succ]
    refine wpAnyH_take (i := 5) (oi := { dst := some 13, op := _, type := _, pos := _, after := _, guard := _ }) (v := .bool true) rfl (by kernel_rfl) (by kernel_rfl) (by kernel_rfl) (fun _ _ _ h => h) (Or.inl ⟨by rfl, ?_⟩) (by assumption) ?_
    · intro w hSw; obtain ⟨p0, p4⟩ := hSw; go_simp
    try simp only [Act.put, List.setIfInBounds_toArray, List.set_cons_zero, List.set_cons_succ]
    refine wpAnyH_take (i := 6) (oi := { dst := some 14, op := _, type := _, pos := _, after := _, guard := _ }) (v := undef) rfl (by kernel_rfl) (by kernel_rfl) (by kernel_rfl) (fun _ _ _ h => h) (Or.inr ⟨by rfl, rfl⟩) (by assumption) ?_
    try simp only [Act.put, List.setIfInBounds_toArray, List.set_cons_zero, List.set_cons_succ]
    refine wpAnyH_take (i := 7) (oi := { dst := some 15, op := _, type := _, pos := _, after := _, guard := _ }) (v := undef) rfl (by kernel_rfl) (by kernel_rfl) (by kernel_rfl) (fun _ _ _ h => h) (Or.inr ⟨by rfl, rfl⟩) (by assumption) ?_
    try simp only [Act.put, List.setIfInBounds_toArray, List.set_cons_zero, List.set_cons_succ]
    refine wpAnyH_take (i := 8) (oi := { dst := some 16, op := _, type := _, pos := _, after := _, guard := _ }) (v := undef) rfl (by kernel_rfl) (by kernel_rfl) (by kernel_rfl) (fun _ _ _ h => h) (Or.inr ⟨by rfl, rfl⟩) (by assumption) ?_
    try simp only [Act.put, List.setIfInBounds_toArray, List.set_cons_zero, List.set_cons_succ]
    refine wpAnyH_take (i := 9) (oi := { dst := some 17, op := _, type := _, pos := _, after := _, guard := _ }) (v := undef) rfl (by kernel_rfl) (by kernel_rfl) (by kernel_rfl) (fun _ _ _ h => h) (Or.inr ⟨by rfl, rfl⟩) (by assumption) ?_
    try simp only [Act.put, List.setIfInBounds_toArray, List.set_cons_zero, List.set_cons_succ]
    refine wpAnyH_take (i := 10) (oi := { dst := some 18, op := _, type := _, pos := _, after := _, guard := _ }) (v := undef) rfl (by kernel_rfl) (by kernel_rfl) (by kernel_rfl) (fun _ _ _ h => h) (Or.inr ⟨by rfl, rfl⟩) (by assumption) ?_
    try simp only [Act.put, List.setIfInBounds_toArray, List.set_cons_zero, List.set_cons_succ]
    refine wpAnyH_take (i := 11) (oi := { dst := some 19, op := _, type := _, pos := _, after := _, guard := _ }) (v := .bool true) rfl (by kernel_rfl) (by kernel_rfl) (by kernel_rfl) (fun _ _ _ h => h) (Or.inl ⟨by rfl, ?_⟩) (by assumption) ?_
    · intro w hSw; obtain ⟨p0, p4⟩ := hSw; go_simp
    try simp only [Act.put, List.setIfInBounds_toArray, List.set_cons_zero, List.set_cons_succ]
    refine wpAnyH_take (i := 12) (oi := { dst := some 20, op := _, type := _, pos := _, after := _, guard := _ }) (v := .bool true) rfl (by kernel_rfl) (by kernel_rfl) (by kernel_rfl) (fun _ _ _ h => h) (Or.inl ⟨by rfl, ?_⟩) (by assumption) ?_
    · intro w hSw; obtain ⟨p0, p4⟩ := hSw; go_simp
    try simp only [Act.put, List.setIfInBounds_toArray, List.set_cons_zero, List.set_cons_succ]
    refine wpAnyH_take (i := 13) (oi := { dst := some 21, op := _, type := _, pos := _, after := _, guard := _ }) (v := undef) rfl (by kernel_rfl) (by kernel_rfl) (by kernel_rfl) (fun _ _ _ h => h) (Or.inr ⟨by rfl, rfl⟩) (by assumption) ?_
    try simp only [Act.put, List.setIfInBounds_toArray, List.set_cons_zero, List.set_cons_succ]
    refine wpAnyH_take (i := 14) (oi := { dst := some 22, op := _, type := _, pos := _, after := _, guard := _ }) (v := undef) rfl (by kernel_rfl) (by kernel_rfl) (by kernel_rfl) (fun _ _ _ h => h) (Or.inr ⟨by rfl, rfl⟩) (by assumption) ?_
    try simp only [Act.put, List.setIfInBounds_toArray, List.set_cons_zero, List.set_cons_succ]
    refine wpAnyH_take (i := 15) (oi := { dst := some 23, op := _, type := _, pos := _, after := _, guard := _ }) (v := undef) rfl (by kernel_rfl) (by kernel_rfl) (by kernel_rfl) (fun _ _ _ h => h) (Or.inr ⟨by rfl, rfl⟩) (by assumption) ?_
    try simp only [Act.put, List.setIfInBounds_toArray, List.set_cons_zero, List.set_cons_succ]
    refine wpAnyH_take (i := 16) (oi := { dst := some 24, op := _, type := _, pos := _, after := _, guard := _ }) (v := undef) rfl (by kernel_rfl) (by kernel_rfl) (by kernel_rfl) (fun _ _ _ h => h) (Or.inr ⟨by rfl, rfl⟩) (by assumption) ?_
    try simp only [Act.put, List.setIfInBounds_toArray, List.set_cons_zero, List.set_cons_succ]
    refine wpAnyH_take (i := 17) (oi := { dst := some 25, op := _, type := _, pos := _, after := _, guard := _ }) (v := undef) rfl (by kernel_rfl) (by kernel_rfl) (by kernel_rfl) (fun _ _ _ h => h) (Or.inr ⟨by rfl, rfl⟩) (by assumption) ?_
    try simp only [Act.put, List.setIfInBounds_toArray, List.set_cons_zero, List.set_cons_succ]
    refine wpAnyH_take (i := 18) (oi := { dst := some 26, op := _, type := _, pos := _, after := _, guard := _ }) (v := undef) rfl (by kernel_rfl) (by kernel_rfl) (by kernel_rfl) (fun _ _ _ h => h) (Or.inr ⟨by rfl, rfl⟩) (by assumption) ?_
    try simp only [Act.put, List.setIfInBounds_toArray, List.set_cons_zero, List.set_cons_succ]
    refine wpAnyH_take (i := 19) (oi := { dst := some 27, op := _, type := _, pos := _, after := _, guard := _ }) (v := undef) rfl (by kernel_rfl) (by kernel_rfl) (by kernel_rfl) (fun _ _ _ h => h) (Or.inr ⟨by rfl, rfl⟩) (by assumption) ?_
    try simp only [Act.put, List.setIfInBounds_toArray, List.set_cons_zero, List.set_cons_succ]
    refine wpAnyH_take (i := 20) (oi := { dst := some 28, op := _, type := _, pos := _, after := _, guard := _ }) (v := undef) rfl (by kernel_rfl) (by kernel_rfl) (by kernel_rfl) (fun _ _ _ h => h) (Or.inr ⟨by rfl, rfl⟩) (by assumption) ?_
    try simp only [Act.put, List.setIfInBounds_toArray, List.set_cons_zero, List.set_cons_succ]
    refine wpAnyH_take (i := 21) (oi := { dst := some 29, op := _, type := _, pos := _, after := _, guard := _ }) (v := undef) rfl (by kernel_rfl) (by kernel_rfl) (by kernel_rfl) (fun _ _ _ h => h) (Or.inr ⟨by rfl, rfl⟩) (by assumption) ?_
    try simp only [Act.put, List.setIfInBounds_toArray, List.set_cons_zero, List.set_cons_succ]
    refine wpAnyH_take (i := 22) (oi := { dst := some 30, op := _, type := _, pos := _, after := _, guard := _ }) (v := undef) rfl (by kernel_rfl) (by kernel_rfl) (by kernel_rfl) (fun _ _ _ h => h) (Or.inr ⟨by rfl, rfl⟩) (by assumption) ?_
    try simp only [Act.put, List.setIfInBounds_toArray, List.set_cons_zero, List.set_cons_succ]
    refine wpAnyH_take (i := 23) (oi := { dst := some 31, op := _, type := _, pos := _, after := _, guard := _ }) (v := .bool true) rfl (by kernel_rfl) (by kernel_rfl) (by kernel_rfl) (fun _ _ _ h => h) (Or.inl ⟨by rfl, ?_⟩) (by assumption) ?_
    · intro w hSw; obtain ⟨p0, p4⟩ := hSw; go_simp
    try simp only [Act.put, List.setIfInBounds_toArray, List.set_cons_zero, List.set_cons_succ]
    refine wpAnyH_take (i := 24) (oi := { dst := some 32, op := _, type := _, pos := _, after := _, guard := _ }) (v := .bool true) rfl (by kernel_rfl) (by kernel_rfl) (by kernel_rfl) (fun _ _ _ h => h) (Or.inl ⟨by rfl, ?_⟩) (by assumption) ?_
    · intro w hSw; obtain ⟨p0, p4⟩ := hSw; go_simp
    try simp only [Act.put, List.setIfInBounds_toArray, List.set_cons_zero, List.set_cons_succ]
    refine wpAnyH_take (i := 25) (oi := { dst := some 33, op := _, type := _, pos := _, after := _, guard := _ }) (v := undef) rfl (by kernel_rfl) (by kernel_rfl) (by kernel_rfl) (fun _ _ _ h => h) (Or.inr ⟨by rfl, rfl⟩) (by assumption) ?_
    try simp only [Act.put, List.setIfInBounds_toArray, List.set_cons_zero, List.set_cons_succ]
    refine wpAnyH_take (i := 26) (oi := { dst := some 34, op := _, type := _, pos := _, after := _, guard := _ }) (v := undef) rfl (by kernel_rfl) (by kernel_rfl) (by kernel_rfl) (fun _ _ _ h => h) (Or.inr ⟨by rfl, rfl⟩) (by assumption) ?_
    try simp only [Act.put, List.setIfInBounds_toArray, List.set_cons_zero, List.set_cons_succ]
    refine wpAnyH_take (i := 27) (oi := { dst := some 35, op := _, type := _, pos := _, after := _, guard := _ }) (v := undef) rfl (by kernel_rfl) (by kernel_rfl) (by kernel_rfl) (fun _ _ _ h => h) (Or.inr ⟨by rfl, rfl⟩) (by assumption) ?_
    try simp only [Act.put, List.setIfInBounds_toArray, List.set_cons_zero, List.set_cons_succ]
    refine wpAnyH_take (i := 28) (oi := { dst := some 36, op := _, type := _, pos := _, after := _, guard := _ }) (v := undef) rfl (by kernel_rfl) (by kernel_rfl) (by kernel_rfl) (fun _ _ _ h => h) (Or.inr ⟨by rfl, rfl⟩) (by assumption) ?_
    try simp only [Act.put, List.setIfInBounds_toArray, List.set_cons_zero, List.set_cons_succ]
    refine wpAnyH_take (i := 29) (oi := { dst := some 37, op := _, type := _, pos := _, after := _, guard := _ }) (v := undef) rfl (by kernel_rfl) (by kernel_rfl) (by kernel_rfl) (fun _ _ _ h => h) (Or.inr ⟨by rfl, rfl⟩) (by assumption) ?_
    try simp only [Act.put, List.setIfInBounds_toArray, List.set_cons_zero, List.set_cons_succ]
    refine wpAnyH_take (i := 30) (oi := { dst := some 38, op := _, type := _, pos := _, after := _, guard := _ }) (v := undef) rfl (by kernel_rfl) (by kernel_rfl) (by kernel_rfl) (fun _ _ _ h => h) (Or.inr ⟨by rfl, rfl⟩) (by assumption) ?_
    try simp only [Act.put, List.setIfInBounds_toArray, List.set_cons_zero, List.set_cons_succ]
    refine wpAnyH_take (i := 31) (oi := { dst := some 39, op := _, type := _, pos := _, after := _, guard := _ }) (v := undef) rfl (by kernel_rfl) (by kernel_rfl) (by kernel_rfl) (fun _ _ _ h => h) (Or.inr ⟨by rfl, rfl⟩) (by assumption) ?_
    try simp only [Act.put, List.setIfInBounds_toArray, List.set_cons_zero, List.set_cons_succ]
    refine wpAnyH_take (i := 32) (oi := { dst := some 40, op := _, type := _, pos := _, after := _, guard := _ }) (v := undef) rfl (by kernel_rfl) (by kernel_rfl) (by kernel_rfl) (fun _ _ _ h => h) (Or.inr ⟨by rfl, rfl⟩) (by assumption) ?_
    try simp only [Act.put, List.setIfInBounds_toArray, List.set_cons_zero, List.set_cons_succ]
    refine wpAnyH_take (i := 33) (oi := { dst := some 41, op := _, type := _, pos := _, after := _, guard := _ }) (v := undef) rfl (by kernel_rfl) (by kernel_rfl) (by kernel_rfl) (fun _ _ _ h => h) (Or.inr ⟨by rfl, rfl⟩) (by assumption) ?_
    try simp only [Act.put, List.setIfInBounds_toArray, List.set_cons_zero, List.set_cons_succ]
    refine wpAnyH_take (i := 34) (oi := { dst := some 42, op := _, type := _, pos := _, after := _, guard := _ }) (v := .bool true) rfl (by kernel_rfl) (by kernel_rfl) (by kernel_rfl) (fun _ _ _ h => h) (Or.inl ⟨by rfl, ?_⟩) (by assumption) ?_
    · intro w hSw; obtain ⟨p0, p4⟩ := hSw; go_simp
    try simp only [Act.put, List.setIfInBounds_toArray, List.set_cons_zero, List.set_cons_succ]
    refine wpAnyH_take (i := 35) (oi := { dst := some 43, op := _, type := _, pos := _, after := _, guard := _ }) (v := .bool true) rfl (by kernel_rfl) (by kernel_rfl) (by kernel_rfl) (fun _ _ _ h => h) (Or.inl ⟨by rfl, ?_⟩) (by assumption) ?_
    · intro w hSw; obtain ⟨p0, p4⟩ := hSw; go_simp
    try simp only [Act.put, List.setIfInBounds_toArray, List.set_cons_zero, List.set_cons_succ]
    refine wpAnyH_take (i := 36) (oi := { dst := some 44, op := _, type := _, pos := _, after := _, guard := _ }) (v := undef) rfl (by kernel_rfl) (by kernel_rfl) (by kernel_rfl) (fun _ _ _ h => h) (Or.inr ⟨by rfl, rfl⟩) (by assumption) ?_
    try simp only [Act.put, List.setIfInBounds_toArray, List.set_cons_zero, List.set_cons_succ]
    refine wpAnyH_take (i := 37) (oi := { dst := some 45, op := _, type := _, pos := _, after := _, guard := _ }) (v := undef) rfl (by kernel_rfl) (by kernel_rfl) (by kernel_rfl) (fun _ _ _ h => h) (Or.inr ⟨by rfl, rfl⟩) (by assumption) ?_
    try simp only [Act.put, List.setIfInBounds_toArray, List.set_cons_zero, List.set_cons_succ]
    refine wpAnyH_take (i := 38) (oi := { dst := some 46, op := _, type := _, pos := _, after := _, guard := _ }) (v := undef) rfl (by kernel_rfl) (by kernel_rfl) (by kernel_rfl) (fun _ _ _ h => h) (Or.inr ⟨by rfl, rfl⟩) (by assumption) ?_
    try simp only [Act.put, List.setIfInBounds_toArray, List.set_cons_zero, List.set_cons_succ]
    refine wpAnyH_take (i := 39) (oi := { dst := some 47, op := _, type := _, pos := _, after := _, guard := _ }) (v := undef) rfl (by kernel_rfl) (by kernel_rfl) (by kernel_rfl) (fun _ _ _ h => h) (Or.inr ⟨by rfl, rfl⟩) (by assumption) ?_
    try simp only [Act.put, List.setIfInBounds_toArray, List.set_cons_zero, List.set_cons_succ]
    refine wpAnyH_take (i := 40) (oi := { dst := some 48, op := _, type := _, pos := _, after := _, guard := _ }) (v := undef) rfl (by kernel_rfl) (by kernel_rfl) (by kernel_rfl) (fun _ _ _ h => h) (Or.inr ⟨by rfl, rfl⟩) (by assumption) ?_
    try simp only [Act.put, List.setIfInBounds_toArray, List.set_cons_zero, List.set_cons_succ]
    refine wpAnyH_take (i := 41) (oi := { dst := some 49, op := _, type := _, pos := _, after := _, guard := _ }) (v := undef) rfl (by kernel_rfl) (by kernel_rfl) (by kernel_rfl) (fun _ _ _ h => h) (Or.inr ⟨by rfl, rfl⟩) (by assumption) ?_
    try simp only [Act.put, List.setIfInBounds_toArray, List.set_cons_zero, List.set_cons_succ]
    refine wpAnyH_take (i := 42) (oi := { dst := some 50, op := _, type := _, pos := _, after := _, guard := _ }) (v := .bool true) rfl (by kernel_rfl) (by kernel_rfl) (by kernel_rfl) (fun _ _ _ h => h) (Or.inl ⟨by rfl, ?_⟩) (by assumption) ?_
    · intro w hSw; obtain ⟨p0, p4⟩ := hSw; go_simp
    try simp only [Act.put, List.setIfInBounds_toArray, List.set_cons_zero, List.set_cons_succ]
    refine wpAnyH_done (by kernel_rfl) ?_ _
    clear hHeld
    go_wp2_with fail
    go_ret
    exact ⟨ret_b F.out.symm, ((Gw.refl w).drew).trans g2⟩
  | true =>
  rw [h0] at K00
  have K0 := Lib.hid K00
  have H0 := Lib.hid h0
  clear K00 h0
  have K10 := fun (W : World) (g : Gw w W) => ker_all c.t W bc oc (AX.out.t.grow g)
  cases h1 : c.t.co.all erH with
  | false =>
    rw [h1] at K10
    have K1 := Lib.hid K10
    have F := Lib.hid (show clG u.ks.length (inH heap) c.pu = false by unfold clG LCl.pu; simp [H0.out, h1])
    clear K10 h1
    refine wp_region_held_drew (S := fun W => W.cell? ⟨b, 0, none⟩ = some (.slice u.a u.ks.length u.cap) ∧ W.cell? ⟨bc, oc + 4, none⟩ = some (.slice c.ea c.e.length c.ec)) (by kernel_rfl) ?_ (fun hHeld => ?_)
    · exact ⟨p0, p4⟩
    refine wpAnyH_take (i := 0) (oi := { dst := some 8, op := _, type := _, pos := _, after := _, guard := _ }) (v := .pointer (some ⟨bc, oc, none⟩)) rfl (by kernel_rfl) (by kernel_rfl) (by kernel_rfl) (fun _ _ _ h => h) (Or.inl ⟨by rfl, ?_⟩) (by assumption) ?_
    · intro w hSw; obtain ⟨p0, p4⟩ := hSw; go_simp
    try simp only [Act.put, List.setIfInBounds_toArray, List.set_cons_zero, List.set_cons_succ]
    refine wpAnyH_take (i := 1) (oi := { dst := some 9, op := _, type := _, pos := _, after := _, guard := _ }) (v := .pointer (some ⟨bc, oc, none⟩)) rfl (by kernel_rfl) (by kernel_rfl) (by kernel_rfl) (fun _ _ _ h => h) (Or.inl ⟨by rfl, ?_⟩) (by assumption) ?_
    · intro w hSw; obtain ⟨p0, p4⟩ := hSw; go_simp
    try simp only [Act.put, List.setIfInBounds_toArray, List.set_cons_zero, List.set_cons_succ]
    refine wpAnyH_take (i := 2) (oi := { dst := some 10, op := _, type := _, pos := _, after := _, guard := _ }) (v := .pointer (some ⟨bc, oc, none⟩)) rfl (by kernel_rfl) (by kernel_rfl) (by kernel_rfl) (fun _ _ _ h => h) (Or.inl ⟨by rfl, ?_⟩) (by assumption) ?_
    · intro w hSw; obtain ⟨p0, p4⟩ := hSw; go_simp
    try simp only [Act.put, List.setIfInBounds_toArray, List.set_cons_zero, List.set_cons_succ]
    refine wpAnyH_ready (rs := [3]) (by kernel_rfl) (by simp) ?_
    refine AllReadyH.cons (o := { dst := some 11, op := _, type := _, pos := _, after := _, guard := _ }) rfl (fun K hK => ?_) AllReadyH.nil
    go_simp
    go_at_call 99
    refine (K0.out w.drew ((Gw.refl w).drew)).mono ?_
    rintro e w2 ⟨rfl, g2⟩
    have k2 : ∀ b o, b < w.heap.size → w2.cell? ⟨b, o, none⟩ = w.cell? ⟨b, o, none⟩ := fun b o h => (bcell g2).1 b o h
    go_wp2_with fail
    refine hK.out _ _ ⟨(k2 _ _ lb).trans p0, (k2 _ _ lc).trans p4⟩ (fun hHeld => ?_)
    clear hK K
    try simp only [Act.put, List.setIfInBounds_toArray, List.set_cons_zero, List.set_cons_succ]
    refine wpAnyH_take (i := 4) (oi := { dst := some 12, op := _, type := _, pos := _, after := _, guard := _ }) (v := .bool false) rfl (by kernel_rfl) (by kernel_rfl) (by kernel_rfl) (fun _ _ _ h => h) (Or.inl ⟨by rfl, ?_⟩) (by assumption) ?_
    · intro w hSw; obtain ⟨p0, p4⟩ := hSw; go_simp
    try simp only [Act.put, List.setIfInBounds_toArray, List.set_cons_zero, List.set_cons_succ]
    refine wpAnyH_take (i := 5) (oi := { dst := some 13, op := _, type := _, pos := _, after := _, guard := _ }) (v := .bool false) rfl (by kernel_rfl) (by kernel_rfl) (by kernel_rfl) (fun _ _ _ h => h) (Or.inl ⟨by rfl, ?_⟩) (by assumption) ?_
    · intro w hSw; obtain ⟨p0, p4⟩ := hSw; go_simp
    try simp only [Act.put, List.setIfInBounds_toArray, List.set_cons_zero, List.set_cons_succ]
    refine wpAnyH_take (i := 6) (oi := { dst := some 14, op := _, type := _, pos := _, after := _, guard := _ }) (v := .pointer (some ⟨bc, oc, none⟩)) rfl (by kernel_rfl) (by kernel_rfl) (by kernel_rfl) (fun _ _ _ h => h) (Or.inl ⟨by rfl, ?_⟩) (by assumption) ?_
    · intro w hSw; obtain ⟨p0, p4⟩ := hSw; go_simp
    try simp only [Act.put, List.setIfInBounds_toArray, List.set_cons_zero, List.set_cons_succ]
    refine wpAnyH_take (i := 7) (oi := { dst := some 15, op := _, type := _, pos := _, after := _, guard := _ }) (v := .pointer (some ⟨bc, oc, none⟩)) rfl (by kernel_rfl) (by kernel_rfl) (by kernel_rfl) (fun _ _ _ h => h) (Or.inl ⟨by rfl, ?_⟩) (by assumption) ?_
    · intro w hSw; obtain ⟨p0, p4⟩ := hSw; go_simp
    try simp only [Act.put, List.setIfInBounds_toArray, List.set_cons_zero, List.set_cons_succ]
    refine wpAnyH_take (i := 8) (oi := { dst := some 16, op := _, type := _, pos := _, after := _, guard := _ }) (v := .pointer (some ⟨bc, oc, none⟩)) rfl (by kernel_rfl) (by kernel_rfl) (by kernel_rfl) (fun _ _ _ h => h) (Or.inl ⟨by rfl, ?_⟩) (by assumption) ?_
    · intro w hSw; obtain ⟨p0, p4⟩ := hSw; go_simp
    try simp only [Act.put, List.setIfInBounds_toArray, List.set_cons_zero, List.set_cons_succ]
    refine wpAnyH_ready (rs := [9]) (by kernel_rfl) (by simp) ?_
    refine AllReadyH.cons (o := { dst := some 17, op := _, type := _, pos := _, after := _, guard := _ }) rfl (fun K hK => ?_) AllReadyH.nil
    go_simp
    go_at_call 90
    refine (K1.out w2 (((Gw.refl w).drew).trans g2)).mono ?_
    rintro e w3 ⟨rfl, g3⟩
    have k3 : ∀ b o, b < w.heap.size → w3.cell? ⟨b, o, none⟩ = w.cell? ⟨b, o, none⟩ := fun b o h => ((bcell g3).1 b o (Nat.lt_of_lt_of_le h (((Gw.refl w).drew).trans g2).size)).trans (k2 b o h)
    go_wp2_with fail
    refine hK.out _ _ ⟨(k3 _ _ lb).trans p0, (k3 _ _ lc).trans p4⟩ (fun hHeld => ?_)
    clear hK K
    try simp only [Act.put, List.setIfInBounds_toArray, List.set_cons_zero, List.set_cons_succ]
    refine wpAnyH_take (i := 10) (oi := { dst := some 18, op := _, type := _, pos := _, after := _, guard := _ }) (v := .bool true) rfl (by kernel_rfl) (by kernel_rfl) (by kernel_rfl) (fun _ _ _ h => h) (Or.inl ⟨by rfl, ?_⟩) (by assumption) ?_
    · intro w hSw; obtain ⟨p0, p4⟩ := hSw; go_simp
    try simp only [Act.put, List.setIfInBounds_toArray, List.set_cons_zero, List.set_cons_succ]
    refine wpAnyH_take (i := 11) (oi := { dst := some 19, op := _, type := _, pos := _, after := _, guard := _ }) (v := .bool true) rfl (by kernel_rfl) (by kernel_rfl) (by kernel_rfl) (fun _ _ _ h => h) (Or.inl ⟨by rfl, ?_⟩) (by assumption) ?_
    · intro w hSw; obtain ⟨p0, p4⟩ := hSw; go_simp
    try simp only [Act.put, List.setIfInBounds_toArray, List.set_cons_zero, List.set_cons_succ]
    refine wpAnyH_take (i := 12) (oi := { dst := some 20, op := _, type := _, pos := _, after := _, guard := _ }) (v := .bool true) rfl (by kernel_rfl) (by kernel_rfl) (by kernel_rfl) (fun _ _ _ h => h) (Or.inl ⟨by rfl, ?_⟩) (by assumption) ?_
    · intro w hSw; obtain ⟨p0, p4⟩ := hSw; go_simp
    try simp only [Act.put, List.setIfInBounds_toArray, List.set_cons_zero, List.set_cons_succ]
    refine wpAnyH_take (i := 13) (oi := { dst := some 21, op := _, type := _, pos := _, after := _, guard := _ }) (v := undef) rfl (by kernel_rfl) (by kernel_rfl) (by kernel_rfl) (fun _ _ _ h => h) (Or.inr ⟨by rfl, rfl⟩) (by assumption) ?_
    try simp only [Act.put, List.setIfInBounds_toArray, List.set_cons_zero, List.set_cons_succ]
    refine wpAnyH_take (i := 14) (oi := { dst := some 22, op := _, type := _, pos := _, after := _, guard := _ }) (v := undef) rfl (by kernel_rfl) (by kernel_rfl) (by kernel_rfl) (fun _ _ _ h => h) (Or.inr ⟨by rfl, rfl⟩) (by assumption) ?_
    try simp only [Act.put, List.setIfInBounds_toArray, List.set_cons_zero, List.set_cons_succ]
    refine wpAnyH_take (i := 15) (oi := { dst := some 23, op := _, type := _, pos := _, after := _, guard := _ }) (v := undef) rfl (by kernel_rfl) (by kernel_rfl) (by kernel_rfl) (fun _ _ _ h => h) (Or.inr ⟨by rfl, rfl⟩) (by assumption) ?_
    try simp only [Act.put, List.setIfInBounds_toArray, List.set_cons_zero, List.set_cons_succ]
    refine wpAnyH_take (i := 16) (oi := { dst := some 24, op := _, type := _, pos := _, after := _, guard := _ }) (v := undef) rfl (by kernel_rfl) (by kernel_rfl) (by kernel_rfl) (fun _ _ _ h => h) (Or.inr ⟨by rfl, rfl⟩) (by assumption) ?_
    try simp only [Act.put, List.setIfInBounds_toArray, List.set_cons_zero, List.set_cons_succ]
    refine wpAnyH_take (i := 17) (oi := { dst := some 25, op := _, type := _, pos := _, after := _, guard := _ }) (v := undef) rfl (by kernel_rfl) (by kernel_rfl) (by kernel_rfl) (fun _ _ _ h => h) (Or.inr ⟨by rfl, rfl⟩) (by assumption) ?_
    try simp only [Act.put, List.setIfInBounds_toArray, List.set_cons_zero, List.set_cons_succ]
    refine wpAnyH_take (i := 18) (oi := { dst := some 26, op := _, type := _, pos := _, after := _, guard := _ }) (v := undef) rfl (by kernel_rfl) (by kernel_rfl) (by kernel_rfl) (fun _ _ _ h => h) (Or.inr ⟨by rfl, rfl⟩) (by assumption) ?_
    try simp only [Act.put, List.setIfInBounds_toArray, List.set_cons_zero, List.set_cons_succ]
    refine wpAnyH_take (i := 19) (oi := { dst := some 27, op := _, type := _, pos := _, after := _, guard := _ }) (v := undef) rfl (by kernel_rfl) (by kernel_rfl) (by kernel_rfl) (fun _ _ _ h => h) (Or.inr ⟨by rfl, rfl⟩) (by assumption) ?_
    try simp only [Act.put, List.setIfInBounds_toArray, List.set_cons_zero, List.set_cons_succ]
    refine wpAnyH_take (i := 20) (oi := { dst := some 28, op := _, type := _, pos := _, after := _, guard := _ }) (v := undef) rfl (by kernel_rfl) (by kernel_rfl) (by kernel_rfl) (fun _ _ _ h => h) (Or.inr ⟨by rfl, rfl⟩) (by assumption) ?_
    try simp only [Act.put, List.setIfInBounds_toArray, List.set_cons_zero, List.set_cons_succ]
    refine wpAnyH_take (i := 21) (oi := { dst := some 29, op := _, type := _, pos := _, after := _, guard := _ }) (v := undef) rfl (by kernel_rfl) (by kernel_rfl) (by kernel_rfl) (fun _ _ _ h => h) (Or.inr ⟨by rfl, rfl⟩) (by assumption) ?_
    try simp only [Act.put, List.setIfInBounds_toArray, List.set_cons_zero, List.set_cons_succ]
    refine wpAnyH_take (i := 22) (oi := { dst := some 30, op := _, type := _, pos := _, after := _, guard := _ }) (v := undef) rfl (by kernel_rfl) (by kernel_rfl) (by kernel_rfl) (fun _ _ _ h => h) (Or.inr ⟨by rfl, rfl⟩) (by assumption) ?_
    try simp only [Act.put, List.setIfInBounds_toArray, List.set_cons_zero, List.set_cons_succ]
    refine wpAnyH_take (i := 23) (oi := { dst := some 31, op := _, type := _, pos := _, after := _, guard := _ }) (v := .bool true) rfl (by kernel_rfl) (by kernel_rfl) (by kernel_rfl) (fun _ _ _ h => h) (Or.inl ⟨by rfl, ?_⟩) (by assumption) ?_
    · intro w hSw; obtain ⟨p0, p4⟩ := hSw; go_simp
    try simp only [Act.put, List.setIfInBounds_toArray, List.set_cons_zero, List.set_cons_succ]
    refine wpAnyH_take (i := 24) (oi := { dst := some 32, op := _, type := _, pos := _, after := _, guard := _ }) (v := .bool true) rfl (by kernel_rfl) (by kernel_rfl) (by kernel_rfl) (fun _ _ _ h => h) (Or.inl ⟨by rfl, ?_⟩) (by assumption) ?_
    · intro w hSw; obtain ⟨p0, p4⟩ := hSw; go_simp
    try simp only [Act.put, List.setIfInBounds_toArray, List.set_cons_zero, List.set_cons_succ]
    refine wpAnyH_take (i := 25) (oi := { dst := some 33, op := _, type := _, pos := _, after := _, guard := _ }) (v := undef) rfl (by kernel_rfl) (by kernel_rfl) (by kernel_rfl) (fun _ _ _ h => h) (Or.inr ⟨by rfl, rfl⟩) (by assumption) ?_
    try simp only [Act.put, List.setIfInBounds_toArray, List.set_cons_zero, List.set_cons_succ]
    refine wpAnyH_take (i := 26) (oi := { dst := some 34, op := _, type := _, pos := _, after := _, guard := _ }) (v := undef) rfl (by kernel_rfl) (by kernel_rfl) (by kernel_rfl) (fun _ _ _ h => h) (Or.inr ⟨by rfl, rfl⟩) (by assumption) ?_
    try simp only [Act.put, List.setIfInBounds_toArray, List.set_cons_zero, List.set_cons_succ]
    refine wpAnyH_take (i := 27) (oi := { dst := some 35, op := _, type := _, pos := _, after := _, guard := _ }) (v := undef) rfl (by kernel_rfl) (by kernel_rfl) (by kernel_rfl) (fun _ _ _ h => h) (Or.inr ⟨by rfl, rfl⟩) (by assumption) ?_
    try simp only [Act.put, List.setIfInBounds_toArray, List.set_cons_zero, List.set_cons_succ]
    refine wpAnyH_take (i := 28) (oi := { dst := some 36, op := _, type := _, pos := _, after := _, guard := _ }) (v := undef) rfl (by kernel_rfl) (by kernel_rfl) (by kernel_rfl) (fun _ _ _ h => h) (Or.inr ⟨by rfl, rfl⟩) (by assumption) ?_
    try simp only [Act.put, List.setIfInBounds_toArray, List.set_cons_zero, List.set_cons_succ]
    refine wpAnyH_take (i := 29) (oi := { dst := some 37, op := _, type := _, pos := _, after := _, guard := _ }) (v := undef) rfl (by kernel_rfl) (by kernel_rfl) (by kernel_rfl) (fun _ _ _ h => h) (Or.inr ⟨by rfl, rfl⟩) (by assumption) ?_
    try simp only [Act.put, List.setIfInBounds_toArray, List.set_cons_zero, List.set_cons_succ]
    refine wpAnyH_take (i := 30) (oi := { dst := some 38, op := _, type := _, pos := _, after := _, guard := _ }) (v := undef) rfl (by kernel_rfl) (by kernel_rfl) (by kernel_rfl) (fun _ _ _ h => h) (Or.inr ⟨by rfl, rfl⟩) (by assumption) ?_
    try simp only [Act.put, List.setIfInBounds_toArray, List.set_cons_zero, List.set_cons_succ]
    refine wpAnyH_take (i := 31) (oi := { dst := some 39, op := _, type := _, pos := _, after := _, guard := _ }) (v := undef) rfl (by kernel_rfl) (by kernel_rfl) (by kernel_rfl) (fun _ _ _ h => h) (Or.inr ⟨by rfl, rfl⟩) (by assumption) ?_
    try simp only [Act.put, List.setIfInBounds_toArray, List.set_cons_zero, List.set_cons_succ]
    refine wpAnyH_take (i := 32) (oi := { dst := some 40, op := _, type := _, pos := _, after := _, guard := _ }) (v := undef) rfl (by kernel_rfl) (by kernel_rfl) (by kernel_rfl) (fun _ _ _ h => h) (Or.inr ⟨by rfl, rfl⟩) (by assumption) ?_
    try simp only [Act.put, List.setIfInBounds_toArray, List.set_cons_zero, List.set_cons_succ]
    refine wpAnyH_take (i := 33) (oi := { dst := some 41, op := _, type := _, pos := _, after := _, guard := _ }) (v := undef) rfl (by kernel_rfl) (by kernel_rfl) (by kernel_rfl) (fun _ _ _ h => h) (Or.inr ⟨by rfl, rfl⟩) (by assumption) ?_
    try simp only [Act.put, List.setIfInBounds_toArray, List.set_cons_zero, List.set_cons_succ]
    refine wpAnyH_take (i := 34) (oi := { dst := some 42, op := _, type := _, pos := _, after := _, guard := _ }) (v := .bool true) rfl (by kernel_rfl) (by kernel_rfl) (by kernel_rfl) (fun _ _ _ h => h) (Or.inl ⟨by rfl, ?_⟩) (by assumption) ?_
    · intro w hSw; obtain ⟨p0, p4⟩ := hSw; go_simp
    try simp only [Act.put, List.setIfInBounds_toArray, List.set_cons_zero, List.set_cons_succ]
    refine wpAnyH_take (i := 35) (oi := { dst := some 43, op := _, type := _, pos := _, after := _, guard := _ }) (v := .bool true) rfl (by kernel_rfl) (by kernel_rfl) (by kernel_rfl) (fun _ _ _ h => h) (Or.inl ⟨by rfl, ?_⟩) (by assumption) ?_
    · intro w hSw; obtain ⟨p0, p4⟩ := hSw; go_simp
    try simp only [Act.put, List.setIfInBounds_toArray, List.set_cons_zero, List.set_cons_succ]
    refine wpAnyH_take (i := 36) (oi := { dst := some 44, op := _, type := _, pos := _, after := _, guard := _ }) (v := undef) rfl (by kernel_rfl) (by kernel_rfl) (by kernel_rfl) (fun _ _ _ h => h) (Or.inr ⟨by rfl, rfl⟩) (by assumption) ?_
    try simp only [Act.put, List.setIfInBounds_toArray, List.set_cons_zero, List.set_cons_succ]
    refine wpAnyH_take (i := 37) (oi := { dst := some 45, op := _, type := _, pos := _, after := _, guard := _ }) (v := undef) rfl (by kernel_rfl) (by kernel_rfl) (by kernel_rfl) (fun _ _ _ h => h) (Or.inr ⟨by rfl, rfl⟩) (by assumption) ?_
    try simp only [Act.put, List.setIfInBounds_toArray, List.set_cons_zero, List.set_cons_succ]
    refine wpAnyH_take (i := 38) (oi := { dst := some 46, op := _, type := _, pos := _, after := _, guard := _ }) (v := undef) rfl (by kernel_rfl) (by kernel_rfl) (by kernel_rfl) (fun _ _ _ h => h) (Or.inr ⟨by rfl, rfl⟩) (by assumption) ?_
    try simp only [Act.put, List.setIfInBounds_toArray, List.set_cons_zero, List.set_cons_succ]
    refine wpAnyH_take (i := 39) (oi := { dst := some 47, op := _, type := _, pos := _, after := _, guard := _ }) (v := undef) rfl (by kernel_rfl) (by kernel_rfl) (by kernel_rfl) (fun _ _ _ h => h) (Or.inr ⟨by rfl, rfl⟩) (by assumption) ?_
    try simp only [Act.put, List.setIfInBounds_toArray, List.set_cons_zero, List.set_cons_succ]
    refine wpAnyH_take (i := 40) (oi := { dst := some 48, op := _, type := _, pos := _, after := _, guard := _ }) (v := undef) rfl (by kernel_rfl) (by kernel_rfl) (by kernel_rfl) (fun _ _ _ h => h) (Or.inr ⟨by rfl, rfl⟩) (by assumption) ?_
    try simp only [Act.put, List.setIfInBounds_toArray, List.set_cons_zero, List.set_cons_succ]
    refine wpAnyH_take (i := 41) (oi := { dst := some 49, op := _, type := _, pos := _, after := _, guard := _ }) (v := undef) rfl (by kernel_rfl) (by kernel_rfl) (by kernel_rfl) (fun _ _ _ h => h) (Or.inr ⟨by rfl, rfl⟩) (by assumption) ?_
    try simp only [Act.put, List.setIfInBounds_toArray, List.set_cons_zero, List.set_cons_succ]
    refine wpAnyH_take (i := 42) (oi := { dst := some 50, op := _, type := _, pos := _, after := _, guard := _ }) (v := .bool true) rfl (by kernel_rfl) (by kernel_rfl) (by kernel_rfl) (fun _ _ _ h => h) (Or.inl ⟨by rfl, ?_⟩) (by assumption) ?_
    · intro w hSw; obtain ⟨p0, p4⟩ := hSw; go_simp
    try simp only [Act.put, List.setIfInBounds_toArray, List.set_cons_zero, List.set_cons_succ]
    refine wpAnyH_done (by kernel_rfl) ?_ _
    clear hHeld
    go_wp2_with fail
    go_ret
    exact ⟨ret_b F.out.symm, (((Gw.refl w).drew).trans g2).trans g3⟩
  | true =>
  rw [h1] at K10
  have K1 := Lib.hid K10
  have H1 := Lib.hid h1
  clear K10 h1
  have K20 := fun (W : World) (g : Gw w W) => krf_all (u.ks.length : Int) c.t W bc oc (AX.out.t.grow g)
  cases h2 : c.t.co.all (refH (u.ks.length : Int)) with
  | false =>
    rw [h2] at K20
    have K2 := Lib.hid K20
    have F := Lib.hid (show clG u.ks.length (inH heap) c.pu = false by unfold clG LCl.pu; simp [H0.out, H1.out, h2])
    clear K20 h2
    refine wp_region_held_drew (S := fun W => W.cell? ⟨b, 0, none⟩ = some (.slice u.a u.ks.length u.cap) ∧ W.cell? ⟨bc, oc + 4, none⟩ = some (.slice c.ea c.e.length c.ec)) (by kernel_rfl) ?_ (fun hHeld => ?_)
    · exact ⟨p0, p4⟩
    refine wpAnyH_take (i := 0) (oi := { dst := some 8, op := _, type := _, pos := _, after := _, guard := _ }) (v := .pointer (some ⟨bc, oc, none⟩)) rfl (by kernel_rfl) (by kernel_rfl) (by kernel_rfl) (fun _ _ _ h => h) (Or.inl ⟨by rfl, ?_⟩) (by assumption) ?_
    · intro w hSw; obtain ⟨p0, p4⟩ := hSw; go_simp
    try simp only [Act.put, List.setIfInBounds_toArray, List.set_cons_zero, List.set_cons_succ]
    refine wpAnyH_take (i := 1) (oi := { dst := some 9, op := _, type := _, pos := _, after := _, guard := _ }) (v := .pointer (some ⟨bc, oc, none⟩)) rfl (by kernel_rfl) (by kernel_rfl) (by kernel_rfl) (fun _ _ _ h => h) (Or.inl ⟨by rfl, ?_⟩) (by assumption) ?_
    · intro w hSw; obtain ⟨p0, p4⟩ := hSw; go_simp
    try simp only [Act.put, List.setIfInBounds_toArray, List.set_cons_zero, List.set_cons_succ]
    refine wpAnyH_take (i := 2) (oi := { dst := some 10, op := _, type := _, pos := _, after := _, guard := _ }) (v := .pointer (some ⟨bc, oc, none⟩)) rfl (by kernel_rfl) (by kernel_rfl) (by kernel_rfl) (fun _ _ _ h => h) (Or.inl ⟨by rfl, ?_⟩) (by assumption) ?_
    · intro w hSw; obtain ⟨p0, p4⟩ := hSw; go_simp
    try simp only [Act.put, List.setIfInBounds_toArray, List.set_cons_zero, List.set_cons_succ]
    refine wpAnyH_ready (rs := [3]) (by kernel_rfl) (by simp) ?_
    refine AllReadyH.cons (o := { dst := some 11, op := _, type := _, pos := _, after := _, guard := _ }) rfl (fun K hK => ?_) AllReadyH.nil
    go_simp
    go_at_call 99
    refine (K0.out w.drew ((Gw.refl w).drew)).mono ?_
    rintro e w2 ⟨rfl, g2⟩
    have k2 : ∀ b o, b < w.heap.size → w2.cell? ⟨b, o, none⟩ = w.cell? ⟨b, o, none⟩ := fun b o h => (bcell g2).1 b o h
    go_wp2_with fail
    refine hK.out _ _ ⟨(k2 _ _ lb).trans p0, (k2 _ _ lc).trans p4⟩ (fun hHeld => ?_)
    clear hK K
    try simp only [Act.put, List.setIfInBounds_toArray, List.set_cons_zero, List.set_cons_succ]
    refine wpAnyH_take (i := 4) (oi := { dst := some 12, op := _, type := _, pos := _, after := _, guard := _ }) (v := .bool false) rfl (by kernel_rfl) (by kernel_rfl) (by kernel_rfl) (fun _ _ _ h => h) (Or.inl ⟨by rfl, ?_⟩) (by assumption) ?_
    · intro w hSw; obtain ⟨p0, p4⟩ := hSw; go_simp
    try simp only [Act.put, List.setIfInBounds_toArray, List.set_cons_zero, List.set_cons_succ]
    refine wpAnyH_take (i := 5) (oi := { dst := some 13, op := _, type := _, pos := _, after := _, guard := _ }) (v := .bool false) rfl (by kernel_rfl) (by kernel_rfl) (by kernel_rfl) (fun _ _ _ h => h) (Or.inl ⟨by rfl, ?_⟩) (by assumption) ?_
    · intro w hSw; obtain ⟨p0, p4⟩ := hSw; go_simp
    try simp only [Act.put, List.setIfInBounds_toArray, List.set_cons_zero, List.set_cons_succ]
    refine wpAnyH_take (i := 6) (oi := { dst := some 14, op := _, type := _, pos := _, after := _, guard := _ }) (v := .pointer (some ⟨bc, oc, none⟩)) rfl (by kernel_rfl) (by kernel_rfl) (by kernel_rfl) (fun _ _ _ h => h) (Or.inl ⟨by rfl, ?_⟩) (by assumption) ?_
    · intro w hSw; obtain ⟨p0, p4⟩ := hSw; go_simp
    try simp only [Act.put, List.setIfInBounds_toArray, List.set_cons_zero, List.set_cons_succ]
    refine wpAnyH_take (i := 7) (oi := { dst := some 15, op := _, type := _, pos := _, after := _, guard := _ }) (v := .pointer (some ⟨bc, oc, none⟩)) rfl (by kernel_rfl) (by kernel_rfl) (by kernel_rfl) (fun _ _ _ h => h) (Or.inl ⟨by rfl, ?_⟩) (by assumption) ?_
    · intro w hSw; obtain ⟨p0, p4⟩ := hSw; go_simp
    try simp only [Act.put, List.setIfInBounds_toArray, List.set_cons_zero, List.set_cons_succ]
    refine wpAnyH_take (i := 8) (oi := { dst := some 16, op := _, type := _, pos := _, after := _, guard := _ }) (v := .pointer (some ⟨bc, oc, none⟩)) rfl (by kernel_rfl) (by kernel_rfl) (by kernel_rfl) (fun _ _ _ h => h) (Or.inl ⟨by rfl, ?_⟩) (by assumption) ?_
    · intro w hSw; obtain ⟨p0, p4⟩ := hSw; go_simp
    try simp only [Act.put, List.setIfInBounds_toArray, List.set_cons_zero, List.set_cons_succ]
    refine wpAnyH_ready (rs := [9]) (by kernel_rfl) (by simp) ?_
    refine AllReadyH.cons (o := { dst := some 17, op := _, type := _, pos := _, after := _, guard := _ }) rfl (fun K hK => ?_) AllReadyH.nil
    go_simp
    go_at_call 90
    refine (K1.out w2 (((Gw.refl w).drew).trans g2)).mono ?_
    rintro e w3 ⟨rfl, g3⟩
    have k3 : ∀ b o, b < w.heap.size → w3.cell? ⟨b, o, none⟩ = w.cell? ⟨b, o, none⟩ := fun b o h => ((bcell g3).1 b o (Nat.lt_of_lt_of_le h (((Gw.refl w).drew).trans g2).size)).trans (k2 b o h)
    go_wp2_with fail
    refine hK.out _ _ ⟨(k3 _ _ lb).trans p0, (k3 _ _ lc).trans p4⟩ (fun hHeld => ?_)
    clear hK K
    try simp only [Act.put, List.setIfInBounds_toArray, List.set_cons_zero, List.set_cons_succ]
    refine wpAnyH_take (i := 10) (oi := { dst := some 18, op := _, type := _, pos := _, after := _, guard := _ }) (v := .bool false) rfl (by kernel_rfl) (by kernel_rfl) (by kernel_rfl) (fun _ _ _ h => h) (Or.inl ⟨by rfl, ?_⟩) (by assumption) ?_
    · intro w hSw; obtain ⟨p0, p4⟩ := hSw; go_simp
    try simp only [Act.put, List.setIfInBounds_toArray, List.set_cons_zero, List.set_cons_succ]
    refine wpAnyH_take (i := 11) (oi := { dst := some 19, op := _, type := _, pos := _, after := _, guard := _ }) (v := .bool false) rfl (by kernel_rfl) (by kernel_rfl) (by kernel_rfl) (fun _ _ _ h => h) (Or.inl ⟨by rfl, ?_⟩) (by assumption) ?_
    · intro w hSw; obtain ⟨p0, p4⟩ := hSw; go_simp
    try simp only [Act.put, List.setIfInBounds_toArray, List.set_cons_zero, List.set_cons_succ]
    refine wpAnyH_take (i := 12) (oi := { dst := some 20, op := _, type := _, pos := _, after := _, guard := _ }) (v := .bool false) rfl (by kernel_rfl) (by kernel_rfl) (by kernel_rfl) (fun _ _ _ h => h) (Or.inl ⟨by rfl, ?_⟩) (by assumption) ?_
    · intro w hSw; obtain ⟨p0, p4⟩ := hSw; go_simp
    try simp only [Act.put, List.setIfInBounds_toArray, List.set_cons_zero, List.set_cons_succ]
    refine wpAnyH_take (i := 13) (oi := { dst := some 21, op := _, type := _, pos := _, after := _, guard := _ }) (v := .pointer (some ⟨bc, oc, none⟩)) rfl (by kernel_rfl) (by kernel_rfl) (by kernel_rfl) (fun _ _ _ h => h) (Or.inl ⟨by rfl, ?_⟩) (by assumption) ?_
    · intro w hSw; obtain ⟨p0, p4⟩ := hSw; go_simp
    try simp only [Act.put, List.setIfInBounds_toArray, List.set_cons_zero, List.set_cons_succ]
    refine wpAnyH_take (i := 14) (oi := { dst := some 22, op := _, type := _, pos := _, after := _, guard := _ }) (v := .pointer (some ⟨bc, oc, none⟩)) rfl (by kernel_rfl) (by kernel_rfl) (by kernel_rfl) (fun _ _ _ h => h) (Or.inl ⟨by rfl, ?_⟩) (by assumption) ?_
    · intro w hSw; obtain ⟨p0, p4⟩ := hSw; go_simp
    try simp only [Act.put, List.setIfInBounds_toArray, List.set_cons_zero, List.set_cons_succ]
    refine wpAnyH_take (i := 15) (oi := { dst := some 23, op := _, type := _, pos := _, after := _, guard := _ }) (v := .pointer (some ⟨bc, oc, none⟩)) rfl (by kernel_rfl) (by kernel_rfl) (by kernel_rfl) (fun _ _ _ h => h) (Or.inl ⟨by rfl, ?_⟩) (by assumption) ?_
    · intro w hSw; obtain ⟨p0, p4⟩ := hSw; go_simp
    try simp only [Act.put, List.setIfInBounds_toArray, List.set_cons_zero, List.set_cons_succ]
    refine wpAnyH_take (i := 16) (oi := { dst := some 24, op := _, type := _, pos := _, after := _, guard := _ }) (v := .pointer (some ⟨b, 0, none⟩)) rfl (by kernel_rfl) (by kernel_rfl) (by kernel_rfl) (fun _ _ _ h => h) (Or.inl ⟨by rfl, ?_⟩) (by assumption) ?_
    · intro w hSw; obtain ⟨p0, p4⟩ := hSw; go_simp
    try simp only [Act.put, List.setIfInBounds_toArray, List.set_cons_zero, List.set_cons_succ]
    refine wpAnyH_take (i := 17) (oi := { dst := some 25, op := _, type := _, pos := _, after := _, guard := _ }) (v := .pointer (some ⟨b, 0, none⟩)) rfl (by kernel_rfl) (by kernel_rfl) (by kernel_rfl) (fun _ _ _ h => h) (Or.inl ⟨by rfl, ?_⟩) (by assumption) ?_
    · intro w hSw; obtain ⟨p0, p4⟩ := hSw; go_simp
    try simp only [Act.put, List.setIfInBounds_toArray, List.set_cons_zero, List.set_cons_succ]
    refine wpAnyH_take (i := 18) (oi := { dst := some 26, op := _, type := _, pos := _, after := _, guard := _ }) (v := .pointer (some ⟨b, 0, none⟩)) rfl (by kernel_rfl) (by kernel_rfl) (by kernel_rfl) (fun _ _ _ h => h) (Or.inl ⟨by rfl, ?_⟩) (by assumption) ?_
    · intro w hSw; obtain ⟨p0, p4⟩ := hSw; go_simp
    try simp only [Act.put, List.setIfInBounds_toArray, List.set_cons_zero, List.set_cons_succ]
    refine wpAnyH_take (i := 19) (oi := { dst := some 27, op := _, type := _, pos := _, after := _, guard := _ }) (v := .slice u.a u.ks.length u.cap) rfl (by kernel_rfl) (by kernel_rfl) (by kernel_rfl) (fun _ _ _ h => h) (Or.inl ⟨by rfl, ?_⟩) (by assumption) ?_
    · intro w hSw; obtain ⟨p0, p4⟩ := hSw; go_simp
    try simp only [Act.put, List.setIfInBounds_toArray, List.set_cons_zero, List.set_cons_succ]
    refine wpAnyH_take (i := 20) (oi := { dst := some 28, op := _, type := _, pos := _, after := _, guard := _ }) (v := .int .i64 u.ks.length) rfl (by kernel_rfl) (by kernel_rfl) (by kernel_rfl) (fun _ _ _ h => h) (Or.inl ⟨by rfl, ?_⟩) (by assumption) ?_
    · intro w hSw; obtain ⟨p0, p4⟩ := hSw; go_simp
    try simp only [Act.put, List.setIfInBounds_toArray, List.set_cons_zero, List.set_cons_succ]
    refine wpAnyH_ready (rs := [21]) (by kernel_rfl) (by simp) ?_
    refine AllReadyH.cons (o := { dst := some 29, op := _, type := _, pos := _, after := _, guard := _ }) rfl (fun K hK => ?_) AllReadyH.nil
    go_simp
    go_at_call 91
    refine (K2.out w3 ((((Gw.refl w).drew).trans g2).trans g3)).mono ?_
    rintro e w4 ⟨rfl, g4⟩
    have k4 : ∀ b o, b < w.heap.size → w4.cell? ⟨b, o, none⟩ = w.cell? ⟨b, o, none⟩ := fun b o h => ((bcell g4).1 b o (Nat.lt_of_lt_of_le h ((((Gw.refl w).drew).trans g2).trans g3).size)).trans (k3 b o h)
    go_wp2_with fail
    refine hK.out _ _ ⟨(k4 _ _ lb).trans p0, (k4 _ _ lc).trans p4⟩ (fun hHeld => ?_)
    clear hK K
    try simp only [Act.put, List.setIfInBounds_toArray, List.set_cons_zero, List.set_cons_succ]
    refine wpAnyH_take (i := 22) (oi := { dst := some 30, op := _, type := _, pos := _, after := _, guard := _ }) (v := .bool true) rfl (by kernel_rfl) (by kernel_rfl) (by kernel_rfl) (fun _ _ _ h => h) (Or.inl ⟨by rfl, ?_⟩) (by assumption) ?_
    · intro w hSw; obtain ⟨p0, p4⟩ := hSw; go_simp
    try simp only [Act.put, List.setIfInBounds_toArray, List.set_cons_zero, List.set_cons_succ]
    refine wpAnyH_take (i := 23) (oi := { dst := some 31, op := _, type := _, pos := _, after := _, guard := _ }) (v := .bool true) rfl (by kernel_rfl) (by kernel_rfl) (by kernel_rfl) (fun _ _ _ h => h) (Or.inl ⟨by rfl, ?_⟩) (by assumption) ?_
    · intro w hSw; obtain ⟨p0, p4⟩ := hSw; go_simp
    try simp only [Act.put, List.setIfInBounds_toArray, List.set_cons_zero, List.set_cons_succ]
    refine wpAnyH_take (i := 24) (oi := { dst := some 32, op := _, type := _, pos := _, after := _, guard := _ }) (v := .bool true) rfl (by kernel_rfl) (by kernel_rfl) (by kernel_rfl) (fun _ _ _ h => h) (Or.inl ⟨by rfl, ?_⟩) (by assumption) ?_
    · intro w hSw; obtain ⟨p0, p4⟩ := hSw; go_simp
    try simp only [Act.put, List.setIfInBounds_toArray, List.set_cons_zero, List.set_cons_succ]
    refine wpAnyH_take (i := 25) (oi := { dst := some 33, op := _, type := _, pos := _, after := _, guard := _ }) (v := undef) rfl (by kernel_rfl) (by kernel_rfl) (by kernel_rfl) (fun _ _ _ h => h) (Or.inr ⟨by rfl, rfl⟩) (by assumption) ?_
    try simp only [Act.put, List.setIfInBounds_toArray, List.set_cons_zero, List.set_cons_succ]
    refine wpAnyH_take (i := 26) (oi := { dst := some 34, op := _, type := _, pos := _, after := _, guard := _ }) (v := undef) rfl (by kernel_rfl) (by kernel_rfl) (by kernel_rfl) (fun _ _ _ h => h) (Or.inr ⟨by rfl, rfl⟩) (by assumption) ?_
    try simp only [Act.put, List.setIfInBounds_toArray, List.set_cons_zero, List.set_cons_succ]
    refine wpAnyH_take (i := 27) (oi := { dst := some 35, op := _, type := _, pos := _, after := _, guard := _ }) (v := undef) rfl (by kernel_rfl) (by kernel_rfl) (by kernel_rfl) (fun _ _ _ h => h) (Or.inr ⟨by rfl, rfl⟩) (by assumption) ?_
    try simp only [Act.put, List.setIfInBounds_toArray, List.set_cons_zero, List.set_cons_succ]
    refine wpAnyH_take (i := 28) (oi := { dst := some 36, op := _, type := _, pos := _, after := _, guard := _ }) (v := undef) rfl (by kernel_rfl) (by kernel_rfl) (by kernel_rfl) (fun _ _ _ h => h) (Or.inr ⟨by rfl, rfl⟩) (by assumption) ?_
    try simp only [Act.put, List.setIfInBounds_toArray, List.set_cons_zero, List.set_cons_succ]
    refine wpAnyH_take (i := 29) (oi := { dst := some 37, op := _, type := _, pos := _, after := _, guard := _ }) (v := undef) rfl (by kernel_rfl) (by kernel_rfl) (by kernel_rfl) (fun _ _ _ h => h) (Or.inr ⟨by rfl, rfl⟩) (by assumption) ?_
    try simp only [Act.put, List.setIfInBounds_toArray, List.set_cons_zero, List.set_cons_succ]
    refine wpAnyH_take (i := 30) (oi := { dst := some 38, op := _, type := _, pos := _, after := _, guard := _ }) (v := undef) rfl (by kernel_rfl) (by kernel_rfl) (by kernel_rfl) (fun _ _ _ h => h) (Or.inr ⟨by rfl, rfl⟩) (by assumption) ?_
    try simp only [Act.put, List.setIfInBounds_toArray, List.set_cons_zero, List.set_cons_succ]
    refine wpAnyH_take (i := 31) (oi := { dst := some 39, op := _, type := _, pos := _, after := _, guard := _ }) (v := undef) rfl (by kernel_rfl) (by kernel_rfl) (by kernel_rfl) (fun _ _ _ h => h) (Or.inr ⟨by rfl, rfl⟩) (by assumption) ?_
    try simp only [Act.put, List.setIfInBounds_toArray, List.set_cons_zero, List.set_cons_succ]
    refine wpAnyH_take (i := 32) (oi := { dst := some 40, op := _, type := _, pos := _, after := _, guard := _ }) (v := undef) rfl (by kernel_rfl) (by kernel_rfl) (by kernel_rfl) (fun _ _ _ h => h) (Or.inr ⟨by rfl, rfl⟩) (by assumption) ?_
    try simp only [Act.put, List.setIfInBounds_toArray, List.set_cons_zero, List.set_cons_succ]
    refine wpAnyH_take (i := 33) (oi := { dst := some 41, op := _, type := _, pos := _, after := _, guard := _ }) (v := undef) rfl (by kernel_rfl) (by kernel_rfl) (by kernel_rfl) (fun _ _ _ h => h) (Or.inr ⟨by rfl, rfl⟩) (by assumption) ?_
    try simp only [Act.put, List.setIfInBounds_toArray, List.set_cons_zero, List.set_cons_succ]
    refine wpAnyH_take (i := 34) (oi := { dst := some 42, op := _, type := _, pos := _, after := _, guard := _ }) (v := .bool true) rfl (by kernel_rfl) (by kernel_rfl) (by kernel_rfl) (fun _ _ _ h => h) (Or.inl ⟨by rfl, ?_⟩) (by assumption) ?_
    · intro w hSw; obtain ⟨p0, p4⟩ := hSw; go_simp
    try simp only [Act.put, List.setIfInBounds_toArray, List.set_cons_zero, List.set_cons_succ]
    refine wpAnyH_take (i := 35) (oi := { dst := some 43, op := _, type := _, pos := _, after := _, guard := _ }) (v := .bool true) rfl (by kernel_rfl) (by kernel_rfl) (by kernel_rfl) (fun _ _ _ h => h) (Or.inl ⟨by rfl, ?_⟩) (by assumption) ?_
    · intro w hSw; obtain ⟨p0, p4⟩ := hSw; go_simp
    try simp only [Act.put, List.setIfInBounds_toArray, List.set_cons_zero, List.set_cons_succ]
    refine wpAnyH_take (i := 36) (oi := { dst := some 44, op := _, type := _, pos := _, after := _, guard := _ }) (v := undef) rfl (by kernel_rfl) (by kernel_rfl) (by kernel_rfl) (fun _ _ _ h => h) (Or.inr ⟨by rfl, rfl⟩) (by assumption) ?_
    try simp only [Act.put, List.setIfInBounds_toArray, List.set_cons_zero, List.set_cons_succ]
    refine wpAnyH_take (i := 37) (oi := { dst := some 45, op := _, type := _, pos := _, after := _, guard := _ }) (v := undef) rfl (by kernel_rfl) (by kernel_rfl) (by kernel_rfl) (fun _ _ _ h => h) (Or.inr ⟨by rfl, rfl⟩) (by assumption) ?_
    try simp only [Act.put, List.setIfInBounds_toArray, List.set_cons_zero, List.set_cons_succ]
    refine wpAnyH_take (i := 38) (oi := { dst := some 46, op := _, type := _, pos := _, after := _, guard := _ }) (v := undef) rfl (by kernel_rfl) (by kernel_rfl) (by kernel_rfl) (fun _ _ _ h => h) (Or.inr ⟨by rfl, rfl⟩) (by assumption) ?_
    try simp only [Act.put, List.setIfInBounds_toArray, List.set_cons_zero, List.set_cons_succ]
    refine wpAnyH_take (i := 39) (oi := { dst := some 47, op := _, type := _, pos := _, after := _, guard := _ }) (v := undef) rfl (by kernel_rfl) (by kernel_rfl) (by kernel_rfl) (fun _ _ _ h => h) (Or.inr ⟨by rfl, rfl⟩) (by assumption) ?_
    try simp only [Act.put, List.setIfInBounds_toArray, List.set_cons_zero, List.set_cons_succ]
    refine wpAnyH_take (i := 40) (oi := { dst := some 48, op := _, type := _, pos := _, after := _, guard := _ }) (v := undef) rfl (by kernel_rfl) (by kernel_rfl) (by kernel_rfl) (fun _ _ _ h => h) (Or.inr ⟨by rfl, rfl⟩) (by assumption) ?_
    try simp only [Act.put, List.setIfInBounds_toArray, List.set_cons_zero, List.set_cons_succ]
    refine wpAnyH_take (i := 41) (oi := { dst := some 49, op := _, type := _, pos := _, after := _, guard := _ }) (v := undef) rfl (by kernel_rfl) (by kernel_rfl) (by kernel_rfl) (fun _ _ _ h => h) (Or.inr ⟨by rfl, rfl⟩) (by assumption) ?_
    try simp only [Act.put, List.setIfInBounds_toArray, List.set_cons_zero, List.set_cons_succ]
    refine wpAnyH_take (i := 42) (oi := { dst := some 50, op := _, type := _, pos := _, after := _, guard := _ }) (v := .bool true) rfl (by kernel_rfl) (by kernel_rfl) (by kernel_rfl) (fun _ _ _ h => h) (Or.inl ⟨by rfl, ?_⟩) (by assumption) ?_
    · intro w hSw; obtain ⟨p0, p4⟩ := hSw; go_simp
    try simp only [Act.put, List.setIfInBounds_toArray, List.set_cons_zero, List.set_cons_succ]
    refine wpAnyH_done (by kernel_rfl) ?_ _
    clear hHeld
    go_wp2_with fail
    go_ret
    exact ⟨ret_b F.out.symm, ((((Gw.refl w).drew).trans g2).trans g3).trans g4⟩
  | true =>
  rw [h2] at K20
  have K2 := Lib.hid K20
  have H2 := Lib.hid h2
  clear K20 h2
  have K30 := fun (W : World) (g : Gw w W) => kab2_all c.t W bc oc c.e.length 0 (AX.out.t.grow g) (okC_good H0.out).1 (by have := (okC_good H0.out).2.1; have := HE.out; omega)
  cases h3 : (c.t.co.pl c.e.length 0).any freeP with
  | true =>
    rw [h3] at K30
    have K3 := Lib.hid K30
    have F := Lib.hid (show clG u.ks.length (inH heap) c.pu = false by unfold clG LCl.pu; simp [H0.out, H1.out, H2.out, h3])
    clear K30 h3
    refine wp_region_held_drew (S := fun W => W.cell? ⟨b, 0, none⟩ = some (.slice u.a u.ks.length u.cap) ∧ W.cell? ⟨bc, oc + 4, none⟩ = some (.slice c.ea c.e.length c.ec)) (by kernel_rfl) ?_ (fun hHeld => ?_)
    · exact ⟨p0, p4⟩
    refine wpAnyH_take (i := 0) (oi := { dst := some 8, op := _, type := _, pos := _, after := _, guard := _ }) (v := .pointer (some ⟨bc, oc, none⟩)) rfl (by kernel_rfl) (by kernel_rfl) (by kernel_rfl) (fun _ _ _ h => h) (Or.inl ⟨by rfl, ?_⟩) (by assumption) ?_
    · intro w hSw; obtain ⟨p0, p4⟩ := hSw; go_simp
    try simp only [Act.put, List.setIfInBounds_toArray, List.set_cons_zero, List.set_cons_succ]
    refine wpAnyH_take (i := 1) (oi := { dst := some 9, op := _, type := _, pos := _, after := _, guard := _ }) (v := .pointer (some ⟨bc, oc, none⟩)) rfl (by kernel_rfl) (by kernel_rfl) (by kernel_rfl) (fun _ _ _ h => h) (Or.inl ⟨by rfl, ?_⟩) (by assumption) ?_
    · intro w hSw; obtain ⟨p0, p4⟩ := hSw; go_simp
    try simp only [Act.put, List.setIfInBounds_toArray, List.set_cons_zero, List.set_cons_succ]
    refine wpAnyH_take (i := 2) (oi := { dst := some 10, op := _, type := _, pos := _, after := _, guard := _ }) (v := .pointer (some ⟨bc, oc, none⟩)) rfl (by kernel_rfl) (by kernel_rfl) (by kernel_rfl) (fun _ _ _ h => h) (Or.inl ⟨by rfl, ?_⟩) (by assumption) ?_
    · intro w hSw; obtain ⟨p0, p4⟩ := hSw; go_simp
    try simp only [Act.put, List.setIfInBounds_toArray, List.set_cons_zero, List.set_cons_succ]
    refine wpAnyH_ready (rs := [3]) (by kernel_rfl) (by simp) ?_
    refine AllReadyH.cons (o := { dst := some 11, op := _, type := _, pos := _, after := _, guard := _ }) rfl (fun K hK => ?_) AllReadyH.nil
    go_simp
    go_at_call 99
    refine (K0.out w.drew ((Gw.refl w).drew)).mono ?_
    rintro e w2 ⟨rfl, g2⟩
    have k2 : ∀ b o, b < w.heap.size → w2.cell? ⟨b, o, none⟩ = w.cell? ⟨b, o, none⟩ := fun b o h => (bcell g2).1 b o h
    go_wp2_with fail
    refine hK.out _ _ ⟨(k2 _ _ lb).trans p0, (k2 _ _ lc).trans p4⟩ (fun hHeld => ?_)
    clear hK K
    try simp only [Act.put, List.setIfInBounds_toArray, List.set_cons_zero, List.set_cons_succ]
    refine wpAnyH_take (i := 4) (oi := { dst := some 12, op := _, type := _, pos := _, after := _, guard := _ }) (v := .bool false) rfl (by kernel_rfl) (by kernel_rfl) (by kernel_rfl) (fun _ _ _ h => h) (Or.inl ⟨by rfl, ?_⟩) (by assumption) ?_
    · intro w hSw; obtain ⟨p0, p4⟩ := hSw; go_simp
    try simp only [Act.put, List.setIfInBounds_toArray, List.set_cons_zero, List.set_cons_succ]
    refine wpAnyH_take (i := 5) (oi := { dst := some 13, op := _, type := _, pos := _, after := _, guard := _ }) (v := .bool false) rfl (by kernel_rfl) (by kernel_rfl) (by kernel_rfl) (fun _ _ _ h => h) (Or.inl ⟨by rfl, ?_⟩) (by assumption) ?_
    · intro w hSw; obtain ⟨p0, p4⟩ := hSw; go_simp
    try simp only [Act.put, List.setIfInBounds_toArray, List.set_cons_zero, List.set_cons_succ]
    refine wpAnyH_take (i := 6) (oi := { dst := some 14, op := _, type := _, pos := _, after := _, guard := _ }) (v := .pointer (some ⟨bc, oc, none⟩)) rfl (by kernel_rfl) (by kernel_rfl) (by kernel_rfl) (fun _ _ _ h => h) (Or.inl ⟨by rfl, ?_⟩) (by assumption) ?_
    · intro w hSw; obtain ⟨p0, p4⟩ := hSw; go_simp
    try simp only [Act.put, List.setIfInBounds_toArray, List.set_cons_zero, List.set_cons_succ]
    refine wpAnyH_take (i := 7) (oi := { dst := some 15, op := _, type := _, pos := _, after := _, guard := _ }) (v := .pointer (some ⟨bc, oc, none⟩)) rfl (by kernel_rfl) (by kernel_rfl) (by kernel_rfl) (fun _ _ _ h => h) (Or.inl ⟨by rfl, ?_⟩) (by assumption) ?_
    · intro w hSw; obtain ⟨p0, p4⟩ := hSw; go_simp
    try simp only [Act.put, List.setIfInBounds_toArray, List.set_cons_zero, List.set_cons_succ]
    refine wpAnyH_take (i := 8) (oi := { dst := some 16, op := _, type := _, pos := _, after := _, guard := _ }) (v := .pointer (some ⟨bc, oc, none⟩)) rfl (by kernel_rfl) (by kernel_rfl) (by kernel_rfl) (fun _ _ _ h => h) (Or.inl ⟨by rfl, ?_⟩) (by assumption) ?_
    · intro w hSw; obtain ⟨p0, p4⟩ := hSw; go_simp
    try simp only [Act.put, List.setIfInBounds_toArray, List.set_cons_zero, List.set_cons_succ]
    refine wpAnyH_ready (rs := [9]) (by kernel_rfl) (by simp) ?_
    refine AllReadyH.cons (o := { dst := some 17, op := _, type := _, pos := _, after := _, guard := _ }) rfl (fun K hK => ?_) AllReadyH.nil
    go_simp
    go_at_call 90
    refine (K1.out w2 (((Gw.refl w).drew).trans g2)).mono ?_
    rintro e w3 ⟨rfl, g3⟩
    have k3 : ∀ b o, b < w.heap.size → w3.cell? ⟨b, o, none⟩ = w.cell? ⟨b, o, none⟩ := fun b o h => ((bcell g3).1 b o (Nat.lt_of_lt_of_le h (((Gw.refl w).drew).trans g2).size)).trans (k2 b o h)
    go_wp2_with fail
    refine hK.out _ _ ⟨(k3 _ _ lb).trans p0, (k3 _ _ lc).trans p4⟩ (fun hHeld => ?_)
    clear hK K
    try simp only [Act.put, List.setIfInBounds_toArray, List.set_cons_zero, List.set_cons_succ]
    refine wpAnyH_take (i := 10) (oi := { dst := some 18, op := _, type := _, pos := _, after := _, guard := _ }) (v := .bool false) rfl (by kernel_rfl) (by kernel_rfl) (by kernel_rfl) (fun _ _ _ h => h) (Or.inl ⟨by rfl, ?_⟩) (by assumption) ?_
    · intro w hSw; obtain ⟨p0, p4⟩ := hSw; go_simp
    try simp only [Act.put, List.setIfInBounds_toArray, List.set_cons_zero, List.set_cons_succ]
    refine wpAnyH_take (i := 11) (oi := { dst := some 19, op := _, type := _, pos := _, after := _, guard := _ }) (v := .bool false) rfl (by kernel_rfl) (by kernel_rfl) (by kernel_rfl) (fun _ _ _ h => h) (Or.inl ⟨by rfl, ?_⟩) (by assumption) ?_
    · intro w hSw; obtain ⟨p0, p4⟩ := hSw; go_simp
    try simp only [Act.put, List.setIfInBounds_toArray, List.set_cons_zero, List.set_cons_succ]
    refine wpAnyH_take (i := 12) (oi := { dst := some 20, op := _, type := _, pos := _, after := _, guard := _ }) (v := .bool false) rfl (by kernel_rfl) (by kernel_rfl) (by kernel_rfl) (fun _ _ _ h => h) (Or.inl ⟨by rfl, ?_⟩) (by assumption) ?_
    · intro w hSw; obtain ⟨p0, p4⟩ := hSw; go_simp
    try simp only [Act.put, List.setIfInBounds_toArray, List.set_cons_zero, List.set_cons_succ]
    refine wpAnyH_take (i := 13) (oi := { dst := some 21, op := _, type := _, pos := _, after := _, guard := _ }) (v := .pointer (some ⟨bc, oc, none⟩)) rfl (by kernel_rfl) (by kernel_rfl) (by kernel_rfl) (fun _ _ _ h => h) (Or.inl ⟨by rfl, ?_⟩) (by assumption) ?_
    · intro w hSw; obtain ⟨p0, p4⟩ := hSw; go_simp
    try simp only [Act.put, List.setIfInBounds_toArray, List.set_cons_zero, List.set_cons_succ]
    refine wpAnyH_take (i := 14) (oi := { dst := some 22, op := _, type := _, pos := _, after := _, guard := _ }) (v := .pointer (some ⟨bc, oc, none⟩)) rfl (by kernel_rfl) (by kernel_rfl) (by kernel_rfl) (fun _ _ _ h => h) (Or.inl ⟨by rfl, ?_⟩) (by assumption) ?_
    · intro w hSw; obtain ⟨p0, p4⟩ := hSw; go_simp
    try simp only [Act.put, List.setIfInBounds_toArray, List.set_cons_zero, List.set_cons_succ]
    refine wpAnyH_take (i := 15) (oi := { dst := some 23, op := _, type := _, pos := _, after := _, guard := _ }) (v := .pointer (some ⟨bc, oc, none⟩)) rfl (by kernel_rfl) (by kernel_rfl) (by kernel_rfl) (fun _ _ _ h => h) (Or.inl ⟨by rfl, ?_⟩) (by assumption) ?_
    · intro w hSw; obtain ⟨p0, p4⟩ := hSw; go_simp
    try simp only [Act.put, List.setIfInBounds_toArray, List.set_cons_zero, List.set_cons_succ]
    refine wpAnyH_take (i := 16) (oi := { dst := some 24, op := _, type := _, pos := _, after := _, guard := _ }) (v := .pointer (some ⟨b, 0, none⟩)) rfl (by kernel_rfl) (by kernel_rfl) (by kernel_rfl) (fun _ _ _ h => h) (Or.inl ⟨by rfl, ?_⟩) (by assumption) ?_
    · intro w hSw; obtain ⟨p0, p4⟩ := hSw; go_simp
    try simp only [Act.put, List.setIfInBounds_toArray, List.set_cons_zero, List.set_cons_succ]
    refine wpAnyH_take (i := 17) (oi := { dst := some 25, op := _, type := _, pos := _, after := _, guard := _ }) (v := .pointer (some ⟨b, 0, none⟩)) rfl (by kernel_rfl) (by kernel_rfl) (by kernel_rfl) (fun _ _ _ h => h) (Or.inl ⟨by rfl, ?_⟩) (by assumption) ?_
    · intro w hSw; obtain ⟨p0, p4⟩ := hSw; go_simp
    try simp only [Act.put, List.setIfInBounds_toArray, List.set_cons_zero, List.set_cons_succ]
    refine wpAnyH_take (i := 18) (oi := { dst := some 26, op := _, type := _, pos := _, after := _, guard := _ }) (v := .pointer (some ⟨b, 0, none⟩)) rfl (by kernel_rfl) (by kernel_rfl) (by kernel_rfl) (fun _ _ _ h => h) (Or.inl ⟨by rfl, ?_⟩) (by assumption) ?_
    · intro w hSw; obtain ⟨p0, p4⟩ := hSw; go_simp
    try simp only [Act.put, List.setIfInBounds_toArray, List.set_cons_zero, List.set_cons_succ]
    refine wpAnyH_take (i := 19) (oi := { dst := some 27, op := _, type := _, pos := _, after := _, guard := _ }) (v := .slice u.a u.ks.length u.cap) rfl (by kernel_rfl) (by kernel_rfl) (by kernel_rfl) (fun _ _ _ h => h) (Or.inl ⟨by rfl, ?_⟩) (by assumption) ?_
    · intro w hSw; obtain ⟨p0, p4⟩ := hSw; go_simp
    try simp only [Act.put, List.setIfInBounds_toArray, List.set_cons_zero, List.set_cons_succ]
    refine wpAnyH_take (i := 20) (oi := { dst := some 28, op := _, type := _, pos := _, after := _, guard := _ }) (v := .int .i64 u.ks.length) rfl (by kernel_rfl) (by kernel_rfl) (by kernel_rfl) (fun _ _ _ h => h) (Or.inl ⟨by rfl, ?_⟩) (by assumption) ?_
    · intro w hSw; obtain ⟨p0, p4⟩ := hSw; go_simp
    try simp only [Act.put, List.setIfInBounds_toArray, List.set_cons_zero, List.set_cons_succ]
    refine wpAnyH_ready (rs := [21]) (by kernel_rfl) (by simp) ?_
    refine AllReadyH.cons (o := { dst := some 29, op := _, type := _, pos := _, after := _, guard := _ }) rfl (fun K hK => ?_) AllReadyH.nil
    go_simp
    go_at_call 91
    refine (K2.out w3 ((((Gw.refl w).drew).trans g2).trans g3)).mono ?_
    rintro e w4 ⟨rfl, g4⟩
    have k4 : ∀ b o, b < w.heap.size → w4.cell? ⟨b, o, none⟩ = w.cell? ⟨b, o, none⟩ := fun b o h => ((bcell g4).1 b o (Nat.lt_of_lt_of_le h ((((Gw.refl w).drew).trans g2).trans g3).size)).trans (k3 b o h)
    go_wp2_with fail
    refine hK.out _ _ ⟨(k4 _ _ lb).trans p0, (k4 _ _ lc).trans p4⟩ (fun hHeld => ?_)
    clear hK K
    try simp only [Act.put, List.setIfInBounds_toArray, List.set_cons_zero, List.set_cons_succ]
    refine wpAnyH_take (i := 22) (oi := { dst := some 30, op := _, type := _, pos := _, after := _, guard := _ }) (v := .bool false) rfl (by kernel_rfl) (by kernel_rfl) (by kernel_rfl) (fun _ _ _ h => h) (Or.inl ⟨by rfl, ?_⟩) (by assumption) ?_
    · intro w hSw; obtain ⟨p0, p4⟩ := hSw; go_simp
    try simp only [Act.put, List.setIfInBounds_toArray, List.set_cons_zero, List.set_cons_succ]
    refine wpAnyH_take (i := 23) (oi := { dst := some 31, op := _, type := _, pos := _, after := _, guard := _ }) (v := .bool false) rfl (by kernel_rfl) (by kernel_rfl) (by kernel_rfl) (fun _ _ _ h => h) (Or.inl ⟨by rfl, ?_⟩) (by assumption) ?_
    · intro w hSw; obtain ⟨p0, p4⟩ := hSw; go_simp
    try simp only [Act.put, List.setIfInBounds_toArray, List.set_cons_zero, List.set_cons_succ]
    refine wpAnyH_take (i := 24) (oi := { dst := some 32, op := _, type := _, pos := _, after := _, guard := _ }) (v := .bool false) rfl (by kernel_rfl) (by kernel_rfl) (by kernel_rfl) (fun _ _ _ h => h) (Or.inl ⟨by rfl, ?_⟩) (by assumption) ?_
    · intro w hSw; obtain ⟨p0, p4⟩ := hSw; go_simp
    try simp only [Act.put, List.setIfInBounds_toArray, List.set_cons_zero, List.set_cons_succ]
    refine wpAnyH_take (i := 25) (oi := { dst := some 33, op := _, type := _, pos := _, after := _, guard := _ }) (v := .pointer (some ⟨bc, oc, none⟩)) rfl (by kernel_rfl) (by kernel_rfl) (by kernel_rfl) (fun _ _ _ h => h) (Or.inl ⟨by rfl, ?_⟩) (by assumption) ?_
    · intro w hSw; obtain ⟨p0, p4⟩ := hSw; go_simp
    try simp only [Act.put, List.setIfInBounds_toArray, List.set_cons_zero, List.set_cons_succ]
    refine wpAnyH_take (i := 26) (oi := { dst := some 34, op := _, type := _, pos := _, after := _, guard := _ }) (v := .pointer (some ⟨bc, oc, none⟩)) rfl (by kernel_rfl) (by kernel_rfl) (by kernel_rfl) (fun _ _ _ h => h) (Or.inl ⟨by rfl, ?_⟩) (by assumption) ?_
    · intro w hSw; obtain ⟨p0, p4⟩ := hSw; go_simp
    try simp only [Act.put, List.setIfInBounds_toArray, List.set_cons_zero, List.set_cons_succ]
    refine wpAnyH_take (i := 27) (oi := { dst := some 35, op := _, type := _, pos := _, after := _, guard := _ }) (v := .pointer (some ⟨bc, oc, none⟩)) rfl (by kernel_rfl) (by kernel_rfl) (by kernel_rfl) (fun _ _ _ h => h) (Or.inl ⟨by rfl, ?_⟩) (by assumption) ?_
    · intro w hSw; obtain ⟨p0, p4⟩ := hSw; go_simp
    try simp only [Act.put, List.setIfInBounds_toArray, List.set_cons_zero, List.set_cons_succ]
    refine wpAnyH_take (i := 28) (oi := { dst := some 36, op := _, type := _, pos := _, after := _, guard := _ }) (v := .pointer (some ⟨bc, oc, none⟩)) rfl (by kernel_rfl) (by kernel_rfl) (by kernel_rfl) (fun _ _ _ h => h) (Or.inl ⟨by rfl, ?_⟩) (by assumption) ?_
    · intro w hSw; obtain ⟨p0, p4⟩ := hSw; go_simp
    try simp only [Act.put, List.setIfInBounds_toArray, List.set_cons_zero, List.set_cons_succ]
    refine wpAnyH_take (i := 29) (oi := { dst := some 37, op := _, type := _, pos := _, after := _, guard := _ }) (v := .pointer (some ⟨bc, oc, none⟩)) rfl (by kernel_rfl) (by kernel_rfl) (by kernel_rfl) (fun _ _ _ h => h) (Or.inl ⟨by rfl, ?_⟩) (by assumption) ?_
    · intro w hSw; obtain ⟨p0, p4⟩ := hSw; go_simp
    try simp only [Act.put, List.setIfInBounds_toArray, List.set_cons_zero, List.set_cons_succ]
    refine wpAnyH_take (i := 30) (oi := { dst := some 38, op := _, type := _, pos := _, after := _, guard := _ }) (v := .pointer (some ⟨bc, oc + 4, none⟩)) rfl (by kernel_rfl) (by kernel_rfl) (by kernel_rfl) (fun _ _ _ h => h) (Or.inl ⟨by rfl, ?_⟩) (by assumption) ?_
    · intro w hSw; obtain ⟨p0, p4⟩ := hSw; go_simp
    try simp only [Act.put, List.setIfInBounds_toArray, List.set_cons_zero, List.set_cons_succ]
    refine wpAnyH_take (i := 31) (oi := { dst := some 39, op := _, type := _, pos := _, after := _, guard := _ }) (v := .slice c.ea c.e.length c.ec) rfl (by kernel_rfl) (by kernel_rfl) (by kernel_rfl) (fun _ _ _ h => h) (Or.inl ⟨by rfl, ?_⟩) (by assumption) ?_
    · intro w hSw; obtain ⟨p0, p4⟩ := hSw; go_simp
    try simp only [Act.put, List.setIfInBounds_toArray, List.set_cons_zero, List.set_cons_succ]
    refine wpAnyH_take (i := 32) (oi := { dst := some 40, op := _, type := _, pos := _, after := _, guard := _ }) (v := .int .i64 c.e.length) rfl (by kernel_rfl) (by kernel_rfl) (by kernel_rfl) (fun _ _ _ h => h) (Or.inl ⟨by rfl, ?_⟩) (by assumption) ?_
    · intro w hSw; obtain ⟨p0, p4⟩ := hSw; go_simp
    try simp only [Act.put, List.setIfInBounds_toArray, List.set_cons_zero, List.set_cons_succ]
    refine wpAnyH_ready (rs := [33]) (by kernel_rfl) (by simp) ?_
    refine AllReadyH.cons (o := { dst := some 41, op := _, type := _, pos := _, after := _, guard := _ }) rfl (fun K hK => ?_) AllReadyH.nil
    go_simp
    go_at_call 100
    refine (K3.out w4 (((((Gw.refl w).drew).trans g2).trans g3).trans g4)).mono ?_
    rintro e w5 ⟨rfl, g5⟩
    have k5 : ∀ b o, b < w.heap.size → w5.cell? ⟨b, o, none⟩ = w.cell? ⟨b, o, none⟩ := fun b o h => ((bcell g5).1 b o (Nat.lt_of_lt_of_le h (((((Gw.refl w).drew).trans g2).trans g3).trans g4).size)).trans (k4 b o h)
    go_wp2_with fail
    refine hK.out _ _ ⟨(k5 _ _ lb).trans p0, (k5 _ _ lc).trans p4⟩ (fun hHeld => ?_)
    clear hK K
    try simp only [Act.put, List.setIfInBounds_toArray, List.set_cons_zero, List.set_cons_succ]
    refine wpAnyH_take (i := 34) (oi := { dst := some 42, op := _, type := _, pos := _, after := _, guard := _ }) (v := .bool true) rfl (by kernel_rfl) (by kernel_rfl) (by kernel_rfl) (fun _ _ _ h => h) (Or.inl ⟨by rfl, ?_⟩) (by assumption) ?_
    · intro w hSw; obtain ⟨p0, p4⟩ := hSw; go_simp
    try simp only [Act.put, List.setIfInBounds_toArray, List.set_cons_zero, List.set_cons_succ]
    refine wpAnyH_take (i := 35) (oi := { dst := some 43, op := _, type := _, pos := _, after := _, guard := _ }) (v := .bool true) rfl (by kernel_rfl) (by kernel_rfl) (by kernel_rfl) (fun _ _ _ h => h) (Or.inl ⟨by rfl, ?_⟩) (by assumption) ?_
    · intro w hSw; obtain ⟨p0, p4⟩ := hSw; go_simp
    try simp only [Act.put, List.setIfInBounds_toArray, List.set_cons_zero, List.set_cons_succ]
    refine wpAnyH_take (i := 36) (oi := { dst := some 44, op := _, type := _, pos := _, after := _, guard := _ }) (v := undef) rfl (by kernel_rfl) (by kernel_rfl) (by kernel_rfl) (fun _ _ _ h => h) (Or.inr ⟨by rfl, rfl⟩) (by assumption) ?_
    try simp only [Act.put, List.setIfInBounds_toArray, List.set_cons_zero, List.set_cons_succ]
    refine wpAnyH_take (i := 37) (oi := { dst := some 45, op := _, type := _, pos := _, after := _, guard := _ }) (v := undef) rfl (by kernel_rfl) (by kernel_rfl) (by kernel_rfl) (fun _ _ _ h => h) (Or.inr ⟨by rfl, rfl⟩) (by assumption) ?_
    try simp only [Act.put, List.setIfInBounds_toArray, List.set_cons_zero, List.set_cons_succ]
    refine wpAnyH_take (i := 38) (oi := { dst := some 46, op := _, type := _, pos := _, after := _, guard := _ }) (v := undef) rfl (by kernel_rfl) (by kernel_rfl) (by kernel_rfl) (fun _ _ _ h => h) (Or.inr ⟨by rfl, rfl⟩) (by assumption) ?_
    try simp only [Act.put, List.setIfInBounds_toArray, List.set_cons_zero, List.set_cons_succ]
    refine wpAnyH_take (i := 39) (oi := { dst := some 47, op := _, type := _, pos := _, after := _, guard := _ }) (v := undef) rfl (by kernel_rfl) (by kernel_rfl) (by kernel_rfl) (fun _ _ _ h => h) (Or.inr ⟨by rfl, rfl⟩) (by assumption) ?_
    try simp only [Act.put, List.setIfInBounds_toArray, List.set_cons_zero, List.set_cons_succ]
    refine wpAnyH_take (i := 40) (oi := { dst := some 48, op := _, type := _, pos := _, after := _, guard := _ }) (v := undef) rfl (by kernel_rfl) (by kernel_rfl) (by kernel_rfl) (fun _ _ _ h => h) (Or.inr ⟨by rfl, rfl⟩) (by assumption) ?_
    try simp only [Act.put, List.setIfInBounds_toArray, List.set_cons_zero, List.set_cons_succ]
    refine wpAnyH_take (i := 41) (oi := { dst := some 49, op := _, type := _, pos := _, after := _, guard := _ }) (v := undef) rfl (by kernel_rfl) (by kernel_rfl) (by kernel_rfl) (fun _ _ _ h => h) (Or.inr ⟨by rfl, rfl⟩) (by assumption) ?_
    try simp only [Act.put, List.setIfInBounds_toArray, List.set_cons_zero, List.set_cons_succ]
    refine wpAnyH_take (i := 42) (oi := { dst := some 50, op := _, type := _, pos := _, after := _, guard := _ }) (v := .bool true) rfl (by kernel_rfl) (by kernel_rfl) (by kernel_rfl) (fun _ _ _ h => h) (Or.inl ⟨by rfl, ?_⟩) (by assumption) ?_
    · intro w hSw; obtain ⟨p0, p4⟩ := hSw; go_simp
    try simp only [Act.put, List.setIfInBounds_toArray, List.set_cons_zero, List.set_cons_succ]
    refine wpAnyH_done (by kernel_rfl) ?_ _
    clear hHeld
    go_wp2_with fail
    go_ret
    exact ⟨ret_b F.out.symm, (((((Gw.refl w).drew).trans g2).trans g3).trans g4).trans g5⟩
  | false =>
  rw [h3] at K30
  have K3 := Lib.hid K30
  have H3 := Lib.hid h3
  clear K30 h3
  by_cases h4 : c.e.length ≤ 256
  rotate_left
  · have z : decide ((256 : Int) < (c.e.length : Int)) = true := decide_eq_true (by omega)
    have F := Lib.hid (show clG u.ks.length (inH heap) c.pu = false by unfold clG LCl.pu; simp [h4])
    clear h4
    refine wp_region_held_drew (S := fun W => W.cell? ⟨b, 0, none⟩ = some (.slice u.a u.ks.length u.cap) ∧ W.cell? ⟨bc, oc + 4, none⟩ = some (.slice c.ea c.e.length c.ec)) (by kernel_rfl) ?_ (fun hHeld => ?_)
    · exact ⟨p0, p4⟩
    refine wpAnyH_take (i := 0) (oi := { dst := some 8, op := _, type := _, pos := _, after := _, guard := _ }) (v := .pointer (some ⟨bc, oc, none⟩)) rfl (by kernel_rfl) (by kernel_rfl) (by kernel_rfl) (fun _ _ _ h => h) (Or.inl ⟨by rfl, ?_⟩) (by assumption) ?_
    · intro w hSw; obtain ⟨p0, p4⟩ := hSw; go_simp
    try simp only [Act.put, List.setIfInBounds_toArray, List.set_cons_zero, List.set_cons_succ]
    refine wpAnyH_take (i := 1) (oi := { dst := some 9, op := _, type := _, pos := _, after := _, guard := _ }) (v := .pointer (some ⟨bc, oc, none⟩)) rfl (by kernel_rfl) (by kernel_rfl) (by kernel_rfl) (fun _ _ _ h => h) (Or.inl ⟨by rfl, ?_⟩) (by assumption) ?_
    · intro w hSw; obtain ⟨p0, p4⟩ := hSw; go_simp
    try simp only [Act.put, List.setIfInBounds_toArray, List.set_cons_zero, List.set_cons_succ]
    refine wpAnyH_take (i := 2) (oi := { dst := some 10, op := _, type := _, pos := _, after := _, guard := _ }) (v := .pointer (some ⟨bc, oc, none⟩)) rfl (by kernel_rfl) (by kernel_rfl) (by kernel_rfl) (fun _ _ _ h => h) (Or.inl ⟨by rfl, ?_⟩) (by assumption) ?_
    · intro w hSw; obtain ⟨p0, p4⟩ := hSw; go_simp
    try simp only [Act.put, List.setIfInBounds_toArray, List.set_cons_zero, List.set_cons_succ]
    refine wpAnyH_ready (rs := [3]) (by kernel_rfl) (by simp) ?_
    refine AllReadyH.cons (o := { dst := some 11, op := _, type := _, pos := _, after := _, guard := _ }) rfl (fun K hK => ?_) AllReadyH.nil
    go_simp
    go_at_call 99
    refine (K0.out w.drew ((Gw.refl w).drew)).mono ?_
    rintro e w2 ⟨rfl, g2⟩
    have k2 : ∀ b o, b < w.heap.size → w2.cell? ⟨b, o, none⟩ = w.cell? ⟨b, o, none⟩ := fun b o h => (bcell g2).1 b o h
    go_wp2_with fail
    refine hK.out _ _ ⟨(k2 _ _ lb).trans p0, (k2 _ _ lc).trans p4⟩ (fun hHeld => ?_)
    clear hK K
    try simp only [Act.put, List.setIfInBounds_toArray, List.set_cons_zero, List.set_cons_succ]
    refine wpAnyH_take (i := 4) (oi := { dst := some 12, op := _, type := _, pos := _, after := _, guard := _ }) (v := .bool false) rfl (by kernel_rfl) (by kernel_rfl) (by kernel_rfl) (fun _ _ _ h => h) (Or.inl ⟨by rfl, ?_⟩) (by assumption) ?_
    · intro w hSw; obtain ⟨p0, p4⟩ := hSw; go_simp
    try simp only [Act.put, List.setIfInBounds_toArray, List.set_cons_zero, List.set_cons_succ]
    refine wpAnyH_take (i := 5) (oi := { dst := some 13, op := _, type := _, pos := _, after := _, guard := _ }) (v := .bool false) rfl (by kernel_rfl) (by kernel_rfl) (by kernel_rfl) (fun _ _ _ h => h) (Or.inl ⟨by rfl, ?_⟩) (by assumption) ?_
    · intro w hSw; obtain ⟨p0, p4⟩ := hSw; go_simp
    try simp only [Act.put, List.setIfInBounds_toArray, List.set_cons_zero, List.set_cons_succ]
    refine wpAnyH_take (i := 6) (oi := { dst := some 14, op := _, type := _, pos := _, after := _, guard := _ }) (v := .pointer (some ⟨bc, oc, none⟩)) rfl (by kernel_rfl) (by kernel_rfl) (by kernel_rfl) (fun _ _ _ h => h) (Or.inl ⟨by rfl, ?_⟩) (by assumption) ?_
    · intro w hSw; obtain ⟨p0, p4⟩ := hSw; go_simp
    try simp only [Act.put, List.setIfInBounds_toArray, List.set_cons_zero, List.set_cons_succ]
    refine wpAnyH_take (i := 7) (oi := { dst := some 15, op := _, type := _, pos := _, after := _, guard := _ }) (v := .pointer (some ⟨bc, oc, none⟩)) rfl (by kernel_rfl) (by kernel_rfl) (by kernel_rfl) (fun _ _ _ h => h) (Or.inl ⟨by rfl, ?_⟩) (by assumption) ?_
    · intro w hSw; obtain ⟨p0, p4⟩ := hSw; go_simp
    try simp only [Act.put, List.setIfInBounds_toArray, List.set_cons_zero, List.set_cons_succ]
    refine wpAnyH_take (i := 8) (oi := { dst := some 16, op := _, type := _, pos := _, after := _, guard := _ }) (v := .pointer (some ⟨bc, oc, none⟩)) rfl (by kernel_rfl) (by kernel_rfl) (by kernel_rfl) (fun _ _ _ h => h) (Or.inl ⟨by rfl, ?_⟩) (by assumption) ?_
    · intro w hSw; obtain ⟨p0, p4⟩ := hSw; go_simp
    try simp only [Act.put, List.setIfInBounds_toArray, List.set_cons_zero, List.set_cons_succ]
    refine wpAnyH_ready (rs := [9]) (by kernel_rfl) (by simp) ?_
    refine AllReadyH.cons (o := { dst := some 17, op := _, type := _, pos := _, after := _, guard := _ }) rfl (fun K hK => ?_) AllReadyH.nil
    go_simp
    go_at_call 90
    refine (K1.out w2 (((Gw.refl w).drew).trans g2)).mono ?_
    rintro e w3 ⟨rfl, g3⟩
    have k3 : ∀ b o, b < w.heap.size → w3.cell? ⟨b, o, none⟩ = w.cell? ⟨b, o, none⟩ := fun b o h => ((bcell g3).1 b o (Nat.lt_of_lt_of_le h (((Gw.refl w).drew).trans g2).size)).trans (k2 b o h)
    go_wp2_with fail
    refine hK.out _ _ ⟨(k3 _ _ lb).trans p0, (k3 _ _ lc).trans p4⟩ (fun hHeld => ?_)
    clear hK K
    try simp only [Act.put, List.setIfInBounds_toArray, List.set_cons_zero, List.set_cons_succ]
    refine wpAnyH_take (i := 10) (oi := { dst := some 18, op := _, type := _, pos := _, after := _, guard := _ }) (v := .bool false) rfl (by kernel_rfl) (by kernel_rfl) (by kernel_rfl) (fun _ _ _ h => h) (Or.inl ⟨by rfl, ?_⟩) (by assumption) ?_
    · intro w hSw; obtain ⟨p0, p4⟩ := hSw; go_simp
    try simp only [Act.put, List.setIfInBounds_toArray, List.set_cons_zero, List.set_cons_succ]
    refine wpAnyH_take (i := 11) (oi := { dst := some 19, op := _, type := _, pos := _, after := _, guard := _ }) (v := .bool false) rfl (by kernel_rfl) (by kernel_rfl) (by kernel_rfl) (fun _ _ _ h => h) (Or.inl ⟨by rfl, ?_⟩) (by assumption) ?_
    · intro w hSw; obtain ⟨p0, p4⟩ := hSw; go_simp
    try simp only [Act.put, List.setIfInBounds_toArray, List.set_cons_zero, List.set_cons_succ]
    refine wpAnyH_take (i := 12) (oi := { dst := some 20, op := _, type := _, pos := _, after := _, guard := _ }) (v := .bool false) rfl (by kernel_rfl) (by kernel_rfl) (by kernel_rfl) (fun _ _ _ h => h) (Or.inl ⟨by rfl, ?_⟩) (by assumption) ?_
    · intro w hSw; obtain ⟨p0, p4⟩ := hSw; go_simp
    try simp only [Act.put, List.setIfInBounds_toArray, List.set_cons_zero, List.set_cons_succ]
    refine wpAnyH_take (i := 13) (oi := { dst := some 21, op := _, type := _, pos := _, after := _, guard := _ }) (v := .pointer (some ⟨bc, oc, none⟩)) rfl (by kernel_rfl) (by kernel_rfl) (by kernel_rfl) (fun _ _ _ h => h) (Or.inl ⟨by rfl, ?_⟩) (by assumption) ?_
    · intro w hSw; obtain ⟨p0, p4⟩ := hSw; go_simp
    try simp only [Act.put, List.setIfInBounds_toArray, List.set_cons_zero, List.set_cons_succ]
    refine wpAnyH_take (i := 14) (oi := { dst := some 22, op := _, type := _, pos := _, after := _, guard := _ }) (v := .pointer (some ⟨bc, oc, none⟩)) rfl (by kernel_rfl) (by kernel_rfl) (by kernel_rfl) (fun _ _ _ h => h) (Or.inl ⟨by rfl, ?_⟩) (by assumption) ?_
    · intro w hSw; obtain ⟨p0, p4⟩ := hSw; go_simp
    try simp only [Act.put, List.setIfInBounds_toArray, List.set_cons_zero, List.set_cons_succ]
    refine wpAnyH_take (i := 15) (oi := { dst := some 23, op := _, type := _, pos := _, after := _, guard := _ }) (v := .pointer (some ⟨bc, oc, none⟩)) rfl (by kernel_rfl) (by kernel_rfl) (by kernel_rfl) (fun _ _ _ h => h) (Or.inl ⟨by rfl, ?_⟩) (by assumption) ?_
    · intro w hSw; obtain ⟨p0, p4⟩ := hSw; go_simp
    try simp only [Act.put, List.setIfInBounds_toArray, List.set_cons_zero, List.set_cons_succ]
    refine wpAnyH_take (i := 16) (oi := { dst := some 24, op := _, type := _, pos := _, after := _, guard := _ }) (v := .pointer (some ⟨b, 0, none⟩)) rfl (by kernel_rfl) (by kernel_rfl) (by kernel_rfl) (fun _ _ _ h => h) (Or.inl ⟨by rfl, ?_⟩) (by assumption) ?_
    · intro w hSw; obtain ⟨p0, p4⟩ := hSw; go_simp
    try simp only [Act.put, List.setIfInBounds_toArray, List.set_cons_zero, List.set_cons_succ]
    refine wpAnyH_take (i := 17) (oi := { dst := some 25, op := _, type := _, pos := _, after := _, guard := _ }) (v := .pointer (some ⟨b, 0, none⟩)) rfl (by kernel_rfl) (by kernel_rfl) (by kernel_rfl) (fun _ _ _ h => h) (Or.inl ⟨by rfl, ?_⟩) (by assumption) ?_
    · intro w hSw; obtain ⟨p0, p4⟩ := hSw; go_simp
    try simp only [Act.put, List.setIfInBounds_toArray, List.set_cons_zero, List.set_cons_succ]
    refine wpAnyH_take (i := 18) (oi := { dst := some 26, op := _, type := _, pos := _, after := _, guard := _ }) (v := .pointer (some ⟨b, 0, none⟩)) rfl (by kernel_rfl) (by kernel_rfl) (by kernel_rfl) (fun _ _ _ h => h) (Or.inl ⟨by rfl, ?_⟩) (by assumption) ?_
    · intro w hSw; obtain ⟨p0, p4⟩ := hSw; go_simp
    try simp only [Act.put, List.setIfInBounds_toArray, List.set_cons_zero, List.set_cons_succ]
    refine wpAnyH_take (i := 19) (oi := { dst := some 27, op := _, type := _, pos := _, after := _, guard := _ }) (v := .slice u.a u.ks.length u.cap) rfl (by kernel_rfl) (by kernel_rfl) (by kernel_rfl) (fun _ _ _ h => h) (Or.inl ⟨by rfl, ?_⟩) (by assumption) ?_
    · intro w hSw; obtain ⟨p0, p4⟩ := hSw; go_simp
    try simp only [Act.put, List.setIfInBounds_toArray, List.set_cons_zero, List.set_cons_succ]
    refine wpAnyH_take (i := 20) (oi := { dst := some 28, op := _, type := _, pos := _, after := _, guard := _ }) (v := .int .i64 u.ks.length) rfl (by kernel_rfl) (by kernel_rfl) (by kernel_rfl) (fun _ _ _ h => h) (Or.inl ⟨by rfl, ?_⟩) (by assumption) ?_
    · intro w hSw; obtain ⟨p0, p4⟩ := hSw; go_simp
    try simp only [Act.put, List.setIfInBounds_toArray, List.set_cons_zero, List.set_cons_succ]
    refine wpAnyH_ready (rs := [21]) (by kernel_rfl) (by simp) ?_
    refine AllReadyH.cons (o := { dst := some 29, op := _, type := _, pos := _, after := _, guard := _ }) rfl (fun K hK => ?_) AllReadyH.nil
    go_simp
    go_at_call 91
    refine (K2.out w3 ((((Gw.refl w).drew).trans g2).trans g3)).mono ?_
    rintro e w4 ⟨rfl, g4⟩
    have k4 : ∀ b o, b < w.heap.size → w4.cell? ⟨b, o, none⟩ = w.cell? ⟨b, o, none⟩ := fun b o h => ((bcell g4).1 b o (Nat.lt_of_lt_of_le h ((((Gw.refl w).drew).trans g2).trans g3).size)).trans (k3 b o h)
    go_wp2_with fail
    refine hK.out _ _ ⟨(k4 _ _ lb).trans p0, (k4 _ _ lc).trans p4⟩ (fun hHeld => ?_)
    clear hK K
    try simp only [Act.put, List.setIfInBounds_toArray, List.set_cons_zero, List.set_cons_succ]
    refine wpAnyH_take (i := 22) (oi := { dst := some 30, op := _, type := _, pos := _, after := _, guard := _ }) (v := .bool false) rfl (by kernel_rfl) (by kernel_rfl) (by kernel_rfl) (fun _ _ _ h => h) (Or.inl ⟨by rfl, ?_⟩) (by assumption) ?_
    · intro w hSw; obtain ⟨p0, p4⟩ := hSw; go_simp
    try simp only [Act.put, List.setIfInBounds_toArray, List.set_cons_zero, List.set_cons_succ]
    refine wpAnyH_take (i := 23) (oi := { dst := some 31, op := _, type := _, pos := _, after := _, guard := _ }) (v := .bool false) rfl (by kernel_rfl) (by kernel_rfl) (by kernel_rfl) (fun _ _ _ h => h) (Or.inl ⟨by rfl, ?_⟩) (by assumption) ?_
    · intro w hSw; obtain ⟨p0, p4⟩ := hSw; go_simp
    try simp only [Act.put, List.setIfInBounds_toArray, List.set_cons_zero, List.set_cons_succ]
    refine wpAnyH_take (i := 24) (oi := { dst := some 32, op := _, type := _, pos := _, after := _, guard := _ }) (v := .bool false) rfl (by kernel_rfl) (by kernel_rfl) (by kernel_rfl) (fun _ _ _ h => h) (Or.inl ⟨by rfl, ?_⟩) (by assumption) ?_
    · intro w hSw; obtain ⟨p0, p4⟩ := hSw; go_simp
    try simp only [Act.put, List.setIfInBounds_toArray, List.set_cons_zero, List.set_cons_succ]
    refine wpAnyH_take (i := 25) (oi := { dst := some 33, op := _, type := _, pos := _, after := _, guard := _ }) (v := .pointer (some ⟨bc, oc, none⟩)) rfl (by kernel_rfl) (by kernel_rfl) (by kernel_rfl) (fun _ _ _ h => h) (Or.inl ⟨by rfl, ?_⟩) (by assumption) ?_
    · intro w hSw; obtain ⟨p0, p4⟩ := hSw; go_simp
    try simp only [Act.put, List.setIfInBounds_toArray, List.set_cons_zero, List.set_cons_succ]
    refine wpAnyH_take (i := 26) (oi := { dst := some 34, op := _, type := _, pos := _, after := _, guard := _ }) (v := .pointer (some ⟨bc, oc, none⟩)) rfl (by kernel_rfl) (by kernel_rfl) (by kernel_rfl) (fun _ _ _ h => h) (Or.inl ⟨by rfl, ?_⟩) (by assumption) ?_
    · intro w hSw; obtain ⟨p0, p4⟩ := hSw; go_simp
    try simp only [Act.put, List.setIfInBounds_toArray, List.set_cons_zero, List.set_cons_succ]
    refine wpAnyH_take (i := 27) (oi := { dst := some 35, op := _, type := _, pos := _, after := _, guard := _ }) (v := .pointer (some ⟨bc, oc, none⟩)) rfl (by kernel_rfl) (by kernel_rfl) (by kernel_rfl) (fun _ _ _ h => h) (Or.inl ⟨by rfl, ?_⟩) (by assumption) ?_
    · intro w hSw; obtain ⟨p0, p4⟩ := hSw; go_simp
    try simp only [Act.put, List.setIfInBounds_toArray, List.set_cons_zero, List.set_cons_succ]
    refine wpAnyH_take (i := 28) (oi := { dst := some 36, op := _, type := _, pos := _, after := _, guard := _ }) (v := .pointer (some ⟨bc, oc, none⟩)) rfl (by kernel_rfl) (by kernel_rfl) (by kernel_rfl) (fun _ _ _ h => h) (Or.inl ⟨by rfl, ?_⟩) (by assumption) ?_
    · intro w hSw; obtain ⟨p0, p4⟩ := hSw; go_simp
    try simp only [Act.put, List.setIfInBounds_toArray, List.set_cons_zero, List.set_cons_succ]
    refine wpAnyH_take (i := 29) (oi := { dst := some 37, op := _, type := _, pos := _, after := _, guard := _ }) (v := .pointer (some ⟨bc, oc, none⟩)) rfl (by kernel_rfl) (by kernel_rfl) (by kernel_rfl) (fun _ _ _ h => h) (Or.inl ⟨by rfl, ?_⟩) (by assumption) ?_
    · intro w hSw; obtain ⟨p0, p4⟩ := hSw; go_simp
    try simp only [Act.put, List.setIfInBounds_toArray, List.set_cons_zero, List.set_cons_succ]
    refine wpAnyH_take (i := 30) (oi := { dst := some 38, op := _, type := _, pos := _, after := _, guard := _ }) (v := .pointer (some ⟨bc, oc + 4, none⟩)) rfl (by kernel_rfl) (by kernel_rfl) (by kernel_rfl) (fun _ _ _ h => h) (Or.inl ⟨by rfl, ?_⟩) (by assumption) ?_
    · intro w hSw; obtain ⟨p0, p4⟩ := hSw; go_simp
    try simp only [Act.put, List.setIfInBounds_toArray, List.set_cons_zero, List.set_cons_succ]
    refine wpAnyH_take (i := 31) (oi := { dst := some 39, op := _, type := _, pos := _, after := _, guard := _ }) (v := .slice c.ea c.e.length c.ec) rfl (by kernel_rfl) (by kernel_rfl) (by kernel_rfl) (fun _ _ _ h => h) (Or.inl ⟨by rfl, ?_⟩) (by assumption) ?_
    · intro w hSw; obtain ⟨p0, p4⟩ := hSw; go_simp
    try simp only [Act.put, List.setIfInBounds_toArray, List.set_cons_zero, List.set_cons_succ]
    refine wpAnyH_take (i := 32) (oi := { dst := some 40, op := _, type := _, pos := _, after := _, guard := _ }) (v := .int .i64 c.e.length) rfl (by kernel_rfl) (by kernel_rfl) (by kernel_rfl) (fun _ _ _ h => h) (Or.inl ⟨by rfl, ?_⟩) (by assumption) ?_
    · intro w hSw; obtain ⟨p0, p4⟩ := hSw; go_simp
    try simp only [Act.put, List.setIfInBounds_toArray, List.set_cons_zero, List.set_cons_succ]
    refine wpAnyH_ready (rs := [33]) (by kernel_rfl) (by simp) ?_
    refine AllReadyH.cons (o := { dst := some 41, op := _, type := _, pos := _, after := _, guard := _ }) rfl (fun K hK => ?_) AllReadyH.nil
    go_simp
    go_at_call 100
    refine (K3.out w4 (((((Gw.refl w).drew).trans g2).trans g3).trans g4)).mono ?_
    rintro e w5 ⟨rfl, g5⟩
    have k5 : ∀ b o, b < w.heap.size → w5.cell? ⟨b, o, none⟩ = w.cell? ⟨b, o, none⟩ := fun b o h => ((bcell g5).1 b o (Nat.lt_of_lt_of_le h (((((Gw.refl w).drew).trans g2).trans g3).trans g4).size)).trans (k4 b o h)
    go_wp2_with fail
    refine hK.out _ _ ⟨(k5 _ _ lb).trans p0, (k5 _ _ lc).trans p4⟩ (fun hHeld => ?_)
    clear hK K
    try simp only [Act.put, List.setIfInBounds_toArray, List.set_cons_zero, List.set_cons_succ]
    refine wpAnyH_take (i := 34) (oi := { dst := some 42, op := _, type := _, pos := _, after := _, guard := _ }) (v := .bool false) rfl (by kernel_rfl) (by kernel_rfl) (by kernel_rfl) (fun _ _ _ h => h) (Or.inl ⟨by rfl, ?_⟩) (by assumption) ?_
    · intro w hSw; obtain ⟨p0, p4⟩ := hSw; go_simp
    try simp only [Act.put, List.setIfInBounds_toArray, List.set_cons_zero, List.set_cons_succ]
    refine wpAnyH_take (i := 35) (oi := { dst := some 43, op := _, type := _, pos := _, after := _, guard := _ }) (v := .bool false) rfl (by kernel_rfl) (by kernel_rfl) (by kernel_rfl) (fun _ _ _ h => h) (Or.inl ⟨by rfl, ?_⟩) (by assumption) ?_
    · intro w hSw; obtain ⟨p0, p4⟩ := hSw; go_simp
    try simp only [Act.put, List.setIfInBounds_toArray, List.set_cons_zero, List.set_cons_succ]
    refine wpAnyH_take (i := 36) (oi := { dst := some 44, op := _, type := _, pos := _, after := _, guard := _ }) (v := .pointer (some ⟨bc, oc, none⟩)) rfl (by kernel_rfl) (by kernel_rfl) (by kernel_rfl) (fun _ _ _ h => h) (Or.inl ⟨by rfl, ?_⟩) (by assumption) ?_
    · intro w hSw; obtain ⟨p0, p4⟩ := hSw; go_simp
    try simp only [Act.put, List.setIfInBounds_toArray, List.set_cons_zero, List.set_cons_succ]
    refine wpAnyH_take (i := 37) (oi := { dst := some 45, op := _, type := _, pos := _, after := _, guard := _ }) (v := .pointer (some ⟨bc, oc, none⟩)) rfl (by kernel_rfl) (by kernel_rfl) (by kernel_rfl) (fun _ _ _ h => h) (Or.inl ⟨by rfl, ?_⟩) (by assumption) ?_
    · intro w hSw; obtain ⟨p0, p4⟩ := hSw; go_simp
    try simp only [Act.put, List.setIfInBounds_toArray, List.set_cons_zero, List.set_cons_succ]
    refine wpAnyH_take (i := 38) (oi := { dst := some 46, op := _, type := _, pos := _, after := _, guard := _ }) (v := .pointer (some ⟨bc, oc + 4, none⟩)) rfl (by kernel_rfl) (by kernel_rfl) (by kernel_rfl) (fun _ _ _ h => h) (Or.inl ⟨by rfl, ?_⟩) (by assumption) ?_
    · intro w hSw; obtain ⟨p0, p4⟩ := hSw; go_simp
    try simp only [Act.put, List.setIfInBounds_toArray, List.set_cons_zero, List.set_cons_succ]
    refine wpAnyH_take (i := 39) (oi := { dst := some 47, op := _, type := _, pos := _, after := _, guard := _ }) (v := .slice c.ea c.e.length c.ec) rfl (by kernel_rfl) (by kernel_rfl) (by kernel_rfl) (fun _ _ _ h => h) (Or.inl ⟨by rfl, ?_⟩) (by assumption) ?_
    · intro w hSw; obtain ⟨p0, p4⟩ := hSw; go_simp
    try simp only [Act.put, List.setIfInBounds_toArray, List.set_cons_zero, List.set_cons_succ]
    refine wpAnyH_take (i := 40) (oi := { dst := some 48, op := _, type := _, pos := _, after := _, guard := _ }) (v := .int .i64 c.e.length) rfl (by kernel_rfl) (by kernel_rfl) (by kernel_rfl) (fun _ _ _ h => h) (Or.inl ⟨by rfl, ?_⟩) (by assumption) ?_
    · intro w hSw; obtain ⟨p0, p4⟩ := hSw; go_simp
    try simp only [Act.put, List.setIfInBounds_toArray, List.set_cons_zero, List.set_cons_succ]
    refine wpAnyH_take (i := 41) (oi := { dst := some 49, op := _, type := _, pos := _, after := _, guard := _ }) (v := .bool true) rfl (by kernel_rfl) (by kernel_rfl) (by kernel_rfl) (fun _ _ _ h => h) (Or.inl ⟨by rfl, ?_⟩) (by assumption) ?_
    · intro w hSw; obtain ⟨p0, p4⟩ := hSw; go_simp
    try simp only [Act.put, List.setIfInBounds_toArray, List.set_cons_zero, List.set_cons_succ]
    refine wpAnyH_take (i := 42) (oi := { dst := some 50, op := _, type := _, pos := _, after := _, guard := _ }) (v := .bool true) rfl (by kernel_rfl) (by kernel_rfl) (by kernel_rfl) (fun _ _ _ h => h) (Or.inl ⟨by rfl, ?_⟩) (by assumption) ?_
    · intro w hSw; obtain ⟨p0, p4⟩ := hSw; go_simp
    try simp only [Act.put, List.setIfInBounds_toArray, List.set_cons_zero, List.set_cons_succ]
    refine wpAnyH_done (by kernel_rfl) ?_ _
    clear hHeld
    go_wp2_with fail
    go_ret
    exact ⟨ret_b F.out.symm, (((((Gw.refl w).drew).trans g2).trans g3).trans g4).trans g5⟩
  have z : decide ((256 : Int) < (c.e.length : Int)) = false := decide_eq_false (by omega)
  have H4 := Lib.hid h4
  have FC := Lib.hid (show clG u.ks.length (inH heap) c.pu = c.e.all (inH heap) by unfold clG LCl.pu; simp [H0.out, H1.out, H2.out, H3.out, h4])
  clear h4
  refine wp_region_held_drew (S := fun W => W.cell? ⟨b, 0, none⟩ = some (.slice u.a u.ks.length u.cap) ∧ W.cell? ⟨bc, oc + 4, none⟩ = some (.slice c.ea c.e.length c.ec)) (by kernel_rfl) ?_ (fun hHeld => ?_)
  · exact ⟨p0, p4⟩
  refine wpAnyH_take (i := 0) (oi := { dst := some 8, op := _, type := _, pos := _, after := _, guard := _ }) (v := .pointer (some ⟨bc, oc, none⟩)) rfl (by kernel_rfl) (by kernel_rfl) (by kernel_rfl) (fun _ _ _ h => h) (Or.inl ⟨by rfl, ?_⟩) (by assumption) ?_
  · intro w hSw; obtain ⟨p0, p4⟩ := hSw; go_simp
  try simp only [Act.put, List.setIfInBounds_toArray, List.set_cons_zero, List.set_cons_succ]
  refine wpAnyH_take (i := 1) (oi := { dst := some 9, op := _, type := _, pos := _, after := _, guard := _ }) (v := .pointer (some ⟨bc, oc, none⟩)) rfl (by kernel_rfl) (by kernel_rfl) (by kernel_rfl) (fun _ _ _ h => h) (Or.inl ⟨by rfl, ?_⟩) (by assumption) ?_
  · intro w hSw; obtain ⟨p0, p4⟩ := hSw; go_simp
  try simp only [Act.put, List.setIfInBounds_toArray, List.set_cons_zero, List.set_cons_succ]
  refine wpAnyH_take (i := 2) (oi := { dst := some 10, op := _, type := _, pos := _, after := _, guard := _ }) (v := .pointer (some ⟨bc, oc, none⟩)) rfl (by kernel_rfl) (by kernel_rfl) (by kernel_rfl) (fun _ _ _ h => h) (Or.inl ⟨by rfl, ?_⟩) (by assumption) ?_
  · intro w hSw; obtain ⟨p0, p4⟩ := hSw; go_simp
  try simp only [Act.put, List.setIfInBounds_toArray, List.set_cons_zero, List.set_cons_succ]
  refine wpAnyH_ready (rs := [3]) (by kernel_rfl) (by simp) ?_
  refine AllReadyH.cons (o := { dst := some 11, op := _, type := _, pos := _, after := _, guard := _ }) rfl (fun K hK => ?_) AllReadyH.nil
  go_simp
  go_at_call 99
  refine (K0.out w.drew ((Gw.refl w).drew)).mono ?_
  rintro e w2 ⟨rfl, g2⟩
  have k2 : ∀ b o, b < w.heap.size → w2.cell? ⟨b, o, none⟩ = w.cell? ⟨b, o, none⟩ := fun b o h => (bcell g2).1 b o h
  go_wp2_with fail
  refine hK.out _ _ ⟨(k2 _ _ lb).trans p0, (k2 _ _ lc).trans p4⟩ (fun hHeld => ?_)
  clear hK K
  try simp only [Act.put, List.setIfInBounds_toArray, List.set_cons_zero, List.set_cons_succ]
  refine wpAnyH_take (i := 4) (oi := { dst := some 12, op := _, type := _, pos := _, after := _, guard := _ }) (v := .bool false) rfl (by kernel_rfl) (by kernel_rfl) (by kernel_rfl) (fun _ _ _ h => h) (Or.inl ⟨by rfl, ?_⟩) (by assumption) ?_
  · intro w hSw; obtain ⟨p0, p4⟩ := hSw; go_simp
  try simp only [Act.put, List.setIfInBounds_toArray, List.set_cons_zero, List.set_cons_succ]
  refine wpAnyH_take (i := 5) (oi := { dst := some 13, op := _, type := _, pos := _, after := _, guard := _ }) (v := .bool false) rfl (by kernel_rfl) (by kernel_rfl) (by kernel_rfl) (fun _ _ _ h => h) (Or.inl ⟨by rfl, ?_⟩) (by assumption) ?_
  · intro w hSw; obtain ⟨p0, p4⟩ := hSw; go_simp
  try simp only [Act.put, List.setIfInBounds_toArray, List.set_cons_zero, List.set_cons_succ]
  refine wpAnyH_take (i := 6) (oi := { dst := some 14, op := _, type := _, pos := _, after := _, guard := _ }) (v := .pointer (some ⟨bc, oc, none⟩)) rfl (by kernel_rfl) (by kernel_rfl) (by kernel_rfl) (fun _ _ _ h => h) (Or.inl ⟨by rfl, ?_⟩) (by assumption) ?_
  · intro w hSw; obtain ⟨p0, p4⟩ := hSw; go_simp
  try simp only [Act.put, List.setIfInBounds_toArray, List.set_cons_zero, List.set_cons_succ]
  refine wpAnyH_take (i := 7) (oi := { dst := some 15, op := _, type := _, pos := _, after := _, guard := _ }) (v := .pointer (some ⟨bc, oc, none⟩)) rfl (by kernel_rfl) (by kernel_rfl) (by kernel_rfl) (fun _ _ _ h => h) (Or.inl ⟨by rfl, ?_⟩) (by assumption) ?_
  · intro w hSw; obtain ⟨p0, p4⟩ := hSw; go_simp
  try simp only [Act.put, List.setIfInBounds_toArray, List.set_cons_zero, List.set_cons_succ]
  refine wpAnyH_take (i := 8) (oi := { dst := some 16, op := _, type := _, pos := _, after := _, guard := _ }) (v := .pointer (some ⟨bc, oc, none⟩)) rfl (by kernel_rfl) (by kernel_rfl) (by kernel_rfl) (fun _ _ _ h => h) (Or.inl ⟨by rfl, ?_⟩) (by assumption) ?_
  · intro w hSw; obtain ⟨p0, p4⟩ := hSw; go_simp
  try simp only [Act.put, List.setIfInBounds_toArray, List.set_cons_zero, List.set_cons_succ]
  refine wpAnyH_ready (rs := [9]) (by kernel_rfl) (by simp) ?_
  refine AllReadyH.cons (o := { dst := some 17, op := _, type := _, pos := _, after := _, guard := _ }) rfl (fun K hK => ?_) AllReadyH.nil
  go_simp
  go_at_call 90
  refine (K1.out w2 (((Gw.refl w).drew).trans g2)).mono ?_
  rintro e w3 ⟨rfl, g3⟩
  have k3 : ∀ b o, b < w.heap.size → w3.cell? ⟨b, o, none⟩ = w.cell? ⟨b, o, none⟩ := fun b o h => ((bcell g3).1 b o (Nat.lt_of_lt_of_le h (((Gw.refl w).drew).trans g2).size)).trans (k2 b o h)
  go_wp2_with fail
  refine hK.out _ _ ⟨(k3 _ _ lb).trans p0, (k3 _ _ lc).trans p4⟩ (fun hHeld => ?_)
  clear hK K
  try simp only [Act.put, List.setIfInBounds_toArray, List.set_cons_zero, List.set_cons_succ]
  refine wpAnyH_take (i := 10) (oi := { dst := some 18, op := _, type := _, pos := _, after := _, guard := _ }) (v := .bool false) rfl (by kernel_rfl) (by kernel_rfl) (by kernel_rfl) (fun _ _ _ h => h) (Or.inl ⟨by rfl, ?_⟩) (by assumption) ?_
  · intro w hSw; obtain ⟨p0, p4⟩ := hSw; go_simp
  try simp only [Act.put, List.setIfInBounds_toArray, List.set_cons_zero, List.set_cons_succ]
  refine wpAnyH_take (i := 11) (oi := { dst := some 19, op := _, type := _, pos := _, after := _, guard := _ }) (v := .bool false) rfl (by kernel_rfl) (by kernel_rfl) (by kernel_rfl) (fun _ _ _ h => h) (Or.inl ⟨by rfl, ?_⟩) (by assumption) ?_
  · intro w hSw; obtain ⟨p0, p4⟩ := hSw; go_simp
  try simp only [Act.put, List.setIfInBounds_toArray, List.set_cons_zero, List.set_cons_succ]
  refine wpAnyH_take (i := 12) (oi := { dst := some 20, op := _, type := _, pos := _, after := _, guard := _ }) (v := .bool false) rfl (by kernel_rfl) (by kernel_rfl) (by kernel_rfl) (fun _ _ _ h => h) (Or.inl ⟨by rfl, ?_⟩) (by assumption) ?_
  · intro w hSw; obtain ⟨p0, p4⟩ := hSw; go_simp
  try simp only [Act.put, List.setIfInBounds_toArray, List.set_cons_zero, List.set_cons_succ]
  refine wpAnyH_take (i := 13) (oi := { dst := some 21, op := _, type := _, pos := _, after := _, guard := _ }) (v := .pointer (some ⟨bc, oc, none⟩)) rfl (by kernel_rfl) (by kernel_rfl) (by kernel_rfl) (fun _ _ _ h => h) (Or.inl ⟨by rfl, ?_⟩) (by assumption) ?_
  · intro w hSw; obtain ⟨p0, p4⟩ := hSw; go_simp
  try simp only [Act.put, List.setIfInBounds_toArray, List.set_cons_zero, List.set_cons_succ]
  refine wpAnyH_take (i := 14) (oi := { dst := some 22, op := _, type := _, pos := _, after := _, guard := _ }) (v := .pointer (some ⟨bc, oc, none⟩)) rfl (by kernel_rfl) (by kernel_rfl) (by kernel_rfl) (fun _ _ _ h => h) (Or.inl ⟨by rfl, ?_⟩) (by assumption) ?_
  · intro w hSw; obtain ⟨p0, p4⟩ := hSw; go_simp
  try simp only [Act.put, List.setIfInBounds_toArray, List.set_cons_zero, List.set_cons_succ]
  refine wpAnyH_take (i := 15) (oi := { dst := some 23, op := _, type := _, pos := _, after := _, guard := _ }) (v := .pointer (some ⟨bc, oc, none⟩)) rfl (by kernel_rfl) (by kernel_rfl) (by kernel_rfl) (fun _ _ _ h => h) (Or.inl ⟨by rfl, ?_⟩) (by assumption) ?_
  · intro w hSw; obtain ⟨p0, p4⟩ := hSw; go_simp
  try simp only [Act.put, List.setIfInBounds_toArray, List.set_cons_zero, List.set_cons_succ]
  refine wpAnyH_take (i := 16) (oi := { dst := some 24, op := _, type := _, pos := _, after := _, guard := _ }) (v := .pointer (some ⟨b, 0, none⟩)) rfl (by kernel_rfl) (by kernel_rfl) (by kernel_rfl) (fun _ _ _ h => h) (Or.inl ⟨by rfl, ?_⟩) (by assumption) ?_
  · intro w hSw; obtain ⟨p0, p4⟩ := hSw; go_simp
  try simp only [Act.put, List.setIfInBounds_toArray, List.set_cons_zero, List.set_cons_succ]
  refine wpAnyH_take (i := 17) (oi := { dst := some 25, op := _, type := _, pos := _, after := _, guard := _ }) (v := .pointer (some ⟨b, 0, none⟩)) rfl (by kernel_rfl) (by kernel_rfl) (by kernel_rfl) (fun _ _ _ h => h) (Or.inl ⟨by rfl, ?_⟩) (by assumption) ?_
  · intro w hSw; obtain ⟨p0, p4⟩ := hSw; go_simp
  try simp only [Act.put, List.setIfInBounds_toArray, List.set_cons_zero, List.set_cons_succ]
  refine wpAnyH_take (i := 18) (oi := { dst := some 26, op := _, type := _, pos := _, after := _, guard := _ }) (v := .pointer (some ⟨b, 0, none⟩)) rfl (by kernel_rfl) (by kernel_rfl) (by kernel_rfl) (fun _ _ _ h => h) (Or.inl ⟨by rfl, ?_⟩) (by assumption) ?_
  · intro w hSw; obtain ⟨p0, p4⟩ := hSw; go_simp
  try simp only [Act.put, List.setIfInBounds_toArray, List.set_cons_zero, List.set_cons_succ]
  refine wpAnyH_take (i := 19) (oi := { dst := some 27, op := _, type := _, pos := _, after := _, guard := _ }) (v := .slice u.a u.ks.length u.cap) rfl (by kernel_rfl) (by kernel_rfl) (by kernel_rfl) (fun _ _ _ h => h) (Or.inl ⟨by rfl, ?_⟩) (by assumption) ?_
  · intro w hSw; obtain ⟨p0, p4⟩ := hSw; go_simp
  try simp only [Act.put, List.setIfInBounds_toArray, List.set_cons_zero, List.set_cons_succ]
  refine wpAnyH_take (i := 20) (oi := { dst := some 28, op := _, type := _, pos := _, after := _, guard := _ }) (v := .int .i64 u.ks.length) rfl (by kernel_rfl) (by kernel_rfl) (by kernel_rfl) (fun _ _ _ h => h) (Or.inl ⟨by rfl, ?_⟩) (by assumption) ?_
  · intro w hSw; obtain ⟨p0, p4⟩ := hSw; go_simp
  try simp only [Act.put, List.setIfInBounds_toArray, List.set_cons_zero, List.set_cons_succ]
  refine wpAnyH_ready (rs := [21]) (by kernel_rfl) (by simp) ?_
  refine AllReadyH.cons (o := { dst := some 29, op := _, type := _, pos := _, after := _, guard := _ }) rfl (fun K hK => ?_) AllReadyH.nil
  go_simp
  go_at_call 91
  refine (K2.out w3 ((((Gw.refl w).drew).trans g2).trans g3)).mono ?_
  rintro e w4 ⟨rfl, g4⟩
  have k4 : ∀ b o, b < w.heap.size → w4.cell? ⟨b, o, none⟩ = w.cell? ⟨b, o, none⟩ := fun b o h => ((bcell g4).1 b o (Nat.lt_of_lt_of_le h ((((Gw.refl w).drew).trans g2).trans g3).size)).trans (k3 b o h)
  go_wp2_with fail
  refine hK.out _ _ ⟨(k4 _ _ lb).trans p0, (k4 _ _ lc).trans p4⟩ (fun hHeld => ?_)
  clear hK K
  try simp only [Act.put, List.setIfInBounds_toArray, List.set_cons_zero, List.set_cons_succ]
  refine wpAnyH_take (i := 22) (oi := { dst := some 30, op := _, type := _, pos := _, after := _, guard := _ }) (v := .bool false) rfl (by kernel_rfl) (by kernel_rfl) (by kernel_rfl) (fun _ _ _ h => h) (Or.inl ⟨by rfl, ?_⟩) (by assumption) ?_
  · intro w hSw; obtain ⟨p0, p4⟩ := hSw; go_simp
  try simp only [Act.put, List.setIfInBounds_toArray, List.set_cons_zero, List.set_cons_succ]
  refine wpAnyH_take (i := 23) (oi := { dst := some 31, op := _, type := _, pos := _, after := _, guard := _ }) (v := .bool false) rfl (by kernel_rfl) (by kernel_rfl) (by kernel_rfl) (fun _ _ _ h => h) (Or.inl ⟨by rfl, ?_⟩) (by assumption) ?_
  · intro w hSw; obtain ⟨p0, p4⟩ := hSw; go_simp
  try simp only [Act.put, List.setIfInBounds_toArray, List.set_cons_zero, List.set_cons_succ]
  refine wpAnyH_take (i := 24) (oi := { dst := some 32, op := _, type := _, pos := _, after := _, guard := _ }) (v := .bool false) rfl (by kernel_rfl) (by kernel_rfl) (by kernel_rfl) (fun _ _ _ h => h) (Or.inl ⟨by rfl, ?_⟩) (by assumption) ?_
  · intro w hSw; obtain ⟨p0, p4⟩ := hSw; go_simp
  try simp only [Act.put, List.setIfInBounds_toArray, List.set_cons_zero, List.set_cons_succ]
  refine wpAnyH_take (i := 25) (oi := { dst := some 33, op := _, type := _, pos := _, after := _, guard := _ }) (v := .pointer (some ⟨bc, oc, none⟩)) rfl (by kernel_rfl) (by kernel_rfl) (by kernel_rfl) (fun _ _ _ h => h) (Or.inl ⟨by rfl, ?_⟩) (by assumption) ?_
  · intro w hSw; obtain ⟨p0, p4⟩ := hSw; go_simp
  try simp only [Act.put, List.setIfInBounds_toArray, List.set_cons_zero, List.set_cons_succ]
  refine wpAnyH_take (i := 26) (oi := { dst := some 34, op := _, type := _, pos := _, after := _, guard := _ }) (v := .pointer (some ⟨bc, oc, none⟩)) rfl (by kernel_rfl) (by kernel_rfl) (by kernel_rfl) (fun _ _ _ h => h) (Or.inl ⟨by rfl, ?_⟩) (by assumption) ?_
  · intro w hSw; obtain ⟨p0, p4⟩ := hSw; go_simp
  try simp only [Act.put, List.setIfInBounds_toArray, List.set_cons_zero, List.set_cons_succ]
  refine wpAnyH_take (i := 27) (oi := { dst := some 35, op := _, type := _, pos := _, after := _, guard := _ }) (v := .pointer (some ⟨bc, oc, none⟩)) rfl (by kernel_rfl) (by kernel_rfl) (by kernel_rfl) (fun _ _ _ h => h) (Or.inl ⟨by rfl, ?_⟩) (by assumption) ?_
  · intro w hSw; obtain ⟨p0, p4⟩ := hSw; go_simp
  try simp only [Act.put, List.setIfInBounds_toArray, List.set_cons_zero, List.set_cons_succ]
  refine wpAnyH_take (i := 28) (oi := { dst := some 36, op := _, type := _, pos := _, after := _, guard := _ }) (v := .pointer (some ⟨bc, oc, none⟩)) rfl (by kernel_rfl) (by kernel_rfl) (by kernel_rfl) (fun _ _ _ h => h) (Or.inl ⟨by rfl, ?_⟩) (by assumption) ?_
  · intro w hSw; obtain ⟨p0, p4⟩ := hSw; go_simp
  try simp only [Act.put, List.setIfInBounds_toArray, List.set_cons_zero, List.set_cons_succ]
  refine wpAnyH_take (i := 29) (oi := { dst := some 37, op := _, type := _, pos := _, after := _, guard := _ }) (v := .pointer (some ⟨bc, oc, none⟩)) rfl (by kernel_rfl) (by kernel_rfl) (by kernel_rfl) (fun _ _ _ h => h) (Or.inl ⟨by rfl, ?_⟩) (by assumption) ?_
  · intro w hSw; obtain ⟨p0, p4⟩ := hSw; go_simp
  try simp only [Act.put, List.setIfInBounds_toArray, List.set_cons_zero, List.set_cons_succ]
  refine wpAnyH_take (i := 30) (oi := { dst := some 38, op := _, type := _, pos := _, after := _, guard := _ }) (v := .pointer (some ⟨bc, oc + 4, none⟩)) rfl (by kernel_rfl) (by kernel_rfl) (by kernel_rfl) (fun _ _ _ h => h) (Or.inl ⟨by rfl, ?_⟩) (by assumption) ?_
  · intro w hSw; obtain ⟨p0, p4⟩ := hSw; go_simp
  try simp only [Act.put, List.setIfInBounds_toArray, List.set_cons_zero, List.set_cons_succ]
  refine wpAnyH_take (i := 31) (oi := { dst := some 39, op := _, type := _, pos := _, after := _, guard := _ }) (v := .slice c.ea c.e.length c.ec) rfl (by kernel_rfl) (by kernel_rfl) (by kernel_rfl) (fun _ _ _ h => h) (Or.inl ⟨by rfl, ?_⟩) (by assumption) ?_
  · intro w hSw; obtain ⟨p0, p4⟩ := hSw; go_simp
  try simp only [Act.put, List.setIfInBounds_toArray, List.set_cons_zero, List.set_cons_succ]
  refine wpAnyH_take (i := 32) (oi := { dst := some 40, op := _, type := _, pos := _, after := _, guard := _ }) (v := .int .i64 c.e.length) rfl (by kernel_rfl) (by kernel_rfl) (by kernel_rfl) (fun _ _ _ h => h) (Or.inl ⟨by rfl, ?_⟩) (by assumption) ?_
  · intro w hSw; obtain ⟨p0, p4⟩ := hSw; go_simp
  try simp only [Act.put, List.setIfInBounds_toArray, List.set_cons_zero, List.set_cons_succ]
  refine wpAnyH_ready (rs := [33]) (by kernel_rfl) (by simp) ?_
  refine AllReadyH.cons (o := { dst := some 41, op := _, type := _, pos := _, after := _, guard := _ }) rfl (fun K hK => ?_) AllReadyH.nil
  go_simp
  go_at_call 100
  refine (K3.out w4 (((((Gw.refl w).drew).trans g2).trans g3).trans g4)).mono ?_
  rintro e w5 ⟨rfl, g5⟩
  have k5 : ∀ b o, b < w.heap.size → w5.cell? ⟨b, o, none⟩ = w.cell? ⟨b, o, none⟩ := fun b o h => ((bcell g5).1 b o (Nat.lt_of_lt_of_le h (((((Gw.refl w).drew).trans g2).trans g3).trans g4).size)).trans (k4 b o h)
  go_wp2_with fail
  refine hK.out _ _ ⟨(k5 _ _ lb).trans p0, (k5 _ _ lc).trans p4⟩ (fun hHeld => ?_)
  clear hK K
  try simp only [Act.put, List.setIfInBounds_toArray, List.set_cons_zero, List.set_cons_succ]
  refine wpAnyH_take (i := 34) (oi := { dst := some 42, op := _, type := _, pos := _, after := _, guard := _ }) (v := .bool false) rfl (by kernel_rfl) (by kernel_rfl) (by kernel_rfl) (fun _ _ _ h => h) (Or.inl ⟨by rfl, ?_⟩) (by assumption) ?_
  · intro w hSw; obtain ⟨p0, p4⟩ := hSw; go_simp
  try simp only [Act.put, List.setIfInBounds_toArray, List.set_cons_zero, List.set_cons_succ]
  refine wpAnyH_take (i := 35) (oi := { dst := some 43, op := _, type := _, pos := _, after := _, guard := _ }) (v := .bool false) rfl (by kernel_rfl) (by kernel_rfl) (by kernel_rfl) (fun _ _ _ h => h) (Or.inl ⟨by rfl, ?_⟩) (by assumption) ?_
  · intro w hSw; obtain ⟨p0, p4⟩ := hSw; go_simp
  try simp only [Act.put, List.setIfInBounds_toArray, List.set_cons_zero, List.set_cons_succ]
  refine wpAnyH_take (i := 36) (oi := { dst := some 44, op := _, type := _, pos := _, after := _, guard := _ }) (v := .pointer (some ⟨bc, oc, none⟩)) rfl (by kernel_rfl) (by kernel_rfl) (by kernel_rfl) (fun _ _ _ h => h) (Or.inl ⟨by rfl, ?_⟩) (by assumption) ?_
  · intro w hSw; obtain ⟨p0, p4⟩ := hSw; go_simp
  try simp only [Act.put, List.setIfInBounds_toArray, List.set_cons_zero, List.set_cons_succ]
  refine wpAnyH_take (i := 37) (oi := { dst := some 45, op := _, type := _, pos := _, after := _, guard := _ }) (v := .pointer (some ⟨bc, oc, none⟩)) rfl (by kernel_rfl) (by kernel_rfl) (by kernel_rfl) (fun _ _ _ h => h) (Or.inl ⟨by rfl, ?_⟩) (by assumption) ?_
  · intro w hSw; obtain ⟨p0, p4⟩ := hSw; go_simp
  try simp only [Act.put, List.setIfInBounds_toArray, List.set_cons_zero, List.set_cons_succ]
  refine wpAnyH_take (i := 38) (oi := { dst := some 46, op := _, type := _, pos := _, after := _, guard := _ }) (v := .pointer (some ⟨bc, oc + 4, none⟩)) rfl (by kernel_rfl) (by kernel_rfl) (by kernel_rfl) (fun _ _ _ h => h) (Or.inl ⟨by rfl, ?_⟩) (by assumption) ?_
  · intro w hSw; obtain ⟨p0, p4⟩ := hSw; go_simp
  try simp only [Act.put, List.setIfInBounds_toArray, List.set_cons_zero, List.set_cons_succ]
  refine wpAnyH_take (i := 39) (oi := { dst := some 47, op := _, type := _, pos := _, after := _, guard := _ }) (v := .slice c.ea c.e.length c.ec) rfl (by kernel_rfl) (by kernel_rfl) (by kernel_rfl) (fun _ _ _ h => h) (Or.inl ⟨by rfl, ?_⟩) (by assumption) ?_
  · intro w hSw; obtain ⟨p0, p4⟩ := hSw; go_simp
  try simp only [Act.put, List.setIfInBounds_toArray, List.set_cons_zero, List.set_cons_succ]
  refine wpAnyH_take (i := 40) (oi := { dst := some 48, op := _, type := _, pos := _, after := _, guard := _ }) (v := .int .i64 c.e.length) rfl (by kernel_rfl) (by kernel_rfl) (by kernel_rfl) (fun _ _ _ h => h) (Or.inl ⟨by rfl, ?_⟩) (by assumption) ?_
  · intro w hSw; obtain ⟨p0, p4⟩ := hSw; go_simp
  try simp only [Act.put, List.setIfInBounds_toArray, List.set_cons_zero, List.set_cons_succ]
  refine wpAnyH_take (i := 41) (oi := { dst := some 49, op := _, type := _, pos := _, after := _, guard := _ }) (v := .bool false) rfl (by kernel_rfl) (by kernel_rfl) (by kernel_rfl) (fun _ _ _ h => h) (Or.inl ⟨by rfl, ?_⟩) (by assumption) ?_
  · intro w hSw; obtain ⟨p0, p4⟩ := hSw; go_simp
  try simp only [Act.put, List.setIfInBounds_toArray, List.set_cons_zero, List.set_cons_succ]
  refine wpAnyH_take (i := 42) (oi := { dst := some 50, op := _, type := _, pos := _, after := _, guard := _ }) (v := .bool false) rfl (by kernel_rfl) (by kernel_rfl) (by kernel_rfl) (fun _ _ _ h => h) (Or.inl ⟨by rfl, ?_⟩) (by assumption) ?_
  · intro w hSw; obtain ⟨p0, p4⟩ := hSw; go_simp
  try simp only [Act.put, List.setIfInBounds_toArray, List.set_cons_zero, List.set_cons_succ]
  refine wpAnyH_done (by kernel_rfl) ?_ _
  have G5 := Lib.hid (show Gw w w5 from (((((Gw.refl w).drew).trans g2).trans g3).trans g4).trans g5)
  clear hHeld k2 k3 k4 k5 g2 g3 g4 g5 z p0 p4 K0 K1 K2 K3
  go_wp2_with fail
  go_loopw [7] (fun i wr => ∃ j : Nat, j ≤ c.e.length ∧ i = .int .i64 j ∧ Gw w wr ∧ ∀ x (hx : x < c.e.length), x < j → inH heap c.e[x] = true) (fun i _ => c.e.length - (intOf i).toNat)
  case atStart => exact ⟨0, by omega, rfl, G5.out, fun i _ h => absurd h (by omega)⟩
  case round =>
    obtain ⟨j, hj, rfl, hg, hall⟩ := hrel
    have HALL := Lib.hid hall
    have HG := Lib.hid hg
    clear hall
    have p4 := (AX.out.grow clGr hg).1 4 _ rfl
    by_cases hlt : j < c.e.length
    · obtain ⟨be, oe, ea, hr⟩ := (AX.out.grow clGr hg).2.2.2.2.resolve_left (fun e => by rw [e] at hlt; simp at hlt)
      rw [ea] at p4
      obtain ⟨c0, _⟩ := numRow_get hr j hlt
      have s0 : (0 : Int) ≤ j := by omega
      have s1 : (j : Int) < c.e.length := by omega
      clear hr ea hg
      have KI := Lib.hid (specIn c.e[j] 0 ((heap : Int) - 1) wr)
      cases hI : inH heap c.e[j] with
      | false =>
        have F := Lib.hid (show clG u.ks.length (inH heap) c.pu = false by rw [FC.out]; exact List.all_eq_false.2 ⟨c.e[j], List.getElem_mem hlt, by rw [hI]; simp⟩)
        unfold inH at hI
        rw [hI] at KI
        clear hI
        go_wp2_with fail
        refine KI.out.mono ?_
        rintro e w6 ⟨rfl, rfl⟩
        go_wp2_with fail
        go_ret
        exact ⟨ret_b F.out.symm, HG.out⟩
      | true =>
        have HI := Lib.hid hI
        unfold inH at hI
        rw [hI] at KI
        clear hI
        go_wp2_with fail
        refine KI.out.mono ?_
        rintro e w6 ⟨rfl, rfl⟩
        go_wp2_with fail
        go_roundw
        case rel =>
          refine ⟨j + 1, by omega, by go_num, HG.out, fun x hx hi => ?_⟩
          by_cases e : x = j
          · subst e; exact HI.out
          · exact HALL.out x hx (by omega)
        case measure => simp [intOf]; omega
    · obtain rfl : j = c.e.length := by omega
      have F := Lib.hid (show clG u.ks.length (inH heap) c.pu = true by
        rw [FC.out, List.all_eq_true]
        intro x hx
        obtain ⟨i, hi, rfl⟩ := List.mem_iff_getElem.1 hx
        exact HALL.out i hi hi)
      clear hg
      go_wp2_with fail
      go_ret
      exact ⟨ret_b F.out.symm, HG.out⟩

theorem fld_len {c : LCl} (h : ¬ c.t.ks.length = c.e.length) : fldC c.pu = false := by
  unfold fldC LCl.pu
  simp only [LK.co_len, decide_eq_false h, Bool.false_and]
theorem fld_false {c : LCl} (j : Nat) (hj : j < c.t.ks.length) (h : ¬ (c.t.ks[j].k = 1 ∧ c.t.ks[j].v = j)) : fldC c.pu = false := by
  unfold fldC LCl.pu
  rw [Bool.and_eq_false_iff]
  right
  refine List.all_eq_false.2 ⟨j, by simp only [LK.co_len, List.mem_range]; exact hj, ?_⟩
  have e : c.t.co.ks.getD j default = c.t.ks[j].co := by
    have hj2 : j < c.t.co.ks.length := by rw [LK.co_len]; exact hj
    rw [List.getD, List.getElem?_eq_getElem hj2]
    exact c.t.co_kid j hj
  simp only [e, LK.co_k, LK.co_v, Bool.and_eq_true, beq_iff_eq]
  exact h
theorem fld_true {c : LCl} (hl : c.t.ks.length = c.e.length) (h : ∀ j (hj : j < c.t.ks.length), c.t.ks[j].k = 1 ∧ c.t.ks[j].v = j) : fldC c.pu = true := by
  unfold fldC LCl.pu
  rw [Bool.and_eq_true]
  refine ⟨decide_eq_true (by rw [LK.co_len]; exact hl), List.all_eq_true.2 fun j hj => ?_⟩
  rw [List.mem_range, LK.co_len] at hj
  have e : c.t.co.ks.getD j default = c.t.ks[j].co := by
    have hj2 : j < c.t.co.ks.length := by rw [LK.co_len]; exact hj
    rw [List.getD, List.getElem?_eq_getElem hj2]
    exact c.t.co_kid j hj
  simp only [e, LK.co_k, LK.co_v, Bool.and_eq_true, beq_iff_eq]
  exact h j hj

set_option maxRecDepth 100000 in
set_option maxHeartbeats 2000000 in
theorem spec_l09Fl (c : LCl) (w : World) (bc oc : Nat) (hx : clAt w bc oc c) : Calls Tryd.prog 104 #[.pointer (some ⟨bc, oc, none⟩)] w (BoolGw (fldC c.pu) w) := by
  have AX := Lib.hid hx
  have p3 := hx.1 3 _ rfl
  have p4 := hx.1 4 _ rfl
  have hl1 : c.t.ks.length ≤ 9223372036854775807 := hx.2.1.kl
  have hl2 : c.e.length ≤ 9223372036854775807 := Nat.le_trans hx.2.2.1 hx.2.2.2.1
  clear hx
  obtain ⟨n, hn⟩ : ∃ n, n = c.t.ks.length := ⟨_, rfl⟩
  obtain ⟨m, hm⟩ : ∃ m, m = c.e.length := ⟨_, rfl⟩
  rw [← hn] at p3 hl1
  rw [← hm] at p4 hl2
  have HN := Lib.hid hn
  have HM := Lib.hid hm
  clear hn hm
  go_enter Tryd.func104, Tryd.ntmps104
  go_upto_region 1 with (fail)
  by_cases h1 : n = m
  rotate_left
  · have z1 : ((n : Int) != (m : Int)) = true := by simp; omega
    have F := Lib.hid (fld_len (c := c) (by rw [← HN.out, ← HM.out]; exact h1))
    clear h1
    refine wp_region_held_drew (S := fun W => W.cell? ⟨bc, oc + 3, none⟩ = some (.slice c.t.a n c.t.cap) ∧ W.cell? ⟨bc, oc + 4, none⟩ = some (.slice c.ea m c.ec)) (by kernel_rfl) ?_ (fun hHeld => ?_)
    · exact ⟨p3, p4⟩
    refine wpAnyH_take (i := 0) (oi := { dst := some 4, op := _, type := _, pos := _, after := _, guard := _ }) (v := .pointer (some ⟨bc, oc, none⟩)) rfl (by kernel_rfl) (by kernel_rfl) (by kernel_rfl) (fun _ _ _ h => h) (Or.inl ⟨by rfl, ?_⟩) (by assumption) ?_
    · intro w hSw; obtain ⟨p3, p4⟩ := hSw; go_simp
    try simp only [Act.put, List.setIfInBounds_toArray, List.set_cons_zero, List.set_cons_succ]
    refine wpAnyH_take (i := 1) (oi := { dst := some 5, op := _, type := _, pos := _, after := _, guard := _ }) (v := .pointer (some ⟨bc, oc, none⟩)) rfl (by kernel_rfl) (by kernel_rfl) (by kernel_rfl) (fun _ _ _ h => h) (Or.inl ⟨by rfl, ?_⟩) (by assumption) ?_
    · intro w hSw; obtain ⟨p3, p4⟩ := hSw; go_simp
    try simp only [Act.put, List.setIfInBounds_toArray, List.set_cons_zero, List.set_cons_succ]
    refine wpAnyH_take (i := 2) (oi := { dst := some 6, op := _, type := _, pos := _, after := _, guard := _ }) (v := .pointer (some ⟨bc, oc, none⟩)) rfl (by kernel_rfl) (by kernel_rfl) (by kernel_rfl) (fun _ _ _ h => h) (Or.inl ⟨by rfl, ?_⟩) (by assumption) ?_
    · intro w hSw; obtain ⟨p3, p4⟩ := hSw; go_simp
    try simp only [Act.put, List.setIfInBounds_toArray, List.set_cons_zero, List.set_cons_succ]
    refine wpAnyH_take (i := 3) (oi := { dst := some 7, op := _, type := _, pos := _, after := _, guard := _ }) (v := .pointer (some ⟨bc, oc + 3, none⟩)) rfl (by kernel_rfl) (by kernel_rfl) (by kernel_rfl) (fun _ _ _ h => h) (Or.inl ⟨by rfl, ?_⟩) (by assumption) ?_
    · intro w hSw; obtain ⟨p3, p4⟩ := hSw; go_simp
    try simp only [Act.put, List.setIfInBounds_toArray, List.set_cons_zero, List.set_cons_succ]
    refine wpAnyH_take (i := 4) (oi := { dst := some 8, op := _, type := _, pos := _, after := _, guard := _ }) (v := .slice c.t.a n c.t.cap) rfl (by kernel_rfl) (by kernel_rfl) (by kernel_rfl) (fun _ _ _ h => h) (Or.inl ⟨by rfl, ?_⟩) (by assumption) ?_
    · intro w hSw; obtain ⟨p3, p4⟩ := hSw; go_simp
    try simp only [Act.put, List.setIfInBounds_toArray, List.set_cons_zero, List.set_cons_succ]
    refine wpAnyH_take (i := 5) (oi := { dst := some 9, op := _, type := _, pos := _, after := _, guard := _ }) (v := .int .i64 n) rfl (by kernel_rfl) (by kernel_rfl) (by kernel_rfl) (fun _ _ _ h => h) (Or.inl ⟨by rfl, ?_⟩) (by assumption) ?_
    · intro w hSw; obtain ⟨p3, p4⟩ := hSw; go_simp
    try simp only [Act.put, List.setIfInBounds_toArray, List.set_cons_zero, List.set_cons_succ]
    refine wpAnyH_take (i := 6) (oi := { dst := some 10, op := _, type := _, pos := _, after := _, guard := _ }) (v := .pointer (some ⟨bc, oc, none⟩)) rfl (by kernel_rfl) (by kernel_rfl) (by kernel_rfl) (fun _ _ _ h => h) (Or.inl ⟨by rfl, ?_⟩) (by assumption) ?_
    · intro w hSw; obtain ⟨p3, p4⟩ := hSw; go_simp
    try simp only [Act.put, List.setIfInBounds_toArray, List.set_cons_zero, List.set_cons_succ]
    refine wpAnyH_take (i := 7) (oi := { dst := some 11, op := _, type := _, pos := _, after := _, guard := _ }) (v := .pointer (some ⟨bc, oc, none⟩)) rfl (by kernel_rfl) (by kernel_rfl) (by kernel_rfl) (fun _ _ _ h => h) (Or.inl ⟨by rfl, ?_⟩) (by assumption) ?_
    · intro w hSw; obtain ⟨p3, p4⟩ := hSw; go_simp
    try simp only [Act.put, List.setIfInBounds_toArray, List.set_cons_zero, List.set_cons_succ]
    refine wpAnyH_take (i := 8) (oi := { dst := some 12, op := _, type := _, pos := _, after := _, guard := _ }) (v := .pointer (some ⟨bc, oc + 4, none⟩)) rfl (by kernel_rfl) (by kernel_rfl) (by kernel_rfl) (fun _ _ _ h => h) (Or.inl ⟨by rfl, ?_⟩) (by assumption) ?_
    · intro w hSw; obtain ⟨p3, p4⟩ := hSw; go_simp
    try simp only [Act.put, List.setIfInBounds_toArray, List.set_cons_zero, List.set_cons_succ]
    refine wpAnyH_take (i := 9) (oi := { dst := some 13, op := _, type := _, pos := _, after := _, guard := _ }) (v := .slice c.ea m c.ec) rfl (by kernel_rfl) (by kernel_rfl) (by kernel_rfl) (fun _ _ _ h => h) (Or.inl ⟨by rfl, ?_⟩) (by assumption) ?_
    · intro w hSw; obtain ⟨p3, p4⟩ := hSw; go_simp
    try simp only [Act.put, List.setIfInBounds_toArray, List.set_cons_zero, List.set_cons_succ]
    refine wpAnyH_take (i := 10) (oi := { dst := some 14, op := _, type := _, pos := _, after := _, guard := _ }) (v := .int .i64 m) rfl (by kernel_rfl) (by kernel_rfl) (by kernel_rfl) (fun _ _ _ h => h) (Or.inl ⟨by rfl, ?_⟩) (by assumption) ?_
    · intro w hSw; obtain ⟨p3, p4⟩ := hSw; go_simp
    try simp only [Act.put, List.setIfInBounds_toArray, List.set_cons_zero, List.set_cons_succ]
    refine wpAnyH_take (i := 11) (oi := { dst := some 15, op := _, type := _, pos := _, after := _, guard := _ }) (v := .bool true) rfl (by kernel_rfl) (by kernel_rfl) (by kernel_rfl) (fun _ _ _ h => h) (Or.inl ⟨by rfl, ?_⟩) (by assumption) ?_
    · intro w hSw; obtain ⟨p3, p4⟩ := hSw; go_simp
    try simp only [Act.put, List.setIfInBounds_toArray, List.set_cons_zero, List.set_cons_succ]
    refine wpAnyH_done (by kernel_rfl) ?_ _
    clear hHeld
    go_wp2_with fail
    go_ret
    exact ⟨ret_b F.out.symm, (Gw.refl w).drew⟩
  subst h1
  have z1 : ((n : Int) != (n : Int)) = false := by simp
  refine wp_region_held_drew (S := fun W => W.cell? ⟨bc, oc + 3, none⟩ = some (.slice c.t.a n c.t.cap) ∧ W.cell? ⟨bc, oc + 4, none⟩ = some (.slice c.ea n c.ec)) (by kernel_rfl) ?_ (fun hHeld => ?_)
  · exact ⟨p3, p4⟩
  refine wpAnyH_take (i := 0) (oi := { dst := some 4, op := _, type := _, pos := _, after := _, guard := _ }) (v := .pointer (some ⟨bc, oc, none⟩)) rfl (by kernel_rfl) (by kernel_rfl) (by kernel_rfl) (fun _ _ _ h => h) (Or.inl ⟨by rfl, ?_⟩) (by assumption) ?_
  · intro w hSw; obtain ⟨p3, p4⟩ := hSw; go_simp
  try simp only [Act.put, List.setIfInBounds_toArray, List.set_cons_zero, List.set_cons_succ]
  refine wpAnyH_take (i := 1) (oi := { dst := some 5, op := _, type := _, pos := _, after := _, guard := _ }) (v := .pointer (some ⟨bc, oc, none⟩)) rfl (by kernel_rfl) (by kernel_rfl) (by kernel_rfl) (fun _ _ _ h => h) (Or.inl ⟨by rfl, ?_⟩) (by assumption) ?_
  · intro w hSw; obtain ⟨p3, p4⟩ := hSw; go_simp
  try simp only [Act.put, List.setIfInBounds_toArray, List.set_cons_zero, List.set_cons_succ]
  refine wpAnyH_take (i := 2) (oi := { dst := some 6, op := _, type := _, pos := _, after := _, guard := _ }) (v := .pointer (some ⟨bc, oc, none⟩)) rfl (by kernel_rfl) (by kernel_rfl) (by kernel_rfl) (fun _ _ _ h => h) (Or.inl ⟨by rfl, ?_⟩) (by assumption) ?_
  · intro w hSw; obtain ⟨p3, p4⟩ := hSw; go_simp
  try simp only [Act.put, List.setIfInBounds_toArray, List.set_cons_zero, List.set_cons_succ]
  refine wpAnyH_take (i := 3) (oi := { dst := some 7, op := _, type := _, pos := _, after := _, guard := _ }) (v := .pointer (some ⟨bc, oc + 3, none⟩)) rfl (by kernel_rfl) (by kernel_rfl) (by kernel_rfl) (fun _ _ _ h => h) (Or.inl ⟨by rfl, ?_⟩) (by assumption) ?_
  · intro w hSw; obtain ⟨p3, p4⟩ := hSw; go_simp
  try simp only [Act.put, List.setIfInBounds_toArray, List.set_cons_zero, List.set_cons_succ]
  refine wpAnyH_take (i := 4) (oi := { dst := some 8, op := _, type := _, pos := _, after := _, guard := _ }) (v := .slice c.t.a n c.t.cap) rfl (by kernel_rfl) (by kernel_rfl) (by kernel_rfl) (fun _ _ _ h => h) (Or.inl ⟨by rfl, ?_⟩) (by assumption) ?_
  · intro w hSw; obtain ⟨p3, p4⟩ := hSw; go_simp
  try simp only [Act.put, List.setIfInBounds_toArray, List.set_cons_zero, List.set_cons_succ]
  refine wpAnyH_take (i := 5) (oi := { dst := some 9, op := _, type := _, pos := _, after := _, guard := _ }) (v := .int .i64 n) rfl (by kernel_rfl) (by kernel_rfl) (by kernel_rfl) (fun _ _ _ h => h) (Or.inl ⟨by rfl, ?_⟩) (by assumption) ?_
  · intro w hSw; obtain ⟨p3, p4⟩ := hSw; go_simp
  try simp only [Act.put, List.setIfInBounds_toArray, List.set_cons_zero, List.set_cons_succ]
  refine wpAnyH_take (i := 6) (oi := { dst := some 10, op := _, type := _, pos := _, after := _, guard := _ }) (v := .pointer (some ⟨bc, oc, none⟩)) rfl (by kernel_rfl) (by kernel_rfl) (by kernel_rfl) (fun _ _ _ h => h) (Or.inl ⟨by rfl, ?_⟩) (by assumption) ?_
  · intro w hSw; obtain ⟨p3, p4⟩ := hSw; go_simp
  try simp only [Act.put, List.setIfInBounds_toArray, List.set_cons_zero, List.set_cons_succ]
  refine wpAnyH_take (i := 7) (oi := { dst := some 11, op := _, type := _, pos := _, after := _, guard := _ }) (v := .pointer (some ⟨bc, oc, none⟩)) rfl (by kernel_rfl) (by kernel_rfl) (by kernel_rfl) (fun _ _ _ h => h) (Or.inl ⟨by rfl, ?_⟩) (by assumption) ?_
  · intro w hSw; obtain ⟨p3, p4⟩ := hSw; go_simp
  try simp only [Act.put, List.setIfInBounds_toArray, List.set_cons_zero, List.set_cons_succ]
  refine wpAnyH_take (i := 8) (oi := { dst := some 12, op := _, type := _, pos := _, after := _, guard := _ }) (v := .pointer (some ⟨bc, oc + 4, none⟩)) rfl (by kernel_rfl) (by kernel_rfl) (by kernel_rfl) (fun _ _ _ h => h) (Or.inl ⟨by rfl, ?_⟩) (by assumption) ?_
  · intro w hSw; obtain ⟨p3, p4⟩ := hSw; go_simp
  try simp only [Act.put, List.setIfInBounds_toArray, List.set_cons_zero, List.set_cons_succ]
  refine wpAnyH_take (i := 9) (oi := { dst := some 13, op := _, type := _, pos := _, after := _, guard := _ }) (v := .slice c.ea n c.ec) rfl (by kernel_rfl) (by kernel_rfl) (by kernel_rfl) (fun _ _ _ h => h) (Or.inl ⟨by rfl, ?_⟩) (by assumption) ?_
  · intro w hSw; obtain ⟨p3, p4⟩ := hSw; go_simp
  try simp only [Act.put, List.setIfInBounds_toArray, List.set_cons_zero, List.set_cons_succ]
  refine wpAnyH_take (i := 10) (oi := { dst := some 14, op := _, type := _, pos := _, after := _, guard := _ }) (v := .int .i64 n) rfl (by kernel_rfl) (by kernel_rfl) (by kernel_rfl) (fun _ _ _ h => h) (Or.inl ⟨by rfl, ?_⟩) (by assumption) ?_
  · intro w hSw; obtain ⟨p3, p4⟩ := hSw; go_simp
  try simp only [Act.put, List.setIfInBounds_toArray, List.set_cons_zero, List.set_cons_succ]
  refine wpAnyH_take (i := 11) (oi := { dst := some 15, op := _, type := _, pos := _, after := _, guard := _ }) (v := .bool false) rfl (by kernel_rfl) (by kernel_rfl) (by kernel_rfl) (fun _ _ _ h => h) (Or.inl ⟨by rfl, ?_⟩) (by assumption) ?_
  · intro w hSw; obtain ⟨p3, p4⟩ := hSw; go_simp
  try simp only [Act.put, List.setIfInBounds_toArray, List.set_cons_zero, List.set_cons_succ]
  refine wpAnyH_done (by kernel_rfl) ?_ _
  have G5 := Lib.hid (Gw.refl w).drew
  clear hHeld z1 p3 p4
  go_wp2_with fail
  go_loopw [3] (fun i wr => ∃ j : Nat, j ≤ n ∧ i = .int .i64 j ∧ Gw w wr ∧ ∀ x (hx : x < c.t.ks.length), x < j → c.t.ks[x].k = 1 ∧ c.t.ks[x].v = x) (fun i _ => n - (intOf i).toNat)
  case atStart => exact ⟨0, by omega, rfl, G5.out, fun i _ h => absurd h (by omega)⟩
  case round =>
    obtain ⟨j, hj, rfl, hg, hall⟩ := hrel
    have HALL := Lib.hid hall
    have HG := Lib.hid hg
    clear hall
    have p3 := (AX.out.grow clGr hg).1 3 _ rfl
    rw [← HN.out] at p3
    by_cases hlt : j < n
    · have hjx : j < c.t.ks.length := by have := HN.out; omega
      obtain ⟨bk, ok, ea, hkid⟩ := coAt.kid (AX.out.grow clGr hg).2.1.kids j hjx
      rw [ea] at p3
      obtain ⟨c0, c1, c2, c3⟩ := hkid.c
      have s0 : (0 : Int) ≤ j := by omega
      have s1 : (j : Int) < n := by omega
      have hkk : ∃ kk, kk = c.t.ks[j] := ⟨_, rfl⟩
      obtain ⟨kk, hkk⟩ := hkk
      rw [← hkk] at c0 c1 c2 c3
      have HK := Lib.hid hkk
      clear ea hg hkid hkk c2 c3
      by_cases e1 : kk.k = 1
      rotate_left
      · have z1 : (kk.k != 1) = true := by simpa using e1
        have F := Lib.hid (fld_false (c := c) j hjx (by rw [← HK.out]; exact fun e => e1 e.1))
        clear e1
        go_wp2_with (go_quiet (fail))
        go_ret
        exact ⟨ret_b F.out.symm, by first | exact HG.out.drewN _ | exact HG.out | exact HG.out.drew⟩
      have z1 : (kk.k != 1) = false := by simpa using e1
      have E1 := Lib.hid e1
      clear e1
      by_cases e2 : kk.v = j
      rotate_left
      · have z2 : (kk.v != (j : Int)) = true := by simpa using e2
        have F := Lib.hid (fld_false (c := c) j hjx (by rw [← HK.out]; exact fun e => e2 e.2))
        clear e2
        go_wp2_with (go_quiet (fail))
        go_ret
        exact ⟨ret_b F.out.symm, by first | exact HG.out.drewN _ | exact HG.out | exact HG.out.drew⟩
      have z2 : (kk.v != (j : Int)) = false := by simpa using e2
      have E2 := Lib.hid (show c.t.ks[j].k = 1 ∧ c.t.ks[j].v = j by rw [← HK.out]; exact ⟨E1.out, e2⟩)
      clear e2
      go_wp2_with (go_quiet (fail))
      go_roundw
      case rel =>
        refine ⟨j + 1, by omega, by go_num, by first | exact HG.out.drewN _ | exact HG.out | exact HG.out.drew, fun x hx hi => ?_⟩
        by_cases e : x = j
        · subst e; exact E2.out
        · exact HALL.out x hx (by omega)
      case measure => simp [intOf]; omega
    · obtain rfl : j = n := by omega
      have F := Lib.hid (fld_true (c := c) (by rw [← HN.out, ← HM.out]) (fun x hx => HALL.out x hx (by have := HN.out; omega)))
      clear hg
      go_wp2_with fail
      go_ret
      exact ⟨ret_b F.out.symm, HG.out⟩

theorem spec_l09Iv (c : LCl) (w : World) (bc oc : Nat) (hx : clAt w bc oc c) : Calls Tryd.prog 69 #[.pointer (some ⟨bc, oc, none⟩)] w (BoolGw (valC c.pu) w) := by
  have KF := Lib.hid (spec_l09Fl c w bc oc hx)
  have p0 := hx.1 0 _ rfl
  rw [Nat.add_zero] at p0
  have hk : c.pu.1.k = c.t.k := LK.co_k _
  clear hx
  by_cases h4 : c.t.k = 4
  · have F := Lib.hid (show valC c.pu = true by unfold valC; rw [hk, if_pos (.inl h4)])
    have z : (c.t.k == 4) = true := by simpa using h4
    clear h4 hk
    go_enter Tryd.func69, Tryd.ntmps69
    go_wp2_with fail
    go_ret
    exact ⟨ret_b F.out.symm, Gw.refl _⟩
  have z4 : (c.t.k == 4) = false := by simpa using h4
  by_cases h2 : c.t.k = 2
  · have F := Lib.hid (show valC c.pu = true by unfold valC; rw [hk, if_pos (.inr h2)])
    have z : (c.t.k == 2) = true := by simpa using h2
    clear h4 h2 hk
    go_enter Tryd.func69, Tryd.ntmps69
    go_wp2_with fail
    go_ret
    exact ⟨ret_b F.out.symm, Gw.refl _⟩
  have z2 : (c.t.k == 2) = false := by simpa using h2
  have hno : ¬ (c.pu.1.k = 4 ∨ c.pu.1.k = 2) := by rw [hk]; omega
  by_cases h8 : c.t.k = 8
  · have F := Lib.hid (show valC c.pu = fldC c.pu by unfold valC; rw [if_neg hno, hk, if_pos h8])
    have z : (c.t.k == 8) = true := by simpa using h8
    clear h4 h2 h8 hk hno
    go_enter Tryd.func69, Tryd.ntmps69
    go_wp2_with fail
    refine KF.out.mono ?_
    rintro e w1 ⟨rfl, g1⟩
    rw [← F.out]
    clear p0
    go_wp2_with fail
    go_ret
    exact ⟨rfl, g1⟩
  have F := Lib.hid (show valC c.pu = false by unfold valC; rw [if_neg hno, hk, if_neg h8])
  have z8 : (c.t.k == 8) = false := by simpa using h8
  clear h4 h2 h8 hk hno
  go_enter Tryd.func69, Tryd.ntmps69
  go_wp2_with fail
  go_ret
  exact ⟨ret_b F.out.symm, Gw.refl _⟩

set_option maxHeartbeats 2000000 in
theorem spec_l09Nc (c : LCl) (w : World) (bc oc : Nat) (hx : clAt w bc oc c) : Calls Tryd.prog 102 #[.pointer (some ⟨bc, oc, none⟩)] w (BoolGw (nocC c.pu) w) := by
  have p0 := hx.1 0 _ rfl
  have p1 := hx.1 1 _ rfl
  have p2 := hx.1 2 _ rfl
  have p3 := hx.1 3 _ rfl
  have p4 := hx.1 4 _ rfl
  rw [Nat.add_zero] at p0
  have hk : c.pu.1.k = c.t.k := LK.co_k _
  have hv : c.pu.1.v = c.t.v := LK.co_v _
  have hd : c.pu.1.ds.length = c.t.ds.length := by show c.t.co.ds.length = _; rw [LK.co_ds]
  have hs : c.pu.1.ks.length = c.t.ks.length := c.t.co_len
  have NC : nocC c.pu = ((c.t.k == 0) && ((c.t.v == 0) && (decide (c.t.ds.length = 0) && (decide (c.t.ks.length = 0) && decide (c.e.length = 0))))) := by
    unfold nocC
    rw [hk, hv, hd, hs]
    rfl
  clear hx hk hv hd hs
  by_cases h0 : c.t.k = 0
  rotate_left
  · have z0 : (c.t.k == 0) = false := by simpa using h0
    have F := Lib.hid (show nocC c.pu = false by rw [NC]; simp [h0])
    clear NC h0
    go_enter Tryd.func102, Tryd.ntmps102
    go_wp2_with (go_quiet (fail))
    go_ret
    exact ⟨ret_b F.out.symm, by first | exact (Gw.refl w).drewN _ | exact Gw.refl w⟩
  have z0 : (c.t.k == 0) = true := by simpa using h0
  by_cases h1 : c.t.v = 0
  rotate_left
  · have z1 : (c.t.v == 0) = false := by simpa using h1
    have F := Lib.hid (show nocC c.pu = false by rw [NC]; simp [h1])
    clear NC h1 h0
    go_enter Tryd.func102, Tryd.ntmps102
    go_wp2_with (go_quiet (fail))
    go_ret
    exact ⟨ret_b F.out.symm, by first | exact (Gw.refl w).drewN _ | exact Gw.refl w⟩
  have z1 : (c.t.v == 0) = true := by simpa using h1
  by_cases h2 : c.t.ds.length = 0
  rotate_left
  · have z2 : ((c.t.ds.length : Int) == 0) = false := beq_eq_false_iff_ne.2 (by omega)
    have F := Lib.hid (show nocC c.pu = false by rw [NC]; simp [h2])
    clear NC h2 h0 h1
    go_enter Tryd.func102, Tryd.ntmps102
    go_wp2_with (go_quiet (fail))
    go_ret
    exact ⟨ret_b F.out.symm, by first | exact (Gw.refl w).drewN _ | exact Gw.refl w⟩
  have z2 : ((c.t.ds.length : Int) == 0) = true := beq_iff_eq.2 (by omega)
  by_cases h3 : c.t.ks.length = 0
  rotate_left
  · have z3 : ((c.t.ks.length : Int) == 0) = false := beq_eq_false_iff_ne.2 (by omega)
    have F := Lib.hid (show nocC c.pu = false by rw [NC]; simp [h3])
    clear NC h3 h0 h1 h2
    go_enter Tryd.func102, Tryd.ntmps102
    go_wp2_with (go_quiet (fail))
    go_ret
    exact ⟨ret_b F.out.symm, by first | exact (Gw.refl w).drewN _ | exact Gw.refl w⟩
  have z3 : ((c.t.ks.length : Int) == 0) = true := beq_iff_eq.2 (by omega)
  by_cases h4 : c.e.length = 0
  rotate_left
  · have z4 : ((c.e.length : Int) == 0) = false := beq_eq_false_iff_ne.2 (by omega)
    have F := Lib.hid (show nocC c.pu = false by rw [NC]; simp [h4])
    clear NC h4 h0 h1 h2 h3
    go_enter Tryd.func102, Tryd.ntmps102
    go_wp2_with (go_quiet (fail))
    go_ret
    exact ⟨ret_b F.out.symm, by first | exact (Gw.refl w).drewN _ | exact Gw.refl w⟩
  have z4 : ((c.e.length : Int) == 0) = true := beq_iff_eq.2 (by omega)
  have F := Lib.hid (show nocC c.pu = true by rw [NC]; simp [h0, h1, h2, h3, h4])
  clear NC h0 h1 h2 h3 h4
  go_enter Tryd.func102, Tryd.ntmps102
  go_wp2_with (go_quiet (fail))
  go_ret
  exact ⟨ret_b F.out.symm, by first | exact (Gw.refl w).drewN _ | exact Gw.refl w⟩

set_option maxRecDepth 100000 in
set_option maxHeartbeats 2000000 in
theorem spec_l09Df (u : LB) (L : List Int) (a : Option Addr) (ac : Nat) (w : World) (b : Nat) (hl : u.ks.length ≤ 9223372036854775807) (hb : BoxB w b u) (hx : numSl w a ac L) : Calls Tryd.prog 103 #[.pointer (some ⟨b, 0, none⟩), .slice a L.length ac] w (BoolGw (coD L u.ks.length) w) := by
  have BB := Lib.hid hb
  have NX := Lib.hid hx
  have hll : L.length ≤ 9223372036854775807 := Nat.le_trans hx.1 hx.2.1
  clear hb hx
  go_enter Tryd.func103, Tryd.ntmps103
  go_wp2_with fail
  go_loopw [5] (fun i wr => ∃ j : Nat, j ≤ L.length ∧ i = .int .i64 j ∧ Gw w wr ∧ ∀ x (hx : x < L.length), x < j → inV L[x] 0 ((u.ks.length : Int) - 1) = true) (fun i _ => L.length - (intOf i).toNat)
  case atStart => exact ⟨0, by omega, rfl, Gw.refl _, fun i _ h => absurd h (by omega)⟩
  case round =>
    obtain ⟨j, hj, rfl, hg, hall⟩ := hrel
    have HALL := Lib.hid hall
    have HG := Lib.hid hg
    clear hall
    by_cases hlt : j < L.length
    · obtain ⟨be, oe, rfl, hr⟩ := (numSl.grow NX.out hg).2.2.resolve_left (fun e => by rw [e] at hlt; simp at hlt)
      obtain ⟨c0, _⟩ := numRow_get hr j hlt
      have p0 := (BB.out.grow hg).c
      have s0 : (0 : Int) ≤ j := by omega
      have s1 : (j : Int) < L.length := by omega
      have KI := specIn L[j] 0 ((u.ks.length : Int) - 1) wr.drew
      have wr1 : IntKind.i64.wrap ((u.ks.length : Int) - 1) = (u.ks.length : Int) - 1 := by unfold IntKind.wrap; simp [IntKind.signed, IntKind.bits]; omega
      clear hr hg
      go_upto_region 4 with (fail)
      cases hI : inV L[j] 0 ((u.ks.length : Int) - 1) with
      | false =>
        have F := Lib.hid (coD_bad (n := (u.ks.length : Int)) j hlt hI)
        rw [hI] at KI
        clear hI
        refine wp_region_held_drew (S := fun W => W.cell? ⟨be, oe + j, none⟩ = some (.int .i64 L[j]) ∧ W.cell? ⟨b, 0, none⟩ = some (.slice u.a u.ks.length u.cap)) (by kernel_rfl) ?_ (fun hHeld => ?_)
        · exact ⟨c0, p0⟩
        refine wpAnyH_take (i := 0) (oi := { dst := some 12, op := _, type := _, pos := _, after := _, guard := _ }) (v := .slice (some ⟨be, oe, none⟩) L.length ac) rfl (by kernel_rfl) (by kernel_rfl) (by kernel_rfl) (fun _ _ _ h => h) (Or.inl ⟨by rfl, ?_⟩) (by assumption) ?_
        · intro w hSw; obtain ⟨c0, p0⟩ := hSw; go_simp
        try simp only [Act.put, List.setIfInBounds_toArray, List.set_cons_zero, List.set_cons_succ]
        refine wpAnyH_take (i := 1) (oi := { dst := some 13, op := _, type := _, pos := _, after := _, guard := _ }) (v := .int .i64 j) rfl (by kernel_rfl) (by kernel_rfl) (by kernel_rfl) (fun _ _ _ h => h) (Or.inl ⟨by rfl, ?_⟩) (by assumption) ?_
        · intro w hSw; obtain ⟨c0, p0⟩ := hSw; go_simp
        try simp only [Act.put, List.setIfInBounds_toArray, List.set_cons_zero, List.set_cons_succ]
        refine wpAnyH_take (i := 2) (oi := { dst := some 14, op := _, type := _, pos := _, after := _, guard := _ }) (v := .pointer (some ⟨be, oe + j, none⟩)) rfl (by kernel_rfl) (by kernel_rfl) (by kernel_rfl) (fun _ _ _ h => h) (Or.inl ⟨by rfl, ?_⟩) (by assumption) ?_
        · intro w hSw; obtain ⟨c0, p0⟩ := hSw; go_simp
        try simp only [Act.put, List.setIfInBounds_toArray, List.set_cons_zero, List.set_cons_succ]
        refine wpAnyH_take (i := 3) (oi := { dst := some 15, op := _, type := _, pos := _, after := _, guard := _ }) (v := .int .i64 L[j]) rfl (by kernel_rfl) (by kernel_rfl) (by kernel_rfl) (fun _ _ _ h => h) (Or.inl ⟨by rfl, ?_⟩) (by assumption) ?_
        · intro w hSw; obtain ⟨c0, p0⟩ := hSw; go_simp
        try simp only [Act.put, List.setIfInBounds_toArray, List.set_cons_zero, List.set_cons_succ]
        refine wpAnyH_take (i := 4) (oi := { dst := some 16, op := _, type := _, pos := _, after := _, guard := _ }) (v := .pointer (some ⟨b, 0, none⟩)) rfl (by kernel_rfl) (by kernel_rfl) (by kernel_rfl) (fun _ _ _ h => h) (Or.inl ⟨by rfl, ?_⟩) (by assumption) ?_
        · intro w hSw; obtain ⟨c0, p0⟩ := hSw; go_simp
        try simp only [Act.put, List.setIfInBounds_toArray, List.set_cons_zero, List.set_cons_succ]
        refine wpAnyH_take (i := 5) (oi := { dst := some 17, op := _, type := _, pos := _, after := _, guard := _ }) (v := .pointer (some ⟨b, 0, none⟩)) rfl (by kernel_rfl) (by kernel_rfl) (by kernel_rfl) (fun _ _ _ h => h) (Or.inl ⟨by rfl, ?_⟩) (by assumption) ?_
        · intro w hSw; obtain ⟨c0, p0⟩ := hSw; go_simp
        try simp only [Act.put, List.setIfInBounds_toArray, List.set_cons_zero, List.set_cons_succ]
        refine wpAnyH_take (i := 6) (oi := { dst := some 18, op := _, type := _, pos := _, after := _, guard := _ }) (v := .pointer (some ⟨b, 0, none⟩)) rfl (by kernel_rfl) (by kernel_rfl) (by kernel_rfl) (fun _ _ _ h => h) (Or.inl ⟨by rfl, ?_⟩) (by assumption) ?_
        · intro w hSw; obtain ⟨c0, p0⟩ := hSw; go_simp
        try simp only [Act.put, List.setIfInBounds_toArray, List.set_cons_zero, List.set_cons_succ]
        refine wpAnyH_take (i := 7) (oi := { dst := some 19, op := _, type := _, pos := _, after := _, guard := _ }) (v := .slice u.a u.ks.length u.cap) rfl (by kernel_rfl) (by kernel_rfl) (by kernel_rfl) (fun _ _ _ h => h) (Or.inl ⟨by rfl, ?_⟩) (by assumption) ?_
        · intro w hSw; obtain ⟨c0, p0⟩ := hSw; go_simp
        try simp only [Act.put, List.setIfInBounds_toArray, List.set_cons_zero, List.set_cons_succ]
        refine wpAnyH_take (i := 8) (oi := { dst := some 20, op := _, type := _, pos := _, after := _, guard := _ }) (v := .int .i64 u.ks.length) rfl (by kernel_rfl) (by kernel_rfl) (by kernel_rfl) (fun _ _ _ h => h) (Or.inl ⟨by rfl, ?_⟩) (by assumption) ?_
        · intro w hSw; obtain ⟨c0, p0⟩ := hSw; go_simp
        try simp only [Act.put, List.setIfInBounds_toArray, List.set_cons_zero, List.set_cons_succ]
        refine wpAnyH_take (i := 9) (oi := { dst := some 21, op := _, type := _, pos := _, after := _, guard := _ }) (v := .int .i64 ((u.ks.length : Int) - 1)) rfl (by kernel_rfl) (by kernel_rfl) (by kernel_rfl) (fun _ _ _ h => h) (Or.inl ⟨by rfl, ?_⟩) (by assumption) ?_
        · intro w hSw; obtain ⟨c0, p0⟩ := hSw; go_simp
        try simp only [Act.put, List.setIfInBounds_toArray, List.set_cons_zero, List.set_cons_succ]
        refine wpAnyH_ready (rs := [10]) (by kernel_rfl) (by simp) ?_
        refine AllReadyH.cons (o := { dst := some 22, op := _, type := _, pos := _, after := _, guard := _ }) rfl (fun K hK => ?_) AllReadyH.nil
        go_simp
        go_at_call 101
        refine KI.mono ?_
        rintro e w6 ⟨rfl, rfl⟩
        go_wp2_with fail
        refine hK.out _ _ ⟨c0, p0⟩ (fun hHeld => ?_)
        clear hK K
        try simp only [Act.put, List.setIfInBounds_toArray, List.set_cons_zero, List.set_cons_succ]
        refine wpAnyH_take (i := 11) (oi := { dst := some 23, op := _, type := _, pos := _, after := _, guard := _ }) (v := .bool true) rfl (by kernel_rfl) (by kernel_rfl) (by kernel_rfl) (fun _ _ _ h => h) (Or.inl ⟨by rfl, ?_⟩) (by assumption) ?_
        · intro w hSw; obtain ⟨c0, p0⟩ := hSw; go_simp
        try simp only [Act.put, List.setIfInBounds_toArray, List.set_cons_zero, List.set_cons_succ]
        refine wpAnyH_done (by kernel_rfl) ?_ _
        clear hHeld
        go_wp2_with fail
        go_ret
        exact ⟨ret_b F.out.symm, HG.out.drew⟩
      | true =>
        have HI := Lib.hid hI
        rw [hI] at KI
        clear hI
        refine wp_region_held_drew (S := fun W => W.cell? ⟨be, oe + j, none⟩ = some (.int .i64 L[j]) ∧ W.cell? ⟨b, 0, none⟩ = some (.slice u.a u.ks.length u.cap)) (by kernel_rfl) ?_ (fun hHeld => ?_)
        · exact ⟨c0, p0⟩
        refine wpAnyH_take (i := 0) (oi := { dst := some 12, op := _, type := _, pos := _, after := _, guard := _ }) (v := .slice (some ⟨be, oe, none⟩) L.length ac) rfl (by kernel_rfl) (by kernel_rfl) (by kernel_rfl) (fun _ _ _ h => h) (Or.inl ⟨by rfl, ?_⟩) (by assumption) ?_
        · intro w hSw; obtain ⟨c0, p0⟩ := hSw; go_simp
        try simp only [Act.put, List.setIfInBounds_toArray, List.set_cons_zero, List.set_cons_succ]
        refine wpAnyH_take (i := 1) (oi := { dst := some 13, op := _, type := _, pos := _, after := _, guard := _ }) (v := .int .i64 j) rfl (by kernel_rfl) (by kernel_rfl) (by kernel_rfl) (fun _ _ _ h => h) (Or.inl ⟨by rfl, ?_⟩) (by assumption) ?_
        · intro w hSw; obtain ⟨c0, p0⟩ := hSw; go_simp
        try simp only [Act.put, List.setIfInBounds_toArray, List.set_cons_zero, List.set_cons_succ]
        refine wpAnyH_take (i := 2) (oi := { dst := some 14, op := _, type := _, pos := _, after := _, guard := _ }) (v := .pointer (some ⟨be, oe + j, none⟩)) rfl (by kernel_rfl) (by kernel_rfl) (by kernel_rfl) (fun _ _ _ h => h) (Or.inl ⟨by rfl, ?_⟩) (by assumption) ?_
        · intro w hSw; obtain ⟨c0, p0⟩ := hSw; go_simp
        try simp only [Act.put, List.setIfInBounds_toArray, List.set_cons_zero, List.set_cons_succ]
        refine wpAnyH_take (i := 3) (oi := { dst := some 15, op := _, type := _, pos := _, after := _, guard := _ }) (v := .int .i64 L[j]) rfl (by kernel_rfl) (by kernel_rfl) (by kernel_rfl) (fun _ _ _ h => h) (Or.inl ⟨by rfl, ?_⟩) (by assumption) ?_
        · intro w hSw; obtain ⟨c0, p0⟩ := hSw; go_simp
        try simp only [Act.put, List.setIfInBounds_toArray, List.set_cons_zero, List.set_cons_succ]
        refine wpAnyH_take (i := 4) (oi := { dst := some 16, op := _, type := _, pos := _, after := _, guard := _ }) (v := .pointer (some ⟨b, 0, none⟩)) rfl (by kernel_rfl) (by kernel_rfl) (by kernel_rfl) (fun _ _ _ h => h) (Or.inl ⟨by rfl, ?_⟩) (by assumption) ?_
        · intro w hSw; obtain ⟨c0, p0⟩ := hSw; go_simp
        try simp only [Act.put, List.setIfInBounds_toArray, List.set_cons_zero, List.set_cons_succ]
        refine wpAnyH_take (i := 5) (oi := { dst := some 17, op := _, type := _, pos := _, after := _, guard := _ }) (v := .pointer (some ⟨b, 0, none⟩)) rfl (by kernel_rfl) (by kernel_rfl) (by kernel_rfl) (fun _ _ _ h => h) (Or.inl ⟨by rfl, ?_⟩) (by assumption) ?_
        · intro w hSw; obtain ⟨c0, p0⟩ := hSw; go_simp
        try simp only [Act.put, List.setIfInBounds_toArray, List.set_cons_zero, List.set_cons_succ]
        refine wpAnyH_take (i := 6) (oi := { dst := some 18, op := _, type := _, pos := _, after := _, guard := _ }) (v := .pointer (some ⟨b, 0, none⟩)) rfl (by kernel_rfl) (by kernel_rfl) (by kernel_rfl) (fun _ _ _ h => h) (Or.inl ⟨by rfl, ?_⟩) (by assumption) ?_
        · intro w hSw; obtain ⟨c0, p0⟩ := hSw; go_simp
        try simp only [Act.put, List.setIfInBounds_toArray, List.set_cons_zero, List.set_cons_succ]
        refine wpAnyH_take (i := 7) (oi := { dst := some 19, op := _, type := _, pos := _, after := _, guard := _ }) (v := .slice u.a u.ks.length u.cap) rfl (by kernel_rfl) (by kernel_rfl) (by kernel_rfl) (fun _ _ _ h => h) (Or.inl ⟨by rfl, ?_⟩) (by assumption) ?_
        · intro w hSw; obtain ⟨c0, p0⟩ := hSw; go_simp
        try simp only [Act.put, List.setIfInBounds_toArray, List.set_cons_zero, List.set_cons_succ]
        refine wpAnyH_take (i := 8) (oi := { dst := some 20, op := _, type := _, pos := _, after := _, guard := _ }) (v := .int .i64 u.ks.length) rfl (by kernel_rfl) (by kernel_rfl) (by kernel_rfl) (fun _ _ _ h => h) (Or.inl ⟨by rfl, ?_⟩) (by assumption) ?_
        · intro w hSw; obtain ⟨c0, p0⟩ := hSw; go_simp
        try simp only [Act.put, List.setIfInBounds_toArray, List.set_cons_zero, List.set_cons_succ]
        refine wpAnyH_take (i := 9) (oi := { dst := some 21, op := _, type := _, pos := _, after := _, guard := _ }) (v := .int .i64 ((u.ks.length : Int) - 1)) rfl (by kernel_rfl) (by kernel_rfl) (by kernel_rfl) (fun _ _ _ h => h) (Or.inl ⟨by rfl, ?_⟩) (by assumption) ?_
        · intro w hSw; obtain ⟨c0, p0⟩ := hSw; go_simp
        try simp only [Act.put, List.setIfInBounds_toArray, List.set_cons_zero, List.set_cons_succ]
        refine wpAnyH_ready (rs := [10]) (by kernel_rfl) (by simp) ?_
        refine AllReadyH.cons (o := { dst := some 22, op := _, type := _, pos := _, after := _, guard := _ }) rfl (fun K hK => ?_) AllReadyH.nil
        go_simp
        go_at_call 101
        refine KI.mono ?_
        rintro e w6 ⟨rfl, rfl⟩
        go_wp2_with fail
        refine hK.out _ _ ⟨c0, p0⟩ (fun hHeld => ?_)
        clear hK K
        try simp only [Act.put, List.setIfInBounds_toArray, List.set_cons_zero, List.set_cons_succ]
        refine wpAnyH_take (i := 11) (oi := { dst := some 23, op := _, type := _, pos := _, after := _, guard := _ }) (v := .bool false) rfl (by kernel_rfl) (by kernel_rfl) (by kernel_rfl) (fun _ _ _ h => h) (Or.inl ⟨by rfl, ?_⟩) (by assumption) ?_
        · intro w hSw; obtain ⟨c0, p0⟩ := hSw; go_simp
        try simp only [Act.put, List.setIfInBounds_toArray, List.set_cons_zero, List.set_cons_succ]
        refine wpAnyH_done (by kernel_rfl) ?_ _
        clear hHeld
        go_wp2_with fail
        go_roundw
        case rel =>
          refine ⟨j + 1, by omega, by go_num, HG.out.drew, fun x hx hi => ?_⟩
          by_cases e : x = j
          · subst e; exact HI.out
          · exact HALL.out x hx (by omega)
        case measure => simp [intOf]; omega
    · obtain rfl : j = L.length := by omega
      have F := Lib.hid (coD_all (n := (u.ks.length : Int)) (fun i hi => HALL.out i hi hi))
      clear hg
      go_wp2_with fail
      go_ret
      exact ⟨ret_b F.out.symm, HG.out⟩

set_option maxRecDepth 100000 in
set_option maxHeartbeats 4000000 in
theorem spec_fr3 (u : LB) (f : LFr) (heap : Nat) (w : World) (b bf of : Nat) (hul : u.ks.length ≤ 9223372036854775807) (hb : BoxB w b u) (hx : frAt w bf of f) (hh : heap ≤ 1048576) (he : f.c.e.length ≤ 1048576) (hk : f.k = 3) : Calls Tryd.prog 68 #[.pointer (some ⟨b, 0, none⟩), .pointer (some ⟨bf, of, none⟩), .int .i64 heap] w (BoolGw (frG u.ks.length (inH heap) f.pu) w) := by
  have AX := Lib.hid hx
  have FE : frG u.ks.length (inH heap) f.pu = (inV f.v 1 6 && (decide (f.d.length = 0) && clG u.ks.length (inH heap) f.c.pu)) := by unfold frG; rw [if_pos (show f.pu.1 = 3 from hk)]; rfl
  have KC0 := fun (W : World) (g : Gw w W) => spec_l09Cl u f.c heap W b bf (of + 3) (hb.grow g) ((hx.grow frGr g).fc) hh he
  have z3 : (f.k == 3) = true := by simpa using hk
  have c0 := (AX.out.grow frGr (Gw.refl w)).1 0 _ rfl
  have c1 := (AX.out.grow frGr (Gw.refl w)).1 1 _ rfl
  have c2 := (AX.out.grow frGr (Gw.refl w)).1 2 _ rfl
  rw [Nat.add_zero] at c0
  have hdl : f.d.length ≤ 9223372036854775807 := Nat.le_trans hx.2.2.2.1.1 hx.2.2.2.1.2.1
  clear hb hx hk
  have KV0 := specIn f.v 1 6 w
  cases h1 : inV f.v 1 6 with
  | false =>
    rw [h1] at KV0
    have KV := Lib.hid KV0
    have F := Lib.hid (show frG u.ks.length (inH heap) f.pu = false by rw [FE, h1]; rfl)
    clear KV0 h1 FE KC0
    go_enter Tryd.func68, Tryd.ntmps68
    go_wp2_with fail
    refine KV.out.mono ?_
    rintro e w1 ⟨rfl, rfl⟩
    go_wp2_with fail
    go_ret
    exact ⟨ret_b F.out.symm, Gw.refl _⟩
  | true =>
  rw [h1] at KV0 FE
  have KV := Lib.hid KV0
  clear KV0 h1
  by_cases h2 : f.d.length = 0
  rotate_left
  · have z2 : ((f.d.length : Int) == 0) = false := beq_eq_false_iff_ne.2 (by omega)
    have F := Lib.hid (show frG u.ks.length (inH heap) f.pu = false by rw [FE, decide_eq_false h2]; rfl)
    clear FE KC0 h2
    go_enter Tryd.func68, Tryd.ntmps68
    go_wp2_with fail
    refine KV.out.mono ?_
    rintro e w1 ⟨rfl, rfl⟩
    go_wp2_with fail
    go_ret
    exact ⟨ret_b F.out.symm, Gw.refl _⟩
  have z2 : ((f.d.length : Int) == 0) = true := beq_iff_eq.2 (by omega)
  have F := Lib.hid (show frG u.ks.length (inH heap) f.pu = clG u.ks.length (inH heap) f.c.pu by rw [FE, decide_eq_true h2]; rfl)
  have KC := Lib.hid KC0
  clear FE KC0 h2
  go_enter Tryd.func68, Tryd.ntmps68
  go_wp2_with fail
  refine KV.out.mono ?_
  rintro e w1 ⟨rfl, rfl⟩
  go_wp2_with fail
  refine (KC.out w (Gw.refl w)).mono ?_
  rintro e w1 ⟨rfl, g1⟩
  rw [← F.out]
  clear c0 c1 c2
  go_wp2_with fail
  go_ret
  exact ⟨rfl, g1⟩

set_option maxRecDepth 100000 in
set_option maxHeartbeats 4000000 in
theorem spec_fr1 (u : LB) (f : LFr) (heap : Nat) (w : World) (b bf of : Nat) (hul : u.ks.length ≤ 9223372036854775807) (hb : BoxB w b u) (hx : frAt w bf of f) (hh : heap ≤ 1048576) (he : f.c.e.length ≤ 1048576) (hk : f.k = 1) : Calls Tryd.prog 68 #[.pointer (some ⟨b, 0, none⟩), .pointer (some ⟨bf, of, none⟩), .int .i64 heap] w (BoolGw (frG u.ks.length (inH heap) f.pu) w) := by
  have AX := Lib.hid hx
  have BB := Lib.hid hb
  have hk3 : f.k ≠ 3 := by omega
  have FE : frG u.ks.length (inH heap) f.pu = (nocC f.c.pu && (inH heap f.v && decide (f.d.length = 0))) := by
    unfold frG
    rw [if_neg (show ¬ f.pu.1 = 3 from hk3), if_pos (show f.pu.1 = 1 ∨ f.pu.1 = 2 from .inl hk)]; rfl
  have KN0 := spec_l09Nc f.c w bf (of + 3) hx.fc
  have z3 : (f.k == 3) = false := by simpa using hk3
  have y1 : (f.k == 1) = true := by simp; omega
  have y2 : (f.k == 2) = false := by simp; omega
  have y4 : (f.k == 4) = false := by simp; omega
  have y5 : (f.k == 5) = false := by simp; omega
  have y6 : (f.k == 6) = false := by simp; omega
  have c0 := (AX.out.grow frGr (Gw.refl w)).1 0 _ rfl
  have c1 := (AX.out.grow frGr (Gw.refl w)).1 1 _ rfl
  have c2 := (AX.out.grow frGr (Gw.refl w)).1 2 _ rfl
  rw [Nat.add_zero] at c0
  have hdl : f.d.length ≤ 9223372036854775807 := Nat.le_trans hx.2.2.2.1.1 hx.2.2.2.1.2.1
  have ND := Lib.hid hx.2.2.2.1
  clear hb hx hk3 hk
  cases hn : nocC f.c.pu with
  | false =>
    rw [hn] at KN0
    have KN := Lib.hid KN0
    have F := Lib.hid (show frG u.ks.length (inH heap) f.pu = false by rw [FE, hn]; rfl)
    clear KN0 hn FE
    go_enter Tryd.func68, Tryd.ntmps68
    go_wp2_with fail
    refine KN.out.mono ?_
    rintro e w1 ⟨rfl, g1⟩
    clear c0 c1 c2
    go_wp2_with fail
    go_ret
    exact ⟨ret_b F.out.symm, g1⟩
  | true =>
  rw [hn] at KN0 FE
  have KN := Lib.hid KN0
  clear KN0 hn
  cases h1 : inH heap f.v with
  | false =>
    have F := Lib.hid (show frG u.ks.length (inH heap) f.pu = false by rw [FE, h1]; rfl)
    unfold inH at h1
    have KV := fun W => specIn f.v 0 ((heap : Int) - 1) W
    rw [h1] at KV
    have KVV := Lib.hid KV
    clear h1 FE KV
    go_enter Tryd.func68, Tryd.ntmps68
    go_wp2_with fail
    refine KN.out.mono ?_
    rintro e w1 ⟨rfl, g1⟩
    clear c0 c1 c2
    have c0 := (AX.out.grow frGr g1).1 0 _ rfl
    have c1 := (AX.out.grow frGr g1).1 1 _ rfl
    have c2 := (AX.out.grow frGr g1).1 2 _ rfl
    rw [Nat.add_zero] at c0
    go_wp2_with fail
    refine (KVV.out w1).mono ?_
    rintro e w5 ⟨rfl, rfl⟩
    go_wp2_with fail
    go_ret
    exact ⟨ret_b F.out.symm, g1⟩
  | true =>
  rw [h1] at FE
  unfold inH at h1
  have KV := fun W => specIn f.v 0 ((heap : Int) - 1) W
  rw [h1] at KV
  have KVV := Lib.hid KV
  clear h1 KV
  have F := Lib.hid (show frG u.ks.length (inH heap) f.pu = ((f.d.length : Int) == 0) by
    rw [FE]
    by_cases h2 : f.d.length = 0
    · rw [decide_eq_true h2, beq_iff_eq.2 (show (f.d.length : Int) = 0 by omega)]; rfl
    · rw [decide_eq_false h2, beq_eq_false_iff_ne.2 (show (f.d.length : Int) ≠ 0 by omega)]; rfl)
  clear FE
  go_enter Tryd.func68, Tryd.ntmps68
  go_wp2_with fail
  refine KN.out.mono ?_
  rintro e w1 ⟨rfl, g1⟩
  clear c0 c1 c2
  have c0 := (AX.out.grow frGr g1).1 0 _ rfl
  have c1 := (AX.out.grow frGr g1).1 1 _ rfl
  have c2 := (AX.out.grow frGr g1).1 2 _ rfl
  rw [Nat.add_zero] at c0
  go_wp2_with fail
  refine (KVV.out w1).mono ?_
  rintro e w5 ⟨rfl, rfl⟩
  go_wp2_with fail
  go_ret
  exact ⟨ret_b F.out.symm, g1⟩

set_option maxRecDepth 100000 in
set_option maxHeartbeats 4000000 in
theorem spec_fr2 (u : LB) (f : LFr) (heap : Nat) (w : World) (b bf of : Nat) (hul : u.ks.length ≤ 9223372036854775807) (hb : BoxB w b u) (hx : frAt w bf of f) (hh : heap ≤ 1048576) (he : f.c.e.length ≤ 1048576) (hk : f.k = 2) : Calls Tryd.prog 68 #[.pointer (some ⟨b, 0, none⟩), .pointer (some ⟨bf, of, none⟩), .int .i64 heap] w (BoolGw (frG u.ks.length (inH heap) f.pu) w) := by
  have AX := Lib.hid hx
  have BB := Lib.hid hb
  have hk3 : f.k ≠ 3 := by omega
  have FE : frG u.ks.length (inH heap) f.pu = (nocC f.c.pu && (inH heap f.v && decide (f.d.length = 0))) := by
    unfold frG
    rw [if_neg (show ¬ f.pu.1 = 3 from hk3), if_pos (show f.pu.1 = 1 ∨ f.pu.1 = 2 from .inr hk)]; rfl
  have KN0 := spec_l09Nc f.c w bf (of + 3) hx.fc
  have z3 : (f.k == 3) = false := by simpa using hk3
  have y1 : (f.k == 1) = false := by simp; omega
  have y2 : (f.k == 2) = true := by simp; omega
  have y4 : (f.k == 4) = false := by simp; omega
  have y5 : (f.k == 5) = false := by simp; omega
  have y6 : (f.k == 6) = false := by simp; omega
  have c0 := (AX.out.grow frGr (Gw.refl w)).1 0 _ rfl
  have c1 := (AX.out.grow frGr (Gw.refl w)).1 1 _ rfl
  have c2 := (AX.out.grow frGr (Gw.refl w)).1 2 _ rfl
  rw [Nat.add_zero] at c0
  have hdl : f.d.length ≤ 9223372036854775807 := Nat.le_trans hx.2.2.2.1.1 hx.2.2.2.1.2.1
  have ND := Lib.hid hx.2.2.2.1
  clear hb hx hk3 hk
  cases hn : nocC f.c.pu with
  | false =>
    rw [hn] at KN0
    have KN := Lib.hid KN0
    have F := Lib.hid (show frG u.ks.length (inH heap) f.pu = false by rw [FE, hn]; rfl)
    clear KN0 hn FE
    go_enter Tryd.func68, Tryd.ntmps68
    go_wp2_with fail
    refine KN.out.mono ?_
    rintro e w1 ⟨rfl, g1⟩
    clear c0 c1 c2
    go_wp2_with fail
    go_ret
    exact ⟨ret_b F.out.symm, g1⟩
  | true =>
  rw [hn] at KN0 FE
  have KN := Lib.hid KN0
  clear KN0 hn
  cases h1 : inH heap f.v with
  | false =>
    have F := Lib.hid (show frG u.ks.length (inH heap) f.pu = false by rw [FE, h1]; rfl)
    unfold inH at h1
    have KV := fun W => specIn f.v 0 ((heap : Int) - 1) W
    rw [h1] at KV
    have KVV := Lib.hid KV
    clear h1 FE KV
    go_enter Tryd.func68, Tryd.ntmps68
    go_wp2_with fail
    refine KN.out.mono ?_
    rintro e w1 ⟨rfl, g1⟩
    clear c0 c1 c2
    have c0 := (AX.out.grow frGr g1).1 0 _ rfl
    have c1 := (AX.out.grow frGr g1).1 1 _ rfl
    have c2 := (AX.out.grow frGr g1).1 2 _ rfl
    rw [Nat.add_zero] at c0
    go_wp2_with fail
    refine (KVV.out w1).mono ?_
    rintro e w5 ⟨rfl, rfl⟩
    go_wp2_with fail
    go_ret
    exact ⟨ret_b F.out.symm, g1⟩
  | true =>
  rw [h1] at FE
  unfold inH at h1
  have KV := fun W => specIn f.v 0 ((heap : Int) - 1) W
  rw [h1] at KV
  have KVV := Lib.hid KV
  clear h1 KV
  have F := Lib.hid (show frG u.ks.length (inH heap) f.pu = ((f.d.length : Int) == 0) by
    rw [FE]
    by_cases h2 : f.d.length = 0
    · rw [decide_eq_true h2, beq_iff_eq.2 (show (f.d.length : Int) = 0 by omega)]; rfl
    · rw [decide_eq_false h2, beq_eq_false_iff_ne.2 (show (f.d.length : Int) ≠ 0 by omega)]; rfl)
  clear FE
  go_enter Tryd.func68, Tryd.ntmps68
  go_wp2_with fail
  refine KN.out.mono ?_
  rintro e w1 ⟨rfl, g1⟩
  clear c0 c1 c2
  have c0 := (AX.out.grow frGr g1).1 0 _ rfl
  have c1 := (AX.out.grow frGr g1).1 1 _ rfl
  have c2 := (AX.out.grow frGr g1).1 2 _ rfl
  rw [Nat.add_zero] at c0
  go_wp2_with fail
  refine (KVV.out w1).mono ?_
  rintro e w5 ⟨rfl, rfl⟩
  go_wp2_with fail
  go_ret
  exact ⟨ret_b F.out.symm, g1⟩

set_option maxRecDepth 100000 in
set_option maxHeartbeats 4000000 in
theorem spec_fr4 (u : LB) (f : LFr) (heap : Nat) (w : World) (b bf of : Nat) (hul : u.ks.length ≤ 9223372036854775807) (hb : BoxB w b u) (hx : frAt w bf of f) (hh : heap ≤ 1048576) (he : f.c.e.length ≤ 1048576) (hk : f.k = 4) : Calls Tryd.prog 68 #[.pointer (some ⟨b, 0, none⟩), .pointer (some ⟨bf, of, none⟩), .int .i64 heap] w (BoolGw (frG u.ks.length (inH heap) f.pu) w) := by
  have AX := Lib.hid hx
  have BB := Lib.hid hb
  have hk3 : f.k ≠ 3 := by omega
  have FE : frG u.ks.length (inH heap) f.pu = (nocC f.c.pu && (inV f.v 1 6 && (decide (f.d.length = 1) && inV (f.d.getD 0 0) (-2147483648) 2147483647))) := by
    unfold frG
    rw [if_neg (show ¬ f.pu.1 = 3 from hk3), if_neg (show ¬ (f.pu.1 = 1 ∨ f.pu.1 = 2) by have : f.pu.1 = f.k := rfl; omega), if_pos (show f.pu.1 = 4 from hk)]; rfl
  have KN0 := spec_l09Nc f.c w bf (of + 3) hx.fc
  have z3 : (f.k == 3) = false := by simpa using hk3
  have y1 : (f.k == 1) = false := by simp; omega
  have y2 : (f.k == 2) = false := by simp; omega
  have y4 : (f.k == 4) = true := by simp; omega
  have y5 : (f.k == 5) = false := by simp; omega
  have y6 : (f.k == 6) = false := by simp; omega
  have c0 := (AX.out.grow frGr (Gw.refl w)).1 0 _ rfl
  have c1 := (AX.out.grow frGr (Gw.refl w)).1 1 _ rfl
  have c2 := (AX.out.grow frGr (Gw.refl w)).1 2 _ rfl
  rw [Nat.add_zero] at c0
  have hdl : f.d.length ≤ 9223372036854775807 := Nat.le_trans hx.2.2.2.1.1 hx.2.2.2.1.2.1
  have ND := Lib.hid hx.2.2.2.1
  clear hb hx hk3 hk
  cases hn : nocC f.c.pu with
  | false =>
    rw [hn] at KN0
    have KN := Lib.hid KN0
    have F := Lib.hid (show frG u.ks.length (inH heap) f.pu = false by rw [FE, hn]; rfl)
    clear KN0 hn FE
    go_enter Tryd.func68, Tryd.ntmps68
    go_wp2_with fail
    refine KN.out.mono ?_
    rintro e w1 ⟨rfl, g1⟩
    clear c0 c1 c2
    go_wp2_with fail
    go_ret
    exact ⟨ret_b F.out.symm, g1⟩
  | true =>
  rw [hn] at KN0 FE
  have KN := Lib.hid KN0
  clear KN0 hn
  cases h1 : inV f.v 1 6 with
  | false =>
    have F := Lib.hid (show frG u.ks.length (inH heap) f.pu = false by rw [FE, h1]; rfl)
    have KV := fun W => specIn f.v 1 6 W
    rw [h1] at KV
    have KVV := Lib.hid KV
    clear h1 FE KV
    go_enter Tryd.func68, Tryd.ntmps68
    go_wp2_with fail
    refine KN.out.mono ?_
    rintro e w1 ⟨rfl, g1⟩
    clear c0 c1 c2
    have c0 := (AX.out.grow frGr g1).1 0 _ rfl
    have c1 := (AX.out.grow frGr g1).1 1 _ rfl
    have c2 := (AX.out.grow frGr g1).1 2 _ rfl
    rw [Nat.add_zero] at c0
    go_wp2_with fail
    refine (KVV.out w1).mono ?_
    rintro e w5 ⟨rfl, rfl⟩
    go_wp2_with fail
    go_ret
    exact ⟨ret_b F.out.symm, g1⟩
  | true =>
  rw [h1] at FE
  have KV := fun W => specIn f.v 1 6 W
  rw [h1] at KV
  have KVV := Lib.hid KV
  clear h1 KV
  by_cases h2 : f.d.length = 1
  rotate_left
  · have z2 : ((f.d.length : Int) == 1) = false := beq_eq_false_iff_ne.2 (by omega)
    have F := Lib.hid (show frG u.ks.length (inH heap) f.pu = false by rw [FE, decide_eq_false h2]; rfl)
    clear FE h2
    go_enter Tryd.func68, Tryd.ntmps68
    go_wp2_with fail
    refine KN.out.mono ?_
    rintro e w1 ⟨rfl, g1⟩
    clear c0 c1 c2
    have c0 := (AX.out.grow frGr g1).1 0 _ rfl
    have c1 := (AX.out.grow frGr g1).1 1 _ rfl
    have c2 := (AX.out.grow frGr g1).1 2 _ rfl
    rw [Nat.add_zero] at c0
    go_wp2_with fail
    refine (KVV.out w1).mono ?_
    rintro e w5 ⟨rfl, rfl⟩
    go_wp2_with fail
    go_ret
    exact ⟨ret_b F.out.symm, g1⟩
  have z2 : ((f.d.length : Int) == 1) = true := beq_iff_eq.2 (by omega)
  have hlt : 0 < f.d.length := by omega
  have F := Lib.hid (show frG u.ks.length (inH heap) f.pu = inV f.d[0] (-2147483648) 2147483647 by
    rw [FE, decide_eq_true h2, List.getD, List.getElem?_eq_getElem hlt]; rfl)
  have KW := Lib.hid (fun W => specIn f.d[0] (-2147483648) 2147483647 W)
  obtain ⟨be, oe, ea, _⟩ := ND.out.2.2.resolve_left (fun e => by rw [e] at hlt; simp at hlt)
  have i1 : (0 : Int) < f.d.length := by omega
  have i2 : ¬ f.d = [] := fun e => by rw [e] at hlt; simp at hlt
  clear FE h2
  go_enter Tryd.func68, Tryd.ntmps68
  go_wp2_with fail
  refine KN.out.mono ?_
  rintro e w1 ⟨rfl, g1⟩
  clear c0 c1 c2
  have c0 := (AX.out.grow frGr g1).1 0 _ rfl
  have c1 := (AX.out.grow frGr g1).1 1 _ rfl
  have c2 := (AX.out.grow frGr g1).1 2 _ rfl
  rw [Nat.add_zero] at c0
  obtain ⟨be', oe', ea', hr⟩ := (numSl.grow ND.out g1).2.2.resolve_left (fun e => by rw [e] at hlt; simp at hlt)
  rw [ea'] at c2
  obtain ⟨e0, _⟩ := numRow_get hr 0 hlt
  rw [Nat.add_zero] at e0
  clear hr ea ea'
  go_wp2_with fail
  refine (KVV.out w1).mono ?_
  rintro e w5 ⟨rfl, rfl⟩
  go_wp2_with fail
  refine (KW.out w1).mono ?_
  rintro e w5 ⟨rfl, rfl⟩
  rw [← F.out]
  clear c0 c1 c2 e0
  go_wp2_with fail
  go_ret
  exact ⟨rfl, g1⟩

set_option maxRecDepth 100000 in
set_option maxHeartbeats 4000000 in
theorem spec_fr5 (u : LB) (f : LFr) (heap : Nat) (w : World) (b bf of : Nat) (hul : u.ks.length ≤ 9223372036854775807) (hb : BoxB w b u) (hx : frAt w bf of f) (hh : heap ≤ 1048576) (he : f.c.e.length ≤ 1048576) (hk : f.k = 5) : Calls Tryd.prog 68 #[.pointer (some ⟨b, 0, none⟩), .pointer (some ⟨bf, of, none⟩), .int .i64 heap] w (BoolGw (frG u.ks.length (inH heap) f.pu) w) := by
  have AX := Lib.hid hx
  have BB := Lib.hid hb
  have hk3 : f.k ≠ 3 := by omega
  have FE : frG u.ks.length (inH heap) f.pu = (nocC f.c.pu && ((f.v == 0) && (inV f.d.length 1 4 && coD f.d u.ks.length))) := by
    unfold frG
    rw [if_neg (show ¬ f.pu.1 = 3 from hk3), if_neg (show ¬ (f.pu.1 = 1 ∨ f.pu.1 = 2) by have : f.pu.1 = f.k := rfl; omega), if_neg (show ¬ f.pu.1 = 4 by have : f.pu.1 = f.k := rfl; omega), if_pos (show f.pu.1 = 5 from hk)]; rfl
  have KN0 := spec_l09Nc f.c w bf (of + 3) hx.fc
  have z3 : (f.k == 3) = false := by simpa using hk3
  have y1 : (f.k == 1) = false := by simp; omega
  have y2 : (f.k == 2) = false := by simp; omega
  have y4 : (f.k == 4) = false := by simp; omega
  have y5 : (f.k == 5) = true := by simp; omega
  have y6 : (f.k == 6) = false := by simp; omega
  have c0 := (AX.out.grow frGr (Gw.refl w)).1 0 _ rfl
  have c1 := (AX.out.grow frGr (Gw.refl w)).1 1 _ rfl
  have c2 := (AX.out.grow frGr (Gw.refl w)).1 2 _ rfl
  rw [Nat.add_zero] at c0
  have hdl : f.d.length ≤ 9223372036854775807 := Nat.le_trans hx.2.2.2.1.1 hx.2.2.2.1.2.1
  have ND := Lib.hid hx.2.2.2.1
  clear hb hx hk3 hk
  cases hn : nocC f.c.pu with
  | false =>
    rw [hn] at KN0
    have KN := Lib.hid KN0
    have F := Lib.hid (show frG u.ks.length (inH heap) f.pu = false by rw [FE, hn]; rfl)
    clear KN0 hn FE
    go_enter Tryd.func68, Tryd.ntmps68
    go_wp2_with fail
    refine KN.out.mono ?_
    rintro e w1 ⟨rfl, g1⟩
    clear c0 c1 c2
    go_wp2_with fail
    go_ret
    exact ⟨ret_b F.out.symm, g1⟩
  | true =>
  rw [hn] at KN0 FE
  have KN := Lib.hid KN0
  clear KN0 hn
  by_cases h1 : f.v = 0
  rotate_left
  · have z1 : (f.v == 0) = false := by simpa using h1
    have F := Lib.hid (show frG u.ks.length (inH heap) f.pu = false by rw [FE, z1]; rfl)
    clear h1 FE
    go_enter Tryd.func68, Tryd.ntmps68
    go_wp2_with fail
    refine KN.out.mono ?_
    rintro e w1 ⟨rfl, g1⟩
    clear c0 c1 c2
    have c0 := (AX.out.grow frGr g1).1 0 _ rfl
    have c1 := (AX.out.grow frGr g1).1 1 _ rfl
    have c2 := (AX.out.grow frGr g1).1 2 _ rfl
    rw [Nat.add_zero] at c0
    go_wp2_with fail
    go_ret
    exact ⟨ret_b F.out.symm, g1⟩
  have z1 : (f.v == 0) = true := by simpa using h1
  rw [z1] at FE
  clear h1
  cases h2 : inV f.d.length 1 4 with
  | false =>
    have F := Lib.hid (show frG u.ks.length (inH heap) f.pu = false by rw [FE, h2]; rfl)
    have KV := fun W => specIn f.d.length 1 4 W
    rw [h2] at KV
    have KVV := Lib.hid KV
    clear h2 FE KV
    go_enter Tryd.func68, Tryd.ntmps68
    go_wp2_with fail
    refine KN.out.mono ?_
    rintro e w1 ⟨rfl, g1⟩
    clear c0 c1 c2
    have c0 := (AX.out.grow frGr g1).1 0 _ rfl
    have c1 := (AX.out.grow frGr g1).1 1 _ rfl
    have c2 := (AX.out.grow frGr g1).1 2 _ rfl
    rw [Nat.add_zero] at c0
    go_wp2_with fail
    refine (KVV.out w1).mono ?_
    rintro e w5 ⟨rfl, rfl⟩
    go_wp2_with fail
    go_ret
    exact ⟨ret_b F.out.symm, g1⟩
  | true =>
  have F := Lib.hid (show frG u.ks.length (inH heap) f.pu = coD f.d u.ks.length by rw [FE, h2]; rfl)
  have KV := fun W => specIn f.d.length 1 4 W
  rw [h2] at KV
  have KVV := Lib.hid KV
  have KD := Lib.hid (fun (W : World) (g : Gw w W) => spec_l09Df u f.d f.da f.dc W b hul (BB.out.grow g) (numSl.grow ND.out g))
  clear h2 FE KV
  go_enter Tryd.func68, Tryd.ntmps68
  go_wp2_with fail
  refine KN.out.mono ?_
  rintro e w1 ⟨rfl, g1⟩
  clear c0 c1 c2
  have c0 := (AX.out.grow frGr g1).1 0 _ rfl
  have c1 := (AX.out.grow frGr g1).1 1 _ rfl
  have c2 := (AX.out.grow frGr g1).1 2 _ rfl
  rw [Nat.add_zero] at c0
  go_wp2_with fail
  refine (KVV.out w1).mono ?_
  rintro e w5 ⟨rfl, rfl⟩
  go_wp2_with fail
  refine (KD.out w1 g1).mono ?_
  rintro e w6 ⟨rfl, g2⟩
  rw [← F.out]
  clear c0 c1 c2
  go_wp2_with fail
  go_ret
  exact ⟨rfl, g1.trans g2⟩

set_option maxRecDepth 100000 in
set_option maxHeartbeats 4000000 in
theorem spec_fr6 (u : LB) (f : LFr) (heap : Nat) (w : World) (b bf of : Nat) (hul : u.ks.length ≤ 9223372036854775807) (hb : BoxB w b u) (hx : frAt w bf of f) (hh : heap ≤ 1048576) (he : f.c.e.length ≤ 1048576) (hk : f.k = 6) : Calls Tryd.prog 68 #[.pointer (some ⟨b, 0, none⟩), .pointer (some ⟨bf, of, none⟩), .int .i64 heap] w (BoolGw (frG u.ks.length (inH heap) f.pu) w) := by
  have AX := Lib.hid hx
  have BB := Lib.hid hb
  have hk3 : f.k ≠ 3 := by omega
  have FE : frG u.ks.length (inH heap) f.pu = (nocC f.c.pu && ((f.v == 0) && (decide (f.d.length = 2) && coD f.d u.ks.length))) := by
    unfold frG
    rw [if_neg (show ¬ f.pu.1 = 3 from hk3), if_neg (show ¬ (f.pu.1 = 1 ∨ f.pu.1 = 2) by have : f.pu.1 = f.k := rfl; omega), if_neg (show ¬ f.pu.1 = 4 by have : f.pu.1 = f.k := rfl; omega), if_neg (show ¬ f.pu.1 = 5 by have : f.pu.1 = f.k := rfl; omega), if_pos (show f.pu.1 = 6 from hk)]; rfl
  have KN0 := spec_l09Nc f.c w bf (of + 3) hx.fc
  have z3 : (f.k == 3) = false := by simpa using hk3
  have y1 : (f.k == 1) = false := by simp; omega
  have y2 : (f.k == 2) = false := by simp; omega
  have y4 : (f.k == 4) = false := by simp; omega
  have y5 : (f.k == 5) = false := by simp; omega
  have y6 : (f.k == 6) = true := by simp; omega
  have c0 := (AX.out.grow frGr (Gw.refl w)).1 0 _ rfl
  have c1 := (AX.out.grow frGr (Gw.refl w)).1 1 _ rfl
  have c2 := (AX.out.grow frGr (Gw.refl w)).1 2 _ rfl
  rw [Nat.add_zero] at c0
  have hdl : f.d.length ≤ 9223372036854775807 := Nat.le_trans hx.2.2.2.1.1 hx.2.2.2.1.2.1
  have ND := Lib.hid hx.2.2.2.1
  clear hb hx hk3 hk
  cases hn : nocC f.c.pu with
  | false =>
    rw [hn] at KN0
    have KN := Lib.hid KN0
    have F := Lib.hid (show frG u.ks.length (inH heap) f.pu = false by rw [FE, hn]; rfl)
    clear KN0 hn FE
    go_enter Tryd.func68, Tryd.ntmps68
    go_wp2_with fail
    refine KN.out.mono ?_
    rintro e w1 ⟨rfl, g1⟩
    clear c0 c1 c2
    go_wp2_with fail
    go_ret
    exact ⟨ret_b F.out.symm, g1⟩
  | true =>
  rw [hn] at KN0 FE
  have KN := Lib.hid KN0
  clear KN0 hn
  by_cases h1 : f.v = 0
  rotate_left
  · have z1 : (f.v == 0) = false := by simpa using h1
    have F := Lib.hid (show frG u.ks.length (inH heap) f.pu = false by rw [FE, z1]; rfl)
    clear h1 FE
    go_enter Tryd.func68, Tryd.ntmps68
    go_wp2_with fail
    refine KN.out.mono ?_
    rintro e w1 ⟨rfl, g1⟩
    clear c0 c1 c2
    have c0 := (AX.out.grow frGr g1).1 0 _ rfl
    have c1 := (AX.out.grow frGr g1).1 1 _ rfl
    have c2 := (AX.out.grow frGr g1).1 2 _ rfl
    rw [Nat.add_zero] at c0
    go_wp2_with fail
    go_ret
    exact ⟨ret_b F.out.symm, g1⟩
  have z1 : (f.v == 0) = true := by simpa using h1
  rw [z1] at FE
  clear h1
  by_cases h2 : f.d.length = 2
  rotate_left
  · have z2 : ((f.d.length : Int) == 2) = false := beq_eq_false_iff_ne.2 (by omega)
    have F := Lib.hid (show frG u.ks.length (inH heap) f.pu = false by rw [FE, decide_eq_false h2]; rfl)
    clear FE h2
    go_enter Tryd.func68, Tryd.ntmps68
    go_wp2_with fail
    refine KN.out.mono ?_
    rintro e w1 ⟨rfl, g1⟩
    clear c0 c1 c2
    have c0 := (AX.out.grow frGr g1).1 0 _ rfl
    have c1 := (AX.out.grow frGr g1).1 1 _ rfl
    have c2 := (AX.out.grow frGr g1).1 2 _ rfl
    rw [Nat.add_zero] at c0
    go_wp2_with fail
    go_ret
    exact ⟨ret_b F.out.symm, g1⟩
  have z2 : ((f.d.length : Int) == 2) = true := beq_iff_eq.2 (by omega)
  have F := Lib.hid (show frG u.ks.length (inH heap) f.pu = coD f.d u.ks.length by rw [FE, decide_eq_true h2]; rfl)
  have KD := Lib.hid (fun (W : World) (g : Gw w W) => spec_l09Df u f.d f.da f.dc W b hul (BB.out.grow g) (numSl.grow ND.out g))
  clear h2 FE
  go_enter Tryd.func68, Tryd.ntmps68
  go_wp2_with fail
  refine KN.out.mono ?_
  rintro e w1 ⟨rfl, g1⟩
  clear c0 c1 c2
  have c0 := (AX.out.grow frGr g1).1 0 _ rfl
  have c1 := (AX.out.grow frGr g1).1 1 _ rfl
  have c2 := (AX.out.grow frGr g1).1 2 _ rfl
  rw [Nat.add_zero] at c0
  go_wp2_with fail
  refine (KD.out w1 g1).mono ?_
  rintro e w6 ⟨rfl, g2⟩
  rw [← F.out]
  clear c0 c1 c2
  go_wp2_with fail
  go_ret
  exact ⟨rfl, g1.trans g2⟩

set_option maxRecDepth 100000 in
set_option maxHeartbeats 4000000 in
theorem spec_fr0 (u : LB) (f : LFr) (heap : Nat) (w : World) (b bf of : Nat) (hul : u.ks.length ≤ 9223372036854775807) (hb : BoxB w b u) (hx : frAt w bf of f) (hh : heap ≤ 1048576) (he : f.c.e.length ≤ 1048576) (hk : f.k ≠ 1 ∧ f.k ≠ 2 ∧ f.k ≠ 3 ∧ f.k ≠ 4 ∧ f.k ≠ 5 ∧ f.k ≠ 6) : Calls Tryd.prog 68 #[.pointer (some ⟨b, 0, none⟩), .pointer (some ⟨bf, of, none⟩), .int .i64 heap] w (BoolGw (frG u.ks.length (inH heap) f.pu) w) := by
  have AX := Lib.hid hx
  have BB := Lib.hid hb
  have hk3 : f.k ≠ 3 := by omega
  have FE : frG u.ks.length (inH heap) f.pu = (nocC f.c.pu && false) := by
    unfold frG
    rw [if_neg (show ¬ f.pu.1 = 3 from hk3), if_neg (show ¬ (f.pu.1 = 1 ∨ f.pu.1 = 2) by have : f.pu.1 = f.k := rfl; omega), if_neg (show ¬ f.pu.1 = 4 by have : f.pu.1 = f.k := rfl; omega), if_neg (show ¬ f.pu.1 = 5 by have : f.pu.1 = f.k := rfl; omega), if_neg (show ¬ f.pu.1 = 6 by have : f.pu.1 = f.k := rfl; omega)]; rfl
  have KN0 := spec_l09Nc f.c w bf (of + 3) hx.fc
  have z3 : (f.k == 3) = false := by simpa using hk3
  have y1 : (f.k == 1) = false := by simp; omega
  have y2 : (f.k == 2) = false := by simp; omega
  have y4 : (f.k == 4) = false := by simp; omega
  have y5 : (f.k == 5) = false := by simp; omega
  have y6 : (f.k == 6) = false := by simp; omega
  have c0 := (AX.out.grow frGr (Gw.refl w)).1 0 _ rfl
  have c1 := (AX.out.grow frGr (Gw.refl w)).1 1 _ rfl
  have c2 := (AX.out.grow frGr (Gw.refl w)).1 2 _ rfl
  rw [Nat.add_zero] at c0
  have hdl : f.d.length ≤ 9223372036854775807 := Nat.le_trans hx.2.2.2.1.1 hx.2.2.2.1.2.1
  have ND := Lib.hid hx.2.2.2.1
  clear hb hx hk3 hk
  cases hn : nocC f.c.pu with
  | false =>
    rw [hn] at KN0
    have KN := Lib.hid KN0
    have F := Lib.hid (show frG u.ks.length (inH heap) f.pu = false by rw [FE, hn]; rfl)
    clear KN0 hn FE
    go_enter Tryd.func68, Tryd.ntmps68
    go_wp2_with fail
    refine KN.out.mono ?_
    rintro e w1 ⟨rfl, g1⟩
    clear c0 c1 c2
    go_wp2_with fail
    go_ret
    exact ⟨ret_b F.out.symm, g1⟩
  | true =>
  rw [hn] at KN0 FE
  have KN := Lib.hid KN0
  clear KN0 hn
  have F := Lib.hid (show frG u.ks.length (inH heap) f.pu = false by rw [FE]; rfl)
  clear FE
  go_enter Tryd.func68, Tryd.ntmps68
  go_wp2_with fail
  refine KN.out.mono ?_
  rintro e w1 ⟨rfl, g1⟩
  clear c0 c1 c2
  have c0 := (AX.out.grow frGr g1).1 0 _ rfl
  have c1 := (AX.out.grow frGr g1).1 1 _ rfl
  have c2 := (AX.out.grow frGr g1).1 2 _ rfl
  rw [Nat.add_zero] at c0
  go_wp2_with fail
  go_ret
  exact ⟨ret_b F.out.symm, g1⟩

theorem spec_l09Fr (u : LB) (f : LFr) (heap : Nat) (w : World) (b bf of : Nat) (hul : u.ks.length ≤ 9223372036854775807) (hb : BoxB w b u) (hx : frAt w bf of f) (hh : heap ≤ 1048576) (he : f.c.e.length ≤ 1048576) : Calls Tryd.prog 68 #[.pointer (some ⟨b, 0, none⟩), .pointer (some ⟨bf, of, none⟩), .int .i64 heap] w (BoolGw (frG u.ks.length (inH heap) f.pu) w) := by
  by_cases h3 : f.k = 3
  · exact spec_fr3 u f heap w b bf of hul hb hx hh he h3
  by_cases h1 : f.k = 1
  · exact spec_fr1 u f heap w b bf of hul hb hx hh he h1
  by_cases h2 : f.k = 2
  · exact spec_fr2 u f heap w b bf of hul hb hx hh he h2
  by_cases h4 : f.k = 4
  · exact spec_fr4 u f heap w b bf of hul hb hx hh he h4
  by_cases h5 : f.k = 5
  · exact spec_fr5 u f heap w b bf of hul hb hx hh he h5
  by_cases h6 : f.k = 6
  · exact spec_fr6 u f heap w b bf of hul hb hx hh he h6
  exact spec_fr0 u f heap w b bf of hul hb hx hh he ⟨h1, h2, h3, h4, h5, h6⟩

/-- Lists that are not too long. -/
def smN (m : LNd) : Prop := m.c.e.length ≤ 1048576 ∧ (∀ f ∈ m.s, f.c.e.length ≤ 1048576) ∧ (∀ t ∈ m.h, t.c.e.length ≤ 1048576) ∧ m.h.length ≤ 1048576 ∧ m.s.length ≤ 1048576
theorem smN_of {x a : LNd} (h : x.pu = a.pu) (hz : a.sz ≤ 1048576) : smN x := by
  have hc : x.c.pu = a.c.pu := congrArg (fun p : LNdP => p.1) h
  have hs : x.s.map LFr.pu = a.s.map LFr.pu := congrArg (fun p : LNdP => p.2.1) h
  have hh : x.h.map LTh.pu = a.h.map LTh.pu := congrArg (fun p : LNdP => p.2.2) h
  have z : a.c.sz + sm LFr.sz a.s + sm LTh.sz a.h ≤ 1048576 := hz
  have e : ∀ (c : LCl), c.e.length ≤ c.sz := fun c => by unfold LCl.sz; omega
  have ce : ∀ (c d : LCl), c.pu = d.pu → c.e = d.e := fun c d h => congrArg (fun p : LClP => p.2) h
  refine ⟨?_, fun f hf => ?_, fun t ht => ?_, ?_, ?_⟩
  · rw [ce _ _ hc]; have := e a.c; omega
  · have : f.pu ∈ a.s.map LFr.pu := by rw [← hs]; exact List.mem_map_of_mem hf
    obtain ⟨g, hg, hgf⟩ := List.mem_map.1 this
    have h1 : g.c.pu = f.c.pu := congrArg (fun p : LFrP => p.2.2.2) hgf
    have h2 := sm_mem LFr.sz hg
    have h3 := e g.c
    rw [← ce _ _ h1]
    have h4 : g.c.sz ≤ g.sz := by unfold LFr.sz; omega
    omega
  · have : t.pu ∈ a.h.map LTh.pu := by rw [← hh]; exact List.mem_map_of_mem ht
    obtain ⟨g, hg, hgf⟩ := List.mem_map.1 this
    have h1 : g.c.pu = t.c.pu := congrArg (fun p : LThP => p.2) hgf
    have h2 := sm_mem LTh.sz hg
    have h3 := e g.c
    rw [← ce _ _ h1]
    have h4 : g.c.sz ≤ g.sz := Nat.le_refl _
    omega
  · have h1 : x.h.length = a.h.length := by simpa using congrArg List.length hh
    have := sm_ge LTh.sz a.h
    omega
  · have h1 : x.s.length = a.s.length := by simpa using congrArg List.length hs
    have := sm_ge LFr.sz a.s
    omega
theorem fr_all {n : Int} {A : Int → Bool} (xs : List LFr) : (xs.map LFr.pu).all (frG n A) = true ↔ ∀ j (hj : j < xs.length), frG n A xs[j].pu = true := by
  rw [List.all_eq_true]
  constructor
  · intro h j hj
    exact h _ (List.mem_map_of_mem (List.getElem_mem hj))
  · intro h x hx
    obtain ⟨y, hy, rfl⟩ := List.mem_map.1 hx
    obtain ⟨i, hi, rfl⟩ := List.mem_iff_getElem.1 hy
    exact h i hi
theorem th_all {n : Int} {A : Int → Bool} (xs : List LTh) : (xs.map LTh.pu).all (thG n A) = true ↔ ∀ j (hj : j < xs.length), thG n A xs[j].pu = true := by
  rw [List.all_eq_true]
  constructor
  · intro h j hj
    exact h _ (List.mem_map_of_mem (List.getElem_mem hj))
  · intro h x hx
    obtain ⟨y, hy, rfl⟩ := List.mem_map.1 hx
    obtain ⟨i, hi, rfl⟩ := List.mem_iff_getElem.1 hy
    exact h i hi
theorem ok_parts (u : LB) (m : LNd) : okNd u.cs m.pu = (ebC u.cs && (decide (m.h.length ≤ 2000) && (decide (m.s.length ≤ 400) && (clG u.ks.length (inH m.h.length) m.c.pu && ((m.s.map LFr.pu).all (frG u.ks.length (inH m.h.length)) && (m.h.map LTh.pu).all (thG u.ks.length (inH m.h.length))))))) := by
  have h1 : u.cs.length = u.ks.length := by simp [LB.cs]
  have h2 : m.pu.2.2.length = m.h.length := by simp [LNd.pu]
  have h3 : m.pu.2.1.length = m.s.length := by simp [LNd.pu]
  unfold okNd ndG
  rw [h1, h2, h3]
  rfl

set_option maxRecDepth 100000 in
set_option maxHeartbeats 4000000 in
theorem spec_l09Ok (u : LB) (m : LNd) (w : World) (b bm : Nat) (hu : bOk w u) (hb : BoxB w b u) (hx : ndAt w bm 0 m) (hs : smN m) : Calls Tryd.prog 29 #[.pointer (some ⟨b, 0, none⟩), .pointer (some ⟨bm, 0, none⟩)] w (BoolGw (okNd u.cs m.pu) w) := by
  have hul := hu.len
  have AX := Lib.hid hx
  have BB := Lib.hid hb
  have SM := Lib.hid hs
  have OP := ok_parts u m
  have p6 := hx.1 6 _ rfl
  rw [Nat.zero_add] at p6
  obtain ⟨n, hn⟩ : ∃ n, n = m.h.length := ⟨_, rfl⟩
  obtain ⟨s, hsl⟩ : ∃ n, n = m.s.length := ⟨_, rfl⟩
  have hn1 : n ≤ 1048576 := by rw [hn]; exact hs.2.2.2.1
  have hs1 : s ≤ 1048576 := by rw [hsl]; exact hs.2.2.2.2
  rw [← hn] at p6 OP
  rw [← hsl] at OP
  have HN := Lib.hid hn
  have HS := Lib.hid hsl
  have KB0 := spec_l09Book u w b hu hb
  clear hu hb hx hs hn hsl
  cases h1 : ebC u.cs with
  | false =>
    rw [h1] at KB0
    have KB := Lib.hid KB0
    have F := Lib.hid (show okNd u.cs m.pu = false by rw [OP, h1]; rfl)
    clear KB0 h1 OP
    go_enter Tryd.func29, Tryd.ntmps29
    go_wp2_with fail
    refine KB.out.mono ?_
    rintro e w1 ⟨rfl, g1⟩
    clear p6
    go_wp2_with fail
    go_ret
    exact ⟨ret_b F.out.symm, g1⟩
  | true =>
  rw [h1] at KB0 OP
  have KB := Lib.hid KB0
  clear KB0 h1
  by_cases h2 : n ≤ 2000
  rotate_left
  · have z2 : decide ((2000 : Int) < (n : Int)) = true := decide_eq_true (by omega)
    have F := Lib.hid (show okNd u.cs m.pu = false by rw [OP, decide_eq_false h2]; rfl)
    clear OP h2
    go_enter Tryd.func29, Tryd.ntmps29
    go_wp2_with fail
    refine KB.out.mono ?_
    rintro e w1 ⟨rfl, g1⟩
    clear p6
    go_wp2_with fail
    go_ret
    exact ⟨ret_b F.out.symm, g1⟩
  have z2 : decide ((2000 : Int) < (n : Int)) = false := decide_eq_false (by omega)
  rw [decide_eq_true h2] at OP
  clear h2
  by_cases h3 : s ≤ 400
  rotate_left
  · have z3 : decide ((400 : Int) < (s : Int)) = true := decide_eq_true (by omega)
    have F := Lib.hid (show okNd u.cs m.pu = false by rw [OP, decide_eq_false h3]; rfl)
    clear OP h3
    go_enter Tryd.func29, Tryd.ntmps29
    go_wp2_with fail
    refine KB.out.mono ?_
    rintro e w1 ⟨rfl, g1⟩
    clear p6
    have p5 := (AX.out.grow ndGr g1).1 5 _ rfl
    rw [Nat.zero_add, ← HS.out] at p5
    go_wp2_with fail
    go_ret
    exact ⟨ret_b F.out.symm, g1⟩
  have z3 : decide ((400 : Int) < (s : Int)) = false := decide_eq_false (by omega)
  rw [decide_eq_true h3] at OP
  clear h3
  have KC0 := fun (W : World) (g : Gw w W) => spec_l09Cl u m.c n W b bm 0 (BB.out.grow g) ((AX.out.grow ndGr g).nc) hn1 SM.out.1
  cases h4 : clG u.ks.length (inH n) m.c.pu with
  | false =>
    rw [h4] at KC0
    have KC := Lib.hid KC0
    have F := Lib.hid (show okNd u.cs m.pu = false by rw [OP, h4]; rfl)
    clear KC0 h4 OP
    go_enter Tryd.func29, Tryd.ntmps29
    go_wp2_with fail
    refine KB.out.mono ?_
    rintro e w1 ⟨rfl, g1⟩
    clear p6
    have p5 := (AX.out.grow ndGr g1).1 5 _ rfl
    rw [Nat.zero_add, ← HS.out] at p5
    go_wp2_with fail
    refine (KC.out w1 g1).mono ?_
    rintro e w2 ⟨rfl, g2⟩
    clear p5
    go_wp2_with fail
    go_ret
    exact ⟨ret_b F.out.symm, g1.trans g2⟩
  | true =>
  rw [h4] at KC0 OP
  have KC := Lib.hid KC0
  have HOP := Lib.hid OP
  clear KC0 h4 OP
  go_enter Tryd.func29, Tryd.ntmps29
  go_wp2_with fail
  refine KB.out.mono ?_
  rintro e w1 ⟨rfl, g1⟩
  clear p6
  have p5 := (AX.out.grow ndGr g1).1 5 _ rfl
  rw [Nat.zero_add, ← HS.out] at p5
  go_wp2_with fail
  refine (KC.out w1 g1).mono ?_
  rintro e w2 ⟨rfl, g2⟩
  have G2 := Lib.hid (g1.trans g2)
  clear p5 g1 g2 z2 z3 KB KC
  go_wp2_with fail
  go_loopw [6] (fun i wr => ∃ j : Nat, j ≤ s ∧ i = .int .i64 j ∧ Gw w wr ∧ ∀ x (hx : x < m.s.length), x < j → frG u.ks.length (inH n) m.s[x].pu = true) (fun i _ => s - (intOf i).toNat)
  case atStart => exact ⟨0, by omega, rfl, G2.out, fun i _ h => absurd h (by omega)⟩
  case round =>
    obtain ⟨j, hj, rfl, hg, hall⟩ := hrel
    have HALL := Lib.hid hall
    have HG := Lib.hid hg
    clear hall
    have p5 := (AX.out.grow ndGr hg).1 5 _ rfl
    rw [Nat.zero_add, ← HS.out] at p5
    by_cases hlt : j < s
    · have hjx : j < m.s.length := by have := HS.out; omega
      obtain ⟨bk, ok, ea, hkx⟩ := gAt.row (gSl.grow frLen frGr AX.out.2.2.1 hg) j hjx
      rw [ea] at p5
      have s0 : (0 : Int) ≤ j := by omega
      have s1 : (j : Int) < s := by omega
      have KF0 := spec_l09Fr u m.s[j] n wr b bk (ok + j * 8) hul (BB.out.grow hg) hkx hn1 (SM.out.2.1 _ (List.getElem_mem hjx))
      clear ea hkx hg
      cases hI : frG u.ks.length (inH n) m.s[j].pu with
      | false =>
        rw [hI] at KF0
        have KF := Lib.hid KF0
        have F := Lib.hid (show okNd u.cs m.pu = false by
          rw [HOP.out]
          have : (m.s.map LFr.pu).all (frG u.ks.length (inH n)) = false := by
            cases hq : (m.s.map LFr.pu).all (frG u.ks.length (inH n)) with
            | false => rfl
            | true => have := (fr_all m.s).1 hq j hjx; rw [hI] at this; cases this
          rw [this]; rfl)
        clear KF0 hI
        go_wp2_with fail
        refine KF.out.mono ?_
        rintro e w5 ⟨rfl, g5⟩
        clear p5
        go_wp2_with fail
        go_ret
        exact ⟨ret_b F.out.symm, HG.out.trans g5⟩
      | true =>
        rw [hI] at KF0
        have KF := Lib.hid KF0
        have HI := Lib.hid hI
        clear KF0 hI
        go_wp2_with fail
        refine KF.out.mono ?_
        rintro e w5 ⟨rfl, g5⟩
        have G5 := Lib.hid (HG.out.trans g5)
        clear p5 g5
        go_wp2_with fail
        go_roundw
        case rel =>
          refine ⟨j + 1, by omega, by go_num, G5.out, fun x hx hi => ?_⟩
          by_cases e : x = j
          · subst e; exact HI.out
          · exact HALL.out x hx (by omega)
        case measure => simp [intOf]; omega
    · obtain rfl : j = s := by omega
      have HOP2 := Lib.hid (show okNd u.cs m.pu = (m.h.map LTh.pu).all (thG u.ks.length (inH n)) by
        rw [HOP.out, (fr_all m.s).2 (fun x hx => HALL.out x hx (by have := HS.out; omega))]; simp)
      clear hg HALL
      go_wp2_with fail
      clear p5
      go_loopw [7] (fun i wr => ∃ j : Nat, j ≤ n ∧ i = .int .i64 j ∧ Gw w wr ∧ ∀ x (hx : x < m.h.length), x < j → thG u.ks.length (inH n) m.h[x].pu = true) (fun i _ => n - (intOf i).toNat)
      case atStart => exact ⟨0, by omega, rfl, HG.out, fun i _ h => absurd h (by omega)⟩
      case round =>
        clear HG
        obtain ⟨j2, hj2, rfl, hg, hall⟩ := hrel
        have HALL := Lib.hid hall
        have HG := Lib.hid hg
        clear hall
        have p6 := (AX.out.grow ndGr hg).1 6 _ rfl
        rw [Nat.zero_add, ← HN.out] at p6
        by_cases hlt : j2 < n
        · have hjx : j2 < m.h.length := by have := HN.out; omega
          obtain ⟨bk, ok, ea, hkx⟩ := gAt.row (gSl.grow thLen thGr AX.out.2.2.2 hg) j2 hjx
          rw [ea] at p6
          have s0 : (0 : Int) ≤ j2 := by omega
          have s1 : (j2 : Int) < n := by omega
          have TX := Lib.hid hkx
          have KF0 := spec_l09Cl u m.h[j2].c n wr b bk (ok + j2 * 6 + 1) (BB.out.grow hg) hkx.hc hn1 (SM.out.2.2.1 _ (List.getElem_mem hjx))
          have BAD := Lib.hid (show thG u.ks.length (inH n) m.h[j2].pu = false → okNd u.cs m.pu = false from fun hI => by
            rw [HOP2.out]
            cases hq : (m.h.map LTh.pu).all (thG u.ks.length (inH n)) with
            | false => rfl
            | true => have := (th_all m.h).1 hq j2 hjx; rw [hI] at this; cases this)
          have TE : thG u.ks.length (inH n) m.h[j2].pu = (clG u.ks.length (inH n) m.h[j2].c.pu && (!m.h[j2].b || valC m.h[j2].c.pu)) := rfl
          clear ea hkx hg
          cases hI : clG u.ks.length (inH n) m.h[j2].c.pu with
          | false =>
            rw [hI] at KF0
            have KF := Lib.hid KF0
            have F := Lib.hid (BAD.out (by rw [TE, hI]; rfl))
            clear KF0 hI TE
            go_wp2_with fail
            refine KF.out.mono ?_
            rintro e w5 ⟨rfl, g5⟩
            clear p6
            go_wp2_with fail
            go_ret
            exact ⟨ret_b F.out.symm, HG.out.trans g5⟩
          | true =>
            rw [hI] at KF0 TE
            have KF := Lib.hid KF0
            clear KF0 hI
            cases hd : m.h[j2].b with
            | false =>
              have HI := Lib.hid (show thG u.ks.length (inH n) m.h[j2].pu = true by rw [TE, hd]; rfl)
              have HD := Lib.hid hd
              clear TE hd
              go_wp2_with fail
              refine KF.out.mono ?_
              rintro e w5 ⟨rfl, g5⟩
              have G5 := Lib.hid (HG.out.trans g5)
              have t0 := (TX.out.grow thGr g5).1 0 _ rfl
              rw [Nat.add_zero, HD.out] at t0
              clear p6 g5
              go_wp2_with fail
              go_roundw
              case rel =>
                refine ⟨j2 + 1, by omega, by go_num, G5.out, fun x hx hi => ?_⟩
                by_cases e : x = j2
                · subst e; exact HI.out
                · exact HALL.out x hx (by omega)
              case measure => simp [intOf]; omega
            | true =>
              have HD := Lib.hid hd
              rw [hd] at TE
              clear hd
              cases hv : valC m.h[j2].c.pu with
              | false =>
                have F := Lib.hid (BAD.out (by rw [TE, hv]; rfl))
                have KV := Lib.hid (fun (W : World) (g : Gw wr W) => (by have := spec_l09Iv m.h[j2].c W bk (ok + j2 * 6 + 1) ((TX.out.grow thGr g).hc); rwa [hv] at this : Calls Tryd.prog 69 #[.pointer (some ⟨bk, ok + j2 * 6 + 1, none⟩)] W (BoolGw false W)))
                clear TE hv
                go_wp2_with fail
                refine KF.out.mono ?_
                rintro e w5 ⟨rfl, g5⟩
                have t0 := (TX.out.grow thGr g5).1 0 _ rfl
                rw [Nat.add_zero, HD.out] at t0
                clear p6
                go_wp2_with fail
                refine (KV.out w5 g5).mono ?_
                rintro e w6 ⟨rfl, g6⟩
                clear t0
                go_wp2_with fail
                go_ret
                exact ⟨ret_b F.out.symm, HG.out.trans (g5.trans g6)⟩
              | true =>
                have HI := Lib.hid (show thG u.ks.length (inH n) m.h[j2].pu = true by rw [TE, hv]; rfl)
                have KV := Lib.hid (fun (W : World) (g : Gw wr W) => (by have := spec_l09Iv m.h[j2].c W bk (ok + j2 * 6 + 1) ((TX.out.grow thGr g).hc); rwa [hv] at this : Calls Tryd.prog 69 #[.pointer (some ⟨bk, ok + j2 * 6 + 1, none⟩)] W (BoolGw true W)))
                clear TE hv
                go_wp2_with fail
                refine KF.out.mono ?_
                rintro e w5 ⟨rfl, g5⟩
                have t0 := (TX.out.grow thGr g5).1 0 _ rfl
                rw [Nat.add_zero, HD.out] at t0
                clear p6
                go_wp2_with fail
                refine (KV.out w5 g5).mono ?_
                rintro e w6 ⟨rfl, g6⟩
                have G5 := Lib.hid (HG.out.trans (g5.trans g6))
                clear t0 g5 g6
                go_wp2_with fail
                go_roundw
                case rel =>
                  refine ⟨j2 + 1, by omega, by go_num, G5.out, fun x hx hi => ?_⟩
                  by_cases e : x = j2
                  · subst e; exact HI.out
                  · exact HALL.out x hx (by omega)
                case measure => simp [intOf]; omega
        · obtain rfl : j2 = n := by omega
          have F := Lib.hid (show okNd u.cs m.pu = true by rw [HOP2.out]; exact (th_all m.h).2 (fun x hx => HALL.out x hx (by have := HN.out; omega)))
          clear hg
          go_wp2_with fail
          go_ret
          exact ⟨ret_b F.out.symm, HG.out⟩

theorem spec_validNd (u : LB) (m : LNd) (w : World) (hu : bOk w u) (hm : ndOk w m) (hs : smN m) : Calls Tryd.prog 8 #[u.val, m.val] w (BoolGw (okNd u.cs m.pu) w) := by
  have gA : Gw w ((w.alloc (.cells #[.slice u.a u.ks.length u.cap] 39)).alloc (.cells #[.int .i64 m.c.t.k, .int .i64 m.c.t.v, .slice m.c.t.da m.c.t.ds.length m.c.t.dc, .slice m.c.t.a m.c.t.ks.length m.c.t.cap, .slice m.c.ea m.c.e.length m.c.ec, .slice m.sa m.s.length m.sc, .slice m.ha m.h.length m.hc] 48)) := ((Gw.refl w).alloc _).alloc _
  have b0 := (BoxB.new w u 39).grow ((Gw.refl _).alloc (.cells #[.int .i64 m.c.t.k, .int .i64 m.c.t.v, .slice m.c.t.da m.c.t.ds.length m.c.t.dc, .slice m.c.t.a m.c.t.ks.length m.c.t.cap, .slice m.c.ea m.c.e.length m.c.ec, .slice m.sa m.s.length m.sc, .slice m.ha m.h.length m.hc] 48))
  have b1 : ndAt ((w.alloc (.cells #[.slice u.a u.ks.length u.cap] 39)).alloc (.cells #[.int .i64 m.c.t.k, .int .i64 m.c.t.v, .slice m.c.t.da m.c.t.ds.length m.c.t.dc, .slice m.c.t.a m.c.t.ks.length m.c.t.cap, .slice m.c.ea m.c.e.length m.c.ec, .slice m.sa m.s.length m.sc, .slice m.ha m.h.length m.hc] 48)) (w.alloc (.cells #[.slice u.a u.ks.length u.cap] 39)).heap.size 0 m := gAt.new ndGr (w := w.alloc (.cells #[.slice u.a u.ks.length u.cap] 39)) (cs := #[.int .i64 m.c.t.k, .int .i64 m.c.t.v, .slice m.c.t.da m.c.t.ds.length m.c.t.dc, .slice m.c.t.a m.c.t.ks.length m.c.t.cap, .slice m.c.ea m.c.e.length m.c.ec, .slice m.sa m.s.length m.sc, .slice m.ha m.h.length m.hc]) (e := 48) rfl (ndGr _ _ _ hm ((Gw.refl w).alloc _))
  rw [World.size_alloc] at b1
  have KEY := Lib.hid (spec_l09Ok u m _ _ _ (hu.grow gA) b0 b1 hs)
  have GA := Lib.hid gA
  clear hu hm hs gA b0 b1
  go_enter Tryd.func8, Tryd.ntmps8
  go_wp2_with fail
  refine KEY.out.mono ?_
  rintro e w1 ⟨rfl, g1⟩
  go_wp2_with fail
  go_ret
  exact ⟨rfl, GA.out.trans g1⟩

theorem spec_l09Dn (m : LNd) (w : World) (bm : Nat) (hx : ndAt w bm 0 m) : Calls Tryd.prog 63 #[.pointer (some ⟨bm, 0, none⟩)] w (BoolGw (doneC m.pu) w) := by
  have p5 := hx.1 5 _ rfl
  rw [Nat.zero_add] at p5
  have hl : m.s.length ≤ 9223372036854775807 := Nat.le_trans hx.2.2.1.1 hx.2.2.1.2.1
  have hd : doneC m.pu = (decide (m.s.length = 0) && valC m.c.pu) := by unfold doneC LNd.pu; simp
  have KV := Lib.hid (spec_l09Iv m.c w bm 0 hx.nc)
  clear hx
  by_cases h : m.s.length = 0
  · have F := Lib.hid (show doneC m.pu = valC m.c.pu by rw [hd, decide_eq_true h]; rfl)
    have z : ((m.s.length : Int) == 0) = true := beq_iff_eq.2 (by omega)
    clear h hd
    go_enter Tryd.func63, Tryd.ntmps63
    go_wp2_with fail
    refine KV.out.mono ?_
    rintro e w1 ⟨rfl, g1⟩
    rw [← F.out]
    clear p5
    go_wp2_with fail
    go_ret
    exact ⟨rfl, g1⟩
  · have F := Lib.hid (show doneC m.pu = false by rw [hd, decide_eq_false h]; rfl)
    have z : ((m.s.length : Int) == 0) = false := beq_eq_false_iff_ne.2 (by omega)
    clear h hd
    go_enter Tryd.func63, Tryd.ntmps63
    go_wp2_with fail
    go_ret
    exact ⟨ret_b F.out.symm, Gw.refl _⟩

theorem spec_finNd (u : LB) (m : LNd) (w : World) (hu : bOk w u) (hm : ndOk w m) (hs : smN m) : Calls Tryd.prog 23 #[u.val, m.val] w (BoolGw (okNd u.cs m.pu && doneC m.pu) w) := by
  have gA : Gw w ((w.alloc (.cells #[.slice u.a u.ks.length u.cap] 39)).alloc (.cells #[.int .i64 m.c.t.k, .int .i64 m.c.t.v, .slice m.c.t.da m.c.t.ds.length m.c.t.dc, .slice m.c.t.a m.c.t.ks.length m.c.t.cap, .slice m.c.ea m.c.e.length m.c.ec, .slice m.sa m.s.length m.sc, .slice m.ha m.h.length m.hc] 48)) := ((Gw.refl w).alloc _).alloc _
  have b0 := (BoxB.new w u 39).grow ((Gw.refl _).alloc (.cells #[.int .i64 m.c.t.k, .int .i64 m.c.t.v, .slice m.c.t.da m.c.t.ds.length m.c.t.dc, .slice m.c.t.a m.c.t.ks.length m.c.t.cap, .slice m.c.ea m.c.e.length m.c.ec, .slice m.sa m.s.length m.sc, .slice m.ha m.h.length m.hc] 48))
  have b1 : ndAt ((w.alloc (.cells #[.slice u.a u.ks.length u.cap] 39)).alloc (.cells #[.int .i64 m.c.t.k, .int .i64 m.c.t.v, .slice m.c.t.da m.c.t.ds.length m.c.t.dc, .slice m.c.t.a m.c.t.ks.length m.c.t.cap, .slice m.c.ea m.c.e.length m.c.ec, .slice m.sa m.s.length m.sc, .slice m.ha m.h.length m.hc] 48)) (w.alloc (.cells #[.slice u.a u.ks.length u.cap] 39)).heap.size 0 m := gAt.new ndGr (w := w.alloc (.cells #[.slice u.a u.ks.length u.cap] 39)) (cs := #[.int .i64 m.c.t.k, .int .i64 m.c.t.v, .slice m.c.t.da m.c.t.ds.length m.c.t.dc, .slice m.c.t.a m.c.t.ks.length m.c.t.cap, .slice m.c.ea m.c.e.length m.c.ec, .slice m.sa m.s.length m.sc, .slice m.ha m.h.length m.hc]) (e := 48) rfl (ndGr _ _ _ hm ((Gw.refl w).alloc _))
  rw [World.size_alloc] at b1
  have KEY0 := spec_l09Ok u m _ _ _ (hu.grow gA) b0 b1 hs
  have AX := Lib.hid b1
  have GA := Lib.hid gA
  clear hu hm hs gA b0 b1
  cases h : okNd u.cs m.pu with
  | false =>
    rw [h] at KEY0
    have KEY := Lib.hid KEY0
    clear KEY0 h
    go_enter Tryd.func23, Tryd.ntmps23
    go_wp2_with fail
    refine KEY.out.mono ?_
    rintro e w1 ⟨rfl, g1⟩
    go_wp2_with fail
    go_ret
    exact ⟨rfl, GA.out.trans g1⟩
  | true =>
    rw [h] at KEY0
    have KEY := Lib.hid KEY0
    clear KEY0 h
    rw [Bool.true_and]
    go_enter Tryd.func23, Tryd.ntmps23
    go_wp2_with fail
    refine KEY.out.mono ?_
    rintro e w1 ⟨rfl, g1⟩
    have KD := Lib.hid (spec_l09Dn m w1 _ (AX.out.grow ndGr g1))
    have G1 := Lib.hid (GA.out.trans g1)
    clear g1
    go_wp2_with fail
    refine KD.out.mono ?_
    rintro e w2 ⟨rfl, g2⟩
    go_wp2_with fail
    go_ret
    exact ⟨rfl, G1.out.trans g2⟩

end Go.Proofs.YtkpbiifikkbaeaaDoor.Con
