/-
  Contracts of the model's l06Refs, l06Book and ValidBook. Condition: the book lies in memory.
  Contracts of the model's l06Book and ValidBook. Condition: the book lies in memory.
-/
import Derived.Test.YtkpbiifikkbaeaaDoorBk
import Derived.Test.YtkpbiifikkbaeaaDoorCoPl
import Derived.Test.YtkpbiifikkbaeaaDoorCoPr
import Derived.Test.YtkpbiifikkbaeaaDoorCoEr
import Derived.Test.YtkpbiifikkbaeaaDoorReg
import Derived.Deep.RegionHeld3
import Derived.Deep.Cut
namespace Go.Proofs.YtkpbiifikkbaeaaDoor.Con
open Go.RowKit
set_option linter.unusedVariables false
attribute [local go_sem] Oper.semAt_some

/-- What a node names lies below n; and the same, of a node of a good form. -/
def refH (n : Int) (k v : Int) (ds : List Int) (_ : Nat) : Bool := !(k == 11 && decide (n ≤ v)) && ds.all fun d => decide (d < n)
def namH (n : Int) (k v : Int) (ds : List Int) (_ : Nat) : Bool := coD (namedC k v ds) n

theorem ref_nam {n k v : Int} {ds : List Int} {l : Nat} (h : headC k v ds l = true) : refH n k v ds l = namH n k v ds l := by
  unfold headC at h
  simp only [Bool.and_eq_true] at h
  obtain ⟨_, h2, h3, h4⟩ := h
  have hd : ∀ d ∈ ds, 0 ≤ d := fun d hm => by
    have := List.all_eq_true.1 h4 d hm
    unfold inV at this
    exact (of_decide_eq_true this).1
  unfold refH namH
  by_cases hk : k = 11
  · subst hk
    have hv : 0 ≤ v := by
      have h3' : inV v 0 23 = true := h3
      unfold inV at h3'
      exact (of_decide_eq_true h3').1
    have hz : ds = [] := by
      have h2' : inV ds.length 0 0 = true := h2
      unfold inV at h2'
      have := (of_decide_eq_true h2').2
      exact List.length_eq_zero_iff.1 (by omega)
    subst hz
    show (!(true && decide (n ≤ v)) && true) = (inV v 0 (n - 1) && true)
    unfold inV
    by_cases c : n ≤ v
    · rw [decide_eq_true c, decide_eq_false (by omega)]; rfl
    · rw [decide_eq_false c, decide_eq_true (by omega)]; rfl
  · have q : (k == 11) = false := by simpa using hk
    rw [q]
    unfold namedC
    rw [if_neg hk]
    show ds.all _ = ds.all _
    rw [Bool.eq_iff_iff, List.all_eq_true, List.all_eq_true]
    constructor
    · intro h x hx
      have := of_decide_eq_true (h x hx)
      have := hd x hx
      unfold inV
      exact decide_eq_true (by omega)
    · intro h x hx
      have := h x hx
      unfold inV at this
      have := of_decide_eq_true this
      exact decide_eq_true (by omega)

theorem all_nam (n : Int) (t : Co) : t.all headC = true → t.all (refH n) = t.all (namH n) := by
  refine Co.ind (P := fun t => t.all headC = true → t.all (refH n) = t.all (namH n)) (fun k v ds ks ih h => ?_) t
  rw [Co.all_eq, Bool.and_eq_true] at h
  rw [Co.all_eq, Co.all_eq, ref_nam h.1]
  congr 1
  have h2 := (calls_iff headC ks).1 h.2
  show Co.all.alls (refH n) ks = Co.all.alls (namH n) ks
  rw [Bool.eq_iff_iff, calls_iff, calls_iff]
  exact ⟨fun g t ht => (ih t ht (h2 t ht)) ▸ g t ht, fun g t ht => (ih t ht (h2 t ht)).symm ▸ g t ht⟩

def KRf (n : Int) (u : LK) : Prop := ∀ (w : World) (b o : Nat), coAt w b o u → Calls Tryd.prog 91 #[.pointer (some ⟨b, o, none⟩), .int .i64 n] w (BoolGw (u.co.all (refH n)) w)

theorem refH_head {n : Int} {u : LK} (h : u.k = 11) (hv : n ≤ u.v) : u.co.all (refH n) = false := by
  rw [Co.all_eq, u.co_k, u.co_v, h]
  unfold refH
  rw [decide_eq_true hv]; rfl
theorem refH_data {n : Int} {u : LK} (j : Nat) (hj : j < u.ds.length) (h : n ≤ u.ds[j]) : u.co.all (refH n) = false := by
  rw [Co.all_eq, u.co_ds]
  unfold refH
  rw [show (u.ds.all fun d => decide (d < n)) = false from List.all_eq_false.2 ⟨_, List.getElem_mem hj, by simpa using h⟩]
  simp
theorem refH_rest {n : Int} {u : LK} (h : ¬ (u.k = 11 ∧ n ≤ u.v)) (hd : ∀ x (hx : x < u.ds.length), u.ds[x] < n) : u.co.all (refH n) = Co.all.alls (refH n) u.co.ks := by
  rw [Co.all_eq, u.co_k, u.co_v, u.co_ds]
  have h1 : refH n u.k u.v u.ds u.co.ks.length = true := by
    unfold refH
    rw [Bool.and_eq_true]
    refine ⟨?_, List.all_eq_true.2 fun d hm => ?_⟩
    · rw [Bool.not_eq_true']
      by_cases hk : u.k = 11
      · rw [decide_eq_false (fun c => h ⟨hk, c⟩), Bool.and_false]
      · rw [show (u.k == 11) = false by simpa using hk, Bool.false_and]
    · obtain ⟨i, hi, rfl⟩ := List.mem_iff_getElem.1 hm
      exact decide_eq_true (hd i hi)
  rw [h1, Bool.true_and]

set_option maxRecDepth 100000 in
set_option maxHeartbeats 1000000 in
theorem krf_of (n : Int) (u : LK) (ih : ∀ t ∈ u.ks, KRf n t) : KRf n u := by
  intro w b o h
  have hll := h.2.kl
  have hdl := h.2.dl
  have A := Lib.hid h
  obtain ⟨p0, p1, p2, p3⟩ := h.c
  clear h
  by_cases hh : u.k = 11 ∧ n ≤ u.v
  · obtain ⟨h6, hv⟩ := hh
    have F := Lib.hid (refH_head h6 hv)
    have q : (u.k == 11) = true := by simpa using h6
    clear h6
    go_enter Tryd.func91, Tryd.ntmps91
    go_wp2_with fail
    go_ret
    exact ⟨ret_b F.out.symm, Gw.refl _⟩
  have HH := Lib.hid hh
  have hcs : ((u.k == 11) = true ∧ ¬ n ≤ u.v) ∨ (u.k == 11) = false := by
    by_cases h6 : u.k = 11
    · exact .inl ⟨by simpa using h6, fun c => hh ⟨h6, c⟩⟩
    · exact .inr (by simpa using h6)
  clear hh
  rcases hcs with ⟨q, qv⟩ | q <;> (
    go_enter Tryd.func91, Tryd.ntmps91
    go_wp2_with fail
    clear p0 p1 p2 p3 q
    try clear qv
    go_loopw [5] (fun i wr => ∃ j : Nat, j ≤ u.ds.length ∧ i = .int .i64 j ∧ Gw w wr ∧ ∀ x (hx : x < u.ds.length), x < j → u.ds[x] < n) (fun i _ => u.ds.length - (intOf i).toNat)
    case atStart => exact ⟨0, by omega, rfl, Gw.refl _, fun x _ h => absurd h (by omega)⟩
    case round =>
      obtain ⟨j, hj, rfl, hg, hall⟩ := hrel
      have HALL := Lib.hid hall
      have HG := Lib.hid hg
      have A3 := Lib.hid (A.out.grow hg)
      clear hall hg
      obtain ⟨p0, p1, p2, p3⟩ := A3.out.c
      by_cases hlt : j < u.ds.length
      · obtain ⟨bk, ok, ha, hrow⟩ := A3.out.2.dat.2.2.resolve_left (fun e => by rw [e] at hlt; simp at hlt)
        rw [ha] at p2
        obtain ⟨c0, _⟩ := numRow_get hrow j hlt
        have r0 : (0 : Int) ≤ j := by omega
        have r1 : (j : Int) < u.ds.length := by omega
        clear ha hrow
        by_cases hc : n ≤ u.ds[j]
        · have FF := Lib.hid (refH_data j hlt hc)
          go_wp2_with fail
          go_ret
          exact ⟨ret_b FF.out.symm, HG.out⟩
        · have HC := Lib.hid hc
          go_wp2_with fail
          go_roundw
          case rel =>
            refine ⟨j + 1, by omega, by go_num, HG.out, fun x hx hi => ?_⟩
            by_cases e : x = j
            · subst e; have := HC.out; omega
            · exact HALL.out x hx (by omega)
          case measure => simp [intOf]; omega
      · obtain rfl : j = u.ds.length := by omega
        have F := Lib.hid (refH_rest HH.out (fun x hx => HALL.out x hx hx))
        clear HALL
        have HG0 := Lib.hid HG.out
        clear HG
        go_wp2_with fail
        clear p0 p1 p2 p3
        go_loopw [6] (fun i wr => ∃ j : Nat, j ≤ u.ks.length ∧ i = .int .i64 j ∧ Gw w wr ∧ ∀ x (hx : x < u.ks.length), x < j → u.ks[x].co.all (refH n) = true) (fun i _ => u.ks.length - (intOf i).toNat)
        case atStart => exact ⟨0, by omega, rfl, HG0.out, fun x _ h => absurd h (by omega)⟩
        case round =>
          obtain ⟨j, hj, rfl, hg, hall⟩ := hrel
          have HALL := Lib.hid hall
          have HG := Lib.hid hg
          have A4 := Lib.hid (A.out.grow hg)
          clear hall hg
          obtain ⟨p0, p1, p2, p3⟩ := A4.out.c
          by_cases hlt : j < u.ks.length
          · obtain ⟨bk, ok, ha, hkid⟩ := coAt.kid A4.out.2.kids j hlt
            rw [ha] at p3
            have r0 : (0 : Int) ≤ j := by omega
            have r1 : (j : Int) < u.ks.length := by omega
            have KEY := Lib.hid (ih u.ks[j] (List.getElem_mem hlt) _ bk (ok + j * 4) hkid)
            clear ha hkid
            go_wp2_with fail
            refine KEY.out.mono ?_
            rintro e w3 ⟨rfl, g3⟩
            have G3 := Lib.hid (HG.out.trans g3)
            clear g3 KEY p0 p1 p2 p3
            cases hb : u.ks[j].co.all (refH n) with
            | false =>
              have FF := Lib.hid (calls_take (refH n) (ks := u.co.ks) (j := j) (by rw [u.co_len]; exact hlt) (by rw [u.co_kid j hlt]; exact hb))
              clear hb
              go_wp2_with fail
              go_ret
              exact ⟨ret_b (by rw [F.out, FF.out]), G3.out⟩
            | true =>
              have HB := Lib.hid hb
              clear hb
              go_wp2_with fail
              go_roundw
              case rel =>
                refine ⟨j + 1, by omega, by go_num, G3.out, fun x hx hi => ?_⟩
                by_cases e : x = j
                · subst e; exact HB.out
                · exact HALL.out x hx (by omega)
              case measure => simp [intOf]; omega
          · obtain rfl : j = u.ks.length := by omega
            have FF := Lib.hid (show Co.all.alls (refH n) u.co.ks = true from (calls_iff _ _).2 fun t ht => by
              rw [LK.co_ks] at ht
              obtain ⟨s, hs, rfl⟩ := List.mem_map.1 ht
              obtain ⟨i, hi, rfl⟩ := List.mem_iff_getElem.1 hs
              exact HALL.out i hi hi)
            go_wp2_with fail
            go_ret
            exact ⟨ret_b (by rw [F.out, FF.out]), HG.out⟩)

theorem krf_all (n : Int) (u : LK) : KRf n u := by
  refine LK.ind (P := KRf n) (fun k v da dc ds a cap ks ih => ?_) u
  exact krf_of n (.mk k v da dc ds a cap ks) ih

end Go.Proofs.YtkpbiifikkbaeaaDoor.Con

namespace Go.Proofs.YtkpbiifikkbaeaaDoor.Con
open Go.RowKit
set_option linter.unusedVariables false
attribute [local go_sem] Oper.semAt_some

def bkC (ts : List Co) : Bool := inV ts.length 1 24 && ts.all fun t => closC t && t.all (refH ts.length)
theorem bkC_len {ts : List Co} (h : inV ts.length 1 24 = false) : bkC ts = false := by unfold bkC; rw [h]; rfl
theorem bkC_bad {u : LB} (j : Nat) (hj : j < u.ks.length) (h : (closC u.ks[j].co && u.ks[j].co.all (refH u.ks.length)) = false) : bkC u.cs = false := by
  have hl : u.cs.length = u.ks.length := by simp [LB.cs]
  unfold bkC
  rw [show (u.cs.all fun t => closC t && t.all (refH u.cs.length)) = false from List.all_eq_false.2 ⟨u.ks[j].co, List.mem_map_of_mem (List.getElem_mem hj), by rw [hl, h]; simp⟩, Bool.and_false]
theorem bkC_yes {u : LB} (h0 : inV u.ks.length 1 24 = true) (h : ∀ j (hj : j < u.ks.length), (closC u.ks[j].co && u.ks[j].co.all (refH u.ks.length)) = true) : bkC u.cs = true := by
  have hl : u.cs.length = u.ks.length := by simp [LB.cs]
  unfold bkC
  rw [hl, h0, Bool.true_and]
  refine List.all_eq_true.2 fun t ht => ?_
  obtain ⟨s, hs, rfl⟩ := List.mem_map.1 ht
  obtain ⟨i, hi, rfl⟩ := List.mem_iff_getElem.1 hs
  exact h i hi

set_option maxRecDepth 100000 in
set_option maxHeartbeats 2000000 in
theorem spec_l06Book (u : LB) (w : World) (b : Nat) (h : bOk w u) (hB : BoxB w b u) : Calls Tryd.prog 88 #[.pointer (some ⟨b, 0, none⟩)] w (BoolGw (bkC u.cs) w) := by
  have hll := h.len
  have A := Lib.hid h
  have BB := Lib.hid hB
  have p0 := hB.c
  clear h hB
  go_enter Tryd.func88, Tryd.ntmps88
  go_wp2_with fail
  refine (specIn u.ks.length 1 24 _).mono ?_
  rintro e w1 ⟨rfl, rfl⟩
  cases hn : inV u.ks.length 1 24 with
  | false =>
    have F := Lib.hid (show bkC u.cs = false from bkC_len (by rw [show u.cs.length = u.ks.length by simp [LB.cs]]; exact hn))
    clear hn
    go_wp2_with fail
    go_ret
    exact ⟨ret_b F.out.symm, Gw.refl _⟩
  | true =>
  have HN := Lib.hid hn
  clear hn
  go_wp2_with fail
  clear p0
  go_loopw [3] (fun i wr => ∃ j : Nat, j ≤ u.ks.length ∧ i = .int .i64 j ∧ Gw w wr ∧ ∀ x (hx : x < u.ks.length), x < j → (closC u.ks[x].co && u.ks[x].co.all (refH u.ks.length)) = true) (fun i _ => u.ks.length - (intOf i).toNat)
  case atStart => exact ⟨0, by omega, rfl, Gw.refl _, fun x _ h => absurd h (by omega)⟩
  case round =>
    obtain ⟨j, hj, rfl, hg, hall⟩ := hrel
    have HALL := Lib.hid hall
    have HG := Lib.hid hg
    have p0 := (BB.out.grow hg).c
    clear hall
    by_cases hlt : j < u.ks.length
    · obtain ⟨bk, ok, ha, hkid⟩ := coAt.kid (A.out.grow hg) j hlt
      rw [ha] at p0
      have r0 : (0 : Int) ≤ j := by omega
      have r1 : (j : Int) < u.ks.length := by omega
      have HK := Lib.hid hkid
      have BD := Lib.hid (bkC_bad (u := u) j hlt)
      have hlb := cell_lt p0
      clear ha hkid hg
      go_wp2_with fail
      cases hc : closC u.ks[j].co with
      | false =>
        have FF := Lib.hid (BD.out (by rw [hc]; rfl))
        have HC := Lib.hid hc
        clear hc
        refine wp_region_held_drew (S := fun W => W.cell? ⟨b, 0, none⟩ = some (.slice (some ⟨bk, ok, none⟩) u.ks.length u.cap)) (by kernel_rfl) ?_ (fun hHeld => ?_)
        · exact p0
        refine wpAnyH_take (i := 0) (oi := { dst := some 20, op := _, type := _, pos := _, after := _, guard := _ }) (v := .pointer (some ⟨b, 0, none⟩)) rfl (by kernel_rfl) (by kernel_rfl) (by kernel_rfl) (fun _ _ _ h => h) (Or.inl ⟨by rfl, ?_⟩) (by assumption) ?_
        · intro w hSw; (try dsimp only at hSw); go_simp
        try simp only [Act.put, List.setIfInBounds_toArray, List.set_cons_zero, List.set_cons_succ]
        refine wpAnyH_take (i := 1) (oi := { dst := some 21, op := _, type := _, pos := _, after := _, guard := _ }) (v := .pointer (some ⟨b, 0, none⟩)) rfl (by kernel_rfl) (by kernel_rfl) (by kernel_rfl) (fun _ _ _ h => h) (Or.inl ⟨by rfl, ?_⟩) (by assumption) ?_
        · intro w hSw; (try dsimp only at hSw); go_simp
        try simp only [Act.put, List.setIfInBounds_toArray, List.set_cons_zero, List.set_cons_succ]
        refine wpAnyH_take (i := 2) (oi := { dst := some 22, op := _, type := _, pos := _, after := _, guard := _ }) (v := .pointer (some ⟨b, 0, none⟩)) rfl (by kernel_rfl) (by kernel_rfl) (by kernel_rfl) (fun _ _ _ h => h) (Or.inl ⟨by rfl, ?_⟩) (by assumption) ?_
        · intro w hSw; (try dsimp only at hSw); go_simp
        try simp only [Act.put, List.setIfInBounds_toArray, List.set_cons_zero, List.set_cons_succ]
        refine wpAnyH_take (i := 3) (oi := { dst := some 23, op := _, type := _, pos := _, after := _, guard := _ }) (v := .slice (some ⟨bk, ok, none⟩) u.ks.length u.cap) rfl (by kernel_rfl) (by kernel_rfl) (by kernel_rfl) (fun _ _ _ h => h) (Or.inl ⟨by rfl, ?_⟩) (by assumption) ?_
        · intro w hSw; (try dsimp only at hSw); go_simp
        try simp only [Act.put, List.setIfInBounds_toArray, List.set_cons_zero, List.set_cons_succ]
        refine wpAnyH_take (i := 4) (oi := { dst := some 24, op := _, type := _, pos := _, after := _, guard := _ }) (v := .int .i64 j) rfl (by kernel_rfl) (by kernel_rfl) (by kernel_rfl) (fun _ _ _ h => h) (Or.inl ⟨by rfl, ?_⟩) (by assumption) ?_
        · intro w hSw; (try dsimp only at hSw); go_simp
        try simp only [Act.put, List.setIfInBounds_toArray, List.set_cons_zero, List.set_cons_succ]
        refine wpAnyH_take (i := 5) (oi := { dst := some 25, op := _, type := _, pos := _, after := _, guard := _ }) (v := .pointer (some ⟨bk, ok + j * 4, none⟩)) rfl (by kernel_rfl) (by kernel_rfl) (by kernel_rfl) (fun _ _ _ h => h) (Or.inl ⟨by rfl, ?_⟩) (by assumption) ?_
        · intro w hSw; (try dsimp only at hSw); go_simp
        try simp only [Act.put, List.setIfInBounds_toArray, List.set_cons_zero, List.set_cons_succ]
        refine wpAnyH_ready (rs := [6]) (by kernel_rfl) (by simp) ?_
        refine AllReadyH.cons (o := { dst := some 26, op := _, type := _, pos := _, after := _, guard := _ }) rfl (fun K hK => ?_) AllReadyH.nil
        go_simp
        go_at_call 89
        refine (spec_l06Closed u.ks[j] _ bk (ok + j * 4) (HK.out.grow (Gw.refl wr).drew)).mono ?_
        rw [HC.out]
        rintro e w2 ⟨rfl, g2⟩
        have k2 : ∀ b o, b < wr.heap.size → w2.cell? ⟨b, o, none⟩ = wr.cell? ⟨b, o, none⟩ := fun b o h => (bcell g2).1 b o h
        go_wp2_with fail
        refine hK.out _ _ ((k2 _ _ hlb).trans p0) (fun hHeld => ?_)
        clear hK K
        try simp only [Act.put, List.setIfInBounds_toArray, List.set_cons_zero, List.set_cons_succ]
        refine wpAnyH_take (i := 7) (oi := { dst := some 27, op := _, type := _, pos := _, after := _, guard := _ }) (v := .bool true) rfl (by kernel_rfl) (by kernel_rfl) (by kernel_rfl) (fun _ _ _ h => h) (Or.inl ⟨by rfl, ?_⟩) (by assumption) ?_
        · intro w hSw; (try dsimp only at hSw); go_simp
        try simp only [Act.put, List.setIfInBounds_toArray, List.set_cons_zero, List.set_cons_succ]
        refine wpAnyH_take (i := 8) (oi := { dst := some 28, op := _, type := _, pos := _, after := _, guard := _ }) (v := .bool true) rfl (by kernel_rfl) (by kernel_rfl) (by kernel_rfl) (fun _ _ _ h => h) (Or.inl ⟨by rfl, ?_⟩) (by assumption) ?_
        · intro w hSw; (try dsimp only at hSw); go_simp
        try simp only [Act.put, List.setIfInBounds_toArray, List.set_cons_zero, List.set_cons_succ]
        refine wpAnyH_take (i := 9) (oi := { dst := some 29, op := _, type := _, pos := _, after := _, guard := _ }) (v := undef) rfl (by kernel_rfl) (by kernel_rfl) (by kernel_rfl) (fun _ _ _ h => h) (Or.inr ⟨by rfl, rfl⟩) (by assumption) ?_
        try simp only [Act.put, List.setIfInBounds_toArray, List.set_cons_zero, List.set_cons_succ]
        refine wpAnyH_take (i := 10) (oi := { dst := some 30, op := _, type := _, pos := _, after := _, guard := _ }) (v := undef) rfl (by kernel_rfl) (by kernel_rfl) (by kernel_rfl) (fun _ _ _ h => h) (Or.inr ⟨by rfl, rfl⟩) (by assumption) ?_
        try simp only [Act.put, List.setIfInBounds_toArray, List.set_cons_zero, List.set_cons_succ]
        refine wpAnyH_take (i := 11) (oi := { dst := some 31, op := _, type := _, pos := _, after := _, guard := _ }) (v := undef) rfl (by kernel_rfl) (by kernel_rfl) (by kernel_rfl) (fun _ _ _ h => h) (Or.inr ⟨by rfl, rfl⟩) (by assumption) ?_
        try simp only [Act.put, List.setIfInBounds_toArray, List.set_cons_zero, List.set_cons_succ]
        refine wpAnyH_take (i := 12) (oi := { dst := some 32, op := _, type := _, pos := _, after := _, guard := _ }) (v := undef) rfl (by kernel_rfl) (by kernel_rfl) (by kernel_rfl) (fun _ _ _ h => h) (Or.inr ⟨by rfl, rfl⟩) (by assumption) ?_
        try simp only [Act.put, List.setIfInBounds_toArray, List.set_cons_zero, List.set_cons_succ]
        refine wpAnyH_take (i := 13) (oi := { dst := some 33, op := _, type := _, pos := _, after := _, guard := _ }) (v := undef) rfl (by kernel_rfl) (by kernel_rfl) (by kernel_rfl) (fun _ _ _ h => h) (Or.inr ⟨by rfl, rfl⟩) (by assumption) ?_
        try simp only [Act.put, List.setIfInBounds_toArray, List.set_cons_zero, List.set_cons_succ]
        refine wpAnyH_take (i := 14) (oi := { dst := some 34, op := _, type := _, pos := _, after := _, guard := _ }) (v := undef) rfl (by kernel_rfl) (by kernel_rfl) (by kernel_rfl) (fun _ _ _ h => h) (Or.inr ⟨by rfl, rfl⟩) (by assumption) ?_
        try simp only [Act.put, List.setIfInBounds_toArray, List.set_cons_zero, List.set_cons_succ]
        refine wpAnyH_take (i := 15) (oi := { dst := some 35, op := _, type := _, pos := _, after := _, guard := _ }) (v := undef) rfl (by kernel_rfl) (by kernel_rfl) (by kernel_rfl) (fun _ _ _ h => h) (Or.inr ⟨by rfl, rfl⟩) (by assumption) ?_
        try simp only [Act.put, List.setIfInBounds_toArray, List.set_cons_zero, List.set_cons_succ]
        refine wpAnyH_take (i := 16) (oi := { dst := some 36, op := _, type := _, pos := _, after := _, guard := _ }) (v := undef) rfl (by kernel_rfl) (by kernel_rfl) (by kernel_rfl) (fun _ _ _ h => h) (Or.inr ⟨by rfl, rfl⟩) (by assumption) ?_
        try simp only [Act.put, List.setIfInBounds_toArray, List.set_cons_zero, List.set_cons_succ]
        refine wpAnyH_take (i := 17) (oi := { dst := some 37, op := _, type := _, pos := _, after := _, guard := _ }) (v := undef) rfl (by kernel_rfl) (by kernel_rfl) (by kernel_rfl) (fun _ _ _ h => h) (Or.inr ⟨by rfl, rfl⟩) (by assumption) ?_
        try simp only [Act.put, List.setIfInBounds_toArray, List.set_cons_zero, List.set_cons_succ]
        refine wpAnyH_take (i := 18) (oi := { dst := some 38, op := _, type := _, pos := _, after := _, guard := _ }) (v := undef) rfl (by kernel_rfl) (by kernel_rfl) (by kernel_rfl) (fun _ _ _ h => h) (Or.inr ⟨by rfl, rfl⟩) (by assumption) ?_
        try simp only [Act.put, List.setIfInBounds_toArray, List.set_cons_zero, List.set_cons_succ]
        refine wpAnyH_take (i := 19) (oi := { dst := some 39, op := _, type := _, pos := _, after := _, guard := _ }) (v := undef) rfl (by kernel_rfl) (by kernel_rfl) (by kernel_rfl) (fun _ _ _ h => h) (Or.inr ⟨by rfl, rfl⟩) (by assumption) ?_
        try simp only [Act.put, List.setIfInBounds_toArray, List.set_cons_zero, List.set_cons_succ]
        refine wpAnyH_take (i := 20) (oi := { dst := some 40, op := _, type := _, pos := _, after := _, guard := _ }) (v := undef) rfl (by kernel_rfl) (by kernel_rfl) (by kernel_rfl) (fun _ _ _ h => h) (Or.inr ⟨by rfl, rfl⟩) (by assumption) ?_
        try simp only [Act.put, List.setIfInBounds_toArray, List.set_cons_zero, List.set_cons_succ]
        refine wpAnyH_take (i := 21) (oi := { dst := some 41, op := _, type := _, pos := _, after := _, guard := _ }) (v := undef) rfl (by kernel_rfl) (by kernel_rfl) (by kernel_rfl) (fun _ _ _ h => h) (Or.inr ⟨by rfl, rfl⟩) (by assumption) ?_
        try simp only [Act.put, List.setIfInBounds_toArray, List.set_cons_zero, List.set_cons_succ]
        refine wpAnyH_take (i := 22) (oi := { dst := some 42, op := _, type := _, pos := _, after := _, guard := _ }) (v := .bool true) rfl (by kernel_rfl) (by kernel_rfl) (by kernel_rfl) (fun _ _ _ h => h) (Or.inl ⟨by rfl, ?_⟩) (by assumption) ?_
        · intro w hSw; (try dsimp only at hSw); go_simp
        try simp only [Act.put, List.setIfInBounds_toArray, List.set_cons_zero, List.set_cons_succ]
        refine wpAnyH_done (by kernel_rfl) ?_ _
        go_wp2_with fail
        go_ret
        exact ⟨ret_b FF.out.symm, HG.out.trans ((Gw.refl wr).drew.trans g2)⟩
      | true =>
        have HC := Lib.hid hc
        clear hc
        go_region_held3 (fun W => W.cell? ⟨b, 0, none⟩ = some (.slice (some ⟨bk, ok, none⟩) u.ks.length u.cap))
          (first | exact p0 | exact (k2 _ _ hlb).trans p0 | exact (k3 _ _ hlb).trans p0)
          (first
            | (go_at_call 89; refine (spec_l06Closed u.ks[j] _ bk (ok + j * 4) (by exact HK.out.grow (Gw.refl wr).drew)).mono ?_; rw [HC.out]; rintro e w2 ⟨rfl, g2⟩; have k2 : ∀ b o, b < wr.heap.size → w2.cell? ⟨b, o, none⟩ = wr.cell? ⟨b, o, none⟩ := fun b o h => (bcell g2).1 b o h)
            | (go_at_call 91; refine (krf_all u.ks.length u.ks[j] _ bk (ok + j * 4) (by exact HK.out.grow ((Gw.refl wr).drew.trans g2))).mono ?_; rintro e w3 ⟨rfl, g3⟩; have k3 : ∀ b o, b < wr.heap.size → w3.cell? ⟨b, o, none⟩ = wr.cell? ⟨b, o, none⟩ := fun b o h => ((bcell g3).1 b o (Nat.lt_of_lt_of_le h g2.size)).trans (k2 b o h)))
        have G3 := Lib.hid (HG.out.trans (((Gw.refl wr).drew.trans g2).trans g3))
        clear k2 k3 g2 g3
        cases hr : u.ks[j].co.all (refH u.ks.length) with
        | false =>
          have FF := Lib.hid (BD.out (by rw [hr, Bool.and_false]))
          clear hr
          go_wp2_with fail
          go_ret
          exact ⟨ret_b FF.out.symm, G3.out⟩
        | true =>
          have HR := Lib.hid hr
          clear hr
          go_wp2_with fail
          go_roundw
          case rel =>
            refine ⟨j + 1, by omega, by go_num, G3.out, fun x hx hi => ?_⟩
            by_cases e : x = j
            · subst e; rw [HC.out, HR.out]; rfl
            · exact HALL.out x hx (by omega)
          case measure => simp [intOf]; omega
    · obtain rfl : j = u.ks.length := by omega
      have FF := Lib.hid (bkC_yes HN.out (fun x hx => HALL.out x hx hx))
      clear hg
      go_wp2_with fail
      go_ret
      exact ⟨ret_b FF.out.symm, HG.out⟩

end Go.Proofs.YtkpbiifikkbaeaaDoor.Con
