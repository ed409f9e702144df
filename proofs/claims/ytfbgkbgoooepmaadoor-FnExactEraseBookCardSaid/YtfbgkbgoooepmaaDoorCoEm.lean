/-
  Contracts of the model's l08Left, l08Fits, l08Erase and EraseCore. Condition: the core term lies in memory; for l08Erase its nodes fit their kinds and its free variables are less than a bound.
-/
import Derived.Test.YtfbgkbgoooepmaaDoorCoPp
import Derived.Test.YtfbgkbgoooepmaaDoorCoIm
import Derived.Test.YtfbgkbgoooepmaaDoorCoAp
namespace Go.Proofs.YtfbgkbgoooepmaaDoor.Con
open Go.RowKit
set_option linter.unusedVariables false
attribute [local go_sem ↓] Go.wp_at_zero Go.wp_at_succ

def lfC (t : Co) (l : Nat) : Int := if t.nn ≤ l then (l : Int) - t.nn else -1
def KLf (u : LK) : Prop := ∀ (w : World) (b o l : Nat), coAt w b o u → l ≤ 1000 → Calls Tryd.prog 124 #[.pointer (some ⟨b, o, none⟩), .int .i64 l] w fun e w' => e = .returned (.int .i64 (lfC u.co l)) ∧ Gw w w'
theorem klf_of (u : LK) (ih : ∀ t ∈ u.ks, KLf t) : KLf u := by
  intro w b o l h hl
  have hll := h.2.kl
  have A := Lib.hid h
  have NE := Lib.hid (show (u.co.nn : Int) = 1 + cnns u.co.ks by rw [Co.nn_eq]; omega)
  have w1 : IntKind.i64.wrap ((l : Int) - 1) = (l : Int) - 1 := by unfold IntKind.wrap; simp [IntKind.signed, IntKind.bits]; omega
  clear h
  go_enter Tryd.func124, Tryd.ntmps124
  go_wp2_with fail
  go_loopw [1, 5] (fun s x wr => ∃ (j : Nat) (r : Int), j ≤ u.ks.length ∧ x = .int .i64 j ∧ s = .int .i64 r ∧ ((r = (l : Int) - (1 + cnns (u.co.ks.take j) : Nat) ∧ 0 ≤ r) ∨ (r = -1 ∧ (l : Int) < 1 + cnns (u.co.ks.take j))) ∧ Gw w wr) (fun _ x _ => u.ks.length - (intOf x).toNat)
  case atStart =>
    refine ⟨0, (l : Int) - 1, Nat.zero_le _, rfl, rfl, ?_, Gw.refl _⟩
    have e0 : cnns (u.co.ks.take 0) = 0 := by simp [cnns, Co.nn.nns]
    rw [e0]
    by_cases hl0 : 1 ≤ l
    · exact .inl ⟨by omega, by omega⟩
    · exact .inr ⟨by omega, by omega⟩
  case round =>
    obtain ⟨j, r, hj, rfl, rfl, hr, hg⟩ := hrel
    obtain ⟨p0, p1, p2, p3⟩ := (A.out.grow hg).c
    by_cases hlt : j < u.ks.length
    · have q0 : decide ((j : Int) < u.ks.length) = true := decide_eq_true (by omega)
      have ST := Lib.hid (show cnns (u.co.ks.take (j + 1)) = cnns (u.co.ks.take j) + u.ks[j].co.nn by
        rw [cnns_take u.co.ks j (by rw [u.co_len]; exact hlt), u.co_kid j hlt])
      have ML := Lib.hid (cnns_take_le u.co.ks (j + 1))
      by_cases hr0 : 0 ≤ r
      · have q1 := decide_eq_true hr0
        obtain ⟨bk, ok, ha, hkid⟩ := coAt.kid (A.out.grow hg).2.kids j hlt
        rw [ha] at p3
        obtain ⟨rn, hrn⟩ : ∃ n : Nat, r = n := ⟨r.toNat, by omega⟩
        subst hrn
        have RE := Lib.hid (show (rn : Int) = (l : Int) - (1 + cnns (u.co.ks.take j) : Nat) from (hr.resolve_right (fun e => by omega)).1)
        have HG := Lib.hid hg
        have IH2 := Lib.hid (ih u.ks[j] (List.getElem_mem hlt) wr _ _ rn hkid (by have := RE.out; omega))
        have hj1 : (j : Int) < u.ks.length := by omega
        have hj0 : (0 : Int) ≤ j := by omega
        have NR := Lib.hid (show ((lfC u.ks[j].co rn = (l : Int) - (1 + cnns (u.co.ks.take (j + 1)) : Nat) ∧ 0 ≤ lfC u.ks[j].co rn) ∨ (lfC u.ks[j].co rn = -1 ∧ (l : Int) < 1 + cnns (u.co.ks.take (j + 1)))) by
          have h1 := RE.out
          have h2 := ST.out
          unfold lfC
          by_cases hc : u.ks[j].co.nn ≤ rn
          · rw [if_pos hc]; exact .inl ⟨by omega, by omega⟩
          · rw [if_neg hc]; exact .inr ⟨rfl, by omega⟩)
        clear ha hkid p0 p1 p2 hr hg
        go_wp2_with fail
        refine IH2.out.mono ?_
        rintro e w1 ⟨rfl, g1⟩
        have G1 := Lib.hid (HG.out.trans g1)
        clear g1 p3
        generalize lfC u.ks[j].co rn = r1 at *
        go_wp2_with fail
        go_roundw
        case rel => exact ⟨j + 1, r1, by omega, by go_num, rfl, NR.out, G1.out⟩
        case measure => simp [intOf]; omega
      · have q1 := decide_eq_false hr0
        have F := Lib.hid (show lfC u.co l = r by
          obtain ⟨h1, h2⟩ := hr.resolve_left (fun e => hr0 e.2)
          have h3 := cnns_take_le u.co.ks j
          have h4 := NE.out
          unfold lfC
          rw [if_neg (by omega), h1])
        have HG := Lib.hid hg
        clear hr hr0 hg
        go_wp2_with fail
        go_ret
        exact ⟨ret_int F.out.symm, HG.out⟩
    · have q0 : decide ((j : Int) < u.ks.length) = false := decide_eq_false (by omega)
      have F := Lib.hid (show lfC u.co l = r by
        have h4 := NE.out
        have h5 : cnns (u.co.ks.take j) = cnns u.co.ks := by rw [List.take_of_length_le (by rw [u.co_len]; omega)]
        unfold lfC
        rcases hr with ⟨h1, h2⟩ | ⟨h1, h2⟩
        · rw [if_pos (by omega)]; omega
        · rw [if_neg (by omega), h1])
      have HG := Lib.hid hg
      clear hr hg
      go_wp2_with fail
      go_ret
      exact ⟨ret_int F.out.symm, HG.out⟩
theorem klf_all (u : LK) : KLf u := by
  refine LK.ind (P := KLf) (fun k v da dc ds a c ks ih => ?_) u
  exact klf_of (.mk k v da dc ds a c ks) ih
def fitC (t : Co) : Bool := decide (t.nn ≤ 400 ∧ t.dp ≤ 80)
theorem spec_fits (u : LK) (w : World) (b o : Nat) (h : coAt w b o u) (hd : u.co.dp ≤ 100000) : Calls Tryd.prog 113 #[.pointer (some ⟨b, o, none⟩)] w (BoolGw (fitC u.co) w) := by
  have KL := Lib.hid (klf_all u w b o 400 h (by omega))
  have A := Lib.hid h
  have HD := Lib.hid hd
  clear h hd
  by_cases hn : u.co.nn ≤ 400
  · have E := Lib.hid (show 0 ≤ lfC u.co 400 by unfold lfC; rw [if_pos hn]; omega)
    have hq : decide (0 ≤ lfC u.co 400) = true := decide_eq_true E.out
    have F := Lib.hid (show fitC u.co = decide ((u.co.dp : Int) ≤ 80) by
      unfold fitC
      by_cases h8 : u.co.dp ≤ 80
      · rw [decide_eq_true ⟨hn, h8⟩, decide_eq_true (by omega)]
      · rw [decide_eq_false (fun e => h8 e.2), decide_eq_false (by omega)])
    clear hn
    generalize lfC u.co 400 = r at *
    go_enter Tryd.func113, Tryd.ntmps113
    go_wp2_with fail
    refine KL.out.mono ?_
    rintro e w1 ⟨rfl, g1⟩
    have KD := Lib.hid (kdp_all u w1 b o (A.out.grow g1) HD.out)
    have G1 := Lib.hid g1
    clear g1
    go_wp2_with fail
    refine KD.out.mono ?_
    rintro e w2 ⟨rfl, rfl⟩
    go_wp2_with fail
    go_ret
    exact ⟨ret_b F.out.symm, G1.out⟩
  · have E := Lib.hid (show lfC u.co 400 = -1 by unfold lfC; rw [if_neg hn])
    have F := Lib.hid (show fitC u.co = false from decide_eq_false (fun e => hn e.1))
    clear hn
    rw [E.out] at KL
    go_enter Tryd.func113, Tryd.ntmps113
    go_wp2_with fail
    refine KL.out.mono ?_
    rintro e w1 ⟨rfl, g1⟩
    go_wp2_with fail
    go_ret
    exact ⟨ret_b F.out.symm, g1⟩

theorem vcCd_cl {t : Co} {d : Int} (hd : 0 ≤ d ∧ d ≤ 81) (hg : t.all headC = true ↔ t.hi ≤ 255) (hc : t.cl d = true) : vcCd t = if okC t = true then 0 else 4 := by
  have hf := fits_ok hd hg hc
  rw [vcCd_of hg]
  by_cases h : okC t = true
  · have h1 := hf.1 h
    have h2 := okC_good h
    rw [if_pos h, if_neg (by omega), if_neg (by have := hg.1 h2.1; omega)]
  · rw [if_neg h, if_pos]
    by_cases h1 : 400 < t.nn
    · exact .inl h1
    · by_cases h2 : 80 < t.dp
      · exact .inr h2
      · exact absurd (hf.2 ⟨by omega, by omega⟩) h

/-- What l08Erase gives: the erasure and 0, or the zero term and 4. -/
def ErP (w : World) (t : Co) (e : Ending) (w' : World) : Prop := ∃ (x : LK) (c : Int), e = .returned (.tuple #[x.val, .int .i64 c]) ∧ ((t.er = some x.co ∧ c = 0) ∨ (t.er = none ∧ c = 4 ∧ x.co = zeC)) ∧ x.New w.heap.size w' ∧ Gw w w'
def KErm (u : LK) : Prop := ∀ (w : World) (b o : Nat) (d : Int), coAt w b o u → u.co.all headC = true → u.co.cl d = true → 0 ≤ d → d + u.co.dp ≤ 82 → Calls Tryd.prog 81 #[.pointer (some ⟨b, o, none⟩)] w (ErP w u.co)

/-- The state of l08Erase's loop: R the result's block, T the one of the node that is built. -/
def ErRel (w : World) (u : LK) (da : Option Addr) (dc R T Bk : Nat) (i : Value) (wr : World) : Prop := ∃ (us : List LK) (v : Value), i = .int .i64 us.length ∧ us.length ≤ u.ks.length ∧ (∀ j (h : j < us.length) (h2 : j < u.ks.length), u.ks[j].co.er = some us[j].co) ∧ gApp 30 4 coE LK.Ok LK.bl Bk wr v us ∧
  wr.heap[R]? = some (.cells #[.int .i64 0, .int .i64 0, .slice none 0 0, .slice none 0 0] 30 (0, 0)) ∧ wr.heap[T]? = some (.cells #[.int .i64 u.k, .int .i64 u.v, .slice da u.ds.length dc, v] 30 (0, 0)) ∧ numNew (R + 1) wr da dc u.ds ∧ Gw w wr ∧ Bk ≤ wr.heap.size

theorem er_next {w wr wq w2 F : World} {u x : LK} {da : Option Addr} {dc R T Bk : Nat} {us : List LK} {va : Option Addr} {vc g cap : Nat}
    (HR : wr.heap[R]? = some (.cells #[.int .i64 0, .int .i64 0, .slice none 0 0, .slice none 0 0] 30 (0, 0))) (HA : gApp 30 4 coE LK.Ok LK.bl Bk wr (.slice va us.length vc) us) (HE : ∀ j (h : j < us.length) (h2 : j < u.ks.length), u.ks[j].co.er = some us[j].co) (hlt : us.length < u.ks.length) (HK : u.ks[us.length].co.er = some x.co)
    (HRT : R < Bk ∧ R ≠ T) (HT : wr.heap[T]? = some (.cells #[.int .i64 u.k, .int .i64 u.v, .slice da u.ds.length dc, .slice va us.length vc] 30 (0, 0))) (hD : numNew (R + 1) wr da dc u.ds) (hDT : ∀ y ∈ nbl nB da u.ds, y < Bk ∧ y ≠ T) (HTB : w.heap.size ≤ T ∧ T < Bk) (HG : Gw w wr) (HQ : Gw wr wq) (HN : x.New wr.heap.size wq) (HBW : w.heap.size ≤ Bk ∧ Bk ≤ wr.heap.size)
    (HO2 : w2.ownsRow Bk 30 4 (.slice (some ⟨g, 0, none⟩) (us.length + 1) cap) (us.length + 1) (us.flatMap coE ++ zeE)) (HG2 : (wq.alloc (.cells #[.int .i64 0, .int .i64 0, .slice none 0 0, .slice none 0 0] 30)).grownBy w2 (Value.slice va us.length vc).ownBlock) (HA2 : (Value.slice va us.length vc).ownBlock = some g ∨ g = (wq.alloc (.cells #[.int .i64 0, .int .i64 0, .slice none 0 0, .slice none 0 0] 30)).heap.size) (HF : AppF w2 F g T us.length x (.slice (some ⟨g, 0, none⟩) (us.length + 1) cap)) :
    ErRel w u da dc R T Bk (.int .i64 (us.length + 1)) F := by
  have gA : Gw wr (wq.alloc (.cells #[.int .i64 0, .int .i64 0, .slice none 0 0, .slice none 0 0] 30)) := HQ.alloc _
  have P := gApp.put1 HA gA (HN.grow coGr ((Gw.refl wq).alloc (.cells #[.int .i64 0, .int .i64 0, .slice none 0 0, .slice none 0 0] 30))) (Nat.le_refl _) HBW.2 HO2 HG2 (HA2.imp id (fun e => by omega)) HTB.2 HF
  obtain ⟨hf0, hf1, hf2, hf3⟩ := HF
  have hs := gA.size
  have hv : ∀ y, (Value.slice va us.length vc).ownBlock = some y → Bk ≤ y := fun y hy => (HA.1.lt y hy).1
  have gB : Bk ≤ g := by
    rcases HA2 with e | e
    · exact hv g e
    · omega
  have key2 : ∀ b, b < Bk → w2.heap[b]? = wr.heap[b]? := fun b h => (HG2.block b (by omega) (fun e => by have := hv b e.symm; omega)).trans (gA.block b (by omega))
  have key : ∀ b, b < Bk → b ≠ T → F.heap[b]? = wr.heap[b]? := fun b h hb => (hf3 b (by omega) hb).trans (key2 b h)
  refine ⟨us ++ [x], .slice (some ⟨g, 0, none⟩) (us.length + 1) cap, by rw [List.length_append]; rfl, by rw [List.length_append, List.length_singleton]; omega, fun j h h2 => ?_, P, (key R HRT.1 HRT.2).trans HR, ?_, ?_, ?_, ?_⟩
  · by_cases hj : j < us.length
    · rw [List.getElem_append_left hj]; exact HE j hj h2
    · have : j = us.length := by simp at h; omega
      subst this
      simp only [List.getElem_append_right (Nat.le_refl _), Nat.sub_self, List.getElem_cons_zero]
      exact HK
  · rw [hf2]
    have := (key2 T HTB.2).trans HT
    simp [World.setCell, Array.getElem?_modify, this]
  · exact gNewSl.same (by decide) nLen nFr hD fun y hy => key y (hDT y hy).1 (hDT y hy).2
  · obtain ⟨e1, e2, e3, e4⟩ := hf0
    exact ⟨e1.trans (HG2.os.trans (gA.os.trans HG.os)), e2.trans (HG2.tape.trans (gA.tape.trans HG.tape)), e3.trans (HG2.output.trans (gA.output.trans HG.output)), by have := HG2.size; have := HG.size; omega, fun b hb => (key b (by omega) (by omega)).trans (HG.block b hb)⟩
  · have := HG2.size
    have := hf0.2.2.2
    omega

set_option maxRecDepth 100000 in
set_option maxHeartbeats 4000000 in
theorem erm_of (u : LK) (ih : ∀ t ∈ u.ks, KErm t) : KErm u := by
  intro w b o d h hok hcl hd0 hd1
  obtain ⟨i0, hi, hz0, hz1, hz2⟩ := info_parts infoK
  have HI := Lib.hid hi
  have HZ0 := Lib.hid hz0
  have HZ1 := Lib.hid hz1
  have HZ2 := Lib.hid hz2
  clear hi hz0 hz1 hz2
  have hH := head_of hok
  have HH := Lib.hid hH
  obtain ⟨s1, s2, s3, s4⟩ := headC_sm hH
  have HOK := Lib.hid hok
  have HCL := Lib.hid hcl
  have A := Lib.hid h
  have hdpa := Co.dp_pos u.co
  have hll := h.2.kl
  have gR := (Gw.refl w).alloc (.cells #[.int .i64 0, .int .i64 0, .slice none 0 0, .slice none 0 0] 30)
  have hR := heap_alloc_new w (.cells #[.int .i64 0, .int .i64 0, .slice none 0 0, .slice none 0 0] 30)
  have A1 := Lib.hid (h.grow gR)
  have GR := Lib.hid gR
  have HR := Lib.hid hR
  have LD := Lib.hid (show u.ds.length ≤ 1000000 by omega)
  have DB := Lib.hid (numSl.bd h.2.dat)
  clear h hok hcl gR hR hH
  go_enter Tryd.func81, Tryd.ntmps81
  go_upto_region 1 with (fail)
  generalize w.alloc (.cells #[.int .i64 0, .int .i64 0, .slice none 0 0, .slice none 0 0] 30) = w1 at *
  obtain ⟨p0, p1, p2, p3⟩ := A1.out.c
  have lA := A1.out.lt
  have HR1 := Lib.hid (Array.getElem?_eq_some_iff.1 HR.out).1
  go_cut [4] from 4 to 21 (fun t7 wx => ∃ (T : Nat) (da : Option Addr) (dc : Nat), t7 = .pointer (some ⟨T, 0, none⟩) ∧ w1.heap.size ≤ T ∧ wx.heap[T]? = some (.cells #[.int .i64 u.k, .int .i64 u.v, .slice da u.ds.length dc, .slice none 0 0] 30 (0, 0)) ∧ numNew w1.heap.size wx da dc u.ds ∧ (∀ y ∈ nbl nB da u.ds, y ≠ T) ∧ Gw w1 wx)
  case first =>
    refine wp_region_held_drew (S := fun W => W.cell? ⟨b, o, none⟩ = some (.int .i64 u.k) ∧ W.cell? ⟨b, o + 1, none⟩ = some (.int .i64 u.v) ∧ W.cell? ⟨b, o + 2, none⟩ = some (.slice u.da u.ds.length u.dc)) (by kernel_rfl) ?_ (fun hHeld => ?_)
    · exact ⟨p0, p1, p2⟩
    refine wpAnyH_take (i := 0) (oi := { dst := some 8, op := _, type := _, pos := _, after := _, guard := _ }) (v := .pointer (some ⟨b, o, none⟩)) rfl (by kernel_rfl) (by kernel_rfl) (by kernel_rfl) (fun _ _ _ h => h) (Or.inl ⟨by rfl, ?_⟩) (by assumption) ?_
    · intro w hSw; obtain ⟨p0, p1, p2⟩ := hSw; go_simp
    try simp only [Act.put, List.setIfInBounds_toArray, List.set_cons_zero, List.set_cons_succ]
    refine wpAnyH_take (i := 1) (oi := { dst := some 9, op := _, type := _, pos := _, after := _, guard := _ }) (v := .pointer (some ⟨b, o, none⟩)) rfl (by kernel_rfl) (by kernel_rfl) (by kernel_rfl) (fun _ _ _ h => h) (Or.inl ⟨by rfl, ?_⟩) (by assumption) ?_
    · intro w hSw; obtain ⟨p0, p1, p2⟩ := hSw; go_simp
    try simp only [Act.put, List.setIfInBounds_toArray, List.set_cons_zero, List.set_cons_succ]
    refine wpAnyH_take (i := 2) (oi := { dst := some 10, op := _, type := _, pos := _, after := _, guard := _ }) (v := .pointer (some ⟨b, o, none⟩)) rfl (by kernel_rfl) (by kernel_rfl) (by kernel_rfl) (fun _ _ _ h => h) (Or.inl ⟨by rfl, ?_⟩) (by assumption) ?_
    · intro w hSw; obtain ⟨p0, p1, p2⟩ := hSw; go_simp
    try simp only [Act.put, List.setIfInBounds_toArray, List.set_cons_zero, List.set_cons_succ]
    refine wpAnyH_take (i := 3) (oi := { dst := some 11, op := _, type := _, pos := _, after := _, guard := _ }) (v := .int .i64 u.k) rfl (by kernel_rfl) (by kernel_rfl) (by kernel_rfl) (fun _ _ _ h => h) (Or.inl ⟨by rfl, ?_⟩) (by assumption) ?_
    · intro w hSw; obtain ⟨p0, p1, p2⟩ := hSw; go_simp
    try simp only [Act.put, List.setIfInBounds_toArray, List.set_cons_zero, List.set_cons_succ]
    refine wpAnyH_take (i := 4) (oi := { dst := some 12, op := _, type := _, pos := _, after := _, guard := _ }) (v := .pointer (some ⟨b, o, none⟩)) rfl (by kernel_rfl) (by kernel_rfl) (by kernel_rfl) (fun _ _ _ h => h) (Or.inl ⟨by rfl, ?_⟩) (by assumption) ?_
    · intro w hSw; obtain ⟨p0, p1, p2⟩ := hSw; go_simp
    try simp only [Act.put, List.setIfInBounds_toArray, List.set_cons_zero, List.set_cons_succ]
    refine wpAnyH_take (i := 5) (oi := { dst := some 13, op := _, type := _, pos := _, after := _, guard := _ }) (v := .pointer (some ⟨b, o, none⟩)) rfl (by kernel_rfl) (by kernel_rfl) (by kernel_rfl) (fun _ _ _ h => h) (Or.inl ⟨by rfl, ?_⟩) (by assumption) ?_
    · intro w hSw; obtain ⟨p0, p1, p2⟩ := hSw; go_simp
    try simp only [Act.put, List.setIfInBounds_toArray, List.set_cons_zero, List.set_cons_succ]
    refine wpAnyH_take (i := 6) (oi := { dst := some 14, op := _, type := _, pos := _, after := _, guard := _ }) (v := .pointer (some ⟨b, o + 1, none⟩)) rfl (by kernel_rfl) (by kernel_rfl) (by kernel_rfl) (fun _ _ _ h => h) (Or.inl ⟨by rfl, ?_⟩) (by assumption) ?_
    · intro w hSw; obtain ⟨p0, p1, p2⟩ := hSw; go_simp
    try simp only [Act.put, List.setIfInBounds_toArray, List.set_cons_zero, List.set_cons_succ]
    refine wpAnyH_take (i := 7) (oi := { dst := some 15, op := _, type := _, pos := _, after := _, guard := _ }) (v := .int .i64 u.v) rfl (by kernel_rfl) (by kernel_rfl) (by kernel_rfl) (fun _ _ _ h => h) (Or.inl ⟨by rfl, ?_⟩) (by assumption) ?_
    · intro w hSw; obtain ⟨p0, p1, p2⟩ := hSw; go_simp
    try simp only [Act.put, List.setIfInBounds_toArray, List.set_cons_zero, List.set_cons_succ]
    refine wpAnyH_take (i := 8) (oi := { dst := some 16, op := _, type := _, pos := _, after := _, guard := _ }) (v := .pointer (some ⟨b, o, none⟩)) rfl (by kernel_rfl) (by kernel_rfl) (by kernel_rfl) (fun _ _ _ h => h) (Or.inl ⟨by rfl, ?_⟩) (by assumption) ?_
    · intro w hSw; obtain ⟨p0, p1, p2⟩ := hSw; go_simp
    try simp only [Act.put, List.setIfInBounds_toArray, List.set_cons_zero, List.set_cons_succ]
    refine wpAnyH_take (i := 9) (oi := { dst := some 17, op := _, type := _, pos := _, after := _, guard := _ }) (v := .pointer (some ⟨b, o, none⟩)) rfl (by kernel_rfl) (by kernel_rfl) (by kernel_rfl) (fun _ _ _ h => h) (Or.inl ⟨by rfl, ?_⟩) (by assumption) ?_
    · intro w hSw; obtain ⟨p0, p1, p2⟩ := hSw; go_simp
    try simp only [Act.put, List.setIfInBounds_toArray, List.set_cons_zero, List.set_cons_succ]
    refine wpAnyH_take (i := 10) (oi := { dst := some 18, op := _, type := _, pos := _, after := _, guard := _ }) (v := .pointer (some ⟨b, o + 2, none⟩)) rfl (by kernel_rfl) (by kernel_rfl) (by kernel_rfl) (fun _ _ _ h => h) (Or.inl ⟨by rfl, ?_⟩) (by assumption) ?_
    · intro w hSw; obtain ⟨p0, p1, p2⟩ := hSw; go_simp
    try simp only [Act.put, List.setIfInBounds_toArray, List.set_cons_zero, List.set_cons_succ]
    refine wpAnyH_take (i := 11) (oi := { dst := some 19, op := _, type := _, pos := _, after := _, guard := _ }) (v := .slice u.da u.ds.length u.dc) rfl (by kernel_rfl) (by kernel_rfl) (by kernel_rfl) (fun _ _ _ h => h) (Or.inl ⟨by rfl, ?_⟩) (by assumption) ?_
    · intro w hSw; obtain ⟨p0, p1, p2⟩ := hSw; go_simp
    try simp only [Act.put, List.setIfInBounds_toArray, List.set_cons_zero, List.set_cons_succ]
    refine wpAnyH_ready (rs := [12, 14]) (by kernel_rfl) (by simp) ?_
    refine AllReadyH.cons (o := { dst := some 20, op := _, type := _, pos := _, after := _, guard := _ }) rfl (fun K hK => ?_) (AllReadyH.cons (o := { dst := some 4, op := _, type := _, pos := _, after := _, guard := _ }) rfl (fun K hK => ?_) AllReadyH.nil)
    · go_simp
      go_at_call 104
      refine (spec_ownN u.ds _ u.da u.dc (coAt.grow A1.out (Gw.refl w1).drew).2.dat LD.out).mono ?_
      rintro e w2 ⟨vd, rfl, hvd, g2⟩
      obtain ⟨da, dc, rfl⟩ := IRow.form (L := u.ds) hvd
      have k2 : ∀ b o, b < w1.heap.size → w2.cell? ⟨b, o, none⟩ = w1.cell? ⟨b, o, none⟩ := fun b o h => (bcell g2).1 b o h
      have l2 : b < w2.heap.size := Nat.lt_of_lt_of_le lA g2.size
      go_wp2_with fail
      refine hK.out _ _ ⟨(k2 _ _ lA).trans p0, (k2 _ _ lA).trans p1, (k2 _ _ lA).trans p2⟩ (fun hHeld => ?_)
      clear hK K
      try simp only [Act.put, List.setIfInBounds_toArray, List.set_cons_zero, List.set_cons_succ]
      refine wpAnyH_take (i := 13) (oi := { dst := some 21, op := _, type := _, pos := _, after := _, guard := _ }) (v := .agg #[.int .i64 u.k, .int .i64 u.v, .slice da u.ds.length dc, .slice none 0 0]) rfl (by kernel_rfl) (by kernel_rfl) (by kernel_rfl) (fun _ _ _ h => h) (Or.inl ⟨by rfl, ?_⟩) (by assumption) ?_
      · intro w hSw; obtain ⟨p0, p1, p2⟩ := hSw; go_simp
      try simp only [Act.put, List.setIfInBounds_toArray, List.set_cons_zero, List.set_cons_succ]
      refine wpAnyH_ready (rs := [14]) (by kernel_rfl) (by simp) ?_
      refine AllReadyH.cons (o := { dst := some 4, op := _, type := _, pos := _, after := _, guard := _ }) rfl (fun K hK => ?_) AllReadyH.nil
      go_simp
      refine hK _ _ ⟨(World.cell?_alloc_lt _ _ _ l2).trans ((k2 _ _ lA).trans p0), (World.cell?_alloc_lt _ _ _ l2).trans ((k2 _ _ lA).trans p1), (World.cell?_alloc_lt _ _ _ l2).trans ((k2 _ _ lA).trans p2)⟩ (fun hHeld => ?_)
      clear hK K
      try simp only [Act.put, List.setIfInBounds_toArray, List.set_cons_zero, List.set_cons_succ]
      refine wpAnyH_ready (rs := [15]) (by kernel_rfl) (by simp) ?_
      refine AllReadyH.cons (o := { dst := none, op := _, type := _, pos := _, after := _, guard := _ }) rfl (fun K hK => ?_) AllReadyH.nil
      go_simp
      refine hK _ _ ⟨(World.cell?_alloc_lt _ _ _ l2).trans ((k2 _ _ lA).trans p0), (World.cell?_alloc_lt _ _ _ l2).trans ((k2 _ _ lA).trans p1), (World.cell?_alloc_lt _ _ _ l2).trans ((k2 _ _ lA).trans p2)⟩ (fun hHeld => ?_)
      clear hK K
      try simp only [Act.put, List.setIfInBounds_toArray, List.set_cons_zero, List.set_cons_succ]
      refine wpAnyH_done (by kernel_rfl) ?_ _
      go_wp2_with fail
      go_meet
      case rel =>
        have hn := (IRow.num hvd DB.out).1
        exact ⟨w2.heap.size, da, dc, rfl, g2.size, heap_alloc_new w2 _, gNewSl.grow nLen nGr hn ((Gw.refl w2).alloc _), fun y hy => by have := (hn.2.2 y hy).2.lt; omega, ((Gw.refl w1).drew.trans g2).alloc _⟩
    · go_simp
      refine hK _ _ ⟨(World.cell?_alloc_lt _ _ _ lA).trans p0, (World.cell?_alloc_lt _ _ _ lA).trans p1, (World.cell?_alloc_lt _ _ _ lA).trans p2⟩ (fun hHeld => ?_)
      clear hK K
      try simp only [Act.put, List.setIfInBounds_toArray, List.set_cons_zero, List.set_cons_succ]
      refine wpAnyH_ready (rs := [12]) (by kernel_rfl) (by simp) ?_
      refine AllReadyH.cons (o := { dst := some 20, op := _, type := _, pos := _, after := _, guard := _ }) rfl (fun K hK => ?_) AllReadyH.nil
      go_simp
      go_at_call 104
      refine (spec_ownN u.ds _ u.da u.dc (coAt.grow A1.out ((Gw.refl w1).alloc (.cells #[.int .i64 0, .int .i64 0, .slice none 0 0, .slice none 0 0] 30)).drew).2.dat LD.out).mono ?_
      rintro e w2 ⟨vd, rfl, hvd, g2⟩
      obtain ⟨da, dc, rfl⟩ := IRow.form (L := u.ds) hvd
      obtain ⟨z0, z1, z2, z3, y0, y1, y2, y3⟩ := zero_after g2
      have k2 : ∀ b o, b < w1.heap.size → w2.cell? ⟨b, o, none⟩ = w1.cell? ⟨b, o, none⟩ := fun b o h => ((bcell g2).1 b o (Nat.lt_of_lt_of_le h (by simp [World.drew]))).trans (World.cell?_alloc_lt _ _ _ h)
      have l2 : w1.heap.size < w2.heap.size := Nat.lt_of_lt_of_le (by simp [World.drew]) g2.size
      have hneb : b ≠ w1.heap.size := Nat.ne_of_lt lA
      go_wp2_with fail
      refine hK.out _ _ ⟨(k2 _ _ lA).trans p0, (k2 _ _ lA).trans p1, (k2 _ _ lA).trans p2⟩ (fun hHeld => ?_)
      clear hK K
      try simp only [Act.put, List.setIfInBounds_toArray, List.set_cons_zero, List.set_cons_succ]
      refine wpAnyH_take (i := 13) (oi := { dst := some 21, op := _, type := _, pos := _, after := _, guard := _ }) (v := .agg #[.int .i64 u.k, .int .i64 u.v, .slice da u.ds.length dc, .slice none 0 0]) rfl (by kernel_rfl) (by kernel_rfl) (by kernel_rfl) (fun _ _ _ h => h) (Or.inl ⟨by rfl, ?_⟩) (by assumption) ?_
      · intro w hSw; obtain ⟨p0, p1, p2⟩ := hSw; go_simp
      try simp only [Act.put, List.setIfInBounds_toArray, List.set_cons_zero, List.set_cons_succ]
      refine wpAnyH_ready (rs := [15]) (by kernel_rfl) (by simp) ?_
      refine AllReadyH.cons (o := { dst := none, op := _, type := _, pos := _, after := _, guard := _ }) rfl (fun K hK => ?_) AllReadyH.nil
      go_simp
      refine hK _ _ ⟨(far4 hneb).trans ((k2 _ _ lA).trans p0), (far4 hneb).trans ((k2 _ _ lA).trans p1), (far4 hneb).trans ((k2 _ _ lA).trans p2)⟩ (fun hHeld => ?_)
      clear hK K
      try simp only [Act.put, List.setIfInBounds_toArray, List.set_cons_zero, List.set_cons_succ]
      refine wpAnyH_done (by kernel_rfl) ?_ _
      go_wp2_with fail
      go_meet
      case rel =>
        have hn := (IRow.num hvd DB.out).1
        have hzs : ((w1.alloc (.cells #[.int .i64 0, .int .i64 0, .slice none 0 0, .slice none 0 0] 30)).drew).heap.size = w1.heap.size + 1 := by simp [World.drew]
        have hge : ∀ y ∈ nbl nB da u.ds, w1.heap.size + 1 ≤ y := fun y hy => by have := (hn.2.2 y hy).1; omega
        have hz : w2.heap[w1.heap.size]? = some (.cells #[.int .i64 0, .int .i64 0, .slice none 0 0, .slice none 0 0] 30 (0, 0)) := (g2.block _ (by simp [World.drew])).trans (heap_alloc_new w1 _)
        exact ⟨w1.heap.size, da, dc, rfl, Nat.le_refl _, by simp [World.setCell, Array.getElem?_modify, hz], gNewSl.same (by decide) nLen nFr (hn.mono (by omega)) fun y hy => by have := hge y hy; rw [Below.heap_setCell _ _ _ _ (by simp; omega), Below.heap_setCell _ _ _ _ (by simp; omega), Below.heap_setCell _ _ _ _ (by simp; omega), Below.heap_setCell _ _ _ _ (by simp; omega)], fun y hy => by have := hge y hy; omega, (((Below.setCell (Below.trans ((Gw.refl w1).alloc _).drew (Below.mono g2 (by omega))) (Nat.le_refl _) _).setCell (Nat.le_refl _) _).setCell (Nat.le_refl _) _).setCell (Nat.le_refl _) _⟩
  case rest =>
    obtain ⟨T, da, dc, rfl, hT0, hT, hD, hDT, g3⟩ := hcut
    have A3 := Lib.hid (A1.out.grow g3)
    have HT0 := Lib.hid hT0
    have HT := Lib.hid hT
    have HDT := Lib.hid hDT
    have G3 := Lib.hid (GR.out.trans g3)
    have R3 := Lib.hid ((g3.block _ HR1.out).trans HR.out)
    have HKV := Lib.hid (show cin64 u.k ∧ cin64 u.v from ⟨A.out.2.kin, A.out.2.vin⟩)
    have HRT := Lib.hid (show w.heap.size < T from Nat.lt_of_lt_of_le HR1.out hT0)
    have HDX := Lib.hid (show numNew (w.heap.size + 1) wc da dc u.ds from hD.mono HR1.out)
    have HTW := Lib.hid (show T < wc.heap.size from (Array.getElem?_eq_some_iff.1 hT).1)
    clear hT0 hT hD hDT g3 p0 p1 p2 p3
    obtain ⟨p0, p1, p2, p3⟩ := A3.out.c
    go_wp2_with fail
    obtain ⟨Bk, hBk0⟩ : ∃ Bk, Bk = wc.heap.size := ⟨_, rfl⟩
    have HB0 := Lib.hid hBk0
    clear p0 p1 p2 p3 hBk0
    go_loopw [5] (fun i wr => ErRel w u da dc w.heap.size T Bk i wr) (fun i _ => u.ks.length - (intOf i).toNat)
    case atStart => exact ⟨[], .slice none 0 0, rfl, Nat.zero_le _, (fun j h => by simp at h), gApp.nil _ _, R3.out, HT.out, HDX.out, G3.out, by rw [HB0.out]; exact Nat.le_refl _⟩
    case round =>
      obtain ⟨us, v, rfl, hle, hers, happ, hb0, hb2, hd, hg, hBk⟩ := hrel
      have HERS := Lib.hid hers
      have HA := Lib.hid happ
      have HRR := Lib.hid hb0
      have HTR := Lib.hid hb2
      have HD5 := Lib.hid hd
      have HG5 := Lib.hid hg
      have HBKR := Lib.hid hBk
      obtain ⟨va, vc, rfl⟩ := happ.form
      have A5 := Lib.hid (coAt.grow A.out hg)
      have HDX9 := Lib.hid (show ∀ y ∈ nbl nB da u.ds, y < Bk ∧ y ≠ T from fun y hy => ⟨by rw [HB0.out]; exact (HDX.out.2.2 y hy).2.lt, HDT.out y hy⟩)
      have HRT9 := Lib.hid (show w.heap.size < Bk ∧ w.heap.size ≠ T from ⟨by have := HRT.out; have := HTW.out; have := HB0.out; omega, Nat.ne_of_lt HRT.out⟩)
      have HTB9 := Lib.hid (show w.heap.size ≤ T ∧ T < Bk from ⟨by have := HRT.out; omega, by have := HTW.out; have := HB0.out; omega⟩)
      have HBW := Lib.hid (show w.heap.size ≤ Bk ∧ Bk ≤ wr.heap.size from ⟨by have := HRT9.out; omega, hBk⟩)
      clear hers happ hb0 hd hg hBk
      obtain ⟨p0, p1, p2, p3⟩ := A5.out.c
      by_cases hlt : us.length < u.ks.length
      · obtain ⟨bk, ok, ha, hkid⟩ := coAt.kid A5.out.2.kids us.length hlt
        rw [ha] at p3
        have q0 : (0 : Int) ≤ us.length := by omega
        have q1' : (us.length : Int) < u.ks.length := by omega
        have hdk := dp_kid (u := u) us.length hlt
        have hb1 := bndK_le u.k us.length
        have hck : u.ks[us.length].co.cl (d + bndK u.k us.length) = true := by
          have := HCL.out
          rw [cl_eq, Bool.and_eq_true, cls_get] at this
          have h3 := this.2 us.length (by rw [u.co_len]; exact hlt)
          rw [Nat.zero_add, u.co_kid us.length hlt, u.co_k] at h3
          exact h3
        have IH := Lib.hid (ih u.ks[us.length] (List.getElem_mem hlt) wr bk (ok + us.length * 4) (d + bndK u.k us.length) hkid (all_kid HOK.out us.length hlt) hck (by omega) (by omega))
        have LEN := Lib.hid (show us.length + 1 ≤ 4 by omega)
        clear ha hkid hdk hb2 hle p0 p1 p2 hck hb1
        go_wp2_with fail
        refine IH.out.mono ?_
        rintro e w4 ⟨x, c, rfl, hc, hnew, hg1⟩
        have RR4 := Lib.hid ((hg1.block _ (Array.getElem?_eq_some_iff.1 HRR.out).1).trans HRR.out)
        have G4 := Lib.hid (HG5.out.trans hg1)
        rcases hc with ⟨hk, rfl⟩ | ⟨hk, rfl, hz⟩
        · have HEK := Lib.hid hk
          have HQ := Lib.hid (show Gw wr (w4.alloc (x.obj 30)) from hg1.alloc _)
          have HN := Lib.hid (show x.New wr.heap.size (w4.alloc (x.obj 30)) from hnew.grow coGr ((Gw.refl w4).alloc _))
          have BX := Lib.hid (BoxK.new w4 x 30)
          have SZ4 := Lib.hid (show (w4.alloc (x.obj 30)).heap.size = w4.heap.size + 1 ∧ wr.heap.size ≤ w4.heap.size from ⟨by simp, hg1.size⟩)
          clear hk hnew hg1 IH p3 RR4 G4
          go_upto_region 6 with (fail)
          generalize w4.alloc (.cells #[.int .i64 x.k, .int .i64 x.v, .slice x.da x.ds.length x.dc, .slice x.a x.ks.length x.cap] 30) = wq at *
          obtain ⟨XB, hXB⟩ : ∃ y, y = w4.heap.size := ⟨_, rfl⟩
          rw [← hXB] at BX SZ4
          rw [← hXB]
          clear hXB
          have HTB := Lib.hid ((HQ.out.block T (by have := HTB9.out; have := HBW.out; omega)).trans HTR.out)
          have HOWN := Lib.hid (HA.out.grow coGr HQ.out).1
          have HBK := Lib.hid (show Bk ≤ wq.heap.size by have := HBW.out; have := HQ.out.size; omega)
          have hlT : T < wq.heap.size := by have := HTB9.out; have := HBK.out; omega
          have hlX : XB < wq.heap.size := BX.out.lt
          have HTO := Lib.hid (show (Value.slice va us.length vc).ownBlock ≠ some T from fun e => by have := (HA.out.1.lt T e).1; have := HTB9.out; omega)
          have HXO := Lib.hid (show (Value.slice va us.length vc).ownBlock ≠ some XB from fun e => by have := (HA.out.1.lt XB e).2; have := SZ4.out; omega)
          have HXT := Lib.hid (show XB ≠ T by have := HTB9.out; have := HBW.out; have := SZ4.out; omega)
          have y3 : wq.cell? ⟨T, 3, none⟩ = some (.slice va us.length vc) := cell_of_row _ _ 3 _ _ _ HTB.out
          obtain ⟨e0, e1, e2, e3⟩ := BX.out.c
          go_upto_region 8 with (fail)
          have y3 : wq.drew.cell? ⟨T, 3, none⟩ = some (.slice va us.length vc) := y3
          have e0 : wq.drew.cell? ⟨XB, 0, none⟩ = some (.int .i64 x.k) := e0
          have e1 : wq.drew.cell? ⟨XB, 1, none⟩ = some (.int .i64 x.v) := e1
          have e2 : wq.drew.cell? ⟨XB, 2, none⟩ = some (.slice x.da x.ds.length x.dc) := e2
          have e3 : wq.drew.cell? ⟨XB, 3, none⟩ = some (.slice x.a x.ks.length x.cap) := e3
          have HOWN := Lib.hid (show wq.drew.ownsRow Bk 30 4 (.slice va us.length vc) us.length (us.flatMap coE) from HOWN.out)
          have HBK := Lib.hid (show Bk ≤ wq.drew.heap.size from HBK.out)
          have hlT : T < wq.drew.heap.size := hlT
          have hlX : XB < wq.drew.heap.size := hlX
          have HTB := Lib.hid (show wq.drew.heap[T]? = _ from HTB.out)
          have HWD := Lib.hid (show Gw wq wq.drew from (Gw.refl wq).drew)
          obtain ⟨S, hS⟩ : ∃ S : Array Bool → World → Prop, S = fun L X => (L.getD 9 true = false → X.cell? ⟨T, 3, none⟩ = some (.slice va us.length vc)) ∧ X.cell? ⟨XB, 0, none⟩ = some (.int .i64 x.k) ∧ X.cell? ⟨XB, 1, none⟩ = some (.int .i64 x.v) ∧ X.cell? ⟨XB, 2, none⟩ = some (.slice x.da x.ds.length x.dc) ∧ X.cell? ⟨XB, 3, none⟩ = some (.slice x.a x.ks.length x.cap) := ⟨_, rfl⟩
          have HS := Lib.hid hS
          have HIND := Lib.hid (show ∀ i, i ≠ 9 → ∀ L X, S (L.setIfInBounds i true) X ↔ S L X from fun i hi L X => by rw [hS]; simp only; rw [getD_set_ne true hi])
          have SK := Lib.hid (show ∀ L X X', S L X → X'.heap[T]? = X.heap[T]? → X'.heap[XB]? = X.heap[XB]? → S L X' from fun L X X' h e1 e2 => by
            rw [hS] at h ⊢
            exact ⟨fun e => (World.cell?_of_block (a := ⟨T, 3, none⟩) e1).trans (h.1 e), (World.cell?_of_block (a := ⟨XB, 0, none⟩) e2).trans h.2.1, (World.cell?_of_block (a := ⟨XB, 1, none⟩) e2).trans h.2.2.1, (World.cell?_of_block (a := ⟨XB, 2, none⟩) e2).trans h.2.2.2.1, (World.cell?_of_block (a := ⟨XB, 3, none⟩) e2).trans h.2.2.2.2⟩)
          have s0 : S (Array.replicate 10 false) wq.drew := by rw [hS]; exact ⟨fun _ => y3, e0, e1, e2, e3⟩
          have hmx : Tryd.prog.follows .mixedOrders = true := by kernel_rfl
          clear hS
          refine any_plain (S := S) hmx ?_
          generalize wq.drew = wd at *
          refine anyL_take (i := 0) (oi := { dst := some 45, op := _, type := _, pos := _, after := _, guard := _ }) (v := .pointer (some ⟨T, 3, none⟩)) rfl (by kernel_rfl) (by kernel_rfl) (by kernel_rfl) (fun _ _ _ h => h) (HIND.out 0 (by decide)) (fun _ => True) (fun _ _ _ _ _ _ => trivial) trivial (Or.inl ⟨by rfl, ?hy0⟩) s0 ?rest0
          case hy0 =>
            rintro X _
            go_simp
          have s1 := (HIND.out 0 (by decide) _ _).2 s0
          clear s0
          try simp only [Act.put, List.setIfInBounds_toArray, List.set_cons_zero, List.set_cons_succ]
          refine anyL_take (i := 1) (oi := { dst := some 46, op := _, type := _, pos := _, after := _, guard := _ }) (v := .slice va us.length vc) rfl (by kernel_rfl) (by kernel_rfl) (by kernel_rfl) (fun _ _ _ h => h) (HIND.out 1 (by decide)) (fun L => L.getD 9 true = false) ?hG1 rfl (Or.inl ⟨by rfl, ?hy1⟩) s1 ?rest1
          case hG1 =>
            rintro L j h9 hi hj hne
            obtain ⟨g1, _⟩ := mem_ready.1 hi
            obtain ⟨g2, oj, hoj, hall⟩ := mem_ready.1 hj
            have n9 : j ≠ 9 := fun e => by
              subst e
              cases hoj
              exact getD_clash g1 (hall { on := 1, ground := .phase } (by simp) (by rfl))
            exact (getD_set_ne true n9).trans h9
          case hy1 =>
            rintro X ⟨L, h9, h⟩
            rw [HS.out] at h
            have c3 := h.1 h9
            clear h
            go_simp
          have s2 := (HIND.out 1 (by decide) _ _).2 s1
          clear s1
          try simp only [Act.put, List.setIfInBounds_toArray, List.set_cons_zero, List.set_cons_succ]
          refine anyL_take (i := 2) (oi := { dst := some 47, op := _, type := _, pos := _, after := _, guard := _ }) (v := x.val) rfl (by kernel_rfl) (by kernel_rfl) (by kernel_rfl) (fun _ _ _ h => h) (HIND.out 2 (by decide)) (fun _ => True) (fun _ _ _ _ _ _ => trivial) trivial (Or.inl ⟨by rfl, ?hy2⟩) s2 ?rest2
          case hy2 =>
            rintro X ⟨L, _, h⟩
            rw [HS.out] at h
            obtain ⟨_, c0, c1, c2, c3⟩ := h
            go_simp
          have s3 := (HIND.out 2 (by decide) _ _).2 s2
          clear s2
          try simp only [Act.put, List.setIfInBounds_toArray, List.set_cons_zero, List.set_cons_succ]
          refine anyL_take (i := 3) (oi := { dst := some 48, op := _, type := _, pos := _, after := _, guard := _ }) (v := .int .i64 us.length) rfl (by kernel_rfl) (by kernel_rfl) (by kernel_rfl) (fun _ _ _ h => h) (HIND.out 3 (by decide)) (fun _ => True) (fun _ _ _ _ _ _ => trivial) trivial (Or.inl ⟨by rfl, ?hy3⟩) s3 ?rest3
          case hy3 =>
            rintro X _
            go_simp
          have s4 := (HIND.out 3 (by decide) _ _).2 s3
          clear s3
          try simp only [Act.put, List.setIfInBounds_toArray, List.set_cons_zero, List.set_cons_succ]
          refine anyL_step (i := 4) (o := { dst := some 49, op := _, type := _, pos := _, after := _, guard := _ }) rfl (by kernel_rfl) (by rfl) (fun K hK => ?_)
          go_simp
          have s5 := (HIND.out 4 (by decide) _ _).2 (SK.out _ _ (wd.alloc (.cells #[.int .i64 0, .int .i64 0, .slice none 0 0, .slice none 0 0] 30)) s4 (Below.heap_alloc _ _ _ hlT) (Below.heap_alloc _ _ _ hlX))
          refine hK.out _ _ s5 ?_
          clear s4 hK K
          try simp only [Act.put, List.setIfInBounds_toArray, List.set_cons_zero, List.set_cons_succ]
          refine anyL_step (i := 5) (o := { dst := some 50, op := _, type := _, pos := _, after := _, guard := _ }) rfl (by kernel_rfl) (by rfl) (fun K hK => ?_)
          refine wp_append_lies _ _ _ 28 (by rfl) Bk 30 i0 _ 4 64 Tryd.underlying28 HI.out HZ0.out HZ1.out HZ2.out (by rfl) (by decide) (.slice va us.length vc) us.length (us.flatMap coE) (by rfl) (HOWN.out.alloc _) ⟨wd.heap.size, 0, none⟩ 1 1 [.int .i64 0, .int .i64 0, .slice none 0 0, .slice none 0 0] (by rfl) (by rfl) (World.news_of_block (heap_alloc_new wd _)) (one4 _ _ _ _ _ _ _ _) (by decide) (by unfold maxLen; have := LEN.out; omega) (by have := LEN.out; omega) (Nat.le_trans HBK.out (by simp)) _ rfl ?_
          intro g cap w2 hown2 hgr2 hat2 hlt2
          have HO2 := Lib.hid hown2
          have HG2 := Lib.hid hgr2
          have HA2 := Lib.hid hat2
          have kT : w2.heap[T]? = (wd.alloc (.cells #[.int .i64 0, .int .i64 0, .slice none 0 0, .slice none 0 0] 30)).heap[T]? := hgr2.block T (by simp; omega) (fun e => HTO.out e.symm)
          have kX : w2.heap[XB]? = (wd.alloc (.cells #[.int .i64 0, .int .i64 0, .slice none 0 0, .slice none 0 0] 30)).heap[XB]? := hgr2.block XB (by simp; omega) (fun e => HXO.out e.symm)
          have HGT := Lib.hid (show g ≠ T from fun e => by
            rcases hat2 with h | h
            · exact HTO.out (by rw [h, e])
            · simp at h; omega)
          have HGX := Lib.hid (show g ≠ XB from fun e => by
            rcases hat2 with h | h
            · exact HXO.out (by rw [h, e])
            · simp at h; omega)
          have s6 := (HIND.out 5 (by decide) _ _).2 (SK.out _ _ w2 s5 kT kX)
          have kT0 : w2.heap[T]? = wd.heap[T]? := kT.trans (Below.heap_alloc _ _ _ hlT)
          have y4 : w2.cell? ⟨T, 3, none⟩ = some (.slice va us.length vc) := (World.cell?_of_block (a := ⟨T, 3, none⟩) kT0).trans y3
          have f4 : w2.frozen? ⟨T, 3, none⟩ = false := by simp [World.frozen?, kT0, HTB.out]
          have room : ∀ j, j < 4 → (∃ v, w2.cell? ⟨g, us.length * 4 + j, none⟩ = some v) ∧ w2.frozen? ⟨g, us.length * 4 + j, none⟩ = false := fun j hj => by
            rcases hown2.2 with ⟨hc, _⟩ | ⟨g', cap', cur, hv, _, hg, hn, _, hs, _⟩
            · cases hc
            · injection hv with hv1 _ hv2
              injection hv1 with hv1
              injection hv1 with hv1
              subst hv1 hv2
              have hlt : us.length * 4 + j < cur.size := by omega
              exact ⟨⟨cur[us.length * 4 + j], by rw [cell_of_row _ _ _ _ _ _ hg, Array.getElem?_eq_getElem hlt]⟩, by simp [World.frozen?, hg]⟩
          obtain ⟨⟨v0, x0⟩, z0⟩ := room 0 (by omega)
          obtain ⟨⟨v1, x1⟩, z1⟩ := room 1 (by omega)
          obtain ⟨⟨v2, x2⟩, z2⟩ := room 2 (by omega)
          obtain ⟨⟨v3, x3⟩, z3⟩ := room 3 (by omega)
          rw [Nat.add_zero] at x0 z0
          refine hK.out _ _ s6 ?_
          clear s5 hK K hown2 hgr2 hat2 kT kX kT0 room
          try simp only [Act.put, List.setIfInBounds_toArray, List.set_cons_zero, List.set_cons_succ]
          have hix0 : (0 : Int) ≤ us.length := by omega
          have hix1 : (us.length : Int) < (us.length : Int) + 1 := by omega
          have hix2 : ¬ ((us.length : Int) + 1 ≤ us.length) := by omega
          refine anyL_take (i := 6) (oi := { dst := some 51, op := _, type := _, pos := _, after := _, guard := _ }) (v := .pointer (some ⟨g, us.length * 4, none⟩)) rfl (by kernel_rfl) (by kernel_rfl) (by kernel_rfl) (fun _ _ _ h => h) (HIND.out 6 (by decide)) (fun _ => True) (fun _ _ _ _ _ _ => trivial) trivial (Or.inl ⟨by rfl, ?hy6⟩) s6 ?rest6
          case hy6 =>
            rintro X _
            go_simp
          have s7 := (HIND.out 6 (by decide) _ _).2 s6
          clear s6
          try simp only [Act.put, List.setIfInBounds_toArray, List.set_cons_zero, List.set_cons_succ]
          clear hix0 hix1 hix2
          refine anyL_take (i := 8) (oi := { dst := some 52, op := _, type := _, pos := _, after := _, guard := _ }) (v := .pointer (some ⟨T, 3, none⟩)) rfl (by kernel_rfl) (by kernel_rfl) (by kernel_rfl) (fun _ _ _ h => h) (HIND.out 8 (by decide)) (fun _ => True) (fun _ _ _ _ _ _ => trivial) trivial (Or.inl ⟨by rfl, ?hy8⟩) s7 ?rest8
          case hy8 =>
            rintro X _
            go_simp
          have s8 := (HIND.out 8 (by decide) _ _).2 s7
          clear s7
          try simp only [Act.put, List.setIfInBounds_toArray, List.set_cons_zero, List.set_cons_succ]
          have keepX := Lib.hid (show ∀ X' : World, X'.heap[XB]? = w2.heap[XB]? → X'.cell? ⟨XB, 0, none⟩ = some (.int .i64 x.k) ∧ X'.cell? ⟨XB, 1, none⟩ = some (.int .i64 x.v) ∧ X'.cell? ⟨XB, 2, none⟩ = some (.slice x.da x.ds.length x.dc) ∧ X'.cell? ⟨XB, 3, none⟩ = some (.slice x.a x.ks.length x.cap) from fun X' e => by
            have h := s8
            rw [HS.out] at h
            obtain ⟨_, c0, c1, c2, c3⟩ := h
            exact ⟨(World.cell?_of_block (a := ⟨XB, 0, none⟩) e).trans c0, (World.cell?_of_block (a := ⟨XB, 1, none⟩) e).trans c1, (World.cell?_of_block (a := ⟨XB, 2, none⟩) e).trans c2, (World.cell?_of_block (a := ⟨XB, 3, none⟩) e).trans c3⟩)
          refine anyL_two (i := 7) (j := 9) (oi := { dst := none, op := _, type := _, pos := _, after := _, guard := _ }) (oj := { dst := none, op := _, type := _, pos := _, after := _, guard := _ }) rfl rfl (by kernel_rfl) (by rfl) (by rfl) (fun K hK => ?_) (fun K hK => ?_)
          · go_simp
            have hkT := setRow_far g T (fun e => HGT.out e.symm) (coE x) w2 (us.length * 4)
            have hkX := setRow_far g XB (fun e => HGX.out e.symm) (coE x) w2 (us.length * 4)
            have sM := SK.out _ _ (setRow w2 g (us.length * 4) (coE x)) ((HIND.out 7 (by decide) _ _).2 s8) hkT hkX
            rw [setRow_four] at sM
            refine hK.out _ _ sM ?_
            clear hkT hkX sM hK K x0 x1 x2 x3 z0 z1 z2 z3
            try simp only [Act.put, List.setIfInBounds_toArray, List.set_cons_zero, List.set_cons_succ]
            refine anyL_step (i := 9) (o := { dst := none, op := _, type := _, pos := _, after := _, guard := _ }) rfl (by kernel_rfl) (by rfl) (fun K hK => ?_)
            have y5 : (setRow w2 g (us.length * 4) (coE x)).cell? ⟨T, 3, none⟩ = some (.slice va us.length vc) := (World.cell?_of_block (a := ⟨T, 3, none⟩) (setRow_far g T (fun e => HGT.out e.symm) _ _ _)).trans y4
            have f5 : (setRow w2 g (us.length * 4) (coE x)).frozen? ⟨T, 3, none⟩ = false := by
              have := setRow_far g T (fun e => HGT.out e.symm) (coE x) w2 (us.length * 4)
              simp only [World.frozen?] at f4 ⊢
              rw [this]; exact f4
            rw [setRow_four] at y5 f5
            have hE1 : _ ∧ _ ∧ _ ∧ _ := keepX.out _ ((Below.heap_setCell (setRow w2 g (us.length * 4) (coE x)) ⟨T, 3, none⟩ (.slice (some ⟨g, 0, none⟩) (us.length + 1) cap) XB HXT.out).trans (setRow_far g XB (fun e => HGX.out e.symm) _ _ _))
            rw [setRow_four] at hE1
            go_simp
            refine hK.out _ _ (by rw [HS.out]; exact ⟨fun e => (by cases e), hE1⟩) ?_
            clear hK K y5 f5
            refine anyL_done (by kernel_rfl) ?_ _
            have HAF := Lib.hid (appF1 w2 g T us.length x (.slice (some ⟨g, 0, none⟩) (us.length + 1) cap) HGT.out)
            rw [setRow_four] at HAF
            go_wp2_with fail
            go_roundw
            case rel => exact er_next HRR.out HA.out HERS.out hlt HEK.out HRT9.out HTR.out HD5.out HDX9.out HTB9.out HG5.out (HQ.out.trans HWD.out) (HN.out.grow coGr HWD.out) HBW.out HO2.out HG2.out HA2.out HAF.out
            case measure => simp [intOf]; omega
          · go_simp
            have hE2 := keepX.out _ (Below.heap_setCell w2 ⟨T, 3, none⟩ (.slice (some ⟨g, 0, none⟩) (us.length + 1) cap) XB HXT.out)
            refine hK.out _ _ (by rw [HS.out]; exact ⟨fun e => (by cases e), hE2⟩) ?_
            clear hK K y4 f4 hE2
            try simp only [Act.put, List.setIfInBounds_toArray, List.set_cons_zero, List.set_cons_succ]
            refine anyL_step (i := 7) (o := { dst := none, op := _, type := _, pos := _, after := _, guard := _ }) rfl (by kernel_rfl) (by rfl) (fun K hK => ?_)
            have hx : ∀ o, (w2.setCell ⟨T, 3, none⟩ (.slice (some ⟨g, 0, none⟩) (us.length + 1) cap)).cell? ⟨g, o, none⟩ = w2.cell? ⟨g, o, none⟩ := fun o => World.cell?_setCell_other _ _ _ _ (fun e => HGT.out (by injection e with e; exact e.symm))
            have hf : ∀ o, (w2.setCell ⟨T, 3, none⟩ (.slice (some ⟨g, 0, none⟩) (us.length + 1) cap)).frozen? ⟨g, o, none⟩ = w2.frozen? ⟨g, o, none⟩ := fun o => by simp only [World.frozen?]; rw [Below.heap_setCell _ _ _ _ HGT.out]
            have x0' := (hx _).trans x0
            have x1' := (hx _).trans x1
            have x2' := (hx _).trans x2
            have x3' := (hx _).trans x3
            have z0' := (hf _).trans z0
            have z1' := (hf _).trans z1
            have z2' := (hf _).trans z2
            have z3' := (hf _).trans z3
            clear x0 x1 x2 x3 z0 z1 z2 z3 hx hf
            have hE3 := keepX.out _ ((setRow_far g XB (fun e => HGX.out e.symm) (coE x) (w2.setCell ⟨T, 3, none⟩ (.slice (some ⟨g, 0, none⟩) (us.length + 1) cap)) (us.length * 4)).trans (Below.heap_setCell w2 ⟨T, 3, none⟩ (.slice (some ⟨g, 0, none⟩) (us.length + 1) cap) XB HXT.out))
            rw [setRow_four] at hE3
            go_simp
            refine hK.out _ _ (by rw [HS.out]; exact ⟨fun e => (by cases e), hE3⟩) ?_
            clear hK K x0' x1' x2' x3' z0' z1' z2' z3'
            refine anyL_done (by kernel_rfl) ?_ _
            have HAF := Lib.hid (appF2 w2 g T us.length x (.slice (some ⟨g, 0, none⟩) (us.length + 1) cap) HGT.out)
            rw [setRow_four] at HAF
            go_wp2_with fail
            go_roundw
            case rel => exact er_next HRR.out HA.out HERS.out hlt HEK.out HRT9.out HTR.out HD5.out HDX9.out HTB9.out HG5.out (HQ.out.trans HWD.out) (HN.out.grow coGr HWD.out) HBW.out HO2.out HG2.out HA2.out HAF.out
            case measure => simp [intOf]; omega
        · have HEN := Lib.hid (show u.co.er = none from er_none_kid us.length (by rw [u.co_len]; exact hlt) (by rw [u.co_kid us.length hlt]; exact hk))
          have HQ := Lib.hid (show Gw w (w4.alloc (x.obj 30)) from G4.out.alloc _)
          have RQ := Lib.hid ((Below.heap_alloc w4 (x.obj 30) _ (Array.getElem?_eq_some_iff.1 RR4.out).1).trans RR4.out)
          clear hk hz hnew hg1 IH p3 RR4 G4
          go_upto_region 6 with (fail)
          generalize w4.alloc (.cells #[.int .i64 x.k, .int .i64 x.v, .slice x.da x.ds.length x.dc, .slice x.a x.ks.length x.cap] 30) = wq at *
          obtain ⟨r0, r1, r2, r3, rf0, rf1, rf2, rf3⟩ := zero_atP RQ.out
          go_wp2_with fail
          refine bodyPost_ret (v := .tuple #[zeK.val, .int .i64 4]) (by simp [results, Tryd.results81, go_sem, r0, r1, r2, r3]; exact ⟨rfl, rfl, ⟨rfl, rfl, rfl⟩, rfl, rfl, rfl⟩) rfl ⟨zeK, 4, rfl, .inr ⟨HEN.out, rfl, rfl⟩, zeK_new _ _, by_fourP HQ.out⟩
      · have hall : us.length = u.ks.length := by omega
        have HALL := Lib.hid hall
        obtain ⟨rs, hrs⟩ : ∃ rs, rs = us.map LK.co := ⟨_, rfl⟩
        have HRS := Lib.hid hrs
        have HER := Lib.hid (show u.co.er = if okC (erN u.k u.v u.ds rs) = true then some (erN u.k u.v u.ds rs) else none by
          have := er_kids (t := u.co) (rs := rs) (by rw [hrs, u.co_len]; simp [hall]) (fun i h1 h2 => by
            have h3 : i < us.length := by rw [u.co_len] at h1; omega
            have := HERS.out i h3 (by omega)
            rw [u.co_kid i (by omega), this]
            congr 1
            simp [hrs])
          rw [u.co_k, u.co_v, u.co_ds] at this
          exact this)
        have HOKS := Lib.hid (show ∀ i (h : i < us.length), okC us[i].co = true from fun i h => er_ok (HERS.out i h (by omega)))
        have HLK := Lib.hid (show (u.k = 6 → us.length = 1) ∧ (u.k = 7 → us.length = 2) by
          have := headC_kids HH.out
          exact ⟨fun e => by rw [hall]; exact this.1 e, fun e => by rw [hall]; exact this.2 e⟩)
        have CN := Lib.hid (HA.out.done coLen)
        have t0 : wr.cell? ⟨T, 0, none⟩ = some (.int .i64 u.k) := cell_of_row _ _ 0 _ _ _ hb2
        have t1 : wr.cell? ⟨T, 1, none⟩ = some (.int .i64 u.v) := cell_of_row _ _ 1 _ _ _ hb2
        have t2 : wr.cell? ⟨T, 2, none⟩ = some (.slice da u.ds.length dc) := cell_of_row _ _ 2 _ _ _ hb2
        have t3 : wr.cell? ⟨T, 3, none⟩ = some (.slice va us.length vc) := cell_of_row _ _ 3 _ _ _ hb2
        obtain ⟨r0, r1, r2, r3, rf0, rf1, rf2, rf3⟩ := zero_atP HRR.out
        have q0 : (0 : Int) ≤ us.length := by omega
        have q1' : ¬ ((us.length : Int) < u.ks.length) := by omega
        clear hrs hall hle hlt
        by_cases h6 : u.k = 6
        · have c6 : (u.k == 6) = true := by simpa using h6
          have hl1 : 0 < us.length := by have := HLK.out.1 h6; omega
          obtain ⟨bk, ok, hva, hx0⟩ := coAt.kid CN.out.1 0 hl1
          subst hva
          obtain ⟨e0, e1, e2, e3⟩ := hx0.c
          simp only [Nat.zero_mul, Nat.add_zero] at e0 e1 e2 e3
          have ix0 : (0 : Int) < us.length := by omega
          have NX := Lib.hid (coNew.elem CN.out 0 hl1)
          have F := Lib.hid (show u.co.er = some us[0].co by
            rw [HER.out]
            have e : erN u.k u.v u.ds rs = us[0].co := by
              unfold erN
              rw [if_pos h6, HRS.out, getD_lt (by simpa using hl1)]
              simp
            rw [e, if_pos (HOKS.out 0 hl1)])
          generalize us[0] = x at *
          clear h6 hx0 t0 t1 t2
          go_wp2_with fail
          refine bodyPost_ret (v := .tuple #[x.val, .int .i64 0]) (by simp [results, Tryd.results81, go_sem, r0, r1, r2, r3]) rfl ⟨x, 0, rfl, .inl ⟨F.out, rfl⟩, ?_, by_fourP HG5.out⟩
          refine (gNew.same coFr NX.out fun y hy => ?_).mono (by have := HBW.out; omega)
          have := (NX.out.2.2 y hy).1
          have := HRT9.out
          rw [Below.heap_setCell _ _ _ _ (by simp; omega), Below.heap_setCell _ _ _ _ (by simp; omega), Below.heap_setCell _ _ _ _ (by simp; omega), Below.heap_setCell _ _ _ _ (by simp; omega)]
        have c6 : (u.k == 6) = false := by simpa using h6
        by_cases h7 : u.k = 7
        · have c7 : (u.k == 7) = true := by simpa using h7
          have hl2 : 1 < us.length := by have := HLK.out.2 h7; omega
          have hl1 : 0 < us.length := by omega
          have HPE := Lib.hid (show erN u.k u.v u.ds rs = us[1].co.pu us[0].co 0 by
            unfold erN
            rw [if_neg h6, if_pos h7, HRS.out, getD_lt (by simpa using hl2), getD_lt (by simpa using hl1)]
            simp)
          have HCE := Lib.hid (show (erN u.k u.v u.ds rs).cl d = true by
            have := erN_cl (t := u.co) (rs := rs) hd0 (by rw [u.co_k, u.co_v, u.co_ds, u.co_len]; exact HH.out) HCL.out (by rw [HRS.out, u.co_len]; simp [HALL.out]) (fun i h1 h2 => by
              have h3 : i < us.length := by rw [u.co_len] at h1; have := HALL.out; omega
              have h4 := HCL.out
              rw [cl_eq, Bool.and_eq_true, cls_get] at h4
              have h5 := h4.2 i h1
              rw [Nat.zero_add] at h5
              have h6 := er_cl u.co.ks[i] (d + bndK u.co.k i) us[i].co (by omega) (by rw [u.co_kid i (by have := HALL.out; omega)]; exact all_kid HOK.out i _) h5 (by rw [u.co_kid i (by have := HALL.out; omega)]; exact HERS.out i h3 (by have := HALL.out; omega))
              have e : rs[i] = us[i].co := by simp [HRS.out]
              rw [e]; exact h6)
            rw [u.co_k, u.co_v, u.co_ds] at this
            exact this)
          have VC := Lib.hid (show vcCd (us[1].co.pu us[0].co 0) = if okC (us[1].co.pu us[0].co 0) = true then 0 else 4 from vcCd_cl (d := d) ⟨hd0, by omega⟩ (pu_good _ _ 0 (Int.le_refl _) (okC_good (HOKS.out 1 hl2)).1 (okC_good (HOKS.out 0 hl1)).1) (by rw [← HPE.out]; exact HCE.out))
          obtain ⟨bk, ok, hva, hx1⟩ := coAt.kid CN.out.1 1 hl2
          have hx0 : coAt wr bk (ok + 0 * 4) us[0] := by
            obtain ⟨bk', ok', e, h⟩ := coAt.kid CN.out.1 0 hl1
            rw [hva] at e
            injection e with e
            injection e with e1 e2
            subst e1 e2
            exact h
          subst hva
          simp only [Nat.zero_mul, Nat.add_zero, Nat.one_mul] at hx0 hx1
          have ix0 : (0 : Int) < us.length := by omega
          have ix1 : (1 : Int) < us.length := by omega
          have KI := Lib.hid (spec_instance us[1] us[0] wr.drew bk (ok + 4) bk ok (hx1.grow (Gw.refl wr).drew) (hx0.grow (Gw.refl wr).drew) (HOKS.out 1 hl2) (HOKS.out 0 hl1))
          rw [HPE.out] at HER
          obtain ⟨pu, hpu⟩ : ∃ p, p = us[1].co.pu us[0].co 0 := ⟨_, rfl⟩
          rw [← hpu] at KI VC HER
          obtain ⟨cd, hcd⟩ : ∃ c, c = vcCd pu := ⟨_, rfl⟩
          rw [← hcd] at KI VC
          clear hx0 hx1 h6 h7 t0 t1 t2 HPE HCE hpu hcd
          go_upto_region 13 with (fail)
          refine wp_region_held_drew (S := fun W => W.cell? ⟨T, 3, none⟩ = some (.slice (some ⟨bk, ok, none⟩) us.length vc)) (by kernel_rfl) ?_ (fun hHeld => ?_)
          · exact t3
          refine wpAnyH_take (i := 0) (oi := { dst := some 65, op := _, type := _, pos := _, after := _, guard := _ }) (v := .pointer (some ⟨T, 3, none⟩)) rfl (by kernel_rfl) (by kernel_rfl) (by kernel_rfl) (fun _ _ _ h => h) (Or.inl ⟨by rfl, ?_⟩) (by assumption) ?_
          · intro w hSw; obtain c3 := hSw; go_simp
          try simp only [Act.put, List.setIfInBounds_toArray, List.set_cons_zero, List.set_cons_succ]
          refine wpAnyH_take (i := 1) (oi := { dst := some 66, op := _, type := _, pos := _, after := _, guard := _ }) (v := .slice (some ⟨bk, ok, none⟩) us.length vc) rfl (by kernel_rfl) (by kernel_rfl) (by kernel_rfl) (fun _ _ _ h => h) (Or.inl ⟨by rfl, ?_⟩) (by assumption) ?_
          · intro w hSw; obtain c3 := hSw; go_simp
          try simp only [Act.put, List.setIfInBounds_toArray, List.set_cons_zero, List.set_cons_succ]
          refine wpAnyH_take (i := 2) (oi := { dst := some 67, op := _, type := _, pos := _, after := _, guard := _ }) (v := .pointer (some ⟨bk, ok + 4, none⟩)) rfl (by kernel_rfl) (by kernel_rfl) (by kernel_rfl) (fun _ _ _ h => h) (Or.inl ⟨by rfl, ?_⟩) (by assumption) ?_
          · intro w hSw; obtain c3 := hSw; go_simp
          try simp only [Act.put, List.setIfInBounds_toArray, List.set_cons_zero, List.set_cons_succ]
          refine wpAnyH_take (i := 3) (oi := { dst := some 68, op := _, type := _, pos := _, after := _, guard := _ }) (v := .pointer (some ⟨T, 3, none⟩)) rfl (by kernel_rfl) (by kernel_rfl) (by kernel_rfl) (fun _ _ _ h => h) (Or.inl ⟨by rfl, ?_⟩) (by assumption) ?_
          · intro w hSw; obtain c3 := hSw; go_simp
          try simp only [Act.put, List.setIfInBounds_toArray, List.set_cons_zero, List.set_cons_succ]
          refine wpAnyH_take (i := 4) (oi := { dst := some 69, op := _, type := _, pos := _, after := _, guard := _ }) (v := .slice (some ⟨bk, ok, none⟩) us.length vc) rfl (by kernel_rfl) (by kernel_rfl) (by kernel_rfl) (fun _ _ _ h => h) (Or.inl ⟨by rfl, ?_⟩) (by assumption) ?_
          · intro w hSw; obtain c3 := hSw; go_simp
          try simp only [Act.put, List.setIfInBounds_toArray, List.set_cons_zero, List.set_cons_succ]
          refine wpAnyH_take (i := 5) (oi := { dst := some 70, op := _, type := _, pos := _, after := _, guard := _ }) (v := .pointer (some ⟨bk, ok, none⟩)) rfl (by kernel_rfl) (by kernel_rfl) (by kernel_rfl) (fun _ _ _ h => h) (Or.inl ⟨by rfl, ?_⟩) (by assumption) ?_
          · intro w hSw; obtain c3 := hSw; go_simp
          try simp only [Act.put, List.setIfInBounds_toArray, List.set_cons_zero, List.set_cons_succ]
          refine wpAnyH_ready (rs := [6]) (by kernel_rfl) (by simp) ?_
          refine AllReadyH.cons (o := { dst := some 71, op := _, type := _, pos := _, after := _, guard := _ }) rfl (fun K hK => ?_) AllReadyH.nil
          go_simp
          go_at_call 79
          refine KI.out.mono ?_
          rintro e w5 ⟨x, rfl, hx, hnew, g5⟩
          have g5' : Gw wr w5 := gw_drewL g5
          have HX := Lib.hid hx
          have NX := Lib.hid (show x.New wr.heap.size w5 from hnew)
          have G5 := Lib.hid (HG5.out.trans g5')
          have R5 := Lib.hid ((g5'.block _ (Array.getElem?_eq_some_iff.1 HRR.out).1).trans HRR.out)
          have kt := g5'.cell t3 (cell_lt t3)
          have hRTne := HRT9.out.2
          clear hx hnew g5 r0 r1 r2 r3 rf0 rf1 rf2 rf3
          obtain ⟨r0, r1, r2, r3, rf0, rf1, rf2, rf3⟩ := zero_atP R5.out
          go_wp2_with fail
          refine hK.out _ _ kt (fun hHeld => ?_)
          clear hK K
          try simp only [Act.put, List.setIfInBounds_toArray, List.set_cons_zero, List.set_cons_succ]
          refine wpAnyH_take (i := 7) (oi := { dst := some 72, op := _, type := _, pos := _, after := _, guard := _ }) (v := x.val) rfl (by kernel_rfl) (by kernel_rfl) (by kernel_rfl) (fun _ _ _ h => h) (Or.inl ⟨by rfl, ?_⟩) (by assumption) ?_
          · intro w hSw; obtain c3 := hSw; go_simp
          try simp only [Act.put, List.setIfInBounds_toArray, List.set_cons_zero, List.set_cons_succ]
          refine wpAnyH_take (i := 8) (oi := { dst := some 73, op := _, type := _, pos := _, after := _, guard := _ }) (v := .int .i64 cd) rfl (by kernel_rfl) (by kernel_rfl) (by kernel_rfl) (fun _ _ _ h => h) (Or.inl ⟨by rfl, ?_⟩) (by assumption) ?_
          · intro w hSw; obtain c3 := hSw; go_simp
          try simp only [Act.put, List.setIfInBounds_toArray, List.set_cons_zero, List.set_cons_succ]
          refine wpAnyH_ready (rs := [9]) (by kernel_rfl) (by simp) ?_
          refine AllReadyH.cons (o := { dst := none, op := _, type := _, pos := _, after := _, guard := _ }) rfl (fun K hK => ?_) AllReadyH.nil
          go_simp
          refine hK _ _ ((far4 (fun e => hRTne e.symm)).trans kt) (fun hHeld => ?_)
          clear hK K
          try simp only [Act.put, List.setIfInBounds_toArray, List.set_cons_zero, List.set_cons_succ]
          refine wpAnyH_take (i := 10) (oi := { dst := some 3, op := _, type := _, pos := _, after := _, guard := _ }) (v := .int .i64 cd) rfl (by kernel_rfl) (by kernel_rfl) (by kernel_rfl) (fun _ _ _ h => h) (Or.inl ⟨by rfl, ?_⟩) (by assumption) ?_
          · intro w hSw; obtain c3 := hSw; go_simp
          try simp only [Act.put, List.setIfInBounds_toArray, List.set_cons_zero, List.set_cons_succ]
          refine wpAnyH_done (by kernel_rfl) ?_ _
          go_wp2_with fail
          refine bodyPost_ret (v := .tuple #[x.val, .int .i64 cd]) (by simp [results, Tryd.results81, go_sem, r0, r1, r2, r3]) rfl ⟨x, cd, rfl, ?_, ?_, by_fourP G5.out⟩
          · by_cases hp : okC pu = true
            · rw [if_pos hp] at VC
              left
              rw [HER.out, if_pos hp, HX.out, if_pos VC.out]
              exact ⟨rfl, VC.out⟩
            · rw [if_neg hp] at VC
              right
              rw [HER.out, if_neg hp, HX.out, if_neg (by rw [VC.out]; decide)]
              exact ⟨rfl, VC.out, rfl⟩
          · refine (gNew.same coFr NX.out fun y hy => ?_).mono (by have := HBW.out; omega)
            have := (NX.out.2.2 y hy).1
            have := HRT9.out
            have := HBW.out
            rw [Below.heap_setCell _ _ _ _ (by simp; omega), Below.heap_setCell _ _ _ _ (by simp; omega), Below.heap_setCell _ _ _ _ (by simp; omega), Below.heap_setCell _ _ _ _ (by simp; omega)]
        · have c7 : (u.k == 7) = false := by simpa using h7
          have HPE := Lib.hid (show erN u.k u.v u.ds rs = .mk u.k u.v u.ds rs by unfold erN; rw [if_neg h6, if_neg h7])
          have OX : (LK.mk u.k u.v da dc u.ds va vc us).Ok wr := (LK.ok_iff _).2 ⟨⟨HKV.out.1, HKV.out.2, HD5.out.1⟩, CN.out.1⟩
          have FIN := Lib.hid (show coAt wr T 0 (LK.mk u.k u.v da dc u.ds va vc us) from ⟨fun j v hv => by
            rw [cell_of_row _ _ _ _ _ _ hb2, Nat.zero_add]
            have : (#[.int .i64 u.k, .int .i64 u.v, .slice da u.ds.length dc, .slice va us.length vc] : Array Value).toList = coE (LK.mk u.k u.v da dc u.ds va vc us) := rfl
            rw [← Array.getElem?_toList, this]
            exact hv, OX⟩)
          have CO := Lib.hid (show (LK.mk u.k u.v da dc u.ds va vc us).co = .mk u.k u.v u.ds rs by rw [LK.co_eq, HRS.out]; rfl)
          have HOR := Lib.hid (show ∀ r ∈ rs, okC r = true from fun r hr => by
            rw [HRS.out] at hr
            obtain ⟨z, hz, rfl⟩ := List.mem_map.1 hr
            obtain ⟨i, hi, rfl⟩ := List.mem_iff_getElem.1 hz
            exact HOKS.out i hi)
          have KF := spec_fits (LK.mk u.k u.v da dc u.ds va vc us) wr T 0 FIN.out (by
            rw [CO.out, Co.dp]
            have : cdps rs ≤ 80 := cdps_le fun r hr => (okC_good (HOR.out r hr)).2.1
            have : Co.dp.dps rs ≤ 80 := this
            omega)
          have OKE := Lib.hid (show okC (Co.mk u.k u.v u.ds rs) = fitC (Co.mk u.k u.v u.ds rs) by
            have := okC_of_kids (k := u.k) (v := u.v) (ds := u.ds) (rs := rs) (by rw [HRS.out]; simp only [List.length_map]; rw [HALL.out]; exact HH.out) HOR.out
            unfold fitC
            rw [Bool.eq_iff_iff, this, decide_eq_true_eq])
          rw [CO.out] at KF
          rw [HPE.out] at HER
          clear h6 h7 OX
          cases hfit : fitC (Co.mk u.k u.v u.ds rs) with
          | false =>
            rw [hfit] at KF OKE
            have KFF := Lib.hid KF
            have HEN := Lib.hid (show u.co.er = none by rw [HER.out, OKE.out]; rfl)
            clear KF hfit t0 t1 t2 t3 r0 r1 r2 r3 rf0 rf1 rf2 rf3
            go_wp2_with fail
            refine KFF.out.mono ?_
            rintro e w5 ⟨rfl, g5⟩
            have G5 := Lib.hid (HG5.out.trans g5)
            have R5 := Lib.hid ((g5.block _ (Array.getElem?_eq_some_iff.1 HRR.out).1).trans HRR.out)
            obtain ⟨r0, r1, r2, r3, rf0, rf1, rf2, rf3⟩ := zero_atP R5.out
            clear g5
            go_wp2_with fail
            refine bodyPost_ret (v := .tuple #[zeK.val, .int .i64 4]) (by simp [results, Tryd.results81, go_sem, r0, r1, r2, r3]; exact ⟨rfl, rfl, ⟨rfl, rfl, rfl⟩, rfl, rfl, rfl⟩) rfl ⟨zeK, 4, rfl, .inr ⟨HEN.out, rfl, rfl⟩, zeK_new _ _, by_fourP G5.out⟩
          | true =>
            rw [hfit] at KF OKE
            have KFF := Lib.hid KF
            have HEN := Lib.hid (show u.co.er = some (Co.mk u.k u.v u.ds rs) by rw [HER.out, if_pos OKE.out])
            clear KF hfit t0 t1 t2 t3 r0 r1 r2 r3 rf0 rf1 rf2 rf3
            go_wp2_with fail
            refine KFF.out.mono ?_
            rintro e w5 ⟨rfl, g5⟩
            have G5 := Lib.hid (HG5.out.trans g5)
            have R5 := Lib.hid ((g5.block _ (Array.getElem?_eq_some_iff.1 HRR.out).1).trans HRR.out)
            obtain ⟨r0, r1, r2, r3, rf0, rf1, rf2, rf3⟩ := zero_atP R5.out
            obtain ⟨t0, t1, t2, t3⟩ := (FIN.out.grow g5).c
            simp only [Nat.zero_add] at t1 t2 t3
            have t0 : w5.cell? ⟨T, 0, none⟩ = some (.int .i64 u.k) := t0
            have t1 : w5.cell? ⟨T, 1, none⟩ = some (.int .i64 u.v) := t1
            have t2 : w5.cell? ⟨T, 2, none⟩ = some (.slice da u.ds.length dc) := t2
            have t3 : w5.cell? ⟨T, 3, none⟩ = some (.slice va us.length vc) := t3
            have ncore := sh_fin (wr := w5) (u := u) (V := u.v) (da := da) (va := va) (dc := dc) (vc := vc) (R := w.heap.size) (Bk := Bk) (us := us) HKV.out.1 HKV.out.2 (gNewSl.grow nLen nGr HD5.out g5) (fun y hy => (HDX9.out y hy).1) (gNewSl.grow coLen coGr CN.out g5) (by have := HRT9.out; omega)
            clear g5
            go_wp2_with fail
            refine bodyPost_ret (v := .tuple #[(LK.mk u.k u.v da dc u.ds va vc us).val, .int .i64 0]) (by simp [results, Tryd.results81, go_sem, r0, r1, r2, r3]; try exact ⟨rfl, rfl, ⟨rfl, rfl, rfl⟩, rfl, rfl, rfl⟩) rfl ⟨_, 0, rfl, .inl ⟨by rw [HEN.out, CO.out], rfl⟩, (ncore _ _ _ _).mono (Nat.le_succ _), by_fourP G5.out⟩

theorem erm_all (u : LK) : KErm u := by
  refine LK.ind (P := KErm) (fun k v da dc ds a c ks ih => ?_) u
  exact erm_of (.mk k v da dc ds a c ks) ih

end Go.Proofs.YtfbgkbgoooepmaaDoor.Con
