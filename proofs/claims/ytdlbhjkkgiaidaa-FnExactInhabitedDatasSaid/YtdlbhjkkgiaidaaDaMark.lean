/-
  Marking of declarations that lie in blocks of their own: no other block is touched. Condition: they are not too large.
-/
import Derived.Test.YtdlbhjkkgiaidaaDaNew
import Derived.Test.YtdlbhjkkgiaidaaDaTo
import Derived.Test.YtdlbhjkkgiaidaaDaVal
import Derived.Test.YtdlbhjkkgiaidaaDaSz
import Derived.Test.YtdlbhjkkgiaidaaTyHeld
import Derived.Test.YtdlbhjkkgiaidaaTyLaw
namespace Go.Proofs.Ytdlbhjkkgiaidaa.Con
open Go.RowKit
set_option linter.unusedVariables false

section
variable {α : Type} {ok : World → LN α → Prop} {cb : LN α → List Nat}

theorem NewE.same (hf : Frames ok cb) {B : Nat} {w w' : World} {c : LN α} (h : NewE ok cb B w c) (hb : ∀ b ∈ cb c, w'.heap[b]? = w.heap[b]?) : NewE ok cb B w' c :=
  ⟨hf _ _ _ h.1 hb, h.2.1, fun b hm => ⟨(h.2.2 b hm).1, (h.2.2 b hm).2.same (hb b hm)⟩⟩

/-- What has not been marked yet. -/
def Rest (ok : World → LN α → Prop) (cb : LN α → List Nat) (B : Nat) (w : World) (b o : Nat) (us : List (LN α)) (j : Nat) : Prop :=
  Free w b ∧ ∀ x (h : x < us.length), j ≤ x → w.cell? ⟨b, o + x * 2, none⟩ = some (.string us[x].n) ∧ w.cell? ⟨b, o + x * 2 + 1, none⟩ = some (.slice us[x].a us[x].xs.length us[x].cap) ∧ NewE ok cb B w us[x]

theorem nbl_some {b o : Nat} {us : List (LN α)} (h : us ≠ []) : nbl cb (some ⟨b, o, none⟩) us = b :: us.flatMap cb := by
  unfold nbl
  cases us with
  | nil => exact absurd rfl h
  | cons => rfl

theorem nodup_at {us : List (LN α)} {j : Nat} (hj : j < us.length) (h : (us.flatMap cb).Nodup) : (cb us[j]).Nodup := by
  induction us generalizing j with
  | nil => simp at hj
  | cons u us ih =>
    rw [List.flatMap_cons, List.nodup_append] at h
    cases j with
    | zero => exact h.1
    | succ j => exact ih (by simpa using hj) h.2.1

theorem Rest.start {B : Nat} {w : World} {b o cap : Nat} {us : List (LN α)} (h : NewSl ok cb B w (some ⟨b, o, none⟩) cap us) (hne : us ≠ []) : Rest ok cb B w b o us 0 := by
  obtain ⟨h1, h2, h3⟩ := h
  rw [nbl_some hne] at h2 h3
  obtain ⟨b', o', e, hr⟩ := h1.2.2.resolve_left hne
  injection e with e
  injection e with e1 e2
  subst e1 e2
  refine ⟨(h3 b (by simp)).2, fun x hx _ => ⟨(hr x hx).1, (hr x hx).2.1, (hr x hx).2.2, nodup_at hx (List.nodup_cons.1 h2).2, fun y hy => h3 y ?_⟩⟩
  exact List.mem_cons_of_mem _ (List.mem_flatMap.2 ⟨_, List.getElem_mem hx, hy⟩)

theorem apart {us : List (LN α)} {j x : Nat} (hj : j < us.length) (hx : x < us.length) (hjx : j < x) (h : (us.flatMap cb).Nodup) : ∀ y ∈ cb us[x], y ∉ cb us[j] := by
  induction us generalizing j x with
  | nil => simp at hj
  | cons u us ih =>
    rw [List.flatMap_cons, List.nodup_append] at h
    cases x with
    | zero => omega
    | succ x =>
      cases j with
      | zero =>
        intro y hy hm
        exact h.2.2 y hm y (List.mem_flatMap.2 ⟨_, List.getElem_mem (by simpa using hx), hy⟩) rfl
      | succ j => exact ih (by simpa using hj) (by simpa using hx) (by omega) h.2.1

theorem Rest.next (hf : Frames ok cb) {B : Nat} {w w1 w3 : World} {b o j : Nat} {us : List (LN α)} {v : Value} (h : Rest ok cb B w b o us j) (hj : j < us.length) (hnd : (b :: us.flatMap cb).Nodup) (h1 : Gw w w1)
    (h3 : Chg (w1.setCell ⟨b, o + j * 2, none⟩ v) w3 (fun x => x ∈ cb us[j])) : Rest ok cb B w3 b o us (j + 1) ∧ Chg w w3 (fun x => x ∈ b :: us.flatMap cb) := by
  rw [List.nodup_cons] at hnd
  have hbl : b < w.heap.size := h.1.lt
  have hs2 : (w1.setCell ⟨b, o + j * 2, none⟩ v).heap.size = w1.heap.size := by simp [World.setCell]
  have hbj : b ∉ cb us[j] := fun hm => hnd.1 (List.mem_flatMap.2 ⟨_, List.getElem_mem hj, hm⟩)
  have hfar : ∀ y, y < w.heap.size → y ≠ b → y ∉ cb us[j] → w3.heap[y]? = w.heap[y]? := fun y hy hyb hyj => by
    rw [h3.2.2.2.2 y (by rw [hs2]; exact Nat.lt_of_lt_of_le hy h1.size) hyj, Below.heap_setCell _ _ _ _ (by simpa using hyb), h1.block y hy]
  obtain ⟨cs, e, hcs⟩ := h.1
  have hb1 : w1.heap[b]? = some (.cells cs e (0, 0)) := (h1.block b hbl).trans hcs
  have hb3 : w3.heap[b]? = some (.cells (cs.setIfInBounds (o + j * 2) v) e (0, 0)) := by
    rw [h3.2.2.2.2 b (by rw [hs2]; exact Nat.lt_of_lt_of_le hbl h1.size) hbj]
    simp [World.setCell, Array.getElem?_modify, hb1]
  have hold : ∀ p, w.cell? ⟨b, p, none⟩ = cs[p]? := fun p => cell_of_row _ _ _ _ _ _ hcs
  have hnew : ∀ p, w3.cell? ⟨b, p, none⟩ = (cs.setIfInBounds (o + j * 2) v)[p]? := fun p => cell_of_row _ _ _ _ _ _ hb3
  refine ⟨⟨⟨_, _, hb3⟩, fun x hx hjx => ?_⟩, ?_⟩
  · obtain ⟨c0, c1, hn⟩ := h.2 x hx (by omega)
    rw [hold] at c0 c1
    refine ⟨?_, ?_, hn.same hf fun y hy => hfar y (hn.2.2 y hy).2.lt (fun e => hnd.1 (e ▸ List.mem_flatMap.2 ⟨_, List.getElem_mem hx, hy⟩)) (apart hj hx (by omega) hnd.2 y hy)⟩
    · rw [hnew, Array.getElem?_setIfInBounds_ne (by omega)]; exact c0
    · rw [hnew, Array.getElem?_setIfInBounds_ne (by omega)]; exact c1
  · refine ⟨h3.1.trans h1.os, h3.2.1.trans h1.tape, h3.2.2.1.trans h1.output, Nat.le_trans h1.size (by rw [← hs2]; exact h3.2.2.2.1), fun y hy hn => hfar y hy (fun e => hn (by rw [e]; simp)) (fun hm => hn (List.mem_cons_of_mem _ (List.mem_flatMap.2 ⟨_, List.getElem_mem hj, hm⟩)))⟩

theorem Rest.pre (hf : Frames ok cb) {B : Nat} {w w1 : World} {b o j p : Nat} {us : List (LN α)} {v : Value} (h : Rest ok cb B w b o us j) (hj : j < us.length) (hnd : (b :: us.flatMap cb).Nodup) (h1 : Gw w w1) : NewE ok cb B (w1.setCell ⟨b, p, none⟩ v) us[j] := by
  rw [List.nodup_cons] at hnd
  have hn := (h.2 j hj (Nat.le_refl _)).2.2
  refine hn.same hf fun y hy => ?_
  have hyb : y ≠ b := fun e => hnd.1 (e ▸ List.mem_flatMap.2 ⟨_, List.getElem_mem hj, hy⟩)
  rw [Below.heap_setCell _ _ _ _ (by simpa using hyb), h1.block y (hn.2.2 y hy).2.lt]
end

theorem NewE.sl {B : Nat} {w : World} {c : LC} (h : NewE cOk cbl B w c) : slNew B w c.a c.cap c.xs :=
  ⟨LT.ok_mk (Nat.zero_le _) (by simp [LT.k]) (by simp [LT.k]) h.1.2, h.2.1, h.2.2⟩
theorem NewE.ds {B : Nat} {w : World} {d : LD} (h : NewE dOk dbl B w d) : NewSl cOk cbl B w d.a d.cap d.xs := ⟨h.1.2, h.2.1, h.2.2⟩

def zC (c : LC) : Nat := 2 * cntl c.xs
def zD (d : LD) : Nat := sm zC d.xs

theorem sm_le {α : Type} (z : α → Nat) (ks : List α) (i : Nat) (hi : i < ks.length) : sm z (ks.take i) + (1 + z ks[i]) ≤ sm z ks := by
  have h1 := sm_take z ks i hi
  have h2 := sm_rest z ks i hi
  omega

set_option maxHeartbeats 1000000 in
set_option maxRecDepth 100000 in
theorem laws_markCS (cs : List LC) (B : Nat) (w : World) (a : Option Addr) (cap k : Nat) (h : NewSl cOk cbl B w a cap cs) (h1 : 1 ≤ k) (h2 : k + sm zC cs ≤ 8000000) :
    Calls Try.prog 85 #[.slice a cs.length cap, .int .i64 k] w fun e w' => e = .returned (.int .i64 ((k + sm zC cs : Nat) : Int)) ∧ Chg w w' (fun x => x ∈ nbl cbl a cs) := by
  have hl : cs.length ≤ 9223372036854775807 := Nat.le_trans h.1.1 h.1.2.1
  have H := Lib.hid h
  clear h
  go_enter Try.func85, Try.ntmps85
  go_wp2_with fail
  go_loopw [1, 5] (fun kv i wr => ∃ j : Nat, j ≤ cs.length ∧ i = .int .i64 j ∧ kv = .int .i64 ((k + sm zC (cs.take j) : Nat) : Int) ∧ (∀ b o, a = some ⟨b, o, none⟩ → cs ≠ [] → Rest cOk cbl B wr b o cs j) ∧ Chg w wr (fun x => x ∈ nbl cbl a cs)) (fun _ i _ => cs.length - (intOf i).toNat)
  case atStart => exact ⟨0, by omega, rfl, by simp [sm_nil], fun b o e hne => by subst e; exact Rest.start H.out hne, Chg.of_gw (Gw.refl w) _⟩
  case round =>
    obtain ⟨j, hj, rfl, rfl, hrest, hc⟩ := hrel
    obtain ⟨wo, rfl⟩ : ∃ wo : World, wo = wr := ⟨_, rfl⟩
    have HC := Lib.hid hc
    clear hc
    by_cases hlt : j < cs.length
    · have hne : cs ≠ [] := fun e => by rw [e] at hlt; simp at hlt
      obtain ⟨b, o, rfl, _⟩ := H.out.1.2.2.resolve_left hne
      have HR := Lib.hid (hrest b o rfl hne)
      have HND := Lib.hid (show (b :: cs.flatMap cbl).Nodup by have := H.out.2.1; rwa [nbl_some hne] at this)
      have HBL := Lib.hid (nbl_some (cb := cbl) (b := b) (o := o) hne)
      have hsl := sm_le zC cs j hlt
      have hst := sm_take zC cs j hlt
      obtain ⟨c0, c1, _⟩ := HR.out.2 j hlt (Nat.le_refl _)
      have f0 := HR.out.1.frozen (o + j * 2)
      have hbb := cell_lt c0
      have q0 : (0 : Int) ≤ j := by omega
      have q1 : (j : Int) < cs.length := by omega
      obtain ⟨kk, hkk⟩ : ∃ kk, kk = k + sm zC (cs.take j) := ⟨_, rfl⟩
      rw [← hkk]
      have hk1 : 1 ≤ kk := by omega
      have hk2 : kk + 1 + 2 * cntl cs[j].xs ≤ 8000000 := by rw [show zC cs[j] = 2 * cntl cs[j].xs from rfl] at hsl; omega
      have KK := Lib.hid (show kk + 1 + 2 * cntl cs[j].xs = k + sm zC (cs.take (j + 1)) by rw [show zC cs[j] = 2 * cntl cs[j].xs from rfl] at hst; rw [hst, hkk]; omega)
      clear hrest hne hsl hst hkk
      go_wp2_with fail
      refine (markText kk hk1 (by omega) _).mono ?_
      rintro e w1 ⟨rfl, hg1⟩
      have G1 := Lib.hid hg1
      obtain ⟨k1, g1⟩ := bcell hg1
      have d0 := (k1 b (o + j * 2) hbb).trans c0
      have d1 := (k1 b (o + j * 2 + 1) hbb).trans c1
      have e0 := (g1 b (o + j * 2) hbb).trans f0
      have PRE := Lib.hid (HR.out.pre cFrames hlt HND.out hg1 (p := o + j * 2) (v := .string (str (mtx kk)))).sl
      clear hg1 k1 g1 c0 c1 f0
      go_wp2_with fail
      rw [show ((kk : Int) + 1) = ((kk + 1 : Nat) : Int) from by omega]
      refine (laws_markS cs[j].xs B _ cs[j].a cs[j].cap (kk + 1) PRE.out (by omega) (by omega)).mono ?_
      rintro e w3 ⟨rfl, _, hc3⟩
      rw [(mkl_len cs[j].xs (kk + 1)).1]
      have hch : Chg (w1.setCell ⟨b, o + j * 2, none⟩ (.string (str (mtx kk)))) w3 (fun x => x ∈ cbl cs[j]) := hc3.mono fun x hx => by unfold cbl; rw [sbl_cap]; exact hx
      obtain ⟨hn3, hc4⟩ := HR.out.next cFrames hlt HND.out G1.out hch
      have HN3 := Lib.hid hn3
      have HC4 := Lib.hid (show Chg w w3 (fun x => x ∈ nbl cbl (some ⟨b, o, none⟩) cs) from by
        refine HC.out.trans (hc4.mono fun x hx => ?_) (fun _ _ h => h)
        rw [HBL.out]; exact hx)
      clear hch hc3 hn3 hc4 d0 d1 e0
      go_wp2_with fail
      go_roundw
      case rel =>
        refine ⟨j + 1, by omega, by go_num, by congr 1; have := KK.out; omega, fun b' o' e _ => ?_, HC4.out⟩
        injection e with e
        injection e with e1 e2
        subst e1 e2
        exact HN3.out
      case measure => simp [intOf]; omega
    · obtain rfl : j = cs.length := by omega
      clear hrest
      rw [List.take_length]
      go_wp2_with fail
      go_ret
      exact ⟨rfl, HC.out⟩

set_option maxHeartbeats 1000000 in
set_option maxRecDepth 100000 in
theorem laws_markDS (cs : List LD) (B : Nat) (w : World) (a : Option Addr) (cap k : Nat) (h : NewSl dOk dbl B w a cap cs) (h1 : 1 ≤ k) (h2 : k + sm zD cs ≤ 8000000) :
    Calls Try.prog 46 #[.slice a cs.length cap, .int .i64 k] w fun e w' => e = .returned (.int .i64 ((k + sm zD cs : Nat) : Int)) ∧ Chg w w' (fun x => x ∈ nbl dbl a cs) := by
  have hl : cs.length ≤ 9223372036854775807 := Nat.le_trans h.1.1 h.1.2.1
  have H := Lib.hid h
  clear h
  go_enter Try.func46, Try.ntmps46
  go_wp2_with fail
  go_loopw [1, 5] (fun kv i wr => ∃ j : Nat, j ≤ cs.length ∧ i = .int .i64 j ∧ kv = .int .i64 ((k + sm zD (cs.take j) : Nat) : Int) ∧ (∀ b o, a = some ⟨b, o, none⟩ → cs ≠ [] → Rest dOk dbl B wr b o cs j) ∧ Chg w wr (fun x => x ∈ nbl dbl a cs)) (fun _ i _ => cs.length - (intOf i).toNat)
  case atStart => exact ⟨0, by omega, rfl, by simp [sm_nil], fun b o e hne => by subst e; exact Rest.start H.out hne, Chg.of_gw (Gw.refl w) _⟩
  case round =>
    obtain ⟨j, hj, rfl, rfl, hrest, hc⟩ := hrel
    obtain ⟨wo, rfl⟩ : ∃ wo : World, wo = wr := ⟨_, rfl⟩
    have HC := Lib.hid hc
    clear hc
    by_cases hlt : j < cs.length
    · have hne : cs ≠ [] := fun e => by rw [e] at hlt; simp at hlt
      obtain ⟨b, o, rfl, _⟩ := H.out.1.2.2.resolve_left hne
      have HR := Lib.hid (hrest b o rfl hne)
      have HND := Lib.hid (show (b :: cs.flatMap dbl).Nodup by have := H.out.2.1; rwa [nbl_some hne] at this)
      have HBL := Lib.hid (nbl_some (cb := dbl) (b := b) (o := o) hne)
      have hsl := sm_le zD cs j hlt
      have hst := sm_take zD cs j hlt
      obtain ⟨c0, c1, _⟩ := HR.out.2 j hlt (Nat.le_refl _)
      have f0 := HR.out.1.frozen (o + j * 2)
      have hbb := cell_lt c0
      have q0 : (0 : Int) ≤ j := by omega
      have q1 : (j : Int) < cs.length := by omega
      obtain ⟨kk, hkk⟩ : ∃ kk, kk = k + sm zD (cs.take j) := ⟨_, rfl⟩
      rw [← hkk]
      have hk1 : 1 ≤ kk := by omega
      have hk2 : kk + 1 + sm zC cs[j].xs ≤ 8000000 := by rw [show zD cs[j] = sm zC cs[j].xs from rfl] at hsl; omega
      have KK := Lib.hid (show kk + 1 + sm zC cs[j].xs = k + sm zD (cs.take (j + 1)) by rw [show zD cs[j] = sm zC cs[j].xs from rfl] at hst; rw [hst, hkk]; omega)
      clear hrest hne hsl hst hkk
      go_wp2_with fail
      refine (markText kk hk1 (by omega) _).mono ?_
      rintro e w1 ⟨rfl, hg1⟩
      have G1 := Lib.hid hg1
      obtain ⟨k1, g1⟩ := bcell hg1
      have d0 := (k1 b (o + j * 2) hbb).trans c0
      have d1 := (k1 b (o + j * 2 + 1) hbb).trans c1
      have e0 := (g1 b (o + j * 2) hbb).trans f0
      have PRE := Lib.hid (HR.out.pre dFrames hlt HND.out hg1 (p := o + j * 2) (v := .string (str (mtx kk)))).ds
      clear hg1 k1 g1 c0 c1 f0
      go_wp2_with fail
      rw [show ((kk : Int) + 1) = ((kk + 1 : Nat) : Int) from by omega]
      refine (laws_markCS cs[j].xs B _ cs[j].a cs[j].cap (kk + 1) PRE.out (by omega) (by omega)).mono ?_
      rintro e w3 ⟨rfl, hc3⟩
      have hch : Chg (w1.setCell ⟨b, o + j * 2, none⟩ (.string (str (mtx kk)))) w3 (fun x => x ∈ dbl cs[j]) := hc3
      obtain ⟨hn3, hc4⟩ := HR.out.next dFrames hlt HND.out G1.out hch
      have HN3 := Lib.hid hn3
      have HC4 := Lib.hid (show Chg w w3 (fun x => x ∈ nbl dbl (some ⟨b, o, none⟩) cs) from by
        refine HC.out.trans (hc4.mono fun x hx => ?_) (fun _ _ h => h)
        rw [HBL.out]; exact hx)
      clear hch hc3 hn3 hc4 d0 d1 e0
      go_wp2_with fail
      go_roundw
      case rel =>
        refine ⟨j + 1, by omega, by go_num, by congr 1; have := KK.out; omega, fun b' o' e _ => ?_, HC4.out⟩
        injection e with e
        injection e with e1 e2
        subst e1 e2
        exact HN3.out
      case measure => simp [intOf]; omega
    · obtain rfl : j = cs.length := by omega
      clear hrest
      rw [List.take_length]
      go_wp2_with fail
      go_ret
      exact ⟨rfl, HC.out⟩

/-- How many marks declarations take, without their places. -/
def zCt (c : CD) : Nat := 2 * Ty.cnt.cnts c.2
def zDt (d : DD) : Nat := (d.2.map fun c => 1 + zCt c).sum
theorem cnts_map (ks : List LT) : Ty.cnt.cnts (ks.map LT.ty) = cntl ks := by
  induction ks with
  | nil => simp [Ty.cnt.cnts, cntl_nil]
  | cons t ts ih => rw [List.map_cons, Ty.cnt.cnts, cntl_cons, ih, cnt_ty]
theorem zC_eq (c : LC) : zC c = zCt (cty c) := by unfold zC zCt cty; rw [cnts_map]
theorem zD_eq (d : LD) : zD d = zDt (dty d) := by
  unfold zD zDt dty sm
  rw [List.map_map]
  congr 1
  exact List.map_congr_left fun c _ => by rw [zC_eq]; rfl
theorem smD_eq (ds : List LD) : sm zD ds = ((ds.map dty).map fun d => 1 + zDt d).sum := by
  unfold sm
  rw [List.map_map]
  congr 1
  exact List.map_congr_left fun d _ => by rw [zD_eq]; rfl
theorem smD_small {ys ds : List LD} (h : ys.map dty = ds.map dty) (hs : sm dsz ds ≤ 1048576) : 1 + sm zD ys ≤ 8000000 := by
  have hC : ∀ cs : List LC, sm zC cs ≤ 2 * cszl cs := fun cs => by
    induction cs with
    | nil => simp [sm_nil]
    | cons c cs ih =>
      rw [sm_cons]
      unfold cszl at *
      rw [List.map_cons, List.sum_cons]
      have := cnt_sz c.xs
      have e1 : zC c = 2 * cntl c.xs := rfl
      have e2 : csz c = c.n.size + LT.sz.szl c.xs := rfl
      omega
  have hD : ∀ xs : List LD, sm zD xs ≤ 2 * sm dsz xs := fun xs => by
    induction xs with
    | nil => simp [sm_nil]
    | cons d xs ih =>
      rw [sm_cons, sm_cons]
      have := hC d.xs
      have e1 : zD d = sm zC d.xs := rfl
      have e2 : dsz d = d.n.size + cszl d.xs := rfl
      omega
  have h1 := hD ds
  have h2 : sm zD ys = sm zD ds := by rw [smD_eq, smD_eq, h]
  omega

end Go.Proofs.Ytdlbhjkkgiaidaa.Con
