/-
  Contracts of StripBangs in the model and in the program. No condition but that the type lies in memory.
-/
import Derived.Test.YtdlbhjkkgiaidaaTyCopy
import Derived.Test.YtdlbhjkkgiaidaaTyEraseI
namespace Go.Proofs.Ytdlbhjkkgiaidaa.Con
open Go.RowKit
set_option linter.unusedVariables false

/-- The bangs at the top, and what lies below them. -/
def Ty.strip : Ty → Nat × Ty
  | .mk k n ks => if k = 4 then (match sts ks with | some p => (p.1 + 1, p.2) | none => (0, .mk k n ks)) else (0, .mk k n ks)
where sts : List Ty → Option (Nat × Ty)
  | [] => none
  | t :: _ => some t.strip
theorem strip_other (t : Ty) (h : ¬ t.kd = 4) : t.strip = (0, t) := by
  obtain ⟨k, n, ks⟩ := t
  rw [Ty.strip]
  exact if_neg h
theorem strip_bang (n : ByteArray) (x : Ty) : (Ty.mk 4 n [x]).strip = (x.strip.1 + 1, x.strip.2) := by
  rw [Ty.strip, if_pos rfl]; rfl

def stripped (t : Ty) : Nat × Ty := if validB t then t.strip else (0, .mk 0 ⟨#[]⟩ [])
def StPost (w : World) (t : LT) (e : Ending) (w' : World) : Prop := ∃ u : LT, e = .returned (.tuple #[.int .i64 ((stripped t.ty).1 : Nat), u.val]) ∧ u.ty = (stripped t.ty).2 ∧ u.New w.heap.size w' ∧ Gw w w'

theorem wf_kids {k : Int} {n : ByteArray} {a : Option Addr} {c : Nat} {ks : List LT} {m : Nat} (hw : Wf (LT.mk k n a c ks).ty m) : ks.length ≤ 2 ∧ ∀ u ∈ ks, ∃ p, Wf u.ty p := by
  have ety : (LT.mk k n a c ks).ty = .mk k n (ks.map LT.ty) := LT.ty_eq _
  rw [ety] at hw
  refine ⟨by have := headB_len hw.head.1; simpa using this, fun u hu => ?_⟩
  obtain ⟨_, d, s, hd, hs, _⟩ := hw.head
  obtain ⟨p, hp, _⟩ := wf_all (by omega) hs u.ty (List.mem_map.2 ⟨u, hu, rfl⟩)
  exact ⟨p, hp⟩

theorem spec_own_wf (t : LT) : ∀ (m : Nat) (w : World), Wf t.ty m → t.Ok w → Calls Try.prog 66 #[t.val] w (ToPost w t) := by
  refine LT.ind (P := fun t => ∀ (m : Nat) (w : World), Wf t.ty m → t.Ok w → Calls Try.prog 66 #[t.val] w (ToPost w t)) (fun k n a c ks ih m w hw h => ?_) t
  obtain ⟨hl, hk⟩ := wf_kids hw
  exact own_of (.mk k n a c ks) (fun u hu w2 h2 => by obtain ⟨p, hp⟩ := hk u hu; exact ih u hu p w2 hp h2) w h (by show ks.length ≤ _; omega)

theorem impl_copy_wf (t : LT) : ∀ (m : Nat) (w : World), Wf t.ty m → t.Ok w → Calls Try.prog 67 #[t.val] w (ToPost w t) := by
  refine LT.ind (P := fun t => ∀ (m : Nat) (w : World), Wf t.ty m → t.Ok w → Calls Try.prog 67 #[t.val] w (ToPost w t)) (fun k n a c ks ih m w hw h => ?_) t
  obtain ⟨hl, hk⟩ := wf_kids hw
  exact copy_of (.mk k n a c ks) (fun u hu w2 h2 => by obtain ⟨p, hp⟩ := hk u hu; exact ih u hu p w2 hp h2) w h (by show ks.length ≤ _; omega)

def StRel (w : World) (t : LT) (i : Value) (wr : World) : Prop := ∃ (x : LT) (m j : Nat), i = .int .i64 j ∧ j + m ≤ 63 ∧ Wf x.ty m ∧ x.Ok w ∧ t.ty.strip = (x.ty.strip.1 + j, x.ty.strip.2) ∧
  wr.heap[w.heap.size]? = some (.cells #[.int .i64 x.k, .string x.n, .slice x.a x.ks.length x.cap] 29 (0, 0)) ∧ wr.heap[w.heap.size + 1]? = some (.cells #[.int .i64 0, .string ⟨#[]⟩, .slice none 0 0] 29 (0, 0)) ∧ Gw w wr

theorem st_set {wr : World} {b : Nat} {v0 v1 v2 u0 u1 u2 : Value} {e : TypeId} (h : wr.heap[b]? = some (.cells #[v0, v1, v2] e (0, 0))) :
    (((wr.setCell ⟨b, 0, none⟩ u0).setCell ⟨b, 1, none⟩ u1).setCell ⟨b, 2, none⟩ u2).heap[b]? = some (.cells #[u0, u1, u2] e (0, 0)) := by
  simp [World.setCell, Array.getElem?_modify, h]

theorem strip_len (t : Ty) : t.kd = 4 → ∀ m, Wf t m → ∃ n x p, t = .mk 4 n [x] ∧ Wf x p ∧ m = p + 1 := by
  intro h m hw
  obtain ⟨k, n, ks⟩ := t
  obtain rfl : k = 4 := h
  rcases hw.cases with ⟨h1, _⟩ | ⟨h1, _⟩ | ⟨h1, _⟩ | ⟨_, he, x, p, hk, h1, hm⟩
  · omega
  · omega
  · omega
  · subst hk
    exact ⟨n, x, p, rfl, h1, hm⟩

/-- A type with a bang at its top: where the type below lies. -/
theorem bang_row {x : LT} {w : World} {m : Nat} (h4 : x.k = 4) (hw : Wf x.ty m) (hx : x.Ok w) : ∃ (y : LT) (b o : Nat), x.a = some ⟨b, o, none⟩ ∧ x.ks.length = 1 ∧ Wf y.ty (m - 1) ∧ 1 < m ∧ y.Ok w ∧ b < w.heap.size ∧ x.ty.strip = (y.ty.strip.1 + 1, y.ty.strip.2) ∧
    (∀ w', Gw w w' → w'.cell? ⟨b, o, none⟩ = some (.int .i64 y.k) ∧ w'.cell? ⟨b, o + 1, none⟩ = some (.string y.n) ∧ w'.cell? ⟨b, o + 2, none⟩ = some (.slice y.a y.ks.length y.cap)) := by
  have hsl := hx.kids
  obtain ⟨n, z, p, he, hp, hm⟩ := strip_len x.ty ((LT.ty_k x).trans h4) m hw
  rw [LT.ty_eq] at he
  injection he with e1 e2 e3
  obtain ⟨k, n', a, c, ks⟩ := x
  replace e3 : ks.map LT.ty = [z] := e3
  match ks, e3 with
  | [y], e4 =>
    have e5 : y.ty = z := by simpa using e4
    obtain rfl : k = 4 := h4
    obtain ⟨b, o, ha, hr⟩ := hsl.2.2.resolve_left (by simp [LT.ks])
    have hge := rowOk_get hr 0 (by simp [LT.ks])
    simp at hge
    obtain ⟨c0, c1, c2, hy⟩ := hge
    have hle := hp.le.1
    refine ⟨y, b, o, ha, rfl, by rw [e5]; rw [show m - 1 = p from by omega]; exact hp, by omega, hy, cell_lt c0, ?_, fun w' g => ?_⟩
    · rw [LT.ty_eq]; exact strip_bang n' y.ty
    · have := rowOk_get (hr.grow g) 0 (by simp [LT.ks])
      simp at this
      exact ⟨this.1, this.2.1, this.2.2.1⟩

set_option maxRecDepth 100000 in
theorem spec_strip (t : LT) (w : World) (h : t.Ok w) : Calls Try.prog 30 #[t.val] w (StPost w t) := by
  have g1 : Gw w ((w.alloc (.cells #[.int .i64 t.k, .string t.n, .slice t.a t.ks.length t.cap] 29)).alloc (.cells #[.int .i64 0, .string ⟨#[]⟩, .slice none 0 0] 29)) := ((Gw.refl w).alloc _).alloc _
  have key := spec_valid t _ (h.grow g1)
  have hb0 : ((w.alloc (.cells #[.int .i64 t.k, .string t.n, .slice t.a t.ks.length t.cap] 29)).alloc (.cells #[.int .i64 0, .string ⟨#[]⟩, .slice none 0 0] 29)).heap[w.heap.size]? = some (.cells #[.int .i64 t.k, .string t.n, .slice t.a t.ks.length t.cap] 29 (0, 0)) := by
    rw [Below.heap_alloc _ _ _ (by simp)]
    exact heap_alloc_new w _
  have hb1 : ((w.alloc (.cells #[.int .i64 t.k, .string t.n, .slice t.a t.ks.length t.cap] 29)).alloc (.cells #[.int .i64 0, .string ⟨#[]⟩, .slice none 0 0] 29)).heap[w.heap.size + 1]? = some (.cells #[.int .i64 0, .string ⟨#[]⟩, .slice none 0 0] 29 (0, 0)) := heap_alloc2_new w _ _
  have HB0 := Lib.hid hb0
  have HB1 := Lib.hid hb1
  clear hb0 hb1
  cases hv : validB t.ty with
  | false =>
    rw [hv] at key
    have HE := Lib.hid (show stripped t.ty = (0, .mk 0 ⟨#[]⟩ []) from by unfold stripped; rw [hv]; rfl)
    clear hv
    go_enter Try.func30, Try.ntmps30
    go_wp2_with fail
    refine key.mono ?_
    rintro e w1 ⟨rfl, hg⟩
    obtain ⟨hc, hf⟩ := bcell hg
    have hz : w.heap.size + 2 ≤ w1.heap.size := by have := hg.size; simp at this; omega
    have g2 := g1.trans hg
    clear HB0 HB1
    go_wp2_with fail
    refine bodyPost_ret (v := .tuple #[.int .i64 ((0 : Nat) : Int), (LT.mk 0 ⟨#[]⟩ none 0 []).val]) (by simp [results, Try.results30, go_sem, hc]; exact ⟨rfl, rfl, rfl, rfl, rfl⟩) rfl ⟨_, by rw [HE.out], by rw [HE.out, zero_ty], new_zero _ _, ?_⟩
    exact ((Below.setCell g2 (by simp) _).setCell (by simp) _).setCell (by simp) _
  | true =>
    rw [hv] at key
    obtain ⟨m, hw, hm⟩ := Wf.of_valid hv
    have HE := Lib.hid (show stripped t.ty = t.ty.strip from by unfold stripped; rw [hv]; rfl)
    clear hv
    go_enter Try.func30, Try.ntmps30
    go_wp2_with fail
    refine key.mono ?_
    rintro e w1 ⟨rfl, hg⟩
    have g2 := g1.trans hg
    have HC0 := Lib.hid ((hg.block _ (by simp; omega)).trans HB0.out)
    have HC1 := Lib.hid ((hg.block _ (by simp)).trans HB1.out)
    clear HB0 HB1 hg g1 key
    go_wp2_with fail
    go_loopw [4] (fun i wr => StRel w t i wr) (fun i _ => 100 - (intOf i).toNat)
    case atStart => exact ⟨t, m, 0, rfl, by omega, hw, h, rfl, HC0.out, HC1.out, g2⟩
    case round =>
      clear HC0 HC1 g2 hw hm m
      obtain ⟨x, m, j, rfl, hj, hw, hx, hst, hb0, hb1, hg⟩ := hrel
      have x0 : wr.cell? ⟨w.heap.size, 0, none⟩ = some (.int .i64 x.k) := cell_of_row _ _ 0 _ _ _ hb0
      have x1 : wr.cell? ⟨w.heap.size, 1, none⟩ = some (.string x.n) := cell_of_row _ _ 1 _ _ _ hb0
      have x2 : wr.cell? ⟨w.heap.size, 2, none⟩ = some (.slice x.a x.ks.length x.cap) := cell_of_row _ _ 2 _ _ _ hb0
      have hf : ∀ i, wr.frozen? ⟨w.heap.size, i, none⟩ = false := fun i => by simp [World.frozen?, hb0]
      have hlx : w.heap.size + 1 < wr.heap.size := (Array.getElem?_eq_some_iff.1 hb1).1
      have HB0 := Lib.hid hb0
      have HB1 := Lib.hid hb1
      have HST := Lib.hid hst
      clear hb0 hb1 hst
      by_cases h4 : x.k = 4
      · obtain ⟨y, b, o, ha, hlen, hwy, hm1, hy, hb, hsy, hcell⟩ := bang_row h4 hw hx
        obtain ⟨c0, c1, c2⟩ := hcell wr hg
        rw [ha, hlen] at x2
        rw [h4] at x0
        have hne : b ≠ w.heap.size := by omega
        have HSY := Lib.hid hsy
        clear hsy hcell ha hlen
        go_wp2_with fail
        go_roundw
        case rel =>
          refine ⟨y, m - 1, j + 1, by go_num, by omega, hwy, hy, by rw [HST.out, HSY.out]; simp; omega, st_set HB0.out, ?_, ?_⟩
          · rw [Below.heap_setCell _ _ _ _ (by simp), Below.heap_setCell _ _ _ _ (by simp), Below.heap_setCell _ _ _ _ (by simp)]; exact HB1.out
          · exact ((Below.setCell hg (by simp) _).setCell (by simp) _).setCell (by simp) _
        case measure => simp [intOf]; omega
      · have hso := strip_other x.ty (by rw [LT.ty_k]; exact h4)
        have hs2 : t.ty.strip = (j, x.ty) := by rw [HST.out, hso]; simp
        have HS2 := Lib.hid hs2
        have z0 : wr.cell? ⟨w.heap.size + 1, 0, none⟩ = some (.int .i64 0) := cell_of_row _ _ 0 _ _ _ HB1.out
        have z1 : wr.cell? ⟨w.heap.size + 1, 1, none⟩ = some (.string ⟨#[]⟩) := cell_of_row _ _ 1 _ _ _ HB1.out
        have z2 : wr.cell? ⟨w.heap.size + 1, 2, none⟩ = some (.slice none 0 0) := cell_of_row _ _ 2 _ _ _ HB1.out
        clear hso hs2 hf
        go_wp2_with fail
        refine (spec_own_wf x m _ hw (hx.grow hg)).mono ?_
        rintro e w2 ⟨u, rfl, hu, hnew, hg2⟩
        have HU := Lib.hid hu
        have HN := Lib.hid hnew
        have g3 := hg.trans hg2
        obtain ⟨kc, kf⟩ := bcell hg2
        have f0 : ∀ i, w2.frozen? ⟨w.heap.size + 1, i, none⟩ = false := fun i => by rw [kf _ _ hlx]; simp [World.frozen?, HB1.out]
        have d0 := (kc (w.heap.size + 1) 0 hlx).trans z0
        have d1 := (kc (w.heap.size + 1) 1 hlx).trans z1
        have d2 := (kc (w.heap.size + 1) 2 hlx).trans z2
        clear hu hnew kc kf x0 x1 x2 z0 z1 z2
        go_wp2_with fail
        have hB : ∀ b, b < w.heap.size + 2 → b ∉ u.bl := fun b hb hm => by have := (HN.out.2.2 b hm).1; omega
        refine bodyPost_ret (v := .tuple #[.int .i64 (j : Nat), u.val]) (by simp [results, Try.results30, go_sem, d0, d1, d2]) rfl ⟨u, by rw [HE.out, HS2.out], by rw [HE.out, HS2.out]; exact HU.out, ?_, ?_⟩
        · exact (((HN.out.far _ (hB _ (by simp)) _).far _ (hB _ (by simp)) _).far _ (hB _ (by simp)) _).mono (by omega)
        · exact ((Below.setCell g3 (by simp) _).setCell (by simp) _).setCell (by simp) _

set_option maxRecDepth 100000 in
theorem impl_strip (t : LT) (w : World) (h : t.Ok w) : Calls Try.prog 31 #[t.val] w (StPost w t) := by
  have g1 : Gw w ((w.alloc (.cells #[.int .i64 t.k, .string t.n, .slice t.a t.ks.length t.cap] 29)).alloc (.cells #[.int .i64 0, .string ⟨#[]⟩, .slice none 0 0] 29)) := ((Gw.refl w).alloc _).alloc _
  have key := impl_valid t _ (h.grow g1)
  have hb0 : ((w.alloc (.cells #[.int .i64 t.k, .string t.n, .slice t.a t.ks.length t.cap] 29)).alloc (.cells #[.int .i64 0, .string ⟨#[]⟩, .slice none 0 0] 29)).heap[w.heap.size]? = some (.cells #[.int .i64 t.k, .string t.n, .slice t.a t.ks.length t.cap] 29 (0, 0)) := by
    rw [Below.heap_alloc _ _ _ (by simp)]
    exact heap_alloc_new w _
  have hb1 : ((w.alloc (.cells #[.int .i64 t.k, .string t.n, .slice t.a t.ks.length t.cap] 29)).alloc (.cells #[.int .i64 0, .string ⟨#[]⟩, .slice none 0 0] 29)).heap[w.heap.size + 1]? = some (.cells #[.int .i64 0, .string ⟨#[]⟩, .slice none 0 0] 29 (0, 0)) := heap_alloc2_new w _ _
  have HB0 := Lib.hid hb0
  have HB1 := Lib.hid hb1
  clear hb0 hb1
  cases hv : validB t.ty with
  | false =>
    rw [hv] at key
    have HE := Lib.hid (show stripped t.ty = (0, .mk 0 ⟨#[]⟩ []) from by unfold stripped; rw [hv]; rfl)
    clear hv
    go_enter Try.func31, Try.ntmps31
    go_wp2_with fail
    refine key.mono ?_
    rintro e w1 ⟨rfl, hg⟩
    obtain ⟨hc, hf⟩ := bcell hg
    have hz : w.heap.size + 2 ≤ w1.heap.size := by have := hg.size; simp at this; omega
    have g2 := g1.trans hg
    clear HB0 HB1
    go_wp2_with fail
    refine bodyPost_ret (v := .tuple #[.int .i64 ((0 : Nat) : Int), (LT.mk 0 ⟨#[]⟩ none 0 []).val]) (by simp [results, Try.results31, go_sem, hc]; exact ⟨rfl, rfl, rfl, rfl, rfl⟩) rfl ⟨_, by rw [HE.out], by rw [HE.out, zero_ty], new_zero _ _, ?_⟩
    exact ((Below.setCell g2 (by simp) _).setCell (by simp) _).setCell (by simp) _
  | true =>
    rw [hv] at key
    obtain ⟨m, hw, hm⟩ := Wf.of_valid hv
    have HE := Lib.hid (show stripped t.ty = t.ty.strip from by unfold stripped; rw [hv]; rfl)
    clear hv
    go_enter Try.func31, Try.ntmps31
    go_wp2_with fail
    refine key.mono ?_
    rintro e w1 ⟨rfl, hg⟩
    have g2 := g1.trans hg
    have HC0 := Lib.hid ((hg.block _ (by simp; omega)).trans HB0.out)
    have HC1 := Lib.hid ((hg.block _ (by simp)).trans HB1.out)
    clear HB0 HB1 hg g1 key
    go_wp2_with fail
    go_loopw [4] (fun i wr => StRel w t i wr) (fun i _ => 100 - (intOf i).toNat)
    case atStart => exact ⟨t, m, 0, rfl, by omega, hw, h, rfl, HC0.out, HC1.out, g2⟩
    case round =>
      clear HC0 HC1 g2 hw hm m
      obtain ⟨x, m, j, rfl, hj, hw, hx, hst, hb0, hb1, hg⟩ := hrel
      have x0 : wr.cell? ⟨w.heap.size, 0, none⟩ = some (.int .i64 x.k) := cell_of_row _ _ 0 _ _ _ hb0
      have x1 : wr.cell? ⟨w.heap.size, 1, none⟩ = some (.string x.n) := cell_of_row _ _ 1 _ _ _ hb0
      have x2 : wr.cell? ⟨w.heap.size, 2, none⟩ = some (.slice x.a x.ks.length x.cap) := cell_of_row _ _ 2 _ _ _ hb0
      have hf : ∀ i, wr.frozen? ⟨w.heap.size, i, none⟩ = false := fun i => by simp [World.frozen?, hb0]
      have hlx : w.heap.size + 1 < wr.heap.size := (Array.getElem?_eq_some_iff.1 hb1).1
      have HB0 := Lib.hid hb0
      have HB1 := Lib.hid hb1
      have HST := Lib.hid hst
      clear hb0 hb1 hst
      by_cases h4 : x.k = 4
      · obtain ⟨y, b, o, ha, hlen, hwy, hm1, hy, hb, hsy, hcell⟩ := bang_row h4 hw hx
        obtain ⟨c0, c1, c2⟩ := hcell wr hg
        rw [ha, hlen] at x2
        rw [h4] at x0
        have hne : b ≠ w.heap.size := by omega
        have HSY := Lib.hid hsy
        clear hsy hcell ha hlen
        go_wp2_with fail
        go_roundw
        case rel =>
          refine ⟨y, m - 1, j + 1, by go_num, by omega, hwy, hy, by rw [HST.out, HSY.out]; simp; omega, st_set HB0.out, ?_, ?_⟩
          · rw [Below.heap_setCell _ _ _ _ (by simp), Below.heap_setCell _ _ _ _ (by simp), Below.heap_setCell _ _ _ _ (by simp)]; exact HB1.out
          · exact ((Below.setCell hg (by simp) _).setCell (by simp) _).setCell (by simp) _
        case measure => simp [intOf]; omega
      · have hso := strip_other x.ty (by rw [LT.ty_k]; exact h4)
        have hs2 : t.ty.strip = (j, x.ty) := by rw [HST.out, hso]; simp
        have HS2 := Lib.hid hs2
        have z0 : wr.cell? ⟨w.heap.size + 1, 0, none⟩ = some (.int .i64 0) := cell_of_row _ _ 0 _ _ _ HB1.out
        have z1 : wr.cell? ⟨w.heap.size + 1, 1, none⟩ = some (.string ⟨#[]⟩) := cell_of_row _ _ 1 _ _ _ HB1.out
        have z2 : wr.cell? ⟨w.heap.size + 1, 2, none⟩ = some (.slice none 0 0) := cell_of_row _ _ 2 _ _ _ HB1.out
        clear hso hs2 hf
        go_wp2_with fail
        refine (impl_copy_wf x m _ hw (hx.grow hg)).mono ?_
        rintro e w2 ⟨u, rfl, hu, hnew, hg2⟩
        have HU := Lib.hid hu
        have HN := Lib.hid hnew
        have g3 := hg.trans hg2
        obtain ⟨kc, kf⟩ := bcell hg2
        have f0 : ∀ i, w2.frozen? ⟨w.heap.size + 1, i, none⟩ = false := fun i => by rw [kf _ _ hlx]; simp [World.frozen?, HB1.out]
        have d0 := (kc (w.heap.size + 1) 0 hlx).trans z0
        have d1 := (kc (w.heap.size + 1) 1 hlx).trans z1
        have d2 := (kc (w.heap.size + 1) 2 hlx).trans z2
        clear hu hnew kc kf x0 x1 x2 z0 z1 z2
        go_wp2_with fail
        have hB : ∀ b, b < w.heap.size + 2 → b ∉ u.bl := fun b hb hm => by have := (HN.out.2.2 b hm).1; omega
        refine bodyPost_ret (v := .tuple #[.int .i64 (j : Nat), u.val]) (by simp [results, Try.results31, go_sem, d0, d1, d2]) rfl ⟨u, by rw [HE.out, HS2.out], by rw [HE.out, HS2.out]; exact HU.out, ?_, ?_⟩
        · exact (((HN.out.far _ (hB _ (by simp)) _).far _ (hB _ (by simp)) _).far _ (hB _ (by simp)) _).mono (by omega)
        · exact ((Below.setCell g3 (by simp) _).setCell (by simp) _).setCell (by simp) _

end Go.Proofs.Ytdlbhjkkgiaidaa.Con
