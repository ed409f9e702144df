/-
  The laws' own functions toProgram, eqDef, eqDefS, eqProgram. Condition: the program was counted.
-/
import Derived.Test.YtbbldkhlclfmkaaDfTo
import Derived.Test.YtbbldkhlclfmkaaTmEq
import Derived.Test.YtbbldkhlclfmkaaDaEq
namespace Go.Proofs.Ytbbldkhlclfmkaa.Con
open Go.RowKit
set_option linter.unusedVariables false

theorem dNew.same {B : Nat} {w w' : World} {a : Option Addr} {cap : Nat} {ds : List LD} (h : NewSl dOk dbl B w a cap ds) (hb : ∀ b ∈ nbl dbl a ds, w'.heap[b]? = w.heap[b]?) : NewSl dOk dbl B w' a cap ds :=
  ⟨nsl.frame dFrames h.1 hb, h.2.1, fun b hm => ⟨(h.2.2 b hm).1, (h.2.2 b hm).2.same (hb b hm)⟩⟩
theorem dNew.grow {B : Nat} {w w' : World} {a : Option Addr} {cap : Nat} {ds : List LD} (h : NewSl dOk dbl B w a cap ds) (g : Gw w w') : NewSl dOk dbl B w' a cap ds :=
  dNew.same h fun b hb => g.block b (h.2.2 b hb).2.lt

set_option maxRecDepth 100000 in
theorem laws_toProgram (p : LP) (w : World) (h : pOk w p) (hs : p.sz ≤ 1048576) : Calls Try.prog 25 #[p.val] w (ToP w p) := by
  have hD := Lib.hid h.1
  have hF := Lib.hid h.2
  have z1 : sm dsz p.ds ≤ 1048576 := by unfold LP.sz at hs; omega
  have z2 : sm LF.sz p.fs ≤ 1048576 := by unfold LP.sz at hs; omega
  clear h hs
  go_enter Try.func25, Try.ntmps25
  go_wp2_with fail
  have BP0 : (((w.alloc (.cells #[.slice p.da p.ds.length p.dc, .slice p.fa p.fs.length p.fc] 49)).alloc (.cells #[.slice none 0 0, .slice none 0 0] 55)).alloc (.cells #[.slice none 0 0, .slice none 0 0] 55)).heap[w.heap.size]? = some (.cells #[.slice p.da p.ds.length p.dc, .slice p.fa p.fs.length p.fc] 49 (0, 0)) := by
    rw [Below.heap_alloc _ _ _ (by simp <;> omega), Below.heap_alloc _ _ _ (by simp)]
    exact heap_alloc_new _ _
  have BR0 : (((w.alloc (.cells #[.slice p.da p.ds.length p.dc, .slice p.fa p.fs.length p.fc] 49)).alloc (.cells #[.slice none 0 0, .slice none 0 0] 55)).alloc (.cells #[.slice none 0 0, .slice none 0 0] 55)).heap[w.heap.size + 1]? = some (.cells #[.slice none 0 0, .slice none 0 0] 55 (0, 0)) := by
    rw [Below.heap_alloc _ _ _ (by simp)]
    exact heap_alloc_at _ _ _ _ rfl (by simp)
  have BO0 : (((w.alloc (.cells #[.slice p.da p.ds.length p.dc, .slice p.fa p.fs.length p.fc] 49)).alloc (.cells #[.slice none 0 0, .slice none 0 0] 55)).alloc (.cells #[.slice none 0 0, .slice none 0 0] 55)).heap[w.heap.size + 1 + 1]? = some (.cells #[.slice none 0 0, .slice none 0 0] 55 (0, 0)) := heap_alloc_at _ _ _ _ rfl (by simp)
  have gW : Gw w (((w.alloc (.cells #[.slice p.da p.ds.length p.dc, .slice p.fa p.fs.length p.fc] 49)).alloc (.cells #[.slice none 0 0, .slice none 0 0] 55)).alloc (.cells #[.slice none 0 0, .slice none 0 0] 55)) := (((Gw.refl w).alloc _).alloc _).alloc _
  have sz0 : (((w.alloc (.cells #[.slice p.da p.ds.length p.dc, .slice p.fa p.fs.length p.fc] 49)).alloc (.cells #[.slice none 0 0, .slice none 0 0] 55)).alloc (.cells #[.slice none 0 0, .slice none 0 0] 55)).heap.size = w.heap.size + 3 := by simp
  generalize (((w.alloc (.cells #[.slice p.da p.ds.length p.dc, .slice p.fa p.fs.length p.fc] 49)).alloc (.cells #[.slice none 0 0, .slice none 0 0] 55)).alloc (.cells #[.slice none 0 0, .slice none 0 0] 55)) = w0 at *
  refine (laws_toDataS p.ds _ p.da p.dc (dsOk.grow hD.out gW) z1).mono ?_
  rintro e w1 ⟨ds, da, dc, rfl, hd, nd, hg⟩
  have BP1 := (hg.block _ (by omega)).trans BP0
  have BO1 := (hg.block _ (by omega)).trans BO0
  have BR := Lib.hid ((hg.block _ (by omega)).trans BR0)
  have gW1 := gW.trans hg
  have z1' : w.heap.size + 3 ≤ w1.heap.size := by have := hg.size; omega
  rw [sz0] at nd
  have HD := Lib.hid hd
  have ND := Lib.hid nd
  have p1 : w1.cell? ⟨w.heap.size, 1, none⟩ = some (.slice p.fa p.fs.length p.fc) := cell_of_row _ _ 1 _ _ _ BP1
  have q0 : w1.cell? ⟨w.heap.size + 1 + 1, 0, none⟩ = some (.slice none 0 0) := cell_of_row _ _ 0 _ _ _ BO1
  have x0 : w1.frozen? ⟨w.heap.size + 1 + 1, 0, none⟩ = false := by simp [World.frozen?, BO1]
  have BO := Lib.hid BO1
  clear hd nd BP0 BO0 BR0 gW hg BP1 BO1 sz0
  go_wp2_with fail
  clear p1 q0 x0
  have BO1 : (w1.setCell ⟨w.heap.size + 1 + 1, 0, none⟩ (.slice da ds.length dc)).heap[w.heap.size + 1 + 1]? = some (.cells #[.slice da ds.length dc, .slice none 0 0] 55 (0, 0)) := (by
    have hq := (set_at (i := 0) (v := .slice da ds.length dc) BO.out)
    simp only [List.setIfInBounds_toArray, List.set_cons_zero] at hq
    exact hq)
  have BR1 : (w1.setCell ⟨w.heap.size + 1 + 1, 0, none⟩ (.slice da ds.length dc)).heap[w.heap.size + 1]? = some (.cells #[.slice none 0 0, .slice none 0 0] 55 (0, 0)) := by
    rw [Below.heap_setCell _ _ _ _ (by simp <;> omega)]
    exact BR.out
  have ND1 := dNew.same ND.out (w' := (w1.setCell ⟨w.heap.size + 1 + 1, 0, none⟩ (.slice da ds.length dc))) (fun c hc => by
    have := (ND.out.2.2 c hc).1
    rw [Below.heap_setCell _ _ _ _ (by simp <;> omega)])
  replace gW1 : Gw w (w1.setCell ⟨w.heap.size + 1 + 1, 0, none⟩ (.slice da ds.length dc)) := Below.setCell gW1 (by simp <;> omega) _
  replace z1' : w.heap.size + 3 ≤ (w1.setCell ⟨w.heap.size + 1 + 1, 0, none⟩ (.slice da ds.length dc)).heap.size := by simpa [World.setCell] using z1'
  clear BO ND BR
  generalize (w1.setCell ⟨w.heap.size + 1 + 1, 0, none⟩ (.slice da ds.length dc)) = W1 at *
  refine (laws_toDefS p.fs _ p.fa p.fc (gSl.grow dfLen dfGr hF.out gW1) z2).mono ?_
  rintro e w2 ⟨fs, fa, fc, rfl, hf, nf, hg⟩
  have hs12 := hg.size
  have BO := Lib.hid ((hg.block _ (by omega)).trans BO1)
  have BR := Lib.hid ((hg.block _ (by omega)).trans BR1)
  have NF := Lib.hid nf
  have HF := Lib.hid hf
  have ND := Lib.hid (dNew.grow ND1 hg)
  have HB1 := Lib.hid (fun b (hb : b ∈ nbl dbl da ds) => (ND1.2.2 b hb).2.lt)
  have gW2 := gW1.trans hg
  have q0 : w2.cell? ⟨w.heap.size + 1 + 1, 0, none⟩ = some (.slice da ds.length dc) := cell_of_row _ _ 0 _ _ _ BO.out
  have q1 : w2.cell? ⟨w.heap.size + 1 + 1, 1, none⟩ = some (.slice none 0 0) := cell_of_row _ _ 1 _ _ _ BO.out
  have x1 : w2.frozen? ⟨w.heap.size + 1 + 1, 1, none⟩ = false := by simp [World.frozen?, BO.out]
  have r0 : w2.cell? ⟨w.heap.size + 1, 0, none⟩ = some (.slice none 0 0) := cell_of_row _ _ 0 _ _ _ BR.out
  have y0 : w2.frozen? ⟨w.heap.size + 1, 0, none⟩ = false := by simp [World.frozen?, BR.out]
  have r1 : w2.cell? ⟨w.heap.size + 1, 1, none⟩ = some (.slice none 0 0) := cell_of_row _ _ 1 _ _ _ BR.out
  have y1 : w2.frozen? ⟨w.heap.size + 1, 1, none⟩ = false := by simp [World.frozen?, BR.out]
  clear BO1 BR1 ND1 gW1 hg nf hf
  go_wp2_with fail
  have BR3 : (w2.setCell ⟨w.heap.size + 1 + 1, 1, none⟩ (.slice fa fs.length fc)).heap[w.heap.size + 1]? = some (.cells #[.slice none 0 0, .slice none 0 0] 55 (0, 0)) := by
    rw [Below.heap_setCell _ _ _ _ (by simp <;> omega)]
    exact BR.out
  have BRF : (((w2.setCell ⟨w.heap.size + 1 + 1, 1, none⟩ (.slice fa fs.length fc)).setCell ⟨w.heap.size + 1, 0, none⟩ (.slice da ds.length dc)).setCell ⟨w.heap.size + 1, 1, none⟩ (.slice fa fs.length fc)).heap[w.heap.size + 1]? = some (.cells #[.slice da ds.length dc, .slice fa fs.length fc] 55 (0, 0)) := (by
    have hq := (set_at (i := 1) (v := .slice fa fs.length fc) (set_at (i := 0) (v := .slice da ds.length dc) BR3))
    simp only [List.setIfInBounds_toArray, List.set_cons_succ, List.set_cons_zero] at hq
    exact hq)
  have gWF : Gw w (((w2.setCell ⟨w.heap.size + 1 + 1, 1, none⟩ (.slice fa fs.length fc)).setCell ⟨w.heap.size + 1, 0, none⟩ (.slice da ds.length dc)).setCell ⟨w.heap.size + 1, 1, none⟩ (.slice fa fs.length fc)) := Below.setCell (Below.setCell (Below.setCell gW2 (by simp <;> omega) _) (by simp <;> omega) _) (by simp <;> omega) _
  have far : ∀ c, w.heap.size + 3 ≤ c → (((w2.setCell ⟨w.heap.size + 1 + 1, 1, none⟩ (.slice fa fs.length fc)).setCell ⟨w.heap.size + 1, 0, none⟩ (.slice da ds.length dc)).setCell ⟨w.heap.size + 1, 1, none⟩ (.slice fa fs.length fc)).heap[c]? = w2.heap[c]? := fun c hc => by
    rw [Below.heap_setCell _ _ _ _ (by simp <;> omega), Below.heap_setCell _ _ _ _ (by simp <;> omega), Below.heap_setCell _ _ _ _ (by simp <;> omega)]
  clear q0 q1 x1 r0 y0 r1 y1 BR3 gW2
  generalize (((w2.setCell ⟨w.heap.size + 1 + 1, 1, none⟩ (.slice fa fs.length fc)).setCell ⟨w.heap.size + 1, 0, none⟩ (.slice da ds.length dc)).setCell ⟨w.heap.size + 1, 1, none⟩ (.slice fa fs.length fc)) = W3 at *
  have e0 : W3.cell? ⟨w.heap.size + 1, 0, none⟩ = some (.slice da ds.length dc) := cell_of_row _ _ 0 _ _ _ BRF
  have e1 : W3.cell? ⟨w.heap.size + 1, 1, none⟩ = some (.slice fa fs.length fc) := cell_of_row _ _ 1 _ _ _ BRF
  refine bodyPost_ret (v := (LP.mk da dc ds fa fc fs).val) (by simp [results, Try.results25, go_sem, e0, e1]) rfl ⟨⟨da, dc, ds, fa, fc, fs⟩, rfl, ?_, ?_, ?_, ?_, gWF⟩
  · show (ds.map dty, fs.map LF.df) = (p.ds.map dty, p.fs.map LF.df)
    rw [HD.out, HF.out]
  · have := dNew.same ND.out (w' := W3) fun c hc => far c (ND.out.2.2 c hc).1
    exact ⟨this.1, this.2.1, fun b hb => ⟨by have := (this.2.2 b hb).1; omega, (this.2.2 b hb).2⟩⟩
  · have := gNewSl.same (by decide) dfLen dfFr NF.out (w' := W3) fun c hc => far c (by have := (NF.out.2.2 c hc).1; omega)
    exact gNewSl.mono this (by omega)
  · intro b hb hb2
    have := HB1.out b hb
    have := (NF.out.2.2 b hb2).1
    omega

set_option maxRecDepth 100000 in
theorem laws_eqDef (f g : LF) (w : World) (h1 : dfOk w f) (h2 : dfOk w g) (he : f.df = g.df) : Calls Try.prog 98 #[f.val, g.val] w (TrueGw w) := by
  obtain ⟨n, t, u⟩ := f
  obtain ⟨n', t', u'⟩ := g
  have e1 : n = n' := congrArg (fun x : DF => x.1) he
  have e2 := Lib.hid (show t.ty = t'.ty from congrArg (fun x : DF => x.2.1) he)
  have e3 := Lib.hid (show u.tm = u'.tm from congrArg (fun x : DF => x.2.2) he)
  subst e1
  have T1 := Lib.hid h1.2.1
  have T2 := Lib.hid h2.2.1
  have U1 := Lib.hid h1.2.2
  have U2 := Lib.hid h2.2.2
  have hg0 : Gw w ((w.alloc (.cells #[.string n, .int .i64 t.k, .string t.n, .slice t.a t.ks.length t.cap, .int .i64 u.k, .int .i64 u.m, .string u.n, .int .i64 u.t.k, .string u.t.n, .slice u.t.a u.t.ks.length u.t.cap, .slice u.na u.ns.length u.nc, .slice u.a u.ks.length u.cap] 97)).alloc (.cells #[.string n, .int .i64 t'.k, .string t'.n, .slice t'.a t'.ks.length t'.cap, .int .i64 u'.k, .int .i64 u'.m, .string u'.n, .int .i64 u'.t.k, .string u'.t.n, .slice u'.t.a u'.t.ks.length u'.t.cap, .slice u'.na u'.ns.length u'.nc, .slice u'.a u'.ks.length u'.cap] 97)) := ((Gw.refl w).alloc _).alloc _
  clear h1 h2 he
  go_enter Try.func98, Try.ntmps98
  go_wp2_with fail
  refine (laws_eqType t t' _ (T1.out.grow hg0) (T2.out.grow hg0) e2.out).mono ?_
  rintro e w1 ⟨rfl, hg1⟩
  obtain ⟨hc1, _⟩ := bcell hg1
  replace hg1 := hg0.trans hg1
  go_wp2_with fail
  refine (laws_eqTerm u u' _ (U1.out.grow hg1) (U2.out.grow hg1) e3.out).mono ?_
  rintro e w2 ⟨rfl, hg2⟩
  clear hc1
  go_wp2_with fail
  go_ret
  exact ⟨rfl, hg1.trans hg2⟩

set_option maxRecDepth 100000 in
theorem laws_eqDefS (xs ys : List LF)
    (w : World) (n : Nat) (hx : xs.length = n) (hy : ys.length = n) (a b : Option Addr) (c d : Nat) (ho : dfSl w a c xs) (hp : dfSl w b d ys) (he : xs.map LF.df = ys.map LF.df) :
    Calls Try.prog 69 #[.slice a n c, .slice b n d] w (TrueGw w) := by
  have hn : n ≤ 9223372036854775807 := hx ▸ Nat.le_trans ho.1 ho.2.1
  have hr1 := ho.2.2
  have hr2 := hp.2.2
  have HX := Lib.hid hx
  have HY := Lib.hid hy
  have HE := Lib.hid he
  clear hx hy he ho hp
  go_enter Try.func69, Try.ntmps69
  go_wp2_with fail
  go_loopw [5] (fun i wr => ∃ j : Nat, j ≤ n ∧ i = .int .i64 j ∧ Gw w wr) (fun i _ => n - (intOf i).toNat)
  case atStart => exact ⟨0, by omega, rfl, Gw.refl _⟩
  case round =>
    obtain ⟨j, hj, rfl, hg⟩ := hrel
    by_cases hlt : j < n
    · have hx := HX.out
      have hy := HY.out
      obtain ⟨b1, o1, rfl, r1⟩ := hr1.resolve_left (fun e => by subst e; simp at hx; omega)
      obtain ⟨b2, o2, rfl, r2⟩ := hr2.resolve_left (fun e => by subst e; simp at hy; omega)
      have hjx : j < xs.length := by omega
      have hjy : j < ys.length := by omega
      obtain ⟨c0, c1, c2, c3, c4, c5, c6, c7, c8, c9, c10, c11, hk⟩ := dfRow_get (r1.grow dfLen dfGr hg) j hjx
      obtain ⟨d0, d1, d2, d3, d4, d5, d6, d7, d8, d9, d10, d11, hl⟩ := dfRow_get (r2.grow dfLen dfGr hg) j hjy
      clear hr1 hr2 hx hy
      go_wp2_with fail
      go_still_tail 8, (by kernel_rfl)
      change wpList _ _ _ _ _ wr.drew
      have hk' : dfOk wr.drew xs[j] := ⟨hk.1, hk.2.1.drew, hk.2.2.drew⟩
      have hl' : dfOk wr.drew ys[j] := ⟨hl.1, hl.2.1.drew, hl.2.2.drew⟩
      have hg' : Gw w wr.drew := hg.drew
      generalize wr.drew = w2 at hk' hl' hg' ⊢
      have HK := Lib.hid hk'
      have HL := Lib.hid hl'
      clear c0 c1 c2 c3 c4 c5 c6 c7 c8 c9 c10 c11 d0 d1 d2 d3 d4 d5 d6 d7 d8 d9 d10 d11 hk hl hg hk' hl' r1 r2
      have HM := Lib.hid (map_get_of HE.out j hjx hjy)
      go_wp2_with fail
      refine (laws_eqDef xs[j] ys[j] _ HK.out HL.out HM.out).mono ?_
      rintro e w1 ⟨rfl, hg1⟩
      have hg2 := hg'.trans hg1
      go_wp2_with fail
      go_roundw
      case rel => exact ⟨j + 1, by omega, by go_num, hg2⟩
      case measure => simp [intOf]; omega
    · obtain rfl : j = n := by omega
      go_wp2_with fail
      go_ret
      exact ⟨rfl, hg⟩

theorem laws_eqProgram (p q : LP) (w : World) (h1 : pOk w p) (h2 : pOk w q) (he : p.pr = q.pr) : Calls Try.prog 27 #[p.val, q.val] w (TrueGw w) := by
  have e1 : p.ds.map dty = q.ds.map dty := congrArg Prod.fst he
  have e2 : p.fs.map LF.df = q.fs.map LF.df := congrArg Prod.snd he
  have hl1 := map_len_of e1
  have hl2 := map_len_of e2
  obtain ⟨n, hn⟩ : ∃ n, q.ds.length = n := ⟨_, rfl⟩
  obtain ⟨m, hm⟩ : ∃ m, q.fs.length = m := ⟨_, rfl⟩
  rw [hn] at hl1
  rw [hm] at hl2
  show Calls Try.prog 27 #[.agg #[.slice p.da p.ds.length p.dc, .slice p.fa p.fs.length p.fc], .agg #[.slice q.da q.ds.length q.dc, .slice q.fa q.fs.length q.fc]] w (TrueGw w)
  rw [hl1, hl2, hn, hm]
  have E1 := Lib.hid e1
  have E2 := Lib.hid e2
  have L1 := Lib.hid hl1
  have L2 := Lib.hid hl2
  have HN := Lib.hid hn
  have HM := Lib.hid hm
  have P1 := Lib.hid h1
  have P2 := Lib.hid h2
  have hg0 : Gw w ((w.alloc (.cells #[.slice p.da n p.dc, .slice p.fa m p.fc] 55)).alloc (.cells #[.slice q.da n q.dc, .slice q.fa m q.fc] 55)) := ((Gw.refl w).alloc _).alloc _
  clear he e1 e2 hl1 hl2 hn hm h1 h2
  go_enter Try.func27, Try.ntmps27
  go_wp2_with fail
  refine (laws_eqDataS p.ds q.ds _ n L1.out HN.out p.da q.da p.dc q.dc (dsOk.grow P1.out.1 hg0) (dsOk.grow P2.out.1 hg0) E1.out).mono ?_
  rintro e w1 ⟨rfl, hg1⟩
  obtain ⟨hc1, _⟩ := bcell hg1
  replace hg1 := hg0.trans hg1
  go_wp2_with fail
  refine (laws_eqDefS p.fs q.fs _ m L2.out HM.out p.fa q.fa p.fc q.fc (gSl.grow dfLen dfGr P1.out.2 hg1) (gSl.grow dfLen dfGr P2.out.2 hg1) E2.out).mono ?_
  rintro e w2 ⟨rfl, hg2⟩
  clear hc1
  go_wp2_with fail
  go_ret
  exact ⟨rfl, hg1.trans hg2⟩

end Go.Proofs.Ytbbldkhlclfmkaa.Con
