/-
  Contracts of the program's coreSize with hasCoreForm, of CoreSize and ValidCore. Condition: the table of forms reads as the program's text lays it, and the core term lies in memory.
-/
import Derived.Test.YtkpbiifikkbaeaaDoorCoPr
import Derived.Test.YtkpbiifikkbaeaaDoorCoVal
import Derived.Outline
import Derived.LoopTactic
import Derived.Lib.Hide
import Derived.StillTailTactics
import Derived.Deep.Cut
import Derived.Laws.EntriesVeiled
namespace Go.Proofs.YtkpbiifikkbaeaaDoor.Con
open Go.RowKit
set_option linter.unusedVariables false

abbrev ksT (w : World) : Prop := KTbl w
theorem ksTG {w w' : World} (h : ksT w) (g : Gw w w') : ksT w' := h.grow g
theorem ks_holds (u : LK) (w : World) (b o : Nat) (h : coAt w b o u) (hT : ksT w) : Calls Tryd.prog 123 #[.pointer (some ⟨b, o, none⟩)] w (BoolGw (headC u.k u.v u.ds u.ks.length) w) := impl_coreForm u w b o h hT

/-- The boxes of the closure: the counter, the condition and the closure itself. -/
def ksCaps (w : World) (CN CH CV n : Nat) : Prop := w.heap[CN]? = some (.cells #[.int .i64 n] 2 (0, 0)) ∧ w.heap[CH]? = some (.cells #[.func (.func 123) #[] #[]] 135 (0, 0)) ∧ w.heap[CV]? = some (.cells #[.func (.func 125) #[] #[.pointer (some ⟨CN, 0, none⟩), .pointer (some ⟨CH, 0, none⟩), .pointer (some ⟨CV, 0, none⟩)]] 136 (0, 0))
def ksPost (w : World) (CN CH CV n d : Nat) (u : LK) (e : Ending) (w' : World) : Prop :=
  ∃ r : Bool, e = .returned (.bool r) ∧ (r = true ↔ goodC headC u.co (81 - d) (400 - n)) ∧ Chg w w' (fun b => b = CN) ∧ (r = true → ksCaps w' CN CH CV (n + u.co.nn))
def ksC (u : LK) : Prop := ∀ (w0 w : World) (b o d n CN CH CV : Nat), coAt w0 b o u → ksT w0 → Gw w0 w → ksCaps w CN CH CV n → w0.heap.size ≤ CN → CN ≠ CV → CN ≠ CH → n ≤ 400 → d ≤ 81 →
  Calls Tryd.prog 125 #[.pointer (some ⟨b, o, none⟩), .int .i64 d, .pointer (some ⟨CN, 0, none⟩), .pointer (some ⟨CH, 0, none⟩), .pointer (some ⟨CV, 0, none⟩)] w (ksPost w CN CH CV n d u)

theorem ks_false {w w' : World} {CN CH CV n d : Nat} {u : LK} (h : ¬ goodC headC u.co (81 - d) (400 - n)) (hc : Chg w w' (fun b => b = CN)) : ksPost w CN CH CV n d u (.returned (.bool false)) w' :=
  ⟨false, rfl, by simp [h], hc, fun h => by cases h⟩

theorem ksCaps.keep {w w' : World} {CN CH CV n : Nat} (h : ksCaps w CN CH CV n) (g : Gw w w') : ksCaps w' CN CH CV n :=
  ⟨(g.block _ (Array.getElem?_eq_some_iff.1 h.1).1).trans h.1, (g.block _ (Array.getElem?_eq_some_iff.1 h.2.1).1).trans h.2.1, (g.block _ (Array.getElem?_eq_some_iff.1 h.2.2).1).trans h.2.2⟩

set_option maxRecDepth 100000 in
set_option maxHeartbeats 4000000 in
theorem ks_of (u : LK) (ih : ∀ t ∈ u.ks, ksC t) : ksC u := by
  intro w0 w b o d n CN CH CV hu hT g0 hcap hCN hne hnh hn hd
  have HU := Lib.hid hu
  have HT := Lib.hid hT
  have HG := Lib.hid g0
  have hll : u.ks.length ≤ 9223372036854775807 := hu.2.kl
  have hltN : CN < w.heap.size := (Array.getElem?_eq_some_iff.1 hcap.1).1
  have x0 : w.cell? ⟨CN, 0, none⟩ = some (.int .i64 n) := cell_of_row _ _ 0 _ _ _ hcap.1
  have y0 : w.frozen? ⟨CN, 0, none⟩ = false := by simp [World.frozen?, hcap.1]
  have CA := Lib.hid hcap
  clear hu hT g0 hcap
  go_enter Tryd.func125, Tryd.ntmps125
  go_upto_region 2 with (fail)
  have e1 : (n : Int) + 1 = ((n + 1 : Nat) : Int) := by omega
  have hS : ksCaps (w.setCell ⟨CN, 0, none⟩ (.int .i64 ((n : Int) + 1))) CN CH CV (n + 1) := by
    refine ⟨?_, ?_, ?_⟩
    · rw [← e1]; exact kset_at CA.out.1
    · rw [Below.heap_setCell _ _ _ _ (by simpa using fun e => hnh e.symm)]; exact CA.out.2.1
    · rw [Below.heap_setCell _ _ _ _ (by simpa using fun e => hne e.symm)]; exact CA.out.2.2
  have hC : Chg w (w.setCell ⟨CN, 0, none⟩ (.int .i64 ((n : Int) + 1))) (fun b => b = CN) := Chg.set (Chg.of_gw (Gw.refl w) (fun b => b = CN)) ⟨CN, 0, none⟩ _ (fun _ => rfl)
  clear x0 y0 CA e1
  rw [show (n : Int) + 1 = ((n + 1 : Nat) : Int) by omega] at hS hC ⊢
  generalize w.setCell ⟨CN, 0, none⟩ (.int .i64 ((n + 1 : Nat) : Int)) = w1 at *
  have SC := Lib.hid hS
  have HC := Lib.hid hC
  have H0 := Lib.hid (show Gw w0 w1 from Below.trans HG.out (hC.gw HG.out.size (fun b hb e => by omega)))
  have x0 : w1.cell? ⟨CN, 0, none⟩ = some (.int .i64 ((n + 1 : Nat) : Int)) := cell_of_row _ _ 0 _ _ _ hS.1
  have x1 : w1.cell? ⟨CH, 0, none⟩ = some (.func (.func 123) #[] #[]) := cell_of_row _ _ 0 _ _ _ hS.2.1
  clear hS hC
  by_cases h1 : n + 1 ≤ 400
  rotate_left
  · have F := Lib.hid (ndC_no3 (H := headC) (t := u.co) (d := 81 - d) (l := 400 - n) (.inr (by omega)))
    have q1 : (400 : Int) < ((n + 1 : Nat) : Int) := by omega
    go_wp2_with fail
    go_ret
    exact ks_false F.out HC.out
  have q1 : ¬ (400 : Int) < ((n + 1 : Nat) : Int) := by omega
  by_cases h2 : d ≤ 80
  rotate_left
  · have F := Lib.hid (ndC_no3 (H := headC) (t := u.co) (d := 81 - d) (l := 400 - n) (.inl (by omega)))
    have q2 : (80 : Int) < d := by omega
    go_wp2_with fail
    go_ret
    exact ks_false F.out HC.out
  have q2 : ¬ (80 : Int) < d := by omega
  go_wp2_with fail
  refine (ks_holds u _ b o (HU.out.grow H0.out) (ksTG HT.out H0.out)).mono ?_
  rintro e w2 ⟨rfl, g2⟩
  replace SC := Lib.hid (SC.out.keep g2)
  replace HC := Lib.hid (HC.out.trans (Chg.of_gw g2 _) (fun _ _ h => h))
  replace H0 := Lib.hid (H0.out.trans g2)
  clear x0 x1 g2
  obtain ⟨p0, p1, p2, p3⟩ := (HU.out.grow H0.out).c
  cases hF : headC u.k u.v u.ds u.ks.length with
  | false =>
    have F := Lib.hid (ndC_no2 (H := headC) (u := u) (d := 81 - d) (l := 400 - n) hF)
    clear hF
    go_wp2_with fail
    go_ret
    exact ks_false F.out HC.out
  | true =>
  have HH := Lib.hid hF
  clear hF
  go_wp2_with fail
  clear p0 p1 p2 p3
  go_loopw [28] (fun i wr => ∃ j : Nat, j ≤ u.ks.length ∧ i = .int .i64 j ∧ Chg w wr (fun b => b = CN) ∧ ksCaps wr CN CH CV (n + knsum u j) ∧ knsum u j ≤ 400 - n ∧ KKidsOk headC u (81 - d) j) (fun i _ => u.ks.length - (intOf i).toNat)
  case atStart => exact ⟨0, Nat.zero_le _, rfl, HC.out, by rw [knsum_zero]; exact SC.out, by rw [knsum_zero]; omega, fun i _ h => absurd h (by omega)⟩
  case round =>
    obtain ⟨j, hj, rfl, hc, hs, hle, hall⟩ := hrel
    replace HC := Lib.hid hc
    have SC3 := Lib.hid hs
    have HALL := Lib.hid hall
    have H3 := Lib.hid (show Gw w0 wr from Below.trans HG.out (hc.gw HG.out.size (fun b hb e => by omega)))
    clear hc hs hall
    by_cases hlt : j < u.ks.length
    · obtain ⟨bk, ok, ha, hkid⟩ := coAt.kid HU.out.2.kids j hlt
      have HK := Lib.hid hkid
      obtain ⟨p0, p1, p2, p3⟩ := (HU.out.grow H3.out).c
      rw [ha] at p3
      have r0 : (0 : Int) ≤ j := by omega
      have r1 : (j : Int) < u.ks.length := by omega
      have f0 : wr.cell? ⟨CV, 0, none⟩ = some (.func (.func 125) #[] #[.pointer (some ⟨CN, 0, none⟩), .pointer (some ⟨CH, 0, none⟩), .pointer (some ⟨CV, 0, none⟩)]) := cell_of_row _ _ 0 _ _ _ SC3.out.2.2
      have E1 := Lib.hid (show 81 - (d + 1) = 81 - d - 1 by omega)
      have E2 := Lib.hid (show 400 - (n + knsum u j) = 400 - n - knsum u j by omega)
      have HNS := Lib.hid (knsum_succ u j hlt)
      clear ha hkid
      go_wp2_with fail
      go_still_tail 9, (by kernel_rfl)
      change wpList _ _ _ _ _ wr.drew
      have key : Calls Tryd.prog 125 #[.pointer (some ⟨bk, ok + j * 4, none⟩), .int .i64 ((d : Int) + 1), .pointer (some ⟨CN, 0, none⟩), .pointer (some ⟨CH, 0, none⟩), .pointer (some ⟨CV, 0, none⟩)] wr.drew (ksPost wr.drew CN CH CV (n + knsum u j) (d + 1) u.ks[j]) := by
        rw [show (d : Int) + 1 = ((d + 1 : Nat) : Int) by omega]
        exact ih u.ks[j] (List.getElem_mem hlt) w0 wr.drew bk (ok + j * 4) (d + 1) (n + knsum u j) CN CH CV HK.out HT.out H3.out.drew (SC3.out.keep (Gw.refl wr).drew) hCN hne hnh (by omega) (by omega)
      have KEY := Lib.hid key
      clear key p0 p1 p2 p3 f0
      go_wp2_with fail
      refine KEY.out.mono ?_
      rintro e w4 ⟨r, rfl, hr, hc4, hcap4⟩
      have C4 := Lib.hid (HC.out.trans ((Chg.of_gw (Gw.refl wr).drew _).trans hc4 (fun _ _ h => h)) (fun _ _ h => h))
      clear hc4 KEY
      cases r with
      | false =>
        have F := Lib.hid (kkid_no (H := headC) (d := 81 - d) (l := 400 - n) hlt (fun g => by have := hr.2 (by rw [E1.out, E2.out]; exact g); cases this))
        clear hr hcap4
        go_wp2_with fail
        go_ret
        exact ks_false F.out C4.out
      | true =>
        have GOOD := Lib.hid (show goodC headC u.ks[j].co (81 - d - 1) (400 - n - knsum u j) by rw [← E1.out, ← E2.out]; exact hr.1 rfl)
        have CAP4 := Lib.hid (hcap4 rfl)
        clear hr hcap4
        go_wp2_with fail
        go_roundw
        case rel =>
          refine ⟨j + 1, by omega, by go_num, C4.out, by have := CAP4.out; rw [HNS.out]; rwa [Nat.add_assoc] at this, by have := GOOD.out.2.2; have := HNS.out; omega, fun x hx hi => ?_⟩
          by_cases e : x = j
          · subst e; exact ⟨GOOD.out.1, GOOD.out.2.1⟩
          · exact HALL.out x hx (by omega)
        case measure => simp [intOf]; omega
    · obtain rfl : j = u.ks.length := by omega
      have F := Lib.hid (kkid_all (H := headC) (d := 81 - d) (l := 400 - n) HH.out (by omega) hle HALL.out)
      have FN := Lib.hid (knsum_all u)
      go_wp2_with fail
      go_ret
      exact ⟨true, rfl, by simp [F.out], HC.out, fun _ => by rw [← FN.out]; exact SC3.out⟩

theorem ks_all (u : LK) : ksC u := by
  refine LK.ind (P := ksC) (fun k v da dc ds a cap ks ih => ?_) u
  exact ks_of (.mk k v da dc ds a cap ks) ih

def ksSz (t : Co) : Int := if goodC headC t 80 400 then t.nn else 0

set_option maxRecDepth 100000 in
theorem ks_size (u : LK) (w : World) (b o : Nat) (h : coAt w b o u) (hT : ksT w) : Calls Tryd.prog 122 #[.pointer (some ⟨b, o, none⟩), .func (.func 123) #[] #[]] w (IntGw (ksSz u.co) w) := by
  have gW : Gw w (((w.alloc (.cells #[.func (.func 123) #[] #[]] 135)).alloc (.cells #[.int .i64 0] 2)).alloc (.cells #[.func (.func 125) #[] #[.pointer (some ⟨w.heap.size + 1, 0, none⟩), .pointer (some ⟨w.heap.size, 0, none⟩), .pointer (some ⟨w.heap.size + 1 + 1, 0, none⟩)]] 136)) := (((Gw.refl w).alloc _).alloc _).alloc _
  have hS : ksCaps (((w.alloc (.cells #[.func (.func 123) #[] #[]] 135)).alloc (.cells #[.int .i64 0] 2)).alloc (.cells #[.func (.func 125) #[] #[.pointer (some ⟨w.heap.size + 1, 0, none⟩), .pointer (some ⟨w.heap.size, 0, none⟩), .pointer (some ⟨w.heap.size + 1 + 1, 0, none⟩)]] 136)) (w.heap.size + 1) w.heap.size (w.heap.size + 1 + 1) 0 := by
    refine ⟨?_, ?_, kheap_at _ _ _ _ rfl (by simp)⟩
    · rw [Below.heap_alloc _ _ _ (by simp)]
      exact kheap_at _ _ _ _ rfl (by simp)
    · rw [Below.heap_alloc _ _ _ (by simp; omega), Below.heap_alloc _ _ _ (by simp)]
      exact heap_alloc_new w _
  have key := ks_all u w (((w.alloc (.cells #[.func (.func 123) #[] #[]] 135)).alloc (.cells #[.int .i64 0] 2)).alloc (.cells #[.func (.func 125) #[] #[.pointer (some ⟨w.heap.size + 1, 0, none⟩), .pointer (some ⟨w.heap.size, 0, none⟩), .pointer (some ⟨w.heap.size + 1 + 1, 0, none⟩)]] 136)) b o 1 0 (w.heap.size + 1) w.heap.size (w.heap.size + 1 + 1) h hT gW hS (by omega) (by omega) (by omega) (by omega) (by omega)
  have f0 : (((w.alloc (.cells #[.func (.func 123) #[] #[]] 135)).alloc (.cells #[.int .i64 0] 2)).alloc (.cells #[.func (.func 125) #[] #[.pointer (some ⟨w.heap.size + 1, 0, none⟩), .pointer (some ⟨w.heap.size, 0, none⟩), .pointer (some ⟨w.heap.size + 1 + 1, 0, none⟩)]] 136)).cell? ⟨w.heap.size + 1 + 1, 0, none⟩ = some (.func (.func 125) #[] #[.pointer (some ⟨w.heap.size + 1, 0, none⟩), .pointer (some ⟨w.heap.size, 0, none⟩), .pointer (some ⟨w.heap.size + 1 + 1, 0, none⟩)]) := cell_of_row _ _ 0 _ _ _ hS.2.2
  have hwb : w.heap.size ≤ (((w.alloc (.cells #[.func (.func 123) #[] #[]] 135)).alloc (.cells #[.int .i64 0] 2)).alloc (.cells #[.func (.func 125) #[] #[.pointer (some ⟨w.heap.size + 1, 0, none⟩), .pointer (some ⟨w.heap.size, 0, none⟩), .pointer (some ⟨w.heap.size + 1 + 1, 0, none⟩)]] 136)).heap.size := by simp; omega
  have KEY := Lib.hid key
  have G := Lib.hid gW
  clear key h hT hS gW
  go_enter Tryd.func122, Tryd.ntmps122
  go_upto_region 4 with (fail)
  generalize (((w.alloc (.cells #[.func (.func 123) #[] #[]] 135)).alloc (.cells #[.int .i64 0] 2)).alloc (.cells #[.func (.func 125) #[] #[.pointer (some ⟨w.heap.size + 1, 0, none⟩), .pointer (some ⟨w.heap.size, 0, none⟩), .pointer (some ⟨w.heap.size + 1 + 1, 0, none⟩)]] 136)) = W at *
  go_wp2_with fail
  refine KEY.out.mono ?_
  rintro e w1 ⟨r, rfl, hr, hc, hcap⟩
  have G1 := Lib.hid (show Gw w w1 from Below.trans G.out (hc.gw hwb (fun b hb e => by omega)))
  clear hc f0 KEY hwb
  cases r with
  | false =>
    have F := Lib.hid (show ksSz u.co = 0 from if_neg fun g => by have := hr.2 g; cases this)
    clear hr hcap
    go_wp2_with fail
    go_ret
    exact ⟨ret_int F.out.symm, G1.out⟩
  | true =>
    have F := Lib.hid (show ksSz u.co = u.co.nn from if_pos (hr.1 rfl))
    have c0 : w1.cell? ⟨w.heap.size + 1, 0, none⟩ = some (.int .i64 ((0 + u.co.nn : Nat) : Int)) := cell_of_row _ _ 0 _ _ _ (hcap rfl).1
    rw [Nat.zero_add] at c0
    clear hr hcap
    go_wp2_with fail
    go_ret
    exact ⟨ret_int F.out.symm, G1.out⟩

theorem ksSz_eq (t : Co) : ksSz t = szC t := by
  unfold ksSz szC okC
  by_cases h : goodC headC t 80 400
  · rw [if_pos h, if_pos (decide_eq_true h)]
  · rw [if_neg h, if_neg (by rw [decide_eq_false h]; decide)]

theorem impl_sizeCo (u : LK) (w : World) (h : u.Ok w) (hT : KTbl w) : Calls Tryd.prog 116 #[u.val] w (IntGw (szC u.co) w) := by
  have key := ks_size u _ _ _ (coAt.new (e := 42) h) (hT.grow ((Gw.refl w).alloc _))
  rw [ksSz_eq] at key
  have KEY := Lib.hid key
  have G := Lib.hid ((Gw.refl w).alloc (u.obj 42))
  clear key h hT
  go_enter Tryd.func116, Tryd.ntmps116
  go_wp2_with fail
  refine KEY.out.mono ?_
  rintro e w1 ⟨rfl, g1⟩
  go_wp2_with fail
  go_ret
  exact ⟨rfl, G.out.trans g1⟩

theorem impl_validCo (u : LK) (w : World) (h : u.Ok w) (hT : KTbl w) : Calls Tryd.prog 107 #[u.val] w (BoolGw (okC u.co) w) := by
  have g0 := (Gw.refl w).alloc (u.obj 42)
  have KEY := Lib.hid (impl_sizeCo u _ (h.grow g0) (hT.grow g0))
  have KEY2 := Lib.hid (impl_sizeCo u _ h hT)
  have BX := BoxK.new w u 42
  have G := Lib.hid g0
  clear h hT g0
  go_enter Tryd.func107, Tryd.ntmps107
  go_upto_region 1 with (fail)
  try generalize w.alloc (.cells #[.int .i64 u.k, .int .i64 u.v, .slice u.da u.ds.length u.dc, .slice u.a u.ks.length u.cap] 42) = W at *
  obtain ⟨p0, p1, p2, p3⟩ := BX.c
  go_wp2_with fail
  first | refine KEY.out.mono ?_ | refine KEY2.out.mono ?_
  rintro e w1 ⟨rfl, g1⟩
  clear p0 p1 p2 p3 BX KEY KEY2
  cases hok : okC u.co with
  | false =>
    have HOK := Lib.hid hok
    rw [szC_no hok]
    clear hok
    go_wp2_with fail
    go_ret
    exact ⟨ret_b (by first | exact HOK.out.symm | rfl), by first | exact G.out.trans g1 | exact g1⟩
  | true =>
    have HOK := Lib.hid hok
    rw [szC_yes hok]
    have hp := u.co.nn_pos
    have q : (0 : Int) < u.co.nn := by omega
    clear hok
    go_wp2_with fail
    go_ret
    exact ⟨ret_b (by (try rw [HOK.out]); (first | rfl | exact decide_eq_true (by omega))), by first | exact G.out.trans g1 | exact g1⟩

end Go.Proofs.YtkpbiifikkbaeaaDoor.Con
