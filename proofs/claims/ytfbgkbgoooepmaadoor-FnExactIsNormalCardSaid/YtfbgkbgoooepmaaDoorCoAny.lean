/-
  Contract of the program's coreSize with a condition that always holds. No condition but that the core term lies in memory.
-/
import Derived.Test.YtfbgkbgoooepmaaDoorCoVal
import Derived.Outline
import Derived.LoopTactic
import Derived.Lib.Hide
import Derived.StillTailTactics
import Derived.Deep.Cut
import Derived.Laws.EntriesVeiled
namespace Go.Proofs.YtfbgkbgoooepmaaDoor.Con
open Go.RowKit
set_option linter.unusedVariables false

abbrev kaT (_ : World) : Prop := True
theorem kaTG {w w' : World} (h : kaT w) (g : Gw w w') : kaT w' := trivial
theorem ka_holds (u : LK) (w : World) (b o : Nat) (h : coAt w b o u) (hT : kaT w) : Calls Tryd.prog 106 #[.pointer (some ⟨b, o, none⟩)] w (BoolGw (anyH u.k u.v u.ds u.ks.length) w) := by
  clear h hT
  go_enter Tryd.func106, Tryd.ntmps106
  go_wp2_with fail
  go_ret
  exact ⟨rfl, Gw.refl _⟩

/-- The boxes of the closure: the counter, the condition and the closure itself. -/
def kaCaps (w : World) (CN CH CV n : Nat) : Prop := w.heap[CN]? = some (.cells #[.int .i64 n] 2 (0, 0)) ∧ w.heap[CH]? = some (.cells #[.func (.func 106) #[] #[]] 60 (0, 0)) ∧ w.heap[CV]? = some (.cells #[.func (.func 91) #[] #[.pointer (some ⟨CN, 0, none⟩), .pointer (some ⟨CH, 0, none⟩), .pointer (some ⟨CV, 0, none⟩)]] 80 (0, 0))
def kaPost (w : World) (CN CH CV n d : Nat) (u : LK) (e : Ending) (w' : World) : Prop :=
  ∃ r : Bool, e = .returned (.bool r) ∧ (r = true ↔ goodC anyH u.co (81 - d) (400 - n)) ∧ Chg w w' (fun b => b = CN) ∧ (r = true → kaCaps w' CN CH CV (n + u.co.nn))
def kaC (u : LK) : Prop := ∀ (w0 w : World) (b o d n CN CH CV : Nat), coAt w0 b o u → kaT w0 → Gw w0 w → kaCaps w CN CH CV n → w0.heap.size ≤ CN → CN ≠ CV → CN ≠ CH → n ≤ 400 → d ≤ 81 →
  Calls Tryd.prog 91 #[.pointer (some ⟨b, o, none⟩), .int .i64 d, .pointer (some ⟨CN, 0, none⟩), .pointer (some ⟨CH, 0, none⟩), .pointer (some ⟨CV, 0, none⟩)] w (kaPost w CN CH CV n d u)

theorem ka_false {w w' : World} {CN CH CV n d : Nat} {u : LK} (h : ¬ goodC anyH u.co (81 - d) (400 - n)) (hc : Chg w w' (fun b => b = CN)) : kaPost w CN CH CV n d u (.returned (.bool false)) w' :=
  ⟨false, rfl, by simp [h], hc, fun h => by cases h⟩

theorem kaCaps.keep {w w' : World} {CN CH CV n : Nat} (h : kaCaps w CN CH CV n) (g : Gw w w') : kaCaps w' CN CH CV n :=
  ⟨(g.block _ (Array.getElem?_eq_some_iff.1 h.1).1).trans h.1, (g.block _ (Array.getElem?_eq_some_iff.1 h.2.1).1).trans h.2.1, (g.block _ (Array.getElem?_eq_some_iff.1 h.2.2).1).trans h.2.2⟩

set_option maxRecDepth 100000 in
set_option maxHeartbeats 4000000 in
theorem ka_of (u : LK) (ih : ∀ t ∈ u.ks, kaC t) : kaC u := by
  intro w0 w b o d n CN CH CV hu hT g0 hcap hCN hne hnh hn hd
  have HU := Lib.hid hu
  have HT := Lib.hid hT
  have HG := Lib.hid g0
  have hll : u.ks.length ≤ 9223372036854775807 := hu.2.kl
  have hltN : CN < w.heap.size := (Array.getElem?_eq_some_iff.1 hcap.1).1
  have x0 : w.cell? ⟨CN, 0, none⟩ = some (.int .i64 n) := cell_of_row _ _ 0 _ _ _ hcap.1
  have y0 : w.frozen? ⟨CN, 0, none⟩ = false := by simp [World.frozen?, hcap.1]
  have CA := Lib.hid hcap
  clear hu hT g0 hcap
  go_enter Tryd.func91, Tryd.ntmps91
  go_upto_region 2 with (fail)
  have e1 : (n : Int) + 1 = ((n + 1 : Nat) : Int) := by omega
  have hS : kaCaps (w.setCell ⟨CN, 0, none⟩ (.int .i64 ((n : Int) + 1))) CN CH CV (n + 1) := by
    refine ⟨?_, ?_, ?_⟩
    · rw [← e1]; exact kset_at CA.out.1
    · rw [Below.heap_setCell _ _ _ _ (by simpa using fun e => hnh e.symm)]; exact CA.out.2.1
    · rw [Below.heap_setCell _ _ _ _ (by simpa using fun e => hne e.symm)]; exact CA.out.2.2
  have hC : Chg w (w.setCell ⟨CN, 0, none⟩ (.int .i64 ((n : Int) + 1))) (fun b => b = CN) := Chg.set (Chg.of_gw (Gw.refl w) (fun b => b = CN)) ⟨CN, 0, none⟩ _ (fun _ => rfl)
  clear x0 y0 CA e1
  rw [show (n : Int) + 1 = ((n + 1 : Nat) : Int) by omega] at hS hC ⊢
  generalize w.setCell ⟨CN, 0, none⟩ (.int .i64 ((n + 1 : Nat) : Int)) = w1 at *
  have SC := Lib.hid hS
  have HC := Lib.hid hC
  have H0 := Lib.hid (show Gw w0 w1 from Below.trans HG.out (hC.gw HG.out.size (fun b hb e => by omega)))
  have x0 : w1.cell? ⟨CN, 0, none⟩ = some (.int .i64 ((n + 1 : Nat) : Int)) := cell_of_row _ _ 0 _ _ _ hS.1
  have x1 : w1.cell? ⟨CH, 0, none⟩ = some (.func (.func 106) #[] #[]) := cell_of_row _ _ 0 _ _ _ hS.2.1
  clear hS hC
  by_cases h1 : n + 1 ≤ 400
  rotate_left
  · have F := Lib.hid (ndC_no3 (H := anyH) (t := u.co) (d := 81 - d) (l := 400 - n) (.inr (by omega)))
    have q1 : (400 : Int) < ((n + 1 : Nat) : Int) := by omega
    go_wp2_with fail
    go_ret
    exact ka_false F.out HC.out
  have q1 : ¬ (400 : Int) < ((n + 1 : Nat) : Int) := by omega
  by_cases h2 : d ≤ 80
  rotate_left
  · have F := Lib.hid (ndC_no3 (H := anyH) (t := u.co) (d := 81 - d) (l := 400 - n) (.inl (by omega)))
    have q2 : (80 : Int) < d := by omega
    go_wp2_with fail
    go_ret
    exact ka_false F.out HC.out
  have q2 : ¬ (80 : Int) < d := by omega
  go_wp2_with fail
  refine (ka_holds u _ b o (HU.out.grow H0.out) (kaTG HT.out H0.out)).mono ?_
  rintro e w2 ⟨rfl, g2⟩
  replace SC := Lib.hid (SC.out.keep g2)
  replace HC := Lib.hid (HC.out.trans (Chg.of_gw g2 _) (fun _ _ h => h))
  replace H0 := Lib.hid (H0.out.trans g2)
  clear x0 x1 g2
  obtain ⟨p0, p1, p2, p3⟩ := (HU.out.grow H0.out).c
  cases hF : anyH u.k u.v u.ds u.ks.length with
  | false =>
    have F := Lib.hid (ndC_no2 (H := anyH) (u := u) (d := 81 - d) (l := 400 - n) hF)
    clear hF
    go_wp2_with fail
    go_ret
    exact ka_false F.out HC.out
  | true =>
  have HH := Lib.hid hF
  clear hF
  go_wp2_with fail
  clear p0 p1 p2 p3
  go_loopw [28] (fun i wr => ∃ j : Nat, j ≤ u.ks.length ∧ i = .int .i64 j ∧ Chg w wr (fun b => b = CN) ∧ kaCaps wr CN CH CV (n + knsum u j) ∧ knsum u j ≤ 400 - n ∧ KKidsOk anyH u (81 - d) j) (fun i _ => u.ks.length - (intOf i).toNat)
  case atStart => exact ⟨0, Nat.zero_le _, rfl, HC.out, by rw [knsum_zero]; exact SC.out, by rw [knsum_zero]; omega, fun i _ h => absurd h (by omega)⟩
  case round =>
    obtain ⟨j, hj, rfl, hc, hs, hle, hall⟩ := hrel
    replace HC := Lib.hid hc
    have SC3 := Lib.hid hs
    have HALL := Lib.hid hall
    have H3 := Lib.hid (show Gw w0 wr from Below.trans HG.out (hc.gw HG.out.size (fun b hb e => by omega)))
    clear hc hs hall
    by_cases hlt : j < u.ks.length
    · obtain ⟨bk, ok, ha, hkid⟩ := coAt.kid HU.out.2.kids j hlt
      have HK := Lib.hid hkid
      obtain ⟨p0, p1, p2, p3⟩ := (HU.out.grow H3.out).c
      rw [ha] at p3
      have r0 : (0 : Int) ≤ j := by omega
      have r1 : (j : Int) < u.ks.length := by omega
      have f0 : wr.cell? ⟨CV, 0, none⟩ = some (.func (.func 91) #[] #[.pointer (some ⟨CN, 0, none⟩), .pointer (some ⟨CH, 0, none⟩), .pointer (some ⟨CV, 0, none⟩)]) := cell_of_row _ _ 0 _ _ _ SC3.out.2.2
      have E1 := Lib.hid (show 81 - (d + 1) = 81 - d - 1 by omega)
      have E2 := Lib.hid (show 400 - (n + knsum u j) = 400 - n - knsum u j by omega)
      have HNS := Lib.hid (knsum_succ u j hlt)
      clear ha hkid
      go_wp2_with fail
      go_still_tail 9, (by kernel_rfl)
      change wpList _ _ _ _ _ wr.drew
      have key : Calls Tryd.prog 91 #[.pointer (some ⟨bk, ok + j * 4, none⟩), .int .i64 ((d : Int) + 1), .pointer (some ⟨CN, 0, none⟩), .pointer (some ⟨CH, 0, none⟩), .pointer (some ⟨CV, 0, none⟩)] wr.drew (kaPost wr.drew CN CH CV (n + knsum u j) (d + 1) u.ks[j]) := by
        rw [show (d : Int) + 1 = ((d + 1 : Nat) : Int) by omega]
        exact ih u.ks[j] (List.getElem_mem hlt) w0 wr.drew bk (ok + j * 4) (d + 1) (n + knsum u j) CN CH CV HK.out HT.out H3.out.drew (SC3.out.keep (Gw.refl wr).drew) hCN hne hnh (by omega) (by omega)
      have KEY := Lib.hid key
      clear key p0 p1 p2 p3 f0
      go_wp2_with fail
      refine KEY.out.mono ?_
      rintro e w4 ⟨r, rfl, hr, hc4, hcap4⟩
      have C4 := Lib.hid (HC.out.trans ((Chg.of_gw (Gw.refl wr).drew _).trans hc4 (fun _ _ h => h)) (fun _ _ h => h))
      clear hc4 KEY
      cases r with
      | false =>
        have F := Lib.hid (kkid_no (H := anyH) (d := 81 - d) (l := 400 - n) hlt (fun g => by have := hr.2 (by rw [E1.out, E2.out]; exact g); cases this))
        clear hr hcap4
        go_wp2_with fail
        go_ret
        exact ka_false F.out C4.out
      | true =>
        have GOOD := Lib.hid (show goodC anyH u.ks[j].co (81 - d - 1) (400 - n - knsum u j) by rw [← E1.out, ← E2.out]; exact hr.1 rfl)
        have CAP4 := Lib.hid (hcap4 rfl)
        clear hr hcap4
        go_wp2_with fail
        go_roundw
        case rel =>
          refine ⟨j + 1, by omega, by go_num, C4.out, by have := CAP4.out; rw [HNS.out]; rwa [Nat.add_assoc] at this, by have := GOOD.out.2.2; have := HNS.out; omega, fun x hx hi => ?_⟩
          by_cases e : x = j
          · subst e; exact ⟨GOOD.out.1, GOOD.out.2.1⟩
          · exact HALL.out x hx (by omega)
        case measure => simp [intOf]; omega
    · obtain rfl : j = u.ks.length := by omega
      have F := Lib.hid (kkid_all (H := anyH) (d := 81 - d) (l := 400 - n) HH.out (by omega) hle HALL.out)
      have FN := Lib.hid (knsum_all u)
      go_wp2_with fail
      go_ret
      exact ⟨true, rfl, by simp [F.out], HC.out, fun _ => by rw [← FN.out]; exact SC3.out⟩

theorem ka_all (u : LK) : kaC u := by
  refine LK.ind (P := kaC) (fun k v da dc ds a cap ks ih => ?_) u
  exact ka_of (.mk k v da dc ds a cap ks) ih

def kaSz (t : Co) : Int := if goodC anyH t 80 400 then t.nn else 0

set_option maxRecDepth 100000 in
theorem ka_size (u : LK) (w : World) (b o : Nat) (h : coAt w b o u) (hT : kaT w) : Calls Tryd.prog 57 #[.pointer (some ⟨b, o, none⟩), .func (.func 106) #[] #[]] w (IntGw (kaSz u.co) w) := by
  have gW : Gw w (((w.alloc (.cells #[.func (.func 106) #[] #[]] 60)).alloc (.cells #[.int .i64 0] 2)).alloc (.cells #[.func (.func 91) #[] #[.pointer (some ⟨w.heap.size + 1, 0, none⟩), .pointer (some ⟨w.heap.size, 0, none⟩), .pointer (some ⟨w.heap.size + 1 + 1, 0, none⟩)]] 80)) := (((Gw.refl w).alloc _).alloc _).alloc _
  have hS : kaCaps (((w.alloc (.cells #[.func (.func 106) #[] #[]] 60)).alloc (.cells #[.int .i64 0] 2)).alloc (.cells #[.func (.func 91) #[] #[.pointer (some ⟨w.heap.size + 1, 0, none⟩), .pointer (some ⟨w.heap.size, 0, none⟩), .pointer (some ⟨w.heap.size + 1 + 1, 0, none⟩)]] 80)) (w.heap.size + 1) w.heap.size (w.heap.size + 1 + 1) 0 := by
    refine ⟨?_, ?_, kheap_at _ _ _ _ rfl (by simp)⟩
    · rw [Below.heap_alloc _ _ _ (by simp)]
      exact kheap_at _ _ _ _ rfl (by simp)
    · rw [Below.heap_alloc _ _ _ (by simp; omega), Below.heap_alloc _ _ _ (by simp)]
      exact heap_alloc_new w _
  have key := ka_all u w (((w.alloc (.cells #[.func (.func 106) #[] #[]] 60)).alloc (.cells #[.int .i64 0] 2)).alloc (.cells #[.func (.func 91) #[] #[.pointer (some ⟨w.heap.size + 1, 0, none⟩), .pointer (some ⟨w.heap.size, 0, none⟩), .pointer (some ⟨w.heap.size + 1 + 1, 0, none⟩)]] 80)) b o 1 0 (w.heap.size + 1) w.heap.size (w.heap.size + 1 + 1) h hT gW hS (by omega) (by omega) (by omega) (by omega) (by omega)
  have f0 : (((w.alloc (.cells #[.func (.func 106) #[] #[]] 60)).alloc (.cells #[.int .i64 0] 2)).alloc (.cells #[.func (.func 91) #[] #[.pointer (some ⟨w.heap.size + 1, 0, none⟩), .pointer (some ⟨w.heap.size, 0, none⟩), .pointer (some ⟨w.heap.size + 1 + 1, 0, none⟩)]] 80)).cell? ⟨w.heap.size + 1 + 1, 0, none⟩ = some (.func (.func 91) #[] #[.pointer (some ⟨w.heap.size + 1, 0, none⟩), .pointer (some ⟨w.heap.size, 0, none⟩), .pointer (some ⟨w.heap.size + 1 + 1, 0, none⟩)]) := cell_of_row _ _ 0 _ _ _ hS.2.2
  have hwb : w.heap.size ≤ (((w.alloc (.cells #[.func (.func 106) #[] #[]] 60)).alloc (.cells #[.int .i64 0] 2)).alloc (.cells #[.func (.func 91) #[] #[.pointer (some ⟨w.heap.size + 1, 0, none⟩), .pointer (some ⟨w.heap.size, 0, none⟩), .pointer (some ⟨w.heap.size + 1 + 1, 0, none⟩)]] 80)).heap.size := by simp; omega
  have KEY := Lib.hid key
  have G := Lib.hid gW
  clear key h hT hS gW
  go_enter Tryd.func57, Tryd.ntmps57
  go_upto_region 4 with (fail)
  generalize (((w.alloc (.cells #[.func (.func 106) #[] #[]] 60)).alloc (.cells #[.int .i64 0] 2)).alloc (.cells #[.func (.func 91) #[] #[.pointer (some ⟨w.heap.size + 1, 0, none⟩), .pointer (some ⟨w.heap.size, 0, none⟩), .pointer (some ⟨w.heap.size + 1 + 1, 0, none⟩)]] 80)) = W at *
  go_wp2_with fail
  refine KEY.out.mono ?_
  rintro e w1 ⟨r, rfl, hr, hc, hcap⟩
  have G1 := Lib.hid (show Gw w w1 from Below.trans G.out (hc.gw hwb (fun b hb e => by omega)))
  clear hc f0 KEY hwb
  cases r with
  | false =>
    have F := Lib.hid (show kaSz u.co = 0 from if_neg fun g => by have := hr.2 g; cases this)
    clear hr hcap
    go_wp2_with fail
    go_ret
    exact ⟨ret_int F.out.symm, G1.out⟩
  | true =>
    have F := Lib.hid (show kaSz u.co = u.co.nn from if_pos (hr.1 rfl))
    have c0 : w1.cell? ⟨w.heap.size + 1, 0, none⟩ = some (.int .i64 ((0 + u.co.nn : Nat) : Int)) := cell_of_row _ _ 0 _ _ _ (hcap rfl).1
    rw [Nat.zero_add] at c0
    clear hr hcap
    go_wp2_with fail
    go_ret
    exact ⟨ret_int F.out.symm, G1.out⟩

end Go.Proofs.YtfbgkbgoooepmaaDoor.Con
