/-
  Contracts of the model's l06Own and StartNeed and of the program's StartNeed. Condition: book and core term lie in memory, and the table of forms reads as the program's text lays it.
-/
import Derived.Test.YtkpbiifikkbaeaaDoorMs
import Derived.Test.YtkpbiifikkbaeaaDoorLy
import Derived.Test.YtkpbiifikkbaeaaDoorNdEq
import Derived.Test.YtkpbiifikkbaeaaDoorCoHs
import Derived.Test.YtkpbiifikkbaeaaDoorCoCc
import Derived.Test.YtkpbiifikkbaeaaDoorNd
namespace Go.Proofs.YtkpbiifikkbaeaaDoor.Con
open Go.RowKit
set_option linter.unusedVariables false

mutual
theorem sh_zero : ∀ (t : Co) (f : Int), t.sh 0 f = t
  | .mk k v ds ks, f => by
    rw [sh_eq]
    have h1 := shs_zero k 0 ks f
    have h2 : shV k v 0 f = v := by unfold shV; split <;> simp
    simp only [Co.k, Co.v, Co.ds, Co.ks]
    rw [h2]
    exact congrArg _ h1
theorem shs_zero : ∀ (k : Int) (i : Nat) (ts : List Co) (f : Int), coshs k i ts 0 f = ts
  | k, i, [], f => by simp [coshs, Co.sh.shs]
  | k, i, t :: ts, f => by
    have h1 := sh_zero t
    have h2 := shs_zero k (i + 1) ts f
    simp only [coshs, Co.sh.shs] at h2 ⊢
    rw [h1, h2]
end

theorem spec_own (u : LK) (w : World) (b o : Nat) (h : coAt w b o u) (hh : u.co.all headC = true) (hd : u.co.dp ≤ 1000) : Calls Tryd.prog 50 #[.pointer (some ⟨b, o, none⟩)] w (NwP w u.co) := by
  have g0 := (Gw.refl w).alloc (.cells #[.int .i64 0, .int .i64 0, .slice none 0 0, .slice none 0 0] 42)
  have KEY := Lib.hid (sh_all u (w.alloc (.cells #[.int .i64 0, .int .i64 0, .slice none 0 0, .slice none 0 0] 42)) b o 0 0 (h.grow g0) hh (by omega) (by omega) (by omega) (by omega))
  rw [sh_zero] at KEY
  have HT := Lib.hid (zAt.new w #[.int .i64 0, .int .i64 0, .slice none 0 0, .slice none 0 0] 42)
  have G0 := Lib.hid g0
  clear h hh hd g0
  go_enter Tryd.func50, Tryd.ntmps50
  go_upto_region 1 with (fail)
  generalize w.alloc (.cells #[.int .i64 0, .int .i64 0, .slice none 0 0, .slice none 0 0] 42) = w0 at *
  go_wp2_with fail
  refine KEY.out.mono ?_
  rintro e w1 ⟨x, rfl, hx, hn, g1⟩
  have HT1 := Lib.hid (HT.out.grow g1)
  have HX := Lib.hid hx
  have NX := Lib.hid hn
  have G1 := Lib.hid (G0.out.trans g1)
  have LT0 := Lib.hid HT.out.lt
  have r0 := HT1.out.c 0 _ rfl
  have r1 := HT1.out.c 1 _ rfl
  have r2 := HT1.out.c 2 _ rfl
  have r3 := HT1.out.c 3 _ rfl
  have f0 := HT1.out.fz 0
  have f1 := HT1.out.fz 1
  have f2 := HT1.out.fz 2
  have f3 := HT1.out.fz 3
  clear hx hn g1 KEY HT G0
  go_wp2_with fail
  refine bodyPost_ret (v := x.val) (by simp [results, Tryd.results50, go_sem, r0, r1, r2, r3]) rfl ⟨x, rfl, HX.out, ?_, (((Below.setCell G1.out (Nat.le_refl _) _).setCell (Nat.le_refl _) _).setCell (Nat.le_refl _) _).setCell (Nat.le_refl _) _⟩
  refine (gNew.same coFr NX.out fun z hz => ?_).mono (by have := LT0.out; omega)
  have := (NX.out.2.2 z hz).1
  have := LT0.out
  rw [Below.heap_setCell _ _ _ _ (by simp; omega), Below.heap_setCell _ _ _ _ (by simp; omega), Below.heap_setCell _ _ _ _ (by simp; omega), Below.heap_setCell _ _ _ _ (by simp; omega)]

/-- The state that begins with a core term. -/
def ndOf (x : LK) : LNd := ⟨⟨x, none, 0, []⟩, none, 0, [], none, 0, []⟩
def stCd (ts : List Co) (t : Co) : Int := if msC ts t = true then 0 else 1
def stRs (ts : List Co) (t : Co) : Co := if msC ts t = true then t else zeC
def StP (ts : List Co) (t : Co) (w : World) (e : Ending) (w' : World) : Prop := ∃ x : LK, e = .returned (.tuple #[.agg #[.int .i64 x.k, .int .i64 x.v, .slice x.da x.ds.length x.dc, .slice x.a x.ks.length x.cap, .slice none 0 0, .slice none 0 0, .slice none 0 0], .int .i64 (stCd ts t)]) ∧ x.co = stRs ts t ∧ x.New w.heap.size w' ∧ Gw w w'
theorem by_seven {w w2 : World} {R : Nat} (h : Gw w w2) (hR : w.heap.size ≤ R) {x0 x1 x2 x3 x4 x5 x6 : Value} : Gw w (((((((w2.setCell ⟨R, 0, none⟩ (x0)).setCell ⟨R, 1, none⟩ (x1)).setCell ⟨R, 2, none⟩ (x2)).setCell ⟨R, 3, none⟩ (x3)).setCell ⟨R, 4, none⟩ (x4)).setCell ⟨R, 5, none⟩ (x5)).setCell ⟨R, 6, none⟩ (x6)) := (Below.setCell (Below.setCell (Below.setCell (Below.setCell (Below.setCell (Below.setCell (Below.setCell h hR _) hR _) hR _) hR _) hR _) hR _) hR _)
theorem ms_good {ts : List Co} {t : Co} (h : msC ts t = true) : okC t = true := by
  rw [ms_eb] at h
  simp only [Bool.and_eq_true] at h
  exact clos_ok h.2.1

set_option maxRecDepth 100000 in
set_option maxHeartbeats 1000000 in
theorem spec_start (u : LB) (c : LK) (w : World) (h : bOk w u) (hc : c.Ok w) : Calls Tryd.prog 15 #[u.val, c.val] w (StP u.cs c.co w) := by
  have gA : Gw w (((w.alloc (.cells #[.slice u.a u.ks.length u.cap] 39)).alloc (.cells #[.int .i64 c.k, .int .i64 c.v, .slice c.da c.ds.length c.dc, .slice c.a c.ks.length c.cap] 42)).alloc (.cells #[.int .i64 0, .int .i64 0, .slice none 0 0, .slice none 0 0, .slice none 0 0, .slice none 0 0, .slice none 0 0] 48)) := (((Gw.refl w).alloc _).alloc _).alloc _
  have BB := Lib.hid ((BoxB.new w u 39).grow (((Gw.refl _).alloc (.cells #[.int .i64 c.k, .int .i64 c.v, .slice c.da c.ds.length c.dc, .slice c.a c.ks.length c.cap] 42)).alloc (.cells #[.int .i64 0, .int .i64 0, .slice none 0 0, .slice none 0 0, .slice none 0 0, .slice none 0 0, .slice none 0 0] 48)))
  have hBK := BoxK.new (w.alloc (.cells #[.slice u.a u.ks.length u.cap] 39)) c 42
  rw [World.size_alloc] at hBK
  have BK := Lib.hid (hBK.grow ((Gw.refl _).alloc (.cells #[.int .i64 0, .int .i64 0, .slice none 0 0, .slice none 0 0, .slice none 0 0, .slice none 0 0, .slice none 0 0] 48)))
  have hR := heap_alloc_new ((w.alloc (.cells #[.slice u.a u.ks.length u.cap] 39)).alloc (.cells #[.int .i64 c.k, .int .i64 c.v, .slice c.da c.ds.length c.dc, .slice c.a c.ks.length c.cap] 42)) (.cells #[.int .i64 0, .int .i64 0, .slice none 0 0, .slice none 0 0, .slice none 0 0, .slice none 0 0, .slice none 0 0] 48)
  rw [World.size_alloc, World.size_alloc] at hR
  have HR := Lib.hid hR
  have OB := Lib.hid (h.grow gA)
  have OC := Lib.hid (hc.grow gA)
  have G := Lib.hid gA
  clear h hc hR gA hBK
  go_enter Tryd.func15, Tryd.ntmps15
  go_upto_region 1 with (fail)
  generalize (((w.alloc (.cells #[.slice u.a u.ks.length u.cap] 39)).alloc (.cells #[.int .i64 c.k, .int .i64 c.v, .slice c.da c.ds.length c.dc, .slice c.a c.ks.length c.cap] 42)).alloc (.cells #[.int .i64 0, .int .i64 0, .slice none 0 0, .slice none 0 0, .slice none 0 0, .slice none 0 0, .slice none 0 0] 48)) = w1 at *
  cases hm : msC u.cs c.co with
  | false =>
    have KO := spec_l08State u c w1 _ _ 0 OB.out BB.out (BK.out.at OC.out)
    rw [hm] at KO
    have KOO := Lib.hid KO
    have C := Lib.hid (show stCd u.cs c.co = 1 by unfold stCd; rw [hm]; rfl)
    have D := Lib.hid (show stRs u.cs c.co = zeC by unfold stRs; rw [hm]; rfl)
    clear KO hm
    go_wp2_with fail
    refine KOO.out.mono ?_
    rintro e w2 ⟨rfl, g2⟩
    have R2 := Lib.hid ((g2.block _ (Array.getElem?_eq_some_iff.1 HR.out).1).trans HR.out)
    have G2 := Lib.hid (G.out.trans g2)
    have r0 : w2.cell? ⟨w.heap.size + 1 + 1, 0, none⟩ = some (.int .i64 0) := cell_of_row _ _ 0 _ _ _ R2.out
    have f0 : w2.frozen? ⟨w.heap.size + 1 + 1, 0, none⟩ = false := by simp [World.frozen?, R2.out]
    have r1 : w2.cell? ⟨w.heap.size + 1 + 1, 1, none⟩ = some (.int .i64 0) := cell_of_row _ _ 1 _ _ _ R2.out
    have f1 : w2.frozen? ⟨w.heap.size + 1 + 1, 1, none⟩ = false := by simp [World.frozen?, R2.out]
    have r2 : w2.cell? ⟨w.heap.size + 1 + 1, 2, none⟩ = some (.slice none 0 0) := cell_of_row _ _ 2 _ _ _ R2.out
    have f2 : w2.frozen? ⟨w.heap.size + 1 + 1, 2, none⟩ = false := by simp [World.frozen?, R2.out]
    have r3 : w2.cell? ⟨w.heap.size + 1 + 1, 3, none⟩ = some (.slice none 0 0) := cell_of_row _ _ 3 _ _ _ R2.out
    have f3 : w2.frozen? ⟨w.heap.size + 1 + 1, 3, none⟩ = false := by simp [World.frozen?, R2.out]
    have r4 : w2.cell? ⟨w.heap.size + 1 + 1, 4, none⟩ = some (.slice none 0 0) := cell_of_row _ _ 4 _ _ _ R2.out
    have f4 : w2.frozen? ⟨w.heap.size + 1 + 1, 4, none⟩ = false := by simp [World.frozen?, R2.out]
    have r5 : w2.cell? ⟨w.heap.size + 1 + 1, 5, none⟩ = some (.slice none 0 0) := cell_of_row _ _ 5 _ _ _ R2.out
    have f5 : w2.frozen? ⟨w.heap.size + 1 + 1, 5, none⟩ = false := by simp [World.frozen?, R2.out]
    have r6 : w2.cell? ⟨w.heap.size + 1 + 1, 6, none⟩ = some (.slice none 0 0) := cell_of_row _ _ 6 _ _ _ R2.out
    have f6 : w2.frozen? ⟨w.heap.size + 1 + 1, 6, none⟩ = false := by simp [World.frozen?, R2.out]
    clear g2 KOO
    go_wp2_with fail
    refine bodyPost_ret (v := .tuple #[.agg #[.int .i64 0, .int .i64 0, .slice none 0 0, .slice none 0 0, .slice none 0 0, .slice none 0 0, .slice none 0 0], .int .i64 1]) (by simp [results, Tryd.results15, go_sem, r0, r1, r2, r3, r4, r5, r6]; try exact ⟨rfl, rfl, ⟨rfl, rfl, rfl⟩, ⟨rfl, rfl, rfl⟩, ⟨rfl, rfl, rfl⟩, ⟨rfl, rfl, rfl⟩, rfl, rfl, rfl⟩) rfl ⟨zeK, by rw [C.out]; rfl, by rw [D.out]; rfl, zeK_new _ _, by_seven G2.out (by omega)⟩
  | true =>
    have KO := spec_l08State u c w1 _ _ 0 OB.out BB.out (BK.out.at OC.out)
    rw [hm] at KO
    have KOO := Lib.hid KO
    have HOK := Lib.hid (okC_good (ms_good hm))
    have C := Lib.hid (show stCd u.cs c.co = 0 by unfold stCd; rw [hm]; rfl)
    have D := Lib.hid (show stRs u.cs c.co = c.co by unfold stRs; rw [hm]; rfl)
    clear KO hm
    go_wp2_with fail
    refine KOO.out.mono ?_
    rintro e w2 ⟨rfl, g2⟩
    have R2 := Lib.hid ((g2.block _ (Array.getElem?_eq_some_iff.1 HR.out).1).trans HR.out)
    have LR := Lib.hid (Array.getElem?_eq_some_iff.1 R2.out).1
    have KW := Lib.hid (spec_own c w2 _ 0 ((BK.out.at OC.out).grow g2) HOK.out.1 (by have := HOK.out.2.1; omega))
    have G2 := Lib.hid (G.out.trans g2)
    clear g2 KOO
    go_wp2_with fail
    refine KW.out.mono ?_
    rintro e w3 ⟨x, rfl, hx, hn, g3⟩
    have HX := Lib.hid hx
    have NX := Lib.hid hn
    have R3 := Lib.hid ((g3.block _ LR.out).trans R2.out)
    have G3 := Lib.hid (G2.out.trans g3)
    have r0 : w3.cell? ⟨w.heap.size + 1 + 1, 0, none⟩ = some (.int .i64 0) := cell_of_row _ _ 0 _ _ _ R3.out
    have f0 : w3.frozen? ⟨w.heap.size + 1 + 1, 0, none⟩ = false := by simp [World.frozen?, R3.out]
    have r1 : w3.cell? ⟨w.heap.size + 1 + 1, 1, none⟩ = some (.int .i64 0) := cell_of_row _ _ 1 _ _ _ R3.out
    have f1 : w3.frozen? ⟨w.heap.size + 1 + 1, 1, none⟩ = false := by simp [World.frozen?, R3.out]
    have r2 : w3.cell? ⟨w.heap.size + 1 + 1, 2, none⟩ = some (.slice none 0 0) := cell_of_row _ _ 2 _ _ _ R3.out
    have f2 : w3.frozen? ⟨w.heap.size + 1 + 1, 2, none⟩ = false := by simp [World.frozen?, R3.out]
    have r3 : w3.cell? ⟨w.heap.size + 1 + 1, 3, none⟩ = some (.slice none 0 0) := cell_of_row _ _ 3 _ _ _ R3.out
    have f3 : w3.frozen? ⟨w.heap.size + 1 + 1, 3, none⟩ = false := by simp [World.frozen?, R3.out]
    have r4 : w3.cell? ⟨w.heap.size + 1 + 1, 4, none⟩ = some (.slice none 0 0) := cell_of_row _ _ 4 _ _ _ R3.out
    have f4 : w3.frozen? ⟨w.heap.size + 1 + 1, 4, none⟩ = false := by simp [World.frozen?, R3.out]
    have r5 : w3.cell? ⟨w.heap.size + 1 + 1, 5, none⟩ = some (.slice none 0 0) := cell_of_row _ _ 5 _ _ _ R3.out
    have f5 : w3.frozen? ⟨w.heap.size + 1 + 1, 5, none⟩ = false := by simp [World.frozen?, R3.out]
    have r6 : w3.cell? ⟨w.heap.size + 1 + 1, 6, none⟩ = some (.slice none 0 0) := cell_of_row _ _ 6 _ _ _ R3.out
    have f6 : w3.frozen? ⟨w.heap.size + 1 + 1, 6, none⟩ = false := by simp [World.frozen?, R3.out]
    clear hx hn g3 KW
    go_wp2_with fail
    refine bodyPost_ret (v := .tuple #[.agg #[.int .i64 x.k, .int .i64 x.v, .slice x.da x.ds.length x.dc, .slice x.a x.ks.length x.cap, .slice none 0 0, .slice none 0 0, .slice none 0 0], .int .i64 0]) (by simp [results, Tryd.results15, go_sem, r0, r1, r2, r3, r4, r5, r6]) rfl ⟨x, by rw [C.out], by rw [D.out, HX.out], ?_, by_seven G3.out (by omega)⟩
    refine (gNew.same coFr NX.out fun z hz => ?_).mono (by have := LR.out; omega)
    have := (NX.out.2.2 z hz).1
    have := LR.out
    rw [Below.heap_setCell _ _ _ _ (by simp; omega), Below.heap_setCell _ _ _ _ (by simp; omega), Below.heap_setCell _ _ _ _ (by simp; omega), Below.heap_setCell _ _ _ _ (by simp; omega), Below.heap_setCell _ _ _ _ (by simp; omega), Below.heap_setCell _ _ _ _ (by simp; omega), Below.heap_setCell _ _ _ _ (by simp; omega)]

set_option maxRecDepth 100000 in
set_option maxHeartbeats 1000000 in
theorem impl_start (u : LB) (c : LK) (w : World) (h : bOk w u) (hc : c.Ok w) (hT : KTbl w) : Calls Tryd.prog 17 #[u.val, c.val] w (StP u.cs c.co w) := by
  have gA : Gw w (((w.alloc (.cells #[.slice u.a u.ks.length u.cap] 39)).alloc (.cells #[.int .i64 c.k, .int .i64 c.v, .slice c.da c.ds.length c.dc, .slice c.a c.ks.length c.cap] 42)).alloc (.cells #[.int .i64 0, .int .i64 0, .slice none 0 0, .slice none 0 0, .slice none 0 0, .slice none 0 0, .slice none 0 0] 48)) := (((Gw.refl w).alloc _).alloc _).alloc _
  have BB := Lib.hid ((BoxB.new w u 39).grow (((Gw.refl _).alloc (.cells #[.int .i64 c.k, .int .i64 c.v, .slice c.da c.ds.length c.dc, .slice c.a c.ks.length c.cap] 42)).alloc (.cells #[.int .i64 0, .int .i64 0, .slice none 0 0, .slice none 0 0, .slice none 0 0, .slice none 0 0, .slice none 0 0] 48)))
  have hBK := BoxK.new (w.alloc (.cells #[.slice u.a u.ks.length u.cap] 39)) c 42
  rw [World.size_alloc] at hBK
  have BK := Lib.hid (hBK.grow ((Gw.refl _).alloc (.cells #[.int .i64 0, .int .i64 0, .slice none 0 0, .slice none 0 0, .slice none 0 0, .slice none 0 0, .slice none 0 0] 48)))
  have hR := heap_alloc_new ((w.alloc (.cells #[.slice u.a u.ks.length u.cap] 39)).alloc (.cells #[.int .i64 c.k, .int .i64 c.v, .slice c.da c.ds.length c.dc, .slice c.a c.ks.length c.cap] 42)) (.cells #[.int .i64 0, .int .i64 0, .slice none 0 0, .slice none 0 0, .slice none 0 0, .slice none 0 0, .slice none 0 0] 48)
  rw [World.size_alloc, World.size_alloc] at hR
  have HR := Lib.hid hR
  have OB := Lib.hid (h.grow gA)
  have OC := Lib.hid (hc.grow gA)
  have TB := Lib.hid (hT.grow gA)
  have G := Lib.hid gA
  clear h hc hR gA hBK
  go_enter Tryd.func17, Tryd.ntmps17
  go_upto_region 1 with (fail)
  generalize (((w.alloc (.cells #[.slice u.a u.ks.length u.cap] 39)).alloc (.cells #[.int .i64 c.k, .int .i64 c.v, .slice c.da c.ds.length c.dc, .slice c.a c.ks.length c.cap] 42)).alloc (.cells #[.int .i64 0, .int .i64 0, .slice none 0 0, .slice none 0 0, .slice none 0 0, .slice none 0 0, .slice none 0 0] 48)) = w1 at *
  have p0 := BB.out.c
  obtain ⟨c0, c1, c2, c3⟩ := BK.out.c
  cases hm : msC u.cs c.co with
  | false =>
    have KO := impl_ms u c w1 OB.out OC.out TB.out
    rw [hm] at KO
    have KOO := Lib.hid KO
    have C := Lib.hid (show stCd u.cs c.co = 1 by unfold stCd; rw [hm]; rfl)
    have D := Lib.hid (show stRs u.cs c.co = zeC by unfold stRs; rw [hm]; rfl)
    clear KO hm
    go_wp2_with fail
    refine KOO.out.mono ?_
    rintro e w2 ⟨rfl, g2⟩
    have R2 := Lib.hid ((g2.block _ (Array.getElem?_eq_some_iff.1 HR.out).1).trans HR.out)
    have G2 := Lib.hid (G.out.trans g2)
    have r0 : w2.cell? ⟨w.heap.size + 1 + 1, 0, none⟩ = some (.int .i64 0) := cell_of_row _ _ 0 _ _ _ R2.out
    have f0 : w2.frozen? ⟨w.heap.size + 1 + 1, 0, none⟩ = false := by simp [World.frozen?, R2.out]
    have r1 : w2.cell? ⟨w.heap.size + 1 + 1, 1, none⟩ = some (.int .i64 0) := cell_of_row _ _ 1 _ _ _ R2.out
    have f1 : w2.frozen? ⟨w.heap.size + 1 + 1, 1, none⟩ = false := by simp [World.frozen?, R2.out]
    have r2 : w2.cell? ⟨w.heap.size + 1 + 1, 2, none⟩ = some (.slice none 0 0) := cell_of_row _ _ 2 _ _ _ R2.out
    have f2 : w2.frozen? ⟨w.heap.size + 1 + 1, 2, none⟩ = false := by simp [World.frozen?, R2.out]
    have r3 : w2.cell? ⟨w.heap.size + 1 + 1, 3, none⟩ = some (.slice none 0 0) := cell_of_row _ _ 3 _ _ _ R2.out
    have f3 : w2.frozen? ⟨w.heap.size + 1 + 1, 3, none⟩ = false := by simp [World.frozen?, R2.out]
    have r4 : w2.cell? ⟨w.heap.size + 1 + 1, 4, none⟩ = some (.slice none 0 0) := cell_of_row _ _ 4 _ _ _ R2.out
    have f4 : w2.frozen? ⟨w.heap.size + 1 + 1, 4, none⟩ = false := by simp [World.frozen?, R2.out]
    have r5 : w2.cell? ⟨w.heap.size + 1 + 1, 5, none⟩ = some (.slice none 0 0) := cell_of_row _ _ 5 _ _ _ R2.out
    have f5 : w2.frozen? ⟨w.heap.size + 1 + 1, 5, none⟩ = false := by simp [World.frozen?, R2.out]
    have r6 : w2.cell? ⟨w.heap.size + 1 + 1, 6, none⟩ = some (.slice none 0 0) := cell_of_row _ _ 6 _ _ _ R2.out
    have f6 : w2.frozen? ⟨w.heap.size + 1 + 1, 6, none⟩ = false := by simp [World.frozen?, R2.out]
    clear g2 KOO
    go_wp2_with fail
    refine bodyPost_ret (v := .tuple #[.agg #[.int .i64 0, .int .i64 0, .slice none 0 0, .slice none 0 0, .slice none 0 0, .slice none 0 0, .slice none 0 0], .int .i64 1]) (by simp [results, Tryd.results17, go_sem, r0, r1, r2, r3, r4, r5, r6]; try exact ⟨rfl, rfl, ⟨rfl, rfl, rfl⟩, ⟨rfl, rfl, rfl⟩, ⟨rfl, rfl, rfl⟩, ⟨rfl, rfl, rfl⟩, rfl, rfl, rfl⟩) rfl ⟨zeK, by rw [C.out]; rfl, by rw [D.out]; rfl, zeK_new _ _, by_seven G2.out (by omega)⟩
  | true =>
    have KO := impl_ms u c w1 OB.out OC.out TB.out
    rw [hm] at KO
    have KOO := Lib.hid KO
    have HOK := Lib.hid (okC_good (ms_good hm))
    have C := Lib.hid (show stCd u.cs c.co = 0 by unfold stCd; rw [hm]; rfl)
    have D := Lib.hid (show stRs u.cs c.co = c.co by unfold stRs; rw [hm]; rfl)
    clear KO hm
    go_wp2_with fail
    refine KOO.out.mono ?_
    rintro e w2 ⟨rfl, g2⟩
    have R2 := Lib.hid ((g2.block _ (Array.getElem?_eq_some_iff.1 HR.out).1).trans HR.out)
    have LR := Lib.hid (Array.getElem?_eq_some_iff.1 R2.out).1
    have KW := Lib.hid (cp_all c w2 _ 0 ((BK.out.at OC.out).grow g2) HOK.out.1)
    have G2 := Lib.hid (G.out.trans g2)
    clear g2 KOO
    go_wp2_with fail
    refine KW.out.mono ?_
    rintro e w3 ⟨x, rfl, hx, hn, g3⟩
    have HX := Lib.hid hx
    have NX := Lib.hid hn
    have R3 := Lib.hid ((g3.block _ LR.out).trans R2.out)
    have G3 := Lib.hid (G2.out.trans g3)
    have r0 : w3.cell? ⟨w.heap.size + 1 + 1, 0, none⟩ = some (.int .i64 0) := cell_of_row _ _ 0 _ _ _ R3.out
    have f0 : w3.frozen? ⟨w.heap.size + 1 + 1, 0, none⟩ = false := by simp [World.frozen?, R3.out]
    have r1 : w3.cell? ⟨w.heap.size + 1 + 1, 1, none⟩ = some (.int .i64 0) := cell_of_row _ _ 1 _ _ _ R3.out
    have f1 : w3.frozen? ⟨w.heap.size + 1 + 1, 1, none⟩ = false := by simp [World.frozen?, R3.out]
    have r2 : w3.cell? ⟨w.heap.size + 1 + 1, 2, none⟩ = some (.slice none 0 0) := cell_of_row _ _ 2 _ _ _ R3.out
    have f2 : w3.frozen? ⟨w.heap.size + 1 + 1, 2, none⟩ = false := by simp [World.frozen?, R3.out]
    have r3 : w3.cell? ⟨w.heap.size + 1 + 1, 3, none⟩ = some (.slice none 0 0) := cell_of_row _ _ 3 _ _ _ R3.out
    have f3 : w3.frozen? ⟨w.heap.size + 1 + 1, 3, none⟩ = false := by simp [World.frozen?, R3.out]
    have r4 : w3.cell? ⟨w.heap.size + 1 + 1, 4, none⟩ = some (.slice none 0 0) := cell_of_row _ _ 4 _ _ _ R3.out
    have f4 : w3.frozen? ⟨w.heap.size + 1 + 1, 4, none⟩ = false := by simp [World.frozen?, R3.out]
    have r5 : w3.cell? ⟨w.heap.size + 1 + 1, 5, none⟩ = some (.slice none 0 0) := cell_of_row _ _ 5 _ _ _ R3.out
    have f5 : w3.frozen? ⟨w.heap.size + 1 + 1, 5, none⟩ = false := by simp [World.frozen?, R3.out]
    have r6 : w3.cell? ⟨w.heap.size + 1 + 1, 6, none⟩ = some (.slice none 0 0) := cell_of_row _ _ 6 _ _ _ R3.out
    have f6 : w3.frozen? ⟨w.heap.size + 1 + 1, 6, none⟩ = false := by simp [World.frozen?, R3.out]
    clear hx hn g3 KW
    go_wp2_with fail
    refine bodyPost_ret (v := .tuple #[.agg #[.int .i64 x.k, .int .i64 x.v, .slice x.da x.ds.length x.dc, .slice x.a x.ks.length x.cap, .slice none 0 0, .slice none 0 0, .slice none 0 0], .int .i64 0]) (by simp [results, Tryd.results17, go_sem, r0, r1, r2, r3, r4, r5, r6]) rfl ⟨x, by rw [C.out], by rw [D.out, HX.out], ?_, by_seven G3.out (by omega)⟩
    refine (gNew.same coFr NX.out fun z hz => ?_).mono (by have := LR.out; omega)
    have := (NX.out.2.2 z hz).1
    have := LR.out
    rw [Below.heap_setCell _ _ _ _ (by simp; omega), Below.heap_setCell _ _ _ _ (by simp; omega), Below.heap_setCell _ _ _ _ (by simp; omega), Below.heap_setCell _ _ _ _ (by simp; omega), Below.heap_setCell _ _ _ _ (by simp; omega), Below.heap_setCell _ _ _ _ (by simp; omega), Below.heap_setCell _ _ _ _ (by simp; omega)]

theorem mkn_nil (k : Nat) (hk : k ≤ 8000000) (w : World) : Calls Tryd.prog 56 #[.slice none 0 0, .int .i64 k] w fun e w' => e = .returned (.int .i64 (k : Int)) ∧ w = w' := by
  go_enter Tryd.func56, Tryd.ntmps56
  go_wp2_with fail
  go_loopw [1, 5] (fun kv i wr => i = .int .i64 0 ∧ kv = .int .i64 (k : Int) ∧ w = wr) (fun _ i _ => 0)
  case atStart => exact ⟨rfl, rfl, by simp⟩
  case round =>
    obtain ⟨rfl, rfl, rfl⟩ := hrel
    go_wp2_with fail
    go_ret
    exact ⟨rfl, rfl⟩
theorem mkf_nil (k : Nat) (hk : k ≤ 8000000) (w : World) : Calls Tryd.prog 58 #[.slice none 0 0, .int .i64 k] w fun e w' => e = .returned (.int .i64 (k : Int)) ∧ w = w' := by
  go_enter Tryd.func58, Tryd.ntmps58
  go_wp2_with fail
  go_loopw [1, 5] (fun kv i wr => i = .int .i64 0 ∧ kv = .int .i64 (k : Int) ∧ w = wr) (fun _ i _ => 0)
  case atStart => exact ⟨rfl, rfl, by simp⟩
  case round =>
    obtain ⟨rfl, rfl, rfl⟩ := hrel
    go_wp2_with fail
    go_ret
    exact ⟨rfl, rfl⟩
theorem mkt_nil (k : Nat) (hk : k ≤ 8000000) (w : World) : Calls Tryd.prog 59 #[.slice none 0 0, .int .i64 k] w fun e w' => e = .returned (.int .i64 (k : Int)) ∧ w = w' := by
  go_enter Tryd.func59, Tryd.ntmps59
  go_wp2_with fail
  go_loopw [1, 5] (fun kv i wr => i = .int .i64 0 ∧ kv = .int .i64 (k : Int) ∧ w = wr) (fun _ i _ => 0)
  case atStart => exact ⟨rfl, rfl, by simp⟩
  case round =>
    obtain ⟨rfl, rfl, rfl⟩ := hrel
    go_wp2_with fail
    go_ret
    exact ⟨rfl, rfl⟩
theorem hdn_nil (k : Nat) (hk : k ≤ 8000000) (w : World) : Calls Tryd.prog 97 #[.slice none 0 0, .int .i64 k] w fun e w' => e = .returned (.int .i64 (k : Int)) ∧ w = w' := by
  go_enter Tryd.func97, Tryd.ntmps97
  go_wp2_with fail
  go_loopw [1, 5] (fun kv i wr => i = .int .i64 0 ∧ kv = .int .i64 (k : Int) ∧ w = wr) (fun _ i _ => 0)
  case atStart => exact ⟨rfl, rfl, by simp⟩
  case round =>
    obtain ⟨rfl, rfl, rfl⟩ := hrel
    go_wp2_with fail
    go_ret
    exact ⟨rfl, rfl⟩
theorem hdf_nil (k : Nat) (hk : k ≤ 8000000) (w : World) : Calls Tryd.prog 61 #[.slice none 0 0, .int .i64 k] w fun e w' => e = .returned (.int .i64 (k : Int)) ∧ w = w' := by
  go_enter Tryd.func61, Tryd.ntmps61
  go_wp2_with fail
  go_loopw [1, 5] (fun kv i wr => i = .int .i64 0 ∧ kv = .int .i64 (k : Int) ∧ w = wr) (fun _ i _ => 0)
  case atStart => exact ⟨rfl, rfl, by simp⟩
  case round =>
    obtain ⟨rfl, rfl, rfl⟩ := hrel
    go_wp2_with fail
    go_ret
    exact ⟨rfl, rfl⟩
theorem hdt_nil (k : Nat) (hk : k ≤ 8000000) (w : World) : Calls Tryd.prog 62 #[.slice none 0 0, .int .i64 k] w fun e w' => e = .returned (.int .i64 (k : Int)) ∧ w = w' := by
  go_enter Tryd.func62, Tryd.ntmps62
  go_wp2_with fail
  go_loopw [1, 5] (fun kv i wr => i = .int .i64 0 ∧ kv = .int .i64 (k : Int) ∧ w = wr) (fun _ i _ => 0)
  case atStart => exact ⟨rfl, rfl, by simp⟩
  case round =>
    obtain ⟨rfl, rfl, rfl⟩ := hrel
    go_wp2_with fail
    go_ret
    exact ⟨rfl, rfl⟩

def ndoE (x : LK) : List Value := [.int .i64 x.k, .int .i64 x.v, .slice x.da x.ds.length x.dc, .slice x.a x.ks.length x.cap, .slice none 0 0, .slice none 0 0, .slice none 0 0]
theorem ndoLen (x : LK) : (ndoE x).length = 7 := rfl
theorem eq_ndof (u v : LK) (w : World) (h1 : u.Ok w) (h2 : v.Ok w) (he : u.co = v.co) : Calls Tryd.prog 13 #[.agg #[.int .i64 u.k, .int .i64 u.v, .slice u.da u.ds.length u.dc, .slice u.a u.ks.length u.cap, .slice none 0 0, .slice none 0 0, .slice none 0 0], .agg #[.int .i64 v.k, .int .i64 v.v, .slice v.da v.ds.length v.dc, .slice v.a v.ks.length v.cap, .slice none 0 0, .slice none 0 0, .slice none 0 0]] w (TrueGw w) := by
  have n1 : ∀ {α : Type} (k : Nat) (cE : α → List Value) (ok : World → α → Prop), gSl k cE ok w none 0 [] := fun k cE ok => ⟨Nat.le_refl _, Nat.zero_le _, .inl rfl⟩
  exact laws_eqNeed (ndOf u) (ndOf v) w ⟨⟨h1, n1 _ _ _⟩, n1 _ _ _, n1 _ _ _⟩ ⟨⟨h2, n1 _ _ _⟩, n1 _ _ _, n1 _ _ _⟩ (by unfold LNd.pu ndOf LCl.pu; simp [he])
set_option maxRecDepth 100000 in
theorem mark_cl (u : LK) (B : Nat) (w : World) (k : Nat) (h : gNew LK.Ok LK.bl B w u) (h1 : 1 ≤ k) (h2 : k + mc_Core u ≤ 7999990) :
    Calls Tryd.prog 57 #[.agg #[.int .i64 u.k, .int .i64 u.v, .slice u.da u.ds.length u.dc, .slice u.a u.ks.length u.cap, .slice none 0 0], .int .i64 k] w fun e w' => e = .returned (.int .i64 ((k + mc_Core u : Nat) : Int)) ∧ (∀ W, Gw w' W → Calls Tryd.prog 60 #[.agg #[.int .i64 u.k, .int .i64 u.v, .slice u.da u.ds.length u.dc, .slice u.a u.ks.length u.cap, .slice none 0 0], .int .i64 k] W (HdN W (k + mc_Core u))) ∧ Chg w w' (fun x => x ∈ u.bl) := by
  have g0 := (Gw.refl w).alloc (.cells #[.int .i64 u.k, .int .i64 u.v, .slice u.da u.ds.length u.dc, .slice u.a u.ks.length u.cap, .slice none 0 0] 44)
  have BX := Lib.hid (zAt.new w #[.int .i64 u.k, .int .i64 u.v, .slice u.da u.ds.length u.dc, .slice u.a u.ks.length u.cap, .slice none 0 0] 44)
  have HB := Lib.hid (show w.heap.size ∉ u.bl from fun hm => by have := (h.2.2 _ hm).2.lt; omega)
  have KM := Lib.hid (mark_Core u B _ k (gNew.grow coGr h g0) h1 h2)
  have G0 := Lib.hid (Chg.of_gw g0 (fun x => x ∈ u.bl))
  clear h g0
  go_enter Tryd.func57, Tryd.ntmps57
  go_upto_region 1 with (fail)
  generalize w.alloc (.cells #[.int .i64 u.k, .int .i64 u.v, .slice u.da u.ds.length u.dc, .slice u.a u.ks.length u.cap, .slice none 0 0] 44) = w1 at *
  have p0 := BX.out.c 0 _ rfl
  have p1 := BX.out.c 1 _ rfl
  have p2 := BX.out.c 2 _ rfl
  have p3 := BX.out.c 3 _ rfl
  have p4 := BX.out.c 4 _ rfl
  go_wp2_with fail
  refine KM.out.mono ?_
  rintro e w2 ⟨rfl, hh, hc⟩
  have C2 := Lib.hid (G0.out.trans hc (fun _ _ h => h))
  have HH := Lib.hid hh
  have q : ∀ j, w2.cell? ⟨w.heap.size, j, none⟩ = w1.cell? ⟨w.heap.size, j, none⟩ := fun j => World.cell?_of_block (a := ⟨w.heap.size, j, none⟩) (hc.2.2.2.2 _ BX.out.lt HB.out)
  replace p0 := (q 0).trans p0
  replace p1 := (q 1).trans p1
  replace p2 := (q 2).trans p2
  replace p3 := (q 3).trans p3
  replace p4 := (q 4).trans p4
  obtain ⟨qk, hqk⟩ : ∃ q, q = k + mc_Core u := ⟨_, rfl⟩
  rw [← hqk] at HH h2
  have HQ := Lib.hid hqk
  rw [← hqk]
  clear hh hc KM q hqk
  go_wp2_with fail
  refine (mkn_nil qk (by omega) _).mono ?_
  rintro e w3 ⟨rfl, rfl⟩
  go_wp2_with fail
  clear p0 p1 p2 p3 p4
  go_ret
  refine ⟨by rw [← HQ.out]; rfl, fun W g => ?_, C2.out⟩
  rw [← HQ.out]
  have hq : ¬ ((qk : Nat) : Int) < 0 := by omega
  have g1 := (Gw.refl W).alloc (.cells #[.int .i64 u.k, .int .i64 u.v, .slice u.da u.ds.length u.dc, .slice u.a u.ks.length u.cap, .slice none 0 0] 44)
  have BW := Lib.hid (zAt.new W #[.int .i64 u.k, .int .i64 u.v, .slice u.da u.ds.length u.dc, .slice u.a u.ks.length u.cap, .slice none 0 0] 44)
  have KH := Lib.hid (HH.out (W.alloc (.cells #[.int .i64 u.k, .int .i64 u.v, .slice u.da u.ds.length u.dc, .slice u.a u.ks.length u.cap, .slice none 0 0] 44)) (g.trans g1))
  have G1 := Lib.hid g1
  clear g g1 BX C2 G0 HH HB
  go_enter Tryd.func60, Tryd.ntmps60
  go_upto_region 1 with (fail)
  generalize W.alloc (.cells #[.int .i64 u.k, .int .i64 u.v, .slice u.da u.ds.length u.dc, .slice u.a u.ks.length u.cap, .slice none 0 0] 44) = W1 at *
  have p0 := BW.out.c 0 _ rfl
  have p1 := BW.out.c 1 _ rfl
  have p2 := BW.out.c 2 _ rfl
  have p3 := BW.out.c 3 _ rfl
  have p4 := BW.out.c 4 _ rfl
  go_wp2_with fail
  refine KH.out.mono ?_
  rintro e w2 ⟨rfl, g2⟩
  replace p0 := (BW.out.grow g2).c 0 _ rfl
  replace p1 := (BW.out.grow g2).c 1 _ rfl
  replace p2 := (BW.out.grow g2).c 2 _ rfl
  replace p3 := (BW.out.grow g2).c 3 _ rfl
  replace p4 := (BW.out.grow g2).c 4 _ rfl
  have G2 := Lib.hid (G1.out.trans g2)
  clear g2 KH
  go_wp2_with fail
  refine (hdn_nil qk (by omega) _).mono ?_
  rintro e w3 ⟨rfl, rfl⟩
  go_wp2_with fail
  clear p0 p1 p2 p3 p4
  go_ret
  exact ⟨rfl, G2.out⟩

set_option maxRecDepth 100000 in
theorem mark_ndof (u : LK) (B : Nat) (w : World) (k : Nat) (h : gNew LK.Ok LK.bl B w u) (h1 : 1 ≤ k) (h2 : k + mc_Core u ≤ 7999990) :
    Calls Tryd.prog 21 #[.agg #[.int .i64 u.k, .int .i64 u.v, .slice u.da u.ds.length u.dc, .slice u.a u.ks.length u.cap, .slice none 0 0, .slice none 0 0, .slice none 0 0], .int .i64 k] w fun e w' => e = .returned (.int .i64 ((k + mc_Core u : Nat) : Int)) ∧ (∀ W, Gw w' W → Calls Tryd.prog 22 #[.agg #[.int .i64 u.k, .int .i64 u.v, .slice u.da u.ds.length u.dc, .slice u.a u.ks.length u.cap, .slice none 0 0, .slice none 0 0, .slice none 0 0], .int .i64 k] W (HdN W (k + mc_Core u))) ∧ Chg w w' (fun x => x ∈ u.bl) := by
  have g0 := (Gw.refl w).alloc (.cells #[.int .i64 u.k, .int .i64 u.v, .slice u.da u.ds.length u.dc, .slice u.a u.ks.length u.cap, .slice none 0 0, .slice none 0 0, .slice none 0 0] 48)
  have BX := Lib.hid (zAt.new w #[.int .i64 u.k, .int .i64 u.v, .slice u.da u.ds.length u.dc, .slice u.a u.ks.length u.cap, .slice none 0 0, .slice none 0 0, .slice none 0 0] 48)
  have HB := Lib.hid (show w.heap.size ∉ u.bl from fun hm => by have := (h.2.2 _ hm).2.lt; omega)
  have KM := Lib.hid (mark_cl u B _ k (gNew.grow coGr h g0) h1 h2)
  have G0 := Lib.hid (Chg.of_gw g0 (fun x => x ∈ u.bl))
  clear h g0
  go_enter Tryd.func21, Tryd.ntmps21
  go_upto_region 1 with (fail)
  generalize w.alloc (.cells #[.int .i64 u.k, .int .i64 u.v, .slice u.da u.ds.length u.dc, .slice u.a u.ks.length u.cap, .slice none 0 0, .slice none 0 0, .slice none 0 0] 48) = w1 at *
  have p0 := BX.out.c 0 _ rfl
  have p1 := BX.out.c 1 _ rfl
  have p2 := BX.out.c 2 _ rfl
  have p3 := BX.out.c 3 _ rfl
  have p4 := BX.out.c 4 _ rfl
  have p5 := BX.out.c 5 _ rfl
  have p6 := BX.out.c 6 _ rfl
  go_wp2_with fail
  refine KM.out.mono ?_
  rintro e w2 ⟨rfl, hh, hc⟩
  have C2 := Lib.hid (G0.out.trans hc (fun _ _ h => h))
  have HH := Lib.hid hh
  have q : ∀ j, w2.cell? ⟨w.heap.size, j, none⟩ = w1.cell? ⟨w.heap.size, j, none⟩ := fun j => World.cell?_of_block (a := ⟨w.heap.size, j, none⟩) (hc.2.2.2.2 _ BX.out.lt HB.out)
  replace p0 := (q 0).trans p0
  replace p1 := (q 1).trans p1
  replace p2 := (q 2).trans p2
  replace p3 := (q 3).trans p3
  replace p4 := (q 4).trans p4
  replace p5 := (q 5).trans p5
  replace p6 := (q 6).trans p6
  obtain ⟨qk, hqk⟩ : ∃ q, q = k + mc_Core u := ⟨_, rfl⟩
  rw [← hqk] at HH h2
  have HQ := Lib.hid hqk
  rw [← hqk]
  clear hh hc KM q hqk
  go_wp2_with fail
  refine (mkf_nil qk (by omega) _).mono ?_
  rintro e w3 ⟨rfl, rfl⟩
  go_wp2_with fail
  refine (mkt_nil qk (by omega) _).mono ?_
  rintro e w3 ⟨rfl, rfl⟩
  go_wp2_with fail
  clear p0 p1 p2 p3 p4 p5 p6
  go_ret
  refine ⟨by rw [← HQ.out]; rfl, fun W g => ?_, C2.out⟩
  rw [← HQ.out]
  have hq : ¬ ((qk : Nat) : Int) < 0 := by omega
  have g1 := (Gw.refl W).alloc (.cells #[.int .i64 u.k, .int .i64 u.v, .slice u.da u.ds.length u.dc, .slice u.a u.ks.length u.cap, .slice none 0 0, .slice none 0 0, .slice none 0 0] 48)
  have BW := Lib.hid (zAt.new W #[.int .i64 u.k, .int .i64 u.v, .slice u.da u.ds.length u.dc, .slice u.a u.ks.length u.cap, .slice none 0 0, .slice none 0 0, .slice none 0 0] 48)
  have KH := Lib.hid (HH.out (W.alloc (.cells #[.int .i64 u.k, .int .i64 u.v, .slice u.da u.ds.length u.dc, .slice u.a u.ks.length u.cap, .slice none 0 0, .slice none 0 0, .slice none 0 0] 48)) (g.trans g1))
  have G1 := Lib.hid g1
  clear g g1 BX C2 G0 HH HB
  go_enter Tryd.func22, Tryd.ntmps22
  go_upto_region 1 with (fail)
  generalize W.alloc (.cells #[.int .i64 u.k, .int .i64 u.v, .slice u.da u.ds.length u.dc, .slice u.a u.ks.length u.cap, .slice none 0 0, .slice none 0 0, .slice none 0 0] 48) = W1 at *
  have p0 := BW.out.c 0 _ rfl
  have p1 := BW.out.c 1 _ rfl
  have p2 := BW.out.c 2 _ rfl
  have p3 := BW.out.c 3 _ rfl
  have p4 := BW.out.c 4 _ rfl
  have p5 := BW.out.c 5 _ rfl
  have p6 := BW.out.c 6 _ rfl
  go_wp2_with fail
  refine KH.out.mono ?_
  rintro e w2 ⟨rfl, g2⟩
  replace p0 := (BW.out.grow g2).c 0 _ rfl
  replace p1 := (BW.out.grow g2).c 1 _ rfl
  replace p2 := (BW.out.grow g2).c 2 _ rfl
  replace p3 := (BW.out.grow g2).c 3 _ rfl
  replace p4 := (BW.out.grow g2).c 4 _ rfl
  replace p5 := (BW.out.grow g2).c 5 _ rfl
  replace p6 := (BW.out.grow g2).c 6 _ rfl
  have G2 := Lib.hid (G1.out.trans g2)
  clear g2 KH
  go_wp2_with fail
  refine (hdf_nil qk (by omega) _).mono ?_
  rintro e w3 ⟨rfl, rfl⟩
  go_wp2_with fail
  refine (hdt_nil qk (by omega) _).mono ?_
  rintro e w3 ⟨rfl, rfl⟩
  go_wp2_with fail
  clear p0 p1 p2 p3 p4 p5 p6
  go_ret
  exact ⟨rfl, G2.out⟩

end Go.Proofs.YtkpbiifikkbaeaaDoor.Con
