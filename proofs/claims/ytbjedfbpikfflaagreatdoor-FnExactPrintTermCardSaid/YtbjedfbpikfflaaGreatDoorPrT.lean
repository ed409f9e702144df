/-
  The program's printing of functions and of branches. Condition: the term is valid (Tm.ok) and has at most 160 nodes; the two tables read as the program's text lays them.
  The program's printing of constructors, matches, nodes and terms. Condition: the term is valid (Tm.ok) and has at most 160 nodes; the two tables read as the program's text lays them.
-/
import Derived.Test.YtbjedfbpikfflaaGreatDoorPrI
namespace Go.Proofs.YtbjedfbpikfflaaGreatDoor.Con
open Go.RowKit
set_option linter.unusedVariables false

theorem impl_tyt (t : LT) (w : World) (h : t.Ok w) : Calls Tryz.prog 66 #[t.val] w (StrP (textOf t.ty) 320 w) :=
  (impl_typeText t w h).mono fun e w' hh => hh.p (textOf_len _)

set_option maxRecDepth 100000 in
set_option maxHeartbeats 2000000 in
theorem mth_lam (u x : LM) (hks : u.ks = [x]) (hnm : u.n.size ≤ 12) (px : TermK x) (ox : x.tm.ok false = true) (nx : x.tm.nn ≤ 160) (T : List UInt8) (hT : T = [92] ++ u.n.data.toList ++ [58] ++ textOf u.t.ty ++ [46, 32] ++ x.tm.txt) (w0 : World) (b : Nat) (L : List UInt8) (w : World) (hst : St w0 b L w) (hok : u.Ok w0) (ht : TabP w0) (hl : L.length + T.length ≤ 700000) :
    Calls Tryz.prog 46 #[.pointer (some ⟨b, 0, none⟩), u.val] w (StP w0 b (L ++ T) w) := by
  obtain ⟨b', o', ha, hr⟩ := kids_row hok (by rw [hks]; simp)
  rw [hks] at hr
  have ax : AtM w0 b' o' x := by have := row_at hr 0 (by simp); simpa using this
  rw [hT] at hl
  simp only [List.length_append, data_len] at hl
  rw [show ([92] : List UInt8).length = 1 from rfl, show ([58] : List UInt8).length = 1 from rfl, show ([46, 32] : List UInt8).length = 2 from rfl] at hl
  have htl := textOf_len u.t.ty
  have hb2 : (L ++ ((⟨#[92]⟩ : ByteArray).data.toList ++ (u.n.data.toList ++ ((⟨#[58]⟩ : ByteArray).data.toList ++ (textOf u.t.ty ++ (⟨#[46, 32]⟩ : ByteArray).data.toList))))).length + x.tm.txt.length ≤ 700000 := by
    simp only [List.length_append, data_len]
    rw [show ([92] : List UInt8).length = 1 from rfl, show ([58] : List UInt8).length = 1 from rfl, show ([46, 32] : List UInt8).length = 2 from rfl]
    omega
  have HB2 := Lib.hid hb2
  have BU := BoxT.new w u
  have k0 := KeptP.of_gw ((Gw.refl w).alloc u.box)
  have st := hst.alloc u.box
  have ot := (hok.ty.grow st.2).drew
  have HT := Lib.hid hT
  have TB := Lib.hid ht
  have HKS := Lib.hid hks
  have HA := Lib.hid ha
  have Ax := Lib.hid ax
  have hLl : L.length ≤ 700000 := by omega
  clear hl hT hr ht hok hst hks ha ax hb2
  go_enter Tryz.func46, Tryz.ntmps46
  go_upto_region 1 with (fail)
  generalize w.alloc (.cells #[.int .i64 u.k, .int .i64 u.m, .string u.n, .int .i64 u.t.k, .string u.t.n, .slice u.t.a u.t.ks.length u.t.cap, .slice u.na u.ns.length u.nc, .slice u.a u.ks.length u.cap] 36) = W at *
  generalize w.heap.size = bx at *
  have lB := BU.lt
  obtain ⟨q0, q1, q2, q3, q4, q5, q6, q7⟩ := BU.box.c
  have e4 : W.cell? ⟨bx, 3 + 1, none⟩ = some (.string u.t.n) := q4
  have e5 : W.cell? ⟨bx, 3 + 2, none⟩ = some (.slice u.t.a u.t.ks.length u.t.cap) := q5
  have ST := Lib.hid st
  have K0 := Lib.hid k0
  have OT := Lib.hid ot
  clear st k0 ot q0 q1 q6 q7
  go_region_held3 (fun W => W.cell? ⟨bx, 2, none⟩ = some (.string u.n) ∧ W.cell? ⟨bx, 3, none⟩ = some (.int .i64 u.t.k) ∧ W.cell? ⟨bx, 4, none⟩ = some (.string u.t.n) ∧ W.cell? ⟨bx, 5, none⟩ = some (.slice u.t.a u.t.ks.length u.t.cap))
    (first | exact ⟨q2, q3, q4, q5⟩ | exact ⟨(k1 _ _ lB).trans q2, (k1 _ _ lB).trans q3, (k1 _ _ lB).trans q4, (k1 _ _ lB).trans q5⟩ | exact ⟨(World.cell?_alloc_lt _ _ _ lB1).trans ((k1 _ _ lB).trans q2), (World.cell?_alloc_lt _ _ _ lB1).trans ((k1 _ _ lB).trans q3), (World.cell?_alloc_lt _ _ _ lB1).trans ((k1 _ _ lB).trans q4), (World.cell?_alloc_lt _ _ _ lB1).trans ((k1 _ _ lB).trans q5)⟩ | exact ⟨r2, r3, r4, r5⟩)
    (first
      | (go_at_call 66; (with_reducible refine (impl_tyt u.t _ OT.out).mono ?_); rintro e W1 ⟨S1, hS1, z1, rfl, g1⟩; have HS1 := Lib.hid hS1; clear hS1; have k1 : ∀ b o, b < W.heap.size → W1.cell? ⟨b, o, none⟩ = W.cell? ⟨b, o, none⟩ := fun b o h => (bcell g1).1 b o h; have lB1 : bx < W1.heap.size := Nat.lt_of_lt_of_le lB g1.size)
      | (go_at_call 31; refine (write5 ⟨#[92]⟩ u.n ⟨#[58]⟩ S1 ⟨#[46, 32]⟩ w0 b L W1 ((ST.out.grow (Gw.refl W).drew).grow g1) (by show L.length + (1 + u.n.size + 1 + S1.size + 2) ≤ _; omega)).mono ?_; rintro e W2 ⟨rfl, st2, k2⟩; have BU2 := BoxT.kept (BoxT.kept BU (KeptP.of_gw ((Gw.refl W).drew.trans g1))) k2; obtain ⟨r0, r1, r2, r3, r4, r5, r6, r7⟩ := BU2.box.c; clear r0 r1 r6 r7))
  have K2 := Lib.hid ((K0.out.trans (KeptP.of_gw ((Gw.refl W).drew.trans g1))).trans k2)
  have ba := BU2
  unfold BoxT at ba
  rw [HA.out, HKS.out] at ba
  have c7 : W2.cell? ⟨bx, 7, none⟩ = some (.slice (some ⟨b', o', none⟩) 1 u.cap) := by rw [Lib.cell_of_heap ba]; rfl
  obtain ⟨d0, d1, d2, d3, d4, d5, d6, d7⟩ := (Ax.out.grow st2.2).c
  have ST2 := Lib.hid st2
  clear st2 k2 ba BU2 r2 r3 r4 r5 q2 q3 q4 q5 e4 e5 k1
  go_wp2_with fail
  refine (px.zero false w0 b _ _ ox nx ST2.out Ax.out.2 TB.out (by rw [HS1.out, bytes_eq]; exact HB2.out)).mono ?_
  rintro e W3 ⟨rfl, st, k3⟩
  have ST3 := Lib.hid st
  clear st
  go_wp2_with fail
  go_end0
  refine ⟨rfl, ?_, K2.out.trans k3⟩
  have := ST3.out
  rw [HT.out]
  rw [HS1.out] at this
  simpa [List.append_assoc] using this

set_option maxRecDepth 100000 in
set_option maxHeartbeats 2000000 in
theorem mth_case (u x : LM) (hks : u.ks = [x]) (hnm : u.n.size ≤ 12) (hq1 : u.ns.length ≤ 3) (hq2 : ∀ s ∈ u.ns, 1 ≤ s.size ∧ s.size ≤ 12) (px : TermK x) (ox : x.tm.ok false = true) (nx : x.tm.nn ≤ 160) (T : List UInt8) (hT : T = u.n.data.toList ++ brP (u.ns.map (·.data.toList)) ++ [32, 45, 62, 32] ++ x.tm.txt) (w0 : World) (b : Nat) (L : List UInt8) (w : World) (hst : St w0 b L w) (hok : u.Ok w0) (ht : TabP w0) (hl : L.length + T.length ≤ 700000) :
    Calls Tryz.prog 52 #[.pointer (some ⟨b, 0, none⟩), u.val] w (StP w0 b (L ++ T) w) := by
  obtain ⟨b', o', ha, hr⟩ := kids_row hok (by rw [hks]; simp)
  rw [hks] at hr
  have ax : AtM w0 b' o' x := by have := row_at hr 0 (by simp); simpa using this
  rw [hT] at hl
  simp only [List.length_append, data_len] at hl
  rw [show ([32, 45, 62, 32] : List UInt8).length = 4 from rfl] at hl
  have htl := brn_len hq1 hq2
  have hb2 : (L ++ (u.n.data.toList ++ (brP (u.ns.map (·.data.toList)) ++ ((⟨#[32]⟩ : ByteArray).data.toList ++ ((⟨#[45, 62]⟩ : ByteArray).data.toList ++ (⟨#[32]⟩ : ByteArray).data.toList))))).length + x.tm.txt.length ≤ 700000 := by
    simp only [List.length_append, data_len]
    rw [show ([32] : List UInt8).length = 1 from rfl, show ([45, 62] : List UInt8).length = 2 from rfl]
    omega
  have HB2 := Lib.hid hb2
  have BU := BoxT.new w u
  have k0 := KeptP.of_gw ((Gw.refl w).alloc u.box)
  have st := hst.alloc u.box
  have ot := hok.nms.grow ((st.2).trans (Gw.refl _).drew)
  have HT := Lib.hid hT
  have TB := Lib.hid ht
  have HKS := Lib.hid hks
  have HA := Lib.hid ha
  have Ax := Lib.hid ax
  have hLl : L.length ≤ 700000 := by omega
  have HQ1 := Lib.hid hq1
  have HQ2 := Lib.hid hq2
  clear hl hT hr ht hok hst hks ha ax hb2
  go_enter Tryz.func52, Tryz.ntmps52
  go_upto_region 1 with (fail)
  generalize w.alloc (.cells #[.int .i64 u.k, .int .i64 u.m, .string u.n, .int .i64 u.t.k, .string u.t.n, .slice u.t.a u.t.ks.length u.t.cap, .slice u.na u.ns.length u.nc, .slice u.a u.ks.length u.cap] 36) = W at *
  generalize w.heap.size = bx at *
  have lB := BU.lt
  obtain ⟨q0, q1, q2, q3, q4, q5, q6, q7⟩ := BU.box.c
  have ST := Lib.hid st
  have K0 := Lib.hid k0
  have OT := Lib.hid ot
  clear st k0 ot q0 q1 q3 q4 q5 q7 hq1 hq2
  go_region_held3 (fun W => W.cell? ⟨bx, 2, none⟩ = some (.string u.n) ∧ W.cell? ⟨bx, 6, none⟩ = some (.slice u.na u.ns.length u.nc))
    (first | exact ⟨q2, q6⟩ | exact ⟨(k1 _ _ lB).trans q2, (k1 _ _ lB).trans q6⟩ | exact ⟨(World.cell?_alloc_lt _ _ _ lB1).trans ((k1 _ _ lB).trans q2), (World.cell?_alloc_lt _ _ _ lB1).trans ((k1 _ _ lB).trans q6)⟩ | exact ⟨r2, r6⟩)
    (first
      | (go_at_call 68; (with_reducible refine (impl_inBr u.na u.nc u.ns HQ1.out HQ2.out _ OT.out).mono ?_); rintro e W1 ⟨S1, hS1, z1, rfl, g1⟩; have HS1 := Lib.hid hS1; clear hS1; have k1 : ∀ b o, b < W.heap.size → W1.cell? ⟨b, o, none⟩ = W.cell? ⟨b, o, none⟩ := fun b o h => (bcell g1).1 b o h; have lB1 : bx < W1.heap.size := Nat.lt_of_lt_of_le lB g1.size)
      | (go_at_call 31; refine (write5 u.n S1 ⟨#[32]⟩ ⟨#[45, 62]⟩ ⟨#[32]⟩ w0 b L W1 ((ST.out.grow (Gw.refl W).drew).grow g1) (by show L.length + (u.n.size + S1.size + 1 + 2 + 1) ≤ _; omega)).mono ?_; rintro e W2 ⟨rfl, st2, k2⟩; have BU2 := BoxT.kept (BoxT.kept BU (KeptP.of_gw ((Gw.refl W).drew.trans g1))) k2; obtain ⟨r0, r1, r2, r3, r4, r5, r6, r7⟩ := BU2.box.c; clear r0 r1 r3 r4 r5 r7))
  have K2 := Lib.hid ((K0.out.trans (KeptP.of_gw ((Gw.refl W).drew.trans g1))).trans k2)
  have ba := BU2
  unfold BoxT at ba
  rw [HA.out, HKS.out] at ba
  have c7 : W2.cell? ⟨bx, 7, none⟩ = some (.slice (some ⟨b', o', none⟩) 1 u.cap) := by rw [Lib.cell_of_heap ba]; rfl
  obtain ⟨d0, d1, d2, d3, d4, d5, d6, d7⟩ := (Ax.out.grow st2.2).c
  have ST2 := Lib.hid st2
  clear st2 k2 ba BU2 r2 r6 q2 q6 k1
  go_wp2_with fail
  refine (px.zero false w0 b _ _ ox nx ST2.out Ax.out.2 TB.out (by rw [HS1.out, bytes_eq]; exact HB2.out)).mono ?_
  rintro e W3 ⟨rfl, st, k3⟩
  have ST3 := Lib.hid st
  clear st
  go_wp2_with fail
  go_end0
  refine ⟨rfl, ?_, K2.out.trans k3⟩
  have := ST3.out
  rw [HT.out]
  rw [HS1.out] at this
  simpa [List.append_assoc] using this

end Go.Proofs.YtbjedfbpikfflaaGreatDoor.Con

namespace Go.Proofs.YtbjedfbpikfflaaGreatDoor.Con
open Go.RowKit
set_option linter.unusedVariables false

set_option maxRecDepth 100000 in
set_option maxHeartbeats 1000000 in
theorem mth_con (u : LM) (hn5 : u.ks.length ≤ 5) (hnm : u.n.size ≤ 12) (hp : ∀ v ∈ u.ks, TermK v ∧ v.tm.ok false = true ∧ v.tm.nn ≤ 160) (T : List UInt8) (hT : T = u.n.data.toList ++ brP (u.ks.map fun v => v.tm.txt)) (w0 : World) (b : Nat) (L : List UInt8) (w : World) (hst : St w0 b L w) (hok : u.Ok w0) (ht : TabP w0) (hl : L.length + T.length ≤ 700000) :
    Calls Tryz.prog 50 #[.pointer (some ⟨b, 0, none⟩), u.val] w (StP w0 b (L ++ T) w) := by
  have BU := BoxT.new w u
  have k0 := KeptP.of_gw ((Gw.refl w).alloc u.box)
  have st := hst.alloc u.box
  have hnl := data_len u.n
  have hLl : L.length + u.n.size + (brP (u.ks.map fun v => v.tm.txt)).length ≤ 700000 := by rw [hT] at hl; simp only [List.length_append] at hl; omega
  by_cases h0 : u.ks = []
  · have F := Lib.hid (show T = u.n.data.toList from by rw [hT, h0]; simp [brP])
    have H0 := Lib.hid h0
    clear hst hok ht hl hT hp h0
    go_enter Tryz.func50, Tryz.ntmps50
    go_upto_region 1 with (fail)
    generalize w.alloc (.cells #[.int .i64 u.k, .int .i64 u.m, .string u.n, .int .i64 u.t.k, .string u.t.n, .slice u.t.a u.t.ks.length u.t.cap, .slice u.na u.ns.length u.nc, .slice u.a u.ks.length u.cap] 36) = W at *
    generalize w.heap.size = bx at *
    have c2 : W.cell? ⟨bx, 2, none⟩ = some (.string u.n) := by rw [Lib.cell_of_heap BU]; rfl
    have ST := Lib.hid st
    have BX := Lib.hid BU
    clear st BU
    go_wp2_with fail
    refine (write1 u.n w0 b L _ ST.out (by omega)).mono ?_
    rintro e W1 ⟨rfl, st, k1⟩
    have BU := BX.out.kept k1
    unfold BoxT at BU
    rw [H0.out] at BU
    have c7 : W1.cell? ⟨bx, 7, none⟩ = some (.slice u.a 0 u.cap) := by rw [Lib.cell_of_heap BU]; rfl
    have ST1 := Lib.hid st
    clear BU st c2
    go_wp2_with fail
    go_end0
    exact ⟨rfl, by rw [F.out]; exact ST1.out, k0.trans k1⟩
  · obtain ⟨b', o', ha, hr⟩ := kids_row hok h0
    have hbr : brP (u.ks.map fun v => v.tm.txt) = [91] ++ joinP [44, 32] (u.ks.map fun v => v.tm.txt) ++ [93] := by unfold brP; rw [if_neg (by simpa using h0)]
    rw [hbr] at hLl hT
    simp only [List.length_append] at hLl
    rw [show ([91] : List UInt8).length = 1 from rfl, show ([93] : List UInt8).length = 1 from rfl] at hLl
    have hpos : 0 < u.ks.length := by cases h : u.ks with | nil => exact absurd h h0 | cons => simp
    have HLS := Lib.hid fun (W1 : World) (st : St w0 b (L ++ u.n.data.toList) W1) => impl_list false u.ks h0 hn5 hp b' o' u.cap ⟨#[91]⟩ ⟨#[44, 32]⟩ ⟨#[93]⟩ rfl (by decide) (by decide) w0 hr ht b (L ++ u.n.data.toList) W1 st (by simp only [List.length_append]; rw [hnl]; show L.length + u.n.size + 1 + _ ≤ _; omega)
    have HA := Lib.hid ha
    have HT := Lib.hid hT
    clear hst hok ht hl hT hp h0 hr ha hbr
    go_enter Tryz.func50, Tryz.ntmps50
    go_upto_region 1 with (fail)
    generalize w.alloc (.cells #[.int .i64 u.k, .int .i64 u.m, .string u.n, .int .i64 u.t.k, .string u.t.n, .slice u.t.a u.t.ks.length u.t.cap, .slice u.na u.ns.length u.nc, .slice u.a u.ks.length u.cap] 36) = W at *
    generalize w.heap.size = bx at *
    have c2 : W.cell? ⟨bx, 2, none⟩ = some (.string u.n) := by rw [Lib.cell_of_heap BU]; rfl
    have ST := Lib.hid st
    have BX := Lib.hid BU
    clear st BU
    go_wp2_with fail
    refine (write1 u.n w0 b L _ ST.out (by omega)).mono ?_
    rintro e W1 ⟨rfl, st, k1⟩
    have BU := BX.out.kept k1
    unfold BoxT at BU
    rw [HA.out] at BU
    have c7 : W1.cell? ⟨bx, 7, none⟩ = some (.slice (some ⟨b', o', none⟩) u.ks.length u.cap) := by rw [Lib.cell_of_heap BU]; rfl
    have key := HLS.out W1 st
    clear BU st c2
    go_wp2_with fail
    refine key.mono ?_
    rintro e W2 ⟨rfl, st, k2⟩
    have ST2 := Lib.hid st
    clear st
    go_wp2_with fail
    go_end0
    refine ⟨rfl, ?_, (k0.trans k1).trans k2⟩
    have := ST2.out
    rw [HT.out]
    simpa [List.append_assoc] using this

-- NODES

/-- The table of the methods. -/
def mthA : Array Value := #[.nilFunc, .func (.func 43) #[] #[], .func (.func 44) #[] #[], .func (.func 45) #[] #[], .func (.func 46) #[] #[], .func (.func 47) #[] #[], .func (.func 48) #[] #[], .func (.func 49) #[] #[], .func (.func 50) #[] #[], .func (.func 51) #[] #[], .func (.func 52) #[] #[], .func (.func 53) #[] #[]]

set_option maxRecDepth 100000 in
theorem node_1 (u : LM) (hk : u.k = 1) (w0 : World) (b : Nat) (L T : List UInt8) (w : World) (hst : St w0 b L w)
    (hF : ∀ W, St w0 b L W → Calls Tryz.prog 43 #[.pointer (some ⟨b, 0, none⟩), u.val] W (StP w0 b (L ++ T) W)) :
    Calls Tryz.prog 30 #[.pointer (some ⟨b, 0, none⟩), u.val] w (StP w0 b (L ++ T) w) := by
  have BU := BoxT.new w u
  have k0 := KeptP.of_gw ((Gw.refl w).alloc u.box)
  have st := hst.alloc u.box
  have hk0 : (0 : Int) ≤ u.k := by omega
  have hk12 : u.k < 12 := by omega
  have HKk := Lib.hid hk
  clear hst hk
  go_enter Tryz.func30, Tryz.ntmps30
  go_upto_region 1 with (fail)
  generalize w.alloc (.cells #[.int .i64 u.k, .int .i64 u.m, .string u.n, .int .i64 u.t.k, .string u.t.n, .slice u.t.a u.t.ks.length u.t.cap, .slice u.na u.ns.length u.nc, .slice u.a u.ks.length u.cap] 36) = W at *
  generalize w.heap.size = bx at *
  have lB := BU.lt
  have BV : BoxT (W.alloc (.cells #[.nilFunc, .func (.func 43) #[] #[], .func (.func 44) #[] #[], .func (.func 45) #[] #[], .func (.func 46) #[] #[], .func (.func 47) #[] #[], .func (.func 48) #[] #[], .func (.func 49) #[] #[], .func (.func 50) #[] #[], .func (.func 51) #[] #[], .func (.func 52) #[] #[], .func (.func 53) #[] #[]] 80)) bx u := BU.kept (KeptP.of_gw ((Gw.refl W).alloc _))
  have AR : (W.alloc (.cells #[.nilFunc, .func (.func 43) #[] #[], .func (.func 44) #[] #[], .func (.func 45) #[] #[], .func (.func 46) #[] #[], .func (.func 47) #[] #[], .func (.func 48) #[] #[], .func (.func 49) #[] #[], .func (.func 50) #[] #[], .func (.func 51) #[] #[], .func (.func 52) #[] #[], .func (.func 53) #[] #[]] 80)).cell? ⟨W.heap.size, u.k.toNat, none⟩ = some (.func (.func 43) #[] #[]) := by
    rw [HKk.out]
    rw [Lib.cell_of_heap (heap_alloc_new W _)]
    rfl
  have AH := Lib.hid (heap_alloc_new W (.cells #[.nilFunc, .func (.func 43) #[] #[], .func (.func 44) #[] #[], .func (.func 45) #[] #[], .func (.func 46) #[] #[], .func (.func 47) #[] #[], .func (.func 48) #[] #[], .func (.func 49) #[] #[], .func (.func 50) #[] #[], .func (.func 51) #[] #[], .func (.func 52) #[] #[], .func (.func 53) #[] #[]] 80))
  have st2 := st.alloc (.cells #[.nilFunc, .func (.func 43) #[] #[], .func (.func 44) #[] #[], .func (.func 45) #[] #[], .func (.func 46) #[] #[], .func (.func 47) #[] #[], .func (.func 48) #[] #[], .func (.func 49) #[] #[], .func (.func 50) #[] #[], .func (.func 51) #[] #[], .func (.func 52) #[] #[], .func (.func 53) #[] #[]] 80)
  have k2 := k0.trans (KeptP.of_gw ((Gw.refl W).alloc (.cells #[.nilFunc, .func (.func 43) #[] #[], .func (.func 44) #[] #[], .func (.func 45) #[] #[], .func (.func 46) #[] #[], .func (.func 47) #[] #[], .func (.func 48) #[] #[], .func (.func 49) #[] #[], .func (.func 50) #[] #[], .func (.func 51) #[] #[], .func (.func 52) #[] #[], .func (.func 53) #[] #[]] 80)))
  have ST := Lib.hid st2
  have K2 := Lib.hid k2
  have HF := Lib.hid hF
  clear st k0 BU st2 k2 hF
  go_upto_region 2 with (fail)
  generalize W.alloc (.cells #[.nilFunc, .func (.func 43) #[] #[], .func (.func 44) #[] #[], .func (.func 45) #[] #[], .func (.func 46) #[] #[], .func (.func 47) #[] #[], .func (.func 48) #[] #[], .func (.func 49) #[] #[], .func (.func 50) #[] #[], .func (.func 51) #[] #[], .func (.func 52) #[] #[], .func (.func 53) #[] #[]] 80) = V at *
  generalize W.heap.size = bv at *
  obtain ⟨q0, q1, q2, q3, q4, q5, q6, q7⟩ := BV.box.c
  have BX := Lib.hid BV
  clear BV
  go_region_held3 (fun W => W.cell? ⟨bx, 0, none⟩ = some (.int .i64 u.k) ∧ W.cell? ⟨bx, 1, none⟩ = some (.int .i64 u.m) ∧ W.cell? ⟨bx, 2, none⟩ = some (.string u.n) ∧ W.cell? ⟨bx, 3, none⟩ = some (.int .i64 u.t.k) ∧ W.cell? ⟨bx, 4, none⟩ = some (.string u.t.n) ∧ W.cell? ⟨bx, 5, none⟩ = some (.slice u.t.a u.t.ks.length u.t.cap) ∧ W.cell? ⟨bx, 6, none⟩ = some (.slice u.na u.ns.length u.nc) ∧ W.cell? ⟨bx, 7, none⟩ = some (.slice u.a u.ks.length u.cap) ∧ W.cell? ⟨bv, u.k.toNat, none⟩ = some (.func (.func 43) #[] #[]))
    (first | exact ⟨q0, q1, q2, q3, q4, q5, q6, q7, AR⟩ | exact ⟨r0, r1, r2, r3, r4, r5, r6, r7, AR2⟩)
    (first
      | (go_at_call 43; refine (HF.out _ (ST.out.grow (Gw.refl V).drew)).mono ?_; rintro e W2 ⟨rfl, st3, k3⟩; have BX2 := BX.out.kept ((KeptP.of_gw (Gw.refl V).drew).trans k3); obtain ⟨r0, r1, r2, r3, r4, r5, r6, r7⟩ := BX2.box.c; have AR2 : W2.cell? ⟨bv, u.k.toNat, none⟩ = some (.func (.func 43) #[] #[]) := by rw [HKk.out, Lib.cell_of_heap (k3.blk AH.out (by decide))]; rfl))
  go_end0
  exact ⟨rfl, st3, K2.out.trans ((KeptP.of_gw (Gw.refl V).drew).trans k3)⟩

set_option maxRecDepth 100000 in
theorem node_2 (u : LM) (hk : u.k = 2) (w0 : World) (b : Nat) (L T : List UInt8) (w : World) (hst : St w0 b L w)
    (hF : ∀ W, St w0 b L W → Calls Tryz.prog 44 #[.pointer (some ⟨b, 0, none⟩), u.val] W (StP w0 b (L ++ T) W)) :
    Calls Tryz.prog 30 #[.pointer (some ⟨b, 0, none⟩), u.val] w (StP w0 b (L ++ T) w) := by
  have BU := BoxT.new w u
  have k0 := KeptP.of_gw ((Gw.refl w).alloc u.box)
  have st := hst.alloc u.box
  have hk0 : (0 : Int) ≤ u.k := by omega
  have hk12 : u.k < 12 := by omega
  have HKk := Lib.hid hk
  clear hst hk
  go_enter Tryz.func30, Tryz.ntmps30
  go_upto_region 1 with (fail)
  generalize w.alloc (.cells #[.int .i64 u.k, .int .i64 u.m, .string u.n, .int .i64 u.t.k, .string u.t.n, .slice u.t.a u.t.ks.length u.t.cap, .slice u.na u.ns.length u.nc, .slice u.a u.ks.length u.cap] 36) = W at *
  generalize w.heap.size = bx at *
  have lB := BU.lt
  have BV : BoxT (W.alloc (.cells #[.nilFunc, .func (.func 43) #[] #[], .func (.func 44) #[] #[], .func (.func 45) #[] #[], .func (.func 46) #[] #[], .func (.func 47) #[] #[], .func (.func 48) #[] #[], .func (.func 49) #[] #[], .func (.func 50) #[] #[], .func (.func 51) #[] #[], .func (.func 52) #[] #[], .func (.func 53) #[] #[]] 80)) bx u := BU.kept (KeptP.of_gw ((Gw.refl W).alloc _))
  have AR : (W.alloc (.cells #[.nilFunc, .func (.func 43) #[] #[], .func (.func 44) #[] #[], .func (.func 45) #[] #[], .func (.func 46) #[] #[], .func (.func 47) #[] #[], .func (.func 48) #[] #[], .func (.func 49) #[] #[], .func (.func 50) #[] #[], .func (.func 51) #[] #[], .func (.func 52) #[] #[], .func (.func 53) #[] #[]] 80)).cell? ⟨W.heap.size, u.k.toNat, none⟩ = some (.func (.func 44) #[] #[]) := by
    rw [HKk.out]
    rw [Lib.cell_of_heap (heap_alloc_new W _)]
    rfl
  have AH := Lib.hid (heap_alloc_new W (.cells #[.nilFunc, .func (.func 43) #[] #[], .func (.func 44) #[] #[], .func (.func 45) #[] #[], .func (.func 46) #[] #[], .func (.func 47) #[] #[], .func (.func 48) #[] #[], .func (.func 49) #[] #[], .func (.func 50) #[] #[], .func (.func 51) #[] #[], .func (.func 52) #[] #[], .func (.func 53) #[] #[]] 80))
  have st2 := st.alloc (.cells #[.nilFunc, .func (.func 43) #[] #[], .func (.func 44) #[] #[], .func (.func 45) #[] #[], .func (.func 46) #[] #[], .func (.func 47) #[] #[], .func (.func 48) #[] #[], .func (.func 49) #[] #[], .func (.func 50) #[] #[], .func (.func 51) #[] #[], .func (.func 52) #[] #[], .func (.func 53) #[] #[]] 80)
  have k2 := k0.trans (KeptP.of_gw ((Gw.refl W).alloc (.cells #[.nilFunc, .func (.func 43) #[] #[], .func (.func 44) #[] #[], .func (.func 45) #[] #[], .func (.func 46) #[] #[], .func (.func 47) #[] #[], .func (.func 48) #[] #[], .func (.func 49) #[] #[], .func (.func 50) #[] #[], .func (.func 51) #[] #[], .func (.func 52) #[] #[], .func (.func 53) #[] #[]] 80)))
  have ST := Lib.hid st2
  have K2 := Lib.hid k2
  have HF := Lib.hid hF
  clear st k0 BU st2 k2 hF
  go_upto_region 2 with (fail)
  generalize W.alloc (.cells #[.nilFunc, .func (.func 43) #[] #[], .func (.func 44) #[] #[], .func (.func 45) #[] #[], .func (.func 46) #[] #[], .func (.func 47) #[] #[], .func (.func 48) #[] #[], .func (.func 49) #[] #[], .func (.func 50) #[] #[], .func (.func 51) #[] #[], .func (.func 52) #[] #[], .func (.func 53) #[] #[]] 80) = V at *
  generalize W.heap.size = bv at *
  obtain ⟨q0, q1, q2, q3, q4, q5, q6, q7⟩ := BV.box.c
  have BX := Lib.hid BV
  clear BV
  go_region_held3 (fun W => W.cell? ⟨bx, 0, none⟩ = some (.int .i64 u.k) ∧ W.cell? ⟨bx, 1, none⟩ = some (.int .i64 u.m) ∧ W.cell? ⟨bx, 2, none⟩ = some (.string u.n) ∧ W.cell? ⟨bx, 3, none⟩ = some (.int .i64 u.t.k) ∧ W.cell? ⟨bx, 4, none⟩ = some (.string u.t.n) ∧ W.cell? ⟨bx, 5, none⟩ = some (.slice u.t.a u.t.ks.length u.t.cap) ∧ W.cell? ⟨bx, 6, none⟩ = some (.slice u.na u.ns.length u.nc) ∧ W.cell? ⟨bx, 7, none⟩ = some (.slice u.a u.ks.length u.cap) ∧ W.cell? ⟨bv, u.k.toNat, none⟩ = some (.func (.func 44) #[] #[]))
    (first | exact ⟨q0, q1, q2, q3, q4, q5, q6, q7, AR⟩ | exact ⟨r0, r1, r2, r3, r4, r5, r6, r7, AR2⟩)
    (first
      | (go_at_call 44; refine (HF.out _ (ST.out.grow (Gw.refl V).drew)).mono ?_; rintro e W2 ⟨rfl, st3, k3⟩; have BX2 := BX.out.kept ((KeptP.of_gw (Gw.refl V).drew).trans k3); obtain ⟨r0, r1, r2, r3, r4, r5, r6, r7⟩ := BX2.box.c; have AR2 : W2.cell? ⟨bv, u.k.toNat, none⟩ = some (.func (.func 44) #[] #[]) := by rw [HKk.out, Lib.cell_of_heap (k3.blk AH.out (by decide))]; rfl))
  go_end0
  exact ⟨rfl, st3, K2.out.trans ((KeptP.of_gw (Gw.refl V).drew).trans k3)⟩

set_option maxRecDepth 100000 in
theorem node_3 (u : LM) (hk : u.k = 3) (w0 : World) (b : Nat) (L T : List UInt8) (w : World) (hst : St w0 b L w)
    (hF : ∀ W, St w0 b L W → Calls Tryz.prog 45 #[.pointer (some ⟨b, 0, none⟩), u.val] W (StP w0 b (L ++ T) W)) :
    Calls Tryz.prog 30 #[.pointer (some ⟨b, 0, none⟩), u.val] w (StP w0 b (L ++ T) w) := by
  have BU := BoxT.new w u
  have k0 := KeptP.of_gw ((Gw.refl w).alloc u.box)
  have st := hst.alloc u.box
  have hk0 : (0 : Int) ≤ u.k := by omega
  have hk12 : u.k < 12 := by omega
  have HKk := Lib.hid hk
  clear hst hk
  go_enter Tryz.func30, Tryz.ntmps30
  go_upto_region 1 with (fail)
  generalize w.alloc (.cells #[.int .i64 u.k, .int .i64 u.m, .string u.n, .int .i64 u.t.k, .string u.t.n, .slice u.t.a u.t.ks.length u.t.cap, .slice u.na u.ns.length u.nc, .slice u.a u.ks.length u.cap] 36) = W at *
  generalize w.heap.size = bx at *
  have lB := BU.lt
  have BV : BoxT (W.alloc (.cells #[.nilFunc, .func (.func 43) #[] #[], .func (.func 44) #[] #[], .func (.func 45) #[] #[], .func (.func 46) #[] #[], .func (.func 47) #[] #[], .func (.func 48) #[] #[], .func (.func 49) #[] #[], .func (.func 50) #[] #[], .func (.func 51) #[] #[], .func (.func 52) #[] #[], .func (.func 53) #[] #[]] 80)) bx u := BU.kept (KeptP.of_gw ((Gw.refl W).alloc _))
  have AR : (W.alloc (.cells #[.nilFunc, .func (.func 43) #[] #[], .func (.func 44) #[] #[], .func (.func 45) #[] #[], .func (.func 46) #[] #[], .func (.func 47) #[] #[], .func (.func 48) #[] #[], .func (.func 49) #[] #[], .func (.func 50) #[] #[], .func (.func 51) #[] #[], .func (.func 52) #[] #[], .func (.func 53) #[] #[]] 80)).cell? ⟨W.heap.size, u.k.toNat, none⟩ = some (.func (.func 45) #[] #[]) := by
    rw [HKk.out]
    rw [Lib.cell_of_heap (heap_alloc_new W _)]
    rfl
  have AH := Lib.hid (heap_alloc_new W (.cells #[.nilFunc, .func (.func 43) #[] #[], .func (.func 44) #[] #[], .func (.func 45) #[] #[], .func (.func 46) #[] #[], .func (.func 47) #[] #[], .func (.func 48) #[] #[], .func (.func 49) #[] #[], .func (.func 50) #[] #[], .func (.func 51) #[] #[], .func (.func 52) #[] #[], .func (.func 53) #[] #[]] 80))
  have st2 := st.alloc (.cells #[.nilFunc, .func (.func 43) #[] #[], .func (.func 44) #[] #[], .func (.func 45) #[] #[], .func (.func 46) #[] #[], .func (.func 47) #[] #[], .func (.func 48) #[] #[], .func (.func 49) #[] #[], .func (.func 50) #[] #[], .func (.func 51) #[] #[], .func (.func 52) #[] #[], .func (.func 53) #[] #[]] 80)
  have k2 := k0.trans (KeptP.of_gw ((Gw.refl W).alloc (.cells #[.nilFunc, .func (.func 43) #[] #[], .func (.func 44) #[] #[], .func (.func 45) #[] #[], .func (.func 46) #[] #[], .func (.func 47) #[] #[], .func (.func 48) #[] #[], .func (.func 49) #[] #[], .func (.func 50) #[] #[], .func (.func 51) #[] #[], .func (.func 52) #[] #[], .func (.func 53) #[] #[]] 80)))
  have ST := Lib.hid st2
  have K2 := Lib.hid k2
  have HF := Lib.hid hF
  clear st k0 BU st2 k2 hF
  go_upto_region 2 with (fail)
  generalize W.alloc (.cells #[.nilFunc, .func (.func 43) #[] #[], .func (.func 44) #[] #[], .func (.func 45) #[] #[], .func (.func 46) #[] #[], .func (.func 47) #[] #[], .func (.func 48) #[] #[], .func (.func 49) #[] #[], .func (.func 50) #[] #[], .func (.func 51) #[] #[], .func (.func 52) #[] #[], .func (.func 53) #[] #[]] 80) = V at *
  generalize W.heap.size = bv at *
  obtain ⟨q0, q1, q2, q3, q4, q5, q6, q7⟩ := BV.box.c
  have BX := Lib.hid BV
  clear BV
  go_region_held3 (fun W => W.cell? ⟨bx, 0, none⟩ = some (.int .i64 u.k) ∧ W.cell? ⟨bx, 1, none⟩ = some (.int .i64 u.m) ∧ W.cell? ⟨bx, 2, none⟩ = some (.string u.n) ∧ W.cell? ⟨bx, 3, none⟩ = some (.int .i64 u.t.k) ∧ W.cell? ⟨bx, 4, none⟩ = some (.string u.t.n) ∧ W.cell? ⟨bx, 5, none⟩ = some (.slice u.t.a u.t.ks.length u.t.cap) ∧ W.cell? ⟨bx, 6, none⟩ = some (.slice u.na u.ns.length u.nc) ∧ W.cell? ⟨bx, 7, none⟩ = some (.slice u.a u.ks.length u.cap) ∧ W.cell? ⟨bv, u.k.toNat, none⟩ = some (.func (.func 45) #[] #[]))
    (first | exact ⟨q0, q1, q2, q3, q4, q5, q6, q7, AR⟩ | exact ⟨r0, r1, r2, r3, r4, r5, r6, r7, AR2⟩)
    (first
      | (go_at_call 45; refine (HF.out _ (ST.out.grow (Gw.refl V).drew)).mono ?_; rintro e W2 ⟨rfl, st3, k3⟩; have BX2 := BX.out.kept ((KeptP.of_gw (Gw.refl V).drew).trans k3); obtain ⟨r0, r1, r2, r3, r4, r5, r6, r7⟩ := BX2.box.c; have AR2 : W2.cell? ⟨bv, u.k.toNat, none⟩ = some (.func (.func 45) #[] #[]) := by rw [HKk.out, Lib.cell_of_heap (k3.blk AH.out (by decide))]; rfl))
  go_end0
  exact ⟨rfl, st3, K2.out.trans ((KeptP.of_gw (Gw.refl V).drew).trans k3)⟩

set_option maxRecDepth 100000 in
theorem node_4 (u : LM) (hk : u.k = 4) (w0 : World) (b : Nat) (L T : List UInt8) (w : World) (hst : St w0 b L w)
    (hF : ∀ W, St w0 b L W → Calls Tryz.prog 46 #[.pointer (some ⟨b, 0, none⟩), u.val] W (StP w0 b (L ++ T) W)) :
    Calls Tryz.prog 30 #[.pointer (some ⟨b, 0, none⟩), u.val] w (StP w0 b (L ++ T) w) := by
  have BU := BoxT.new w u
  have k0 := KeptP.of_gw ((Gw.refl w).alloc u.box)
  have st := hst.alloc u.box
  have hk0 : (0 : Int) ≤ u.k := by omega
  have hk12 : u.k < 12 := by omega
  have HKk := Lib.hid hk
  clear hst hk
  go_enter Tryz.func30, Tryz.ntmps30
  go_upto_region 1 with (fail)
  generalize w.alloc (.cells #[.int .i64 u.k, .int .i64 u.m, .string u.n, .int .i64 u.t.k, .string u.t.n, .slice u.t.a u.t.ks.length u.t.cap, .slice u.na u.ns.length u.nc, .slice u.a u.ks.length u.cap] 36) = W at *
  generalize w.heap.size = bx at *
  have lB := BU.lt
  have BV : BoxT (W.alloc (.cells #[.nilFunc, .func (.func 43) #[] #[], .func (.func 44) #[] #[], .func (.func 45) #[] #[], .func (.func 46) #[] #[], .func (.func 47) #[] #[], .func (.func 48) #[] #[], .func (.func 49) #[] #[], .func (.func 50) #[] #[], .func (.func 51) #[] #[], .func (.func 52) #[] #[], .func (.func 53) #[] #[]] 80)) bx u := BU.kept (KeptP.of_gw ((Gw.refl W).alloc _))
  have AR : (W.alloc (.cells #[.nilFunc, .func (.func 43) #[] #[], .func (.func 44) #[] #[], .func (.func 45) #[] #[], .func (.func 46) #[] #[], .func (.func 47) #[] #[], .func (.func 48) #[] #[], .func (.func 49) #[] #[], .func (.func 50) #[] #[], .func (.func 51) #[] #[], .func (.func 52) #[] #[], .func (.func 53) #[] #[]] 80)).cell? ⟨W.heap.size, u.k.toNat, none⟩ = some (.func (.func 46) #[] #[]) := by
    rw [HKk.out]
    rw [Lib.cell_of_heap (heap_alloc_new W _)]
    rfl
  have AH := Lib.hid (heap_alloc_new W (.cells #[.nilFunc, .func (.func 43) #[] #[], .func (.func 44) #[] #[], .func (.func 45) #[] #[], .func (.func 46) #[] #[], .func (.func 47) #[] #[], .func (.func 48) #[] #[], .func (.func 49) #[] #[], .func (.func 50) #[] #[], .func (.func 51) #[] #[], .func (.func 52) #[] #[], .func (.func 53) #[] #[]] 80))
  have st2 := st.alloc (.cells #[.nilFunc, .func (.func 43) #[] #[], .func (.func 44) #[] #[], .func (.func 45) #[] #[], .func (.func 46) #[] #[], .func (.func 47) #[] #[], .func (.func 48) #[] #[], .func (.func 49) #[] #[], .func (.func 50) #[] #[], .func (.func 51) #[] #[], .func (.func 52) #[] #[], .func (.func 53) #[] #[]] 80)
  have k2 := k0.trans (KeptP.of_gw ((Gw.refl W).alloc (.cells #[.nilFunc, .func (.func 43) #[] #[], .func (.func 44) #[] #[], .func (.func 45) #[] #[], .func (.func 46) #[] #[], .func (.func 47) #[] #[], .func (.func 48) #[] #[], .func (.func 49) #[] #[], .func (.func 50) #[] #[], .func (.func 51) #[] #[], .func (.func 52) #[] #[], .func (.func 53) #[] #[]] 80)))
  have ST := Lib.hid st2
  have K2 := Lib.hid k2
  have HF := Lib.hid hF
  clear st k0 BU st2 k2 hF
  go_upto_region 2 with (fail)
  generalize W.alloc (.cells #[.nilFunc, .func (.func 43) #[] #[], .func (.func 44) #[] #[], .func (.func 45) #[] #[], .func (.func 46) #[] #[], .func (.func 47) #[] #[], .func (.func 48) #[] #[], .func (.func 49) #[] #[], .func (.func 50) #[] #[], .func (.func 51) #[] #[], .func (.func 52) #[] #[], .func (.func 53) #[] #[]] 80) = V at *
  generalize W.heap.size = bv at *
  obtain ⟨q0, q1, q2, q3, q4, q5, q6, q7⟩ := BV.box.c
  have BX := Lib.hid BV
  clear BV
  go_region_held3 (fun W => W.cell? ⟨bx, 0, none⟩ = some (.int .i64 u.k) ∧ W.cell? ⟨bx, 1, none⟩ = some (.int .i64 u.m) ∧ W.cell? ⟨bx, 2, none⟩ = some (.string u.n) ∧ W.cell? ⟨bx, 3, none⟩ = some (.int .i64 u.t.k) ∧ W.cell? ⟨bx, 4, none⟩ = some (.string u.t.n) ∧ W.cell? ⟨bx, 5, none⟩ = some (.slice u.t.a u.t.ks.length u.t.cap) ∧ W.cell? ⟨bx, 6, none⟩ = some (.slice u.na u.ns.length u.nc) ∧ W.cell? ⟨bx, 7, none⟩ = some (.slice u.a u.ks.length u.cap) ∧ W.cell? ⟨bv, u.k.toNat, none⟩ = some (.func (.func 46) #[] #[]))
    (first | exact ⟨q0, q1, q2, q3, q4, q5, q6, q7, AR⟩ | exact ⟨r0, r1, r2, r3, r4, r5, r6, r7, AR2⟩)
    (first
      | (go_at_call 46; refine (HF.out _ (ST.out.grow (Gw.refl V).drew)).mono ?_; rintro e W2 ⟨rfl, st3, k3⟩; have BX2 := BX.out.kept ((KeptP.of_gw (Gw.refl V).drew).trans k3); obtain ⟨r0, r1, r2, r3, r4, r5, r6, r7⟩ := BX2.box.c; have AR2 : W2.cell? ⟨bv, u.k.toNat, none⟩ = some (.func (.func 46) #[] #[]) := by rw [HKk.out, Lib.cell_of_heap (k3.blk AH.out (by decide))]; rfl))
  go_end0
  exact ⟨rfl, st3, K2.out.trans ((KeptP.of_gw (Gw.refl V).drew).trans k3)⟩

set_option maxRecDepth 100000 in
theorem node_5 (u : LM) (hk : u.k = 5) (w0 : World) (b : Nat) (L T : List UInt8) (w : World) (hst : St w0 b L w)
    (hF : ∀ W, St w0 b L W → Calls Tryz.prog 47 #[.pointer (some ⟨b, 0, none⟩), u.val] W (StP w0 b (L ++ T) W)) :
    Calls Tryz.prog 30 #[.pointer (some ⟨b, 0, none⟩), u.val] w (StP w0 b (L ++ T) w) := by
  have BU := BoxT.new w u
  have k0 := KeptP.of_gw ((Gw.refl w).alloc u.box)
  have st := hst.alloc u.box
  have hk0 : (0 : Int) ≤ u.k := by omega
  have hk12 : u.k < 12 := by omega
  have HKk := Lib.hid hk
  clear hst hk
  go_enter Tryz.func30, Tryz.ntmps30
  go_upto_region 1 with (fail)
  generalize w.alloc (.cells #[.int .i64 u.k, .int .i64 u.m, .string u.n, .int .i64 u.t.k, .string u.t.n, .slice u.t.a u.t.ks.length u.t.cap, .slice u.na u.ns.length u.nc, .slice u.a u.ks.length u.cap] 36) = W at *
  generalize w.heap.size = bx at *
  have lB := BU.lt
  have BV : BoxT (W.alloc (.cells #[.nilFunc, .func (.func 43) #[] #[], .func (.func 44) #[] #[], .func (.func 45) #[] #[], .func (.func 46) #[] #[], .func (.func 47) #[] #[], .func (.func 48) #[] #[], .func (.func 49) #[] #[], .func (.func 50) #[] #[], .func (.func 51) #[] #[], .func (.func 52) #[] #[], .func (.func 53) #[] #[]] 80)) bx u := BU.kept (KeptP.of_gw ((Gw.refl W).alloc _))
  have AR : (W.alloc (.cells #[.nilFunc, .func (.func 43) #[] #[], .func (.func 44) #[] #[], .func (.func 45) #[] #[], .func (.func 46) #[] #[], .func (.func 47) #[] #[], .func (.func 48) #[] #[], .func (.func 49) #[] #[], .func (.func 50) #[] #[], .func (.func 51) #[] #[], .func (.func 52) #[] #[], .func (.func 53) #[] #[]] 80)).cell? ⟨W.heap.size, u.k.toNat, none⟩ = some (.func (.func 47) #[] #[]) := by
    rw [HKk.out]
    rw [Lib.cell_of_heap (heap_alloc_new W _)]
    rfl
  have AH := Lib.hid (heap_alloc_new W (.cells #[.nilFunc, .func (.func 43) #[] #[], .func (.func 44) #[] #[], .func (.func 45) #[] #[], .func (.func 46) #[] #[], .func (.func 47) #[] #[], .func (.func 48) #[] #[], .func (.func 49) #[] #[], .func (.func 50) #[] #[], .func (.func 51) #[] #[], .func (.func 52) #[] #[], .func (.func 53) #[] #[]] 80))
  have st2 := st.alloc (.cells #[.nilFunc, .func (.func 43) #[] #[], .func (.func 44) #[] #[], .func (.func 45) #[] #[], .func (.func 46) #[] #[], .func (.func 47) #[] #[], .func (.func 48) #[] #[], .func (.func 49) #[] #[], .func (.func 50) #[] #[], .func (.func 51) #[] #[], .func (.func 52) #[] #[], .func (.func 53) #[] #[]] 80)
  have k2 := k0.trans (KeptP.of_gw ((Gw.refl W).alloc (.cells #[.nilFunc, .func (.func 43) #[] #[], .func (.func 44) #[] #[], .func (.func 45) #[] #[], .func (.func 46) #[] #[], .func (.func 47) #[] #[], .func (.func 48) #[] #[], .func (.func 49) #[] #[], .func (.func 50) #[] #[], .func (.func 51) #[] #[], .func (.func 52) #[] #[], .func (.func 53) #[] #[]] 80)))
  have ST := Lib.hid st2
  have K2 := Lib.hid k2
  have HF := Lib.hid hF
  clear st k0 BU st2 k2 hF
  go_upto_region 2 with (fail)
  generalize W.alloc (.cells #[.nilFunc, .func (.func 43) #[] #[], .func (.func 44) #[] #[], .func (.func 45) #[] #[], .func (.func 46) #[] #[], .func (.func 47) #[] #[], .func (.func 48) #[] #[], .func (.func 49) #[] #[], .func (.func 50) #[] #[], .func (.func 51) #[] #[], .func (.func 52) #[] #[], .func (.func 53) #[] #[]] 80) = V at *
  generalize W.heap.size = bv at *
  obtain ⟨q0, q1, q2, q3, q4, q5, q6, q7⟩ := BV.box.c
  have BX := Lib.hid BV
  clear BV
  go_region_held3 (fun W => W.cell? ⟨bx, 0, none⟩ = some (.int .i64 u.k) ∧ W.cell? ⟨bx, 1, none⟩ = some (.int .i64 u.m) ∧ W.cell? ⟨bx, 2, none⟩ = some (.string u.n) ∧ W.cell? ⟨bx, 3, none⟩ = some (.int .i64 u.t.k) ∧ W.cell? ⟨bx, 4, none⟩ = some (.string u.t.n) ∧ W.cell? ⟨bx, 5, none⟩ = some (.slice u.t.a u.t.ks.length u.t.cap) ∧ W.cell? ⟨bx, 6, none⟩ = some (.slice u.na u.ns.length u.nc) ∧ W.cell? ⟨bx, 7, none⟩ = some (.slice u.a u.ks.length u.cap) ∧ W.cell? ⟨bv, u.k.toNat, none⟩ = some (.func (.func 47) #[] #[]))
    (first | exact ⟨q0, q1, q2, q3, q4, q5, q6, q7, AR⟩ | exact ⟨r0, r1, r2, r3, r4, r5, r6, r7, AR2⟩)
    (first
      | (go_at_call 47; refine (HF.out _ (ST.out.grow (Gw.refl V).drew)).mono ?_; rintro e W2 ⟨rfl, st3, k3⟩; have BX2 := BX.out.kept ((KeptP.of_gw (Gw.refl V).drew).trans k3); obtain ⟨r0, r1, r2, r3, r4, r5, r6, r7⟩ := BX2.box.c; have AR2 : W2.cell? ⟨bv, u.k.toNat, none⟩ = some (.func (.func 47) #[] #[]) := by rw [HKk.out, Lib.cell_of_heap (k3.blk AH.out (by decide))]; rfl))
  go_end0
  exact ⟨rfl, st3, K2.out.trans ((KeptP.of_gw (Gw.refl V).drew).trans k3)⟩

set_option maxRecDepth 100000 in
theorem node_6 (u : LM) (hk : u.k = 6) (w0 : World) (b : Nat) (L T : List UInt8) (w : World) (hst : St w0 b L w)
    (hF : ∀ W, St w0 b L W → Calls Tryz.prog 48 #[.pointer (some ⟨b, 0, none⟩), u.val] W (StP w0 b (L ++ T) W)) :
    Calls Tryz.prog 30 #[.pointer (some ⟨b, 0, none⟩), u.val] w (StP w0 b (L ++ T) w) := by
  have BU := BoxT.new w u
  have k0 := KeptP.of_gw ((Gw.refl w).alloc u.box)
  have st := hst.alloc u.box
  have hk0 : (0 : Int) ≤ u.k := by omega
  have hk12 : u.k < 12 := by omega
  have HKk := Lib.hid hk
  clear hst hk
  go_enter Tryz.func30, Tryz.ntmps30
  go_upto_region 1 with (fail)
  generalize w.alloc (.cells #[.int .i64 u.k, .int .i64 u.m, .string u.n, .int .i64 u.t.k, .string u.t.n, .slice u.t.a u.t.ks.length u.t.cap, .slice u.na u.ns.length u.nc, .slice u.a u.ks.length u.cap] 36) = W at *
  generalize w.heap.size = bx at *
  have lB := BU.lt
  have BV : BoxT (W.alloc (.cells #[.nilFunc, .func (.func 43) #[] #[], .func (.func 44) #[] #[], .func (.func 45) #[] #[], .func (.func 46) #[] #[], .func (.func 47) #[] #[], .func (.func 48) #[] #[], .func (.func 49) #[] #[], .func (.func 50) #[] #[], .func (.func 51) #[] #[], .func (.func 52) #[] #[], .func (.func 53) #[] #[]] 80)) bx u := BU.kept (KeptP.of_gw ((Gw.refl W).alloc _))
  have AR : (W.alloc (.cells #[.nilFunc, .func (.func 43) #[] #[], .func (.func 44) #[] #[], .func (.func 45) #[] #[], .func (.func 46) #[] #[], .func (.func 47) #[] #[], .func (.func 48) #[] #[], .func (.func 49) #[] #[], .func (.func 50) #[] #[], .func (.func 51) #[] #[], .func (.func 52) #[] #[], .func (.func 53) #[] #[]] 80)).cell? ⟨W.heap.size, u.k.toNat, none⟩ = some (.func (.func 48) #[] #[]) := by
    rw [HKk.out]
    rw [Lib.cell_of_heap (heap_alloc_new W _)]
    rfl
  have AH := Lib.hid (heap_alloc_new W (.cells #[.nilFunc, .func (.func 43) #[] #[], .func (.func 44) #[] #[], .func (.func 45) #[] #[], .func (.func 46) #[] #[], .func (.func 47) #[] #[], .func (.func 48) #[] #[], .func (.func 49) #[] #[], .func (.func 50) #[] #[], .func (.func 51) #[] #[], .func (.func 52) #[] #[], .func (.func 53) #[] #[]] 80))
  have st2 := st.alloc (.cells #[.nilFunc, .func (.func 43) #[] #[], .func (.func 44) #[] #[], .func (.func 45) #[] #[], .func (.func 46) #[] #[], .func (.func 47) #[] #[], .func (.func 48) #[] #[], .func (.func 49) #[] #[], .func (.func 50) #[] #[], .func (.func 51) #[] #[], .func (.func 52) #[] #[], .func (.func 53) #[] #[]] 80)
  have k2 := k0.trans (KeptP.of_gw ((Gw.refl W).alloc (.cells #[.nilFunc, .func (.func 43) #[] #[], .func (.func 44) #[] #[], .func (.func 45) #[] #[], .func (.func 46) #[] #[], .func (.func 47) #[] #[], .func (.func 48) #[] #[], .func (.func 49) #[] #[], .func (.func 50) #[] #[], .func (.func 51) #[] #[], .func (.func 52) #[] #[], .func (.func 53) #[] #[]] 80)))
  have ST := Lib.hid st2
  have K2 := Lib.hid k2
  have HF := Lib.hid hF
  clear st k0 BU st2 k2 hF
  go_upto_region 2 with (fail)
  generalize W.alloc (.cells #[.nilFunc, .func (.func 43) #[] #[], .func (.func 44) #[] #[], .func (.func 45) #[] #[], .func (.func 46) #[] #[], .func (.func 47) #[] #[], .func (.func 48) #[] #[], .func (.func 49) #[] #[], .func (.func 50) #[] #[], .func (.func 51) #[] #[], .func (.func 52) #[] #[], .func (.func 53) #[] #[]] 80) = V at *
  generalize W.heap.size = bv at *
  obtain ⟨q0, q1, q2, q3, q4, q5, q6, q7⟩ := BV.box.c
  have BX := Lib.hid BV
  clear BV
  go_region_held3 (fun W => W.cell? ⟨bx, 0, none⟩ = some (.int .i64 u.k) ∧ W.cell? ⟨bx, 1, none⟩ = some (.int .i64 u.m) ∧ W.cell? ⟨bx, 2, none⟩ = some (.string u.n) ∧ W.cell? ⟨bx, 3, none⟩ = some (.int .i64 u.t.k) ∧ W.cell? ⟨bx, 4, none⟩ = some (.string u.t.n) ∧ W.cell? ⟨bx, 5, none⟩ = some (.slice u.t.a u.t.ks.length u.t.cap) ∧ W.cell? ⟨bx, 6, none⟩ = some (.slice u.na u.ns.length u.nc) ∧ W.cell? ⟨bx, 7, none⟩ = some (.slice u.a u.ks.length u.cap) ∧ W.cell? ⟨bv, u.k.toNat, none⟩ = some (.func (.func 48) #[] #[]))
    (first | exact ⟨q0, q1, q2, q3, q4, q5, q6, q7, AR⟩ | exact ⟨r0, r1, r2, r3, r4, r5, r6, r7, AR2⟩)
    (first
      | (go_at_call 48; refine (HF.out _ (ST.out.grow (Gw.refl V).drew)).mono ?_; rintro e W2 ⟨rfl, st3, k3⟩; have BX2 := BX.out.kept ((KeptP.of_gw (Gw.refl V).drew).trans k3); obtain ⟨r0, r1, r2, r3, r4, r5, r6, r7⟩ := BX2.box.c; have AR2 : W2.cell? ⟨bv, u.k.toNat, none⟩ = some (.func (.func 48) #[] #[]) := by rw [HKk.out, Lib.cell_of_heap (k3.blk AH.out (by decide))]; rfl))
  go_end0
  exact ⟨rfl, st3, K2.out.trans ((KeptP.of_gw (Gw.refl V).drew).trans k3)⟩

set_option maxRecDepth 100000 in
theorem node_7 (u : LM) (hk : u.k = 7) (w0 : World) (b : Nat) (L T : List UInt8) (w : World) (hst : St w0 b L w)
    (hF : ∀ W, St w0 b L W → Calls Tryz.prog 49 #[.pointer (some ⟨b, 0, none⟩), u.val] W (StP w0 b (L ++ T) W)) :
    Calls Tryz.prog 30 #[.pointer (some ⟨b, 0, none⟩), u.val] w (StP w0 b (L ++ T) w) := by
  have BU := BoxT.new w u
  have k0 := KeptP.of_gw ((Gw.refl w).alloc u.box)
  have st := hst.alloc u.box
  have hk0 : (0 : Int) ≤ u.k := by omega
  have hk12 : u.k < 12 := by omega
  have HKk := Lib.hid hk
  clear hst hk
  go_enter Tryz.func30, Tryz.ntmps30
  go_upto_region 1 with (fail)
  generalize w.alloc (.cells #[.int .i64 u.k, .int .i64 u.m, .string u.n, .int .i64 u.t.k, .string u.t.n, .slice u.t.a u.t.ks.length u.t.cap, .slice u.na u.ns.length u.nc, .slice u.a u.ks.length u.cap] 36) = W at *
  generalize w.heap.size = bx at *
  have lB := BU.lt
  have BV : BoxT (W.alloc (.cells #[.nilFunc, .func (.func 43) #[] #[], .func (.func 44) #[] #[], .func (.func 45) #[] #[], .func (.func 46) #[] #[], .func (.func 47) #[] #[], .func (.func 48) #[] #[], .func (.func 49) #[] #[], .func (.func 50) #[] #[], .func (.func 51) #[] #[], .func (.func 52) #[] #[], .func (.func 53) #[] #[]] 80)) bx u := BU.kept (KeptP.of_gw ((Gw.refl W).alloc _))
  have AR : (W.alloc (.cells #[.nilFunc, .func (.func 43) #[] #[], .func (.func 44) #[] #[], .func (.func 45) #[] #[], .func (.func 46) #[] #[], .func (.func 47) #[] #[], .func (.func 48) #[] #[], .func (.func 49) #[] #[], .func (.func 50) #[] #[], .func (.func 51) #[] #[], .func (.func 52) #[] #[], .func (.func 53) #[] #[]] 80)).cell? ⟨W.heap.size, u.k.toNat, none⟩ = some (.func (.func 49) #[] #[]) := by
    rw [HKk.out]
    rw [Lib.cell_of_heap (heap_alloc_new W _)]
    rfl
  have AH := Lib.hid (heap_alloc_new W (.cells #[.nilFunc, .func (.func 43) #[] #[], .func (.func 44) #[] #[], .func (.func 45) #[] #[], .func (.func 46) #[] #[], .func (.func 47) #[] #[], .func (.func 48) #[] #[], .func (.func 49) #[] #[], .func (.func 50) #[] #[], .func (.func 51) #[] #[], .func (.func 52) #[] #[], .func (.func 53) #[] #[]] 80))
  have st2 := st.alloc (.cells #[.nilFunc, .func (.func 43) #[] #[], .func (.func 44) #[] #[], .func (.func 45) #[] #[], .func (.func 46) #[] #[], .func (.func 47) #[] #[], .func (.func 48) #[] #[], .func (.func 49) #[] #[], .func (.func 50) #[] #[], .func (.func 51) #[] #[], .func (.func 52) #[] #[], .func (.func 53) #[] #[]] 80)
  have k2 := k0.trans (KeptP.of_gw ((Gw.refl W).alloc (.cells #[.nilFunc, .func (.func 43) #[] #[], .func (.func 44) #[] #[], .func (.func 45) #[] #[], .func (.func 46) #[] #[], .func (.func 47) #[] #[], .func (.func 48) #[] #[], .func (.func 49) #[] #[], .func (.func 50) #[] #[], .func (.func 51) #[] #[], .func (.func 52) #[] #[], .func (.func 53) #[] #[]] 80)))
  have ST := Lib.hid st2
  have K2 := Lib.hid k2
  have HF := Lib.hid hF
  clear st k0 BU st2 k2 hF
  go_upto_region 2 with (fail)
  generalize W.alloc (.cells #[.nilFunc, .func (.func 43) #[] #[], .func (.func 44) #[] #[], .func (.func 45) #[] #[], .func (.func 46) #[] #[], .func (.func 47) #[] #[], .func (.func 48) #[] #[], .func (.func 49) #[] #[], .func (.func 50) #[] #[], .func (.func 51) #[] #[], .func (.func 52) #[] #[], .func (.func 53) #[] #[]] 80) = V at *
  generalize W.heap.size = bv at *
  obtain ⟨q0, q1, q2, q3, q4, q5, q6, q7⟩ := BV.box.c
  have BX := Lib.hid BV
  clear BV
  go_region_held3 (fun W => W.cell? ⟨bx, 0, none⟩ = some (.int .i64 u.k) ∧ W.cell? ⟨bx, 1, none⟩ = some (.int .i64 u.m) ∧ W.cell? ⟨bx, 2, none⟩ = some (.string u.n) ∧ W.cell? ⟨bx, 3, none⟩ = some (.int .i64 u.t.k) ∧ W.cell? ⟨bx, 4, none⟩ = some (.string u.t.n) ∧ W.cell? ⟨bx, 5, none⟩ = some (.slice u.t.a u.t.ks.length u.t.cap) ∧ W.cell? ⟨bx, 6, none⟩ = some (.slice u.na u.ns.length u.nc) ∧ W.cell? ⟨bx, 7, none⟩ = some (.slice u.a u.ks.length u.cap) ∧ W.cell? ⟨bv, u.k.toNat, none⟩ = some (.func (.func 49) #[] #[]))
    (first | exact ⟨q0, q1, q2, q3, q4, q5, q6, q7, AR⟩ | exact ⟨r0, r1, r2, r3, r4, r5, r6, r7, AR2⟩)
    (first
      | (go_at_call 49; refine (HF.out _ (ST.out.grow (Gw.refl V).drew)).mono ?_; rintro e W2 ⟨rfl, st3, k3⟩; have BX2 := BX.out.kept ((KeptP.of_gw (Gw.refl V).drew).trans k3); obtain ⟨r0, r1, r2, r3, r4, r5, r6, r7⟩ := BX2.box.c; have AR2 : W2.cell? ⟨bv, u.k.toNat, none⟩ = some (.func (.func 49) #[] #[]) := by rw [HKk.out, Lib.cell_of_heap (k3.blk AH.out (by decide))]; rfl))
  go_end0
  exact ⟨rfl, st3, K2.out.trans ((KeptP.of_gw (Gw.refl V).drew).trans k3)⟩

set_option maxRecDepth 100000 in
theorem node_8 (u : LM) (hk : u.k = 8) (w0 : World) (b : Nat) (L T : List UInt8) (w : World) (hst : St w0 b L w)
    (hF : ∀ W, St w0 b L W → Calls Tryz.prog 50 #[.pointer (some ⟨b, 0, none⟩), u.val] W (StP w0 b (L ++ T) W)) :
    Calls Tryz.prog 30 #[.pointer (some ⟨b, 0, none⟩), u.val] w (StP w0 b (L ++ T) w) := by
  have BU := BoxT.new w u
  have k0 := KeptP.of_gw ((Gw.refl w).alloc u.box)
  have st := hst.alloc u.box
  have hk0 : (0 : Int) ≤ u.k := by omega
  have hk12 : u.k < 12 := by omega
  have HKk := Lib.hid hk
  clear hst hk
  go_enter Tryz.func30, Tryz.ntmps30
  go_upto_region 1 with (fail)
  generalize w.alloc (.cells #[.int .i64 u.k, .int .i64 u.m, .string u.n, .int .i64 u.t.k, .string u.t.n, .slice u.t.a u.t.ks.length u.t.cap, .slice u.na u.ns.length u.nc, .slice u.a u.ks.length u.cap] 36) = W at *
  generalize w.heap.size = bx at *
  have lB := BU.lt
  have BV : BoxT (W.alloc (.cells #[.nilFunc, .func (.func 43) #[] #[], .func (.func 44) #[] #[], .func (.func 45) #[] #[], .func (.func 46) #[] #[], .func (.func 47) #[] #[], .func (.func 48) #[] #[], .func (.func 49) #[] #[], .func (.func 50) #[] #[], .func (.func 51) #[] #[], .func (.func 52) #[] #[], .func (.func 53) #[] #[]] 80)) bx u := BU.kept (KeptP.of_gw ((Gw.refl W).alloc _))
  have AR : (W.alloc (.cells #[.nilFunc, .func (.func 43) #[] #[], .func (.func 44) #[] #[], .func (.func 45) #[] #[], .func (.func 46) #[] #[], .func (.func 47) #[] #[], .func (.func 48) #[] #[], .func (.func 49) #[] #[], .func (.func 50) #[] #[], .func (.func 51) #[] #[], .func (.func 52) #[] #[], .func (.func 53) #[] #[]] 80)).cell? ⟨W.heap.size, u.k.toNat, none⟩ = some (.func (.func 50) #[] #[]) := by
    rw [HKk.out]
    rw [Lib.cell_of_heap (heap_alloc_new W _)]
    rfl
  have AH := Lib.hid (heap_alloc_new W (.cells #[.nilFunc, .func (.func 43) #[] #[], .func (.func 44) #[] #[], .func (.func 45) #[] #[], .func (.func 46) #[] #[], .func (.func 47) #[] #[], .func (.func 48) #[] #[], .func (.func 49) #[] #[], .func (.func 50) #[] #[], .func (.func 51) #[] #[], .func (.func 52) #[] #[], .func (.func 53) #[] #[]] 80))
  have st2 := st.alloc (.cells #[.nilFunc, .func (.func 43) #[] #[], .func (.func 44) #[] #[], .func (.func 45) #[] #[], .func (.func 46) #[] #[], .func (.func 47) #[] #[], .func (.func 48) #[] #[], .func (.func 49) #[] #[], .func (.func 50) #[] #[], .func (.func 51) #[] #[], .func (.func 52) #[] #[], .func (.func 53) #[] #[]] 80)
  have k2 := k0.trans (KeptP.of_gw ((Gw.refl W).alloc (.cells #[.nilFunc, .func (.func 43) #[] #[], .func (.func 44) #[] #[], .func (.func 45) #[] #[], .func (.func 46) #[] #[], .func (.func 47) #[] #[], .func (.func 48) #[] #[], .func (.func 49) #[] #[], .func (.func 50) #[] #[], .func (.func 51) #[] #[], .func (.func 52) #[] #[], .func (.func 53) #[] #[]] 80)))
  have ST := Lib.hid st2
  have K2 := Lib.hid k2
  have HF := Lib.hid hF
  clear st k0 BU st2 k2 hF
  go_upto_region 2 with (fail)
  generalize W.alloc (.cells #[.nilFunc, .func (.func 43) #[] #[], .func (.func 44) #[] #[], .func (.func 45) #[] #[], .func (.func 46) #[] #[], .func (.func 47) #[] #[], .func (.func 48) #[] #[], .func (.func 49) #[] #[], .func (.func 50) #[] #[], .func (.func 51) #[] #[], .func (.func 52) #[] #[], .func (.func 53) #[] #[]] 80) = V at *
  generalize W.heap.size = bv at *
  obtain ⟨q0, q1, q2, q3, q4, q5, q6, q7⟩ := BV.box.c
  have BX := Lib.hid BV
  clear BV
  go_region_held3 (fun W => W.cell? ⟨bx, 0, none⟩ = some (.int .i64 u.k) ∧ W.cell? ⟨bx, 1, none⟩ = some (.int .i64 u.m) ∧ W.cell? ⟨bx, 2, none⟩ = some (.string u.n) ∧ W.cell? ⟨bx, 3, none⟩ = some (.int .i64 u.t.k) ∧ W.cell? ⟨bx, 4, none⟩ = some (.string u.t.n) ∧ W.cell? ⟨bx, 5, none⟩ = some (.slice u.t.a u.t.ks.length u.t.cap) ∧ W.cell? ⟨bx, 6, none⟩ = some (.slice u.na u.ns.length u.nc) ∧ W.cell? ⟨bx, 7, none⟩ = some (.slice u.a u.ks.length u.cap) ∧ W.cell? ⟨bv, u.k.toNat, none⟩ = some (.func (.func 50) #[] #[]))
    (first | exact ⟨q0, q1, q2, q3, q4, q5, q6, q7, AR⟩ | exact ⟨r0, r1, r2, r3, r4, r5, r6, r7, AR2⟩)
    (first
      | (go_at_call 50; refine (HF.out _ (ST.out.grow (Gw.refl V).drew)).mono ?_; rintro e W2 ⟨rfl, st3, k3⟩; have BX2 := BX.out.kept ((KeptP.of_gw (Gw.refl V).drew).trans k3); obtain ⟨r0, r1, r2, r3, r4, r5, r6, r7⟩ := BX2.box.c; have AR2 : W2.cell? ⟨bv, u.k.toNat, none⟩ = some (.func (.func 50) #[] #[]) := by rw [HKk.out, Lib.cell_of_heap (k3.blk AH.out (by decide))]; rfl))
  go_end0
  exact ⟨rfl, st3, K2.out.trans ((KeptP.of_gw (Gw.refl V).drew).trans k3)⟩

set_option maxRecDepth 100000 in
theorem node_9 (u : LM) (hk : u.k = 9) (w0 : World) (b : Nat) (L T : List UInt8) (w : World) (hst : St w0 b L w)
    (hF : ∀ W, St w0 b L W → Calls Tryz.prog 51 #[.pointer (some ⟨b, 0, none⟩), u.val] W (StP w0 b (L ++ T) W)) :
    Calls Tryz.prog 30 #[.pointer (some ⟨b, 0, none⟩), u.val] w (StP w0 b (L ++ T) w) := by
  have BU := BoxT.new w u
  have k0 := KeptP.of_gw ((Gw.refl w).alloc u.box)
  have st := hst.alloc u.box
  have hk0 : (0 : Int) ≤ u.k := by omega
  have hk12 : u.k < 12 := by omega
  have HKk := Lib.hid hk
  clear hst hk
  go_enter Tryz.func30, Tryz.ntmps30
  go_upto_region 1 with (fail)
  generalize w.alloc (.cells #[.int .i64 u.k, .int .i64 u.m, .string u.n, .int .i64 u.t.k, .string u.t.n, .slice u.t.a u.t.ks.length u.t.cap, .slice u.na u.ns.length u.nc, .slice u.a u.ks.length u.cap] 36) = W at *
  generalize w.heap.size = bx at *
  have lB := BU.lt
  have BV : BoxT (W.alloc (.cells #[.nilFunc, .func (.func 43) #[] #[], .func (.func 44) #[] #[], .func (.func 45) #[] #[], .func (.func 46) #[] #[], .func (.func 47) #[] #[], .func (.func 48) #[] #[], .func (.func 49) #[] #[], .func (.func 50) #[] #[], .func (.func 51) #[] #[], .func (.func 52) #[] #[], .func (.func 53) #[] #[]] 80)) bx u := BU.kept (KeptP.of_gw ((Gw.refl W).alloc _))
  have AR : (W.alloc (.cells #[.nilFunc, .func (.func 43) #[] #[], .func (.func 44) #[] #[], .func (.func 45) #[] #[], .func (.func 46) #[] #[], .func (.func 47) #[] #[], .func (.func 48) #[] #[], .func (.func 49) #[] #[], .func (.func 50) #[] #[], .func (.func 51) #[] #[], .func (.func 52) #[] #[], .func (.func 53) #[] #[]] 80)).cell? ⟨W.heap.size, u.k.toNat, none⟩ = some (.func (.func 51) #[] #[]) := by
    rw [HKk.out]
    rw [Lib.cell_of_heap (heap_alloc_new W _)]
    rfl
  have AH := Lib.hid (heap_alloc_new W (.cells #[.nilFunc, .func (.func 43) #[] #[], .func (.func 44) #[] #[], .func (.func 45) #[] #[], .func (.func 46) #[] #[], .func (.func 47) #[] #[], .func (.func 48) #[] #[], .func (.func 49) #[] #[], .func (.func 50) #[] #[], .func (.func 51) #[] #[], .func (.func 52) #[] #[], .func (.func 53) #[] #[]] 80))
  have st2 := st.alloc (.cells #[.nilFunc, .func (.func 43) #[] #[], .func (.func 44) #[] #[], .func (.func 45) #[] #[], .func (.func 46) #[] #[], .func (.func 47) #[] #[], .func (.func 48) #[] #[], .func (.func 49) #[] #[], .func (.func 50) #[] #[], .func (.func 51) #[] #[], .func (.func 52) #[] #[], .func (.func 53) #[] #[]] 80)
  have k2 := k0.trans (KeptP.of_gw ((Gw.refl W).alloc (.cells #[.nilFunc, .func (.func 43) #[] #[], .func (.func 44) #[] #[], .func (.func 45) #[] #[], .func (.func 46) #[] #[], .func (.func 47) #[] #[], .func (.func 48) #[] #[], .func (.func 49) #[] #[], .func (.func 50) #[] #[], .func (.func 51) #[] #[], .func (.func 52) #[] #[], .func (.func 53) #[] #[]] 80)))
  have ST := Lib.hid st2
  have K2 := Lib.hid k2
  have HF := Lib.hid hF
  clear st k0 BU st2 k2 hF
  go_upto_region 2 with (fail)
  generalize W.alloc (.cells #[.nilFunc, .func (.func 43) #[] #[], .func (.func 44) #[] #[], .func (.func 45) #[] #[], .func (.func 46) #[] #[], .func (.func 47) #[] #[], .func (.func 48) #[] #[], .func (.func 49) #[] #[], .func (.func 50) #[] #[], .func (.func 51) #[] #[], .func (.func 52) #[] #[], .func (.func 53) #[] #[]] 80) = V at *
  generalize W.heap.size = bv at *
  obtain ⟨q0, q1, q2, q3, q4, q5, q6, q7⟩ := BV.box.c
  have BX := Lib.hid BV
  clear BV
  go_region_held3 (fun W => W.cell? ⟨bx, 0, none⟩ = some (.int .i64 u.k) ∧ W.cell? ⟨bx, 1, none⟩ = some (.int .i64 u.m) ∧ W.cell? ⟨bx, 2, none⟩ = some (.string u.n) ∧ W.cell? ⟨bx, 3, none⟩ = some (.int .i64 u.t.k) ∧ W.cell? ⟨bx, 4, none⟩ = some (.string u.t.n) ∧ W.cell? ⟨bx, 5, none⟩ = some (.slice u.t.a u.t.ks.length u.t.cap) ∧ W.cell? ⟨bx, 6, none⟩ = some (.slice u.na u.ns.length u.nc) ∧ W.cell? ⟨bx, 7, none⟩ = some (.slice u.a u.ks.length u.cap) ∧ W.cell? ⟨bv, u.k.toNat, none⟩ = some (.func (.func 51) #[] #[]))
    (first | exact ⟨q0, q1, q2, q3, q4, q5, q6, q7, AR⟩ | exact ⟨r0, r1, r2, r3, r4, r5, r6, r7, AR2⟩)
    (first
      | (go_at_call 51; refine (HF.out _ (ST.out.grow (Gw.refl V).drew)).mono ?_; rintro e W2 ⟨rfl, st3, k3⟩; have BX2 := BX.out.kept ((KeptP.of_gw (Gw.refl V).drew).trans k3); obtain ⟨r0, r1, r2, r3, r4, r5, r6, r7⟩ := BX2.box.c; have AR2 : W2.cell? ⟨bv, u.k.toNat, none⟩ = some (.func (.func 51) #[] #[]) := by rw [HKk.out, Lib.cell_of_heap (k3.blk AH.out (by decide))]; rfl))
  go_end0
  exact ⟨rfl, st3, K2.out.trans ((KeptP.of_gw (Gw.refl V).drew).trans k3)⟩

set_option maxRecDepth 100000 in
theorem node_10 (u : LM) (hk : u.k = 10) (w0 : World) (b : Nat) (L T : List UInt8) (w : World) (hst : St w0 b L w)
    (hF : ∀ W, St w0 b L W → Calls Tryz.prog 52 #[.pointer (some ⟨b, 0, none⟩), u.val] W (StP w0 b (L ++ T) W)) :
    Calls Tryz.prog 30 #[.pointer (some ⟨b, 0, none⟩), u.val] w (StP w0 b (L ++ T) w) := by
  have BU := BoxT.new w u
  have k0 := KeptP.of_gw ((Gw.refl w).alloc u.box)
  have st := hst.alloc u.box
  have hk0 : (0 : Int) ≤ u.k := by omega
  have hk12 : u.k < 12 := by omega
  have HKk := Lib.hid hk
  clear hst hk
  go_enter Tryz.func30, Tryz.ntmps30
  go_upto_region 1 with (fail)
  generalize w.alloc (.cells #[.int .i64 u.k, .int .i64 u.m, .string u.n, .int .i64 u.t.k, .string u.t.n, .slice u.t.a u.t.ks.length u.t.cap, .slice u.na u.ns.length u.nc, .slice u.a u.ks.length u.cap] 36) = W at *
  generalize w.heap.size = bx at *
  have lB := BU.lt
  have BV : BoxT (W.alloc (.cells #[.nilFunc, .func (.func 43) #[] #[], .func (.func 44) #[] #[], .func (.func 45) #[] #[], .func (.func 46) #[] #[], .func (.func 47) #[] #[], .func (.func 48) #[] #[], .func (.func 49) #[] #[], .func (.func 50) #[] #[], .func (.func 51) #[] #[], .func (.func 52) #[] #[], .func (.func 53) #[] #[]] 80)) bx u := BU.kept (KeptP.of_gw ((Gw.refl W).alloc _))
  have AR : (W.alloc (.cells #[.nilFunc, .func (.func 43) #[] #[], .func (.func 44) #[] #[], .func (.func 45) #[] #[], .func (.func 46) #[] #[], .func (.func 47) #[] #[], .func (.func 48) #[] #[], .func (.func 49) #[] #[], .func (.func 50) #[] #[], .func (.func 51) #[] #[], .func (.func 52) #[] #[], .func (.func 53) #[] #[]] 80)).cell? ⟨W.heap.size, u.k.toNat, none⟩ = some (.func (.func 52) #[] #[]) := by
    rw [HKk.out]
    rw [Lib.cell_of_heap (heap_alloc_new W _)]
    rfl
  have AH := Lib.hid (heap_alloc_new W (.cells #[.nilFunc, .func (.func 43) #[] #[], .func (.func 44) #[] #[], .func (.func 45) #[] #[], .func (.func 46) #[] #[], .func (.func 47) #[] #[], .func (.func 48) #[] #[], .func (.func 49) #[] #[], .func (.func 50) #[] #[], .func (.func 51) #[] #[], .func (.func 52) #[] #[], .func (.func 53) #[] #[]] 80))
  have st2 := st.alloc (.cells #[.nilFunc, .func (.func 43) #[] #[], .func (.func 44) #[] #[], .func (.func 45) #[] #[], .func (.func 46) #[] #[], .func (.func 47) #[] #[], .func (.func 48) #[] #[], .func (.func 49) #[] #[], .func (.func 50) #[] #[], .func (.func 51) #[] #[], .func (.func 52) #[] #[], .func (.func 53) #[] #[]] 80)
  have k2 := k0.trans (KeptP.of_gw ((Gw.refl W).alloc (.cells #[.nilFunc, .func (.func 43) #[] #[], .func (.func 44) #[] #[], .func (.func 45) #[] #[], .func (.func 46) #[] #[], .func (.func 47) #[] #[], .func (.func 48) #[] #[], .func (.func 49) #[] #[], .func (.func 50) #[] #[], .func (.func 51) #[] #[], .func (.func 52) #[] #[], .func (.func 53) #[] #[]] 80)))
  have ST := Lib.hid st2
  have K2 := Lib.hid k2
  have HF := Lib.hid hF
  clear st k0 BU st2 k2 hF
  go_upto_region 2 with (fail)
  generalize W.alloc (.cells #[.nilFunc, .func (.func 43) #[] #[], .func (.func 44) #[] #[], .func (.func 45) #[] #[], .func (.func 46) #[] #[], .func (.func 47) #[] #[], .func (.func 48) #[] #[], .func (.func 49) #[] #[], .func (.func 50) #[] #[], .func (.func 51) #[] #[], .func (.func 52) #[] #[], .func (.func 53) #[] #[]] 80) = V at *
  generalize W.heap.size = bv at *
  obtain ⟨q0, q1, q2, q3, q4, q5, q6, q7⟩ := BV.box.c
  have BX := Lib.hid BV
  clear BV
  go_region_held3 (fun W => W.cell? ⟨bx, 0, none⟩ = some (.int .i64 u.k) ∧ W.cell? ⟨bx, 1, none⟩ = some (.int .i64 u.m) ∧ W.cell? ⟨bx, 2, none⟩ = some (.string u.n) ∧ W.cell? ⟨bx, 3, none⟩ = some (.int .i64 u.t.k) ∧ W.cell? ⟨bx, 4, none⟩ = some (.string u.t.n) ∧ W.cell? ⟨bx, 5, none⟩ = some (.slice u.t.a u.t.ks.length u.t.cap) ∧ W.cell? ⟨bx, 6, none⟩ = some (.slice u.na u.ns.length u.nc) ∧ W.cell? ⟨bx, 7, none⟩ = some (.slice u.a u.ks.length u.cap) ∧ W.cell? ⟨bv, u.k.toNat, none⟩ = some (.func (.func 52) #[] #[]))
    (first | exact ⟨q0, q1, q2, q3, q4, q5, q6, q7, AR⟩ | exact ⟨r0, r1, r2, r3, r4, r5, r6, r7, AR2⟩)
    (first
      | (go_at_call 52; refine (HF.out _ (ST.out.grow (Gw.refl V).drew)).mono ?_; rintro e W2 ⟨rfl, st3, k3⟩; have BX2 := BX.out.kept ((KeptP.of_gw (Gw.refl V).drew).trans k3); obtain ⟨r0, r1, r2, r3, r4, r5, r6, r7⟩ := BX2.box.c; have AR2 : W2.cell? ⟨bv, u.k.toNat, none⟩ = some (.func (.func 52) #[] #[]) := by rw [HKk.out, Lib.cell_of_heap (k3.blk AH.out (by decide))]; rfl))
  go_end0
  exact ⟨rfl, st3, K2.out.trans ((KeptP.of_gw (Gw.refl V).drew).trans k3)⟩

set_option maxRecDepth 100000 in
theorem node_11 (u : LM) (hk : u.k = 11) (w0 : World) (b : Nat) (L T : List UInt8) (w : World) (hst : St w0 b L w)
    (hF : ∀ W, St w0 b L W → Calls Tryz.prog 53 #[.pointer (some ⟨b, 0, none⟩), u.val] W (StP w0 b (L ++ T) W)) :
    Calls Tryz.prog 30 #[.pointer (some ⟨b, 0, none⟩), u.val] w (StP w0 b (L ++ T) w) := by
  have BU := BoxT.new w u
  have k0 := KeptP.of_gw ((Gw.refl w).alloc u.box)
  have st := hst.alloc u.box
  have hk0 : (0 : Int) ≤ u.k := by omega
  have hk12 : u.k < 12 := by omega
  have HKk := Lib.hid hk
  clear hst hk
  go_enter Tryz.func30, Tryz.ntmps30
  go_upto_region 1 with (fail)
  generalize w.alloc (.cells #[.int .i64 u.k, .int .i64 u.m, .string u.n, .int .i64 u.t.k, .string u.t.n, .slice u.t.a u.t.ks.length u.t.cap, .slice u.na u.ns.length u.nc, .slice u.a u.ks.length u.cap] 36) = W at *
  generalize w.heap.size = bx at *
  have lB := BU.lt
  have BV : BoxT (W.alloc (.cells #[.nilFunc, .func (.func 43) #[] #[], .func (.func 44) #[] #[], .func (.func 45) #[] #[], .func (.func 46) #[] #[], .func (.func 47) #[] #[], .func (.func 48) #[] #[], .func (.func 49) #[] #[], .func (.func 50) #[] #[], .func (.func 51) #[] #[], .func (.func 52) #[] #[], .func (.func 53) #[] #[]] 80)) bx u := BU.kept (KeptP.of_gw ((Gw.refl W).alloc _))
  have AR : (W.alloc (.cells #[.nilFunc, .func (.func 43) #[] #[], .func (.func 44) #[] #[], .func (.func 45) #[] #[], .func (.func 46) #[] #[], .func (.func 47) #[] #[], .func (.func 48) #[] #[], .func (.func 49) #[] #[], .func (.func 50) #[] #[], .func (.func 51) #[] #[], .func (.func 52) #[] #[], .func (.func 53) #[] #[]] 80)).cell? ⟨W.heap.size, u.k.toNat, none⟩ = some (.func (.func 53) #[] #[]) := by
    rw [HKk.out]
    rw [Lib.cell_of_heap (heap_alloc_new W _)]
    rfl
  have AH := Lib.hid (heap_alloc_new W (.cells #[.nilFunc, .func (.func 43) #[] #[], .func (.func 44) #[] #[], .func (.func 45) #[] #[], .func (.func 46) #[] #[], .func (.func 47) #[] #[], .func (.func 48) #[] #[], .func (.func 49) #[] #[], .func (.func 50) #[] #[], .func (.func 51) #[] #[], .func (.func 52) #[] #[], .func (.func 53) #[] #[]] 80))
  have st2 := st.alloc (.cells #[.nilFunc, .func (.func 43) #[] #[], .func (.func 44) #[] #[], .func (.func 45) #[] #[], .func (.func 46) #[] #[], .func (.func 47) #[] #[], .func (.func 48) #[] #[], .func (.func 49) #[] #[], .func (.func 50) #[] #[], .func (.func 51) #[] #[], .func (.func 52) #[] #[], .func (.func 53) #[] #[]] 80)
  have k2 := k0.trans (KeptP.of_gw ((Gw.refl W).alloc (.cells #[.nilFunc, .func (.func 43) #[] #[], .func (.func 44) #[] #[], .func (.func 45) #[] #[], .func (.func 46) #[] #[], .func (.func 47) #[] #[], .func (.func 48) #[] #[], .func (.func 49) #[] #[], .func (.func 50) #[] #[], .func (.func 51) #[] #[], .func (.func 52) #[] #[], .func (.func 53) #[] #[]] 80)))
  have ST := Lib.hid st2
  have K2 := Lib.hid k2
  have HF := Lib.hid hF
  clear st k0 BU st2 k2 hF
  go_upto_region 2 with (fail)
  generalize W.alloc (.cells #[.nilFunc, .func (.func 43) #[] #[], .func (.func 44) #[] #[], .func (.func 45) #[] #[], .func (.func 46) #[] #[], .func (.func 47) #[] #[], .func (.func 48) #[] #[], .func (.func 49) #[] #[], .func (.func 50) #[] #[], .func (.func 51) #[] #[], .func (.func 52) #[] #[], .func (.func 53) #[] #[]] 80) = V at *
  generalize W.heap.size = bv at *
  obtain ⟨q0, q1, q2, q3, q4, q5, q6, q7⟩ := BV.box.c
  have BX := Lib.hid BV
  clear BV
  go_region_held3 (fun W => W.cell? ⟨bx, 0, none⟩ = some (.int .i64 u.k) ∧ W.cell? ⟨bx, 1, none⟩ = some (.int .i64 u.m) ∧ W.cell? ⟨bx, 2, none⟩ = some (.string u.n) ∧ W.cell? ⟨bx, 3, none⟩ = some (.int .i64 u.t.k) ∧ W.cell? ⟨bx, 4, none⟩ = some (.string u.t.n) ∧ W.cell? ⟨bx, 5, none⟩ = some (.slice u.t.a u.t.ks.length u.t.cap) ∧ W.cell? ⟨bx, 6, none⟩ = some (.slice u.na u.ns.length u.nc) ∧ W.cell? ⟨bx, 7, none⟩ = some (.slice u.a u.ks.length u.cap) ∧ W.cell? ⟨bv, u.k.toNat, none⟩ = some (.func (.func 53) #[] #[]))
    (first | exact ⟨q0, q1, q2, q3, q4, q5, q6, q7, AR⟩ | exact ⟨r0, r1, r2, r3, r4, r5, r6, r7, AR2⟩)
    (first
      | (go_at_call 53; refine (HF.out _ (ST.out.grow (Gw.refl V).drew)).mono ?_; rintro e W2 ⟨rfl, st3, k3⟩; have BX2 := BX.out.kept ((KeptP.of_gw (Gw.refl V).drew).trans k3); obtain ⟨r0, r1, r2, r3, r4, r5, r6, r7⟩ := BX2.box.c; have AR2 : W2.cell? ⟨bv, u.k.toNat, none⟩ = some (.func (.func 53) #[] #[]) := by rw [HKk.out, Lib.cell_of_heap (k3.blk AH.out (by decide))]; rfl))
  go_end0
  exact ⟨rfl, st3, K2.out.trans ((KeptP.of_gw (Gw.refl V).drew).trans k3)⟩

end Go.Proofs.YtbjedfbpikfflaaGreatDoor.Con
