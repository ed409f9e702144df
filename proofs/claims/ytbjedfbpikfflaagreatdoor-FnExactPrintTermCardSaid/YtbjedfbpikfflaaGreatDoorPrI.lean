/-
  The program's printer: write, rankOf, and what it keeps while it prints ('St'). Condition: the tables of ranks and of operators' texts read as the program's text lays them.
  The program's methods that print a node, those whose statements follow one another. Condition: the term is valid (Tm.ok) and has at most 160 nodes; the two tables read as the program's text lays them.
  The program's methods that print a node: variables, numbers, operations, lists of terms. Condition: the term is valid (Tm.ok) and has at most 160 nodes; the two tables read as the program's text lays them.
  The program's printing of lists of terms and of names in brackets. Condition: the terms are valid (Tm.ok) and have at most 160 nodes; the two tables read as the program's text lays them.
-/
import Derived.Test.YtbjedfbpikfflaaGreatDoorBldP
import Derived.Test.YtbjedfbpikfflaaGreatDoorPrC
import Derived.Test.YtbjedfbpikfflaaGreatDoorDecI
import Derived.Deep.RegionHeld3
namespace Go.Proofs.YtbjedfbpikfflaaGreatDoor.Con
open Go.RowKit
set_option linter.unusedVariables false

/-- The printer at block b holds the text L; what was there in w0 is as it was. -/
def St (w0 : World) (b : Nat) (L : List UInt8) (w : World) : Prop := Lib.IsBuilder 54 5 w0.heap.size b (Lib.byteCells L) w ∧ Gw w0 w
def StP (w0 : World) (b : Nat) (L : List UInt8) (w : World) (e : Ending) (w' : World) : Prop := e = .returned (.tuple #[]) ∧ St w0 b L w' ∧ KeptP w w'
theorem St.grow {w0 : World} {b : Nat} {L : List UInt8} {w w' : World} (h : St w0 b L w) (g : Gw w w') : St w0 b L w' := ⟨isPrinter_grow h.1 g, h.2.trans g⟩
theorem St.alloc {w0 : World} {b : Nat} {L : List UInt8} {w : World} (h : St w0 b L w) (o : Obj) : St w0 b L (w.alloc o) := h.grow ((Gw.refl w).alloc o)
theorem StP.pre {w0 : World} {b : Nat} {L : List UInt8} {w w1 w2 : World} {e : Ending} (h : StP w0 b L w1 e w2) (k : KeptP w w1) : StP w0 b L w e w2 := ⟨h.1, h.2.1, k.trans h.2.2⟩
theorem BoxM.kept {w w' : World} {b : Nat} {u : LM} (h : ∃ fr, w.heap[b]? = some (.cells #[.int .i64 u.k, .int .i64 u.m, .string u.n, .int .i64 u.t.k, .string u.t.n, .slice u.t.a u.t.ks.length u.t.cap, .slice u.na u.ns.length u.nc, .slice u.a u.ks.length u.cap] 36 fr)) (k : KeptP w w') :
    ∃ fr, w'.heap[b]? = some (.cells #[.int .i64 u.k, .int .i64 u.m, .string u.n, .int .i64 u.t.k, .string u.t.n, .slice u.t.a u.t.ks.length u.t.cap, .slice u.na u.ns.length u.nc, .slice u.a u.ks.length u.cap] 36 fr) := by
  obtain ⟨fr, h⟩ := h
  exact ⟨fr, k.blk h (by decide)⟩
/-- The call's own box of a term. -/
def BoxT (W : World) (b : Nat) (u : LM) : Prop := W.heap[b]? = some (.cells #[.int .i64 u.k, .int .i64 u.m, .string u.n, .int .i64 u.t.k, .string u.t.n, .slice u.t.a u.t.ks.length u.t.cap, .slice u.na u.ns.length u.nc, .slice u.a u.ks.length u.cap] 36 (0, 0))
theorem BoxT.kept {w w' : World} {b : Nat} {u : LM} (h : BoxT w b u) (k : KeptP w w') : BoxT w' b u := k.blk h (by decide)
theorem BoxT.new (W : World) (u : LM) : BoxT (W.alloc (.cells #[.int .i64 u.k, .int .i64 u.m, .string u.n, .int .i64 u.t.k, .string u.t.n, .slice u.t.a u.t.ks.length u.t.cap, .slice u.na u.ns.length u.nc, .slice u.a u.ks.length u.cap] 36)) W.heap.size u := heap_alloc_new W _
theorem BoxT.box {W : World} {b : Nat} {u : LM} (h : BoxT W b u) : BoxM W b u := ⟨_, h⟩
theorem BoxT.lt {W : World} {b : Nat} {u : LM} (h : BoxT W b u) : b < W.heap.size := (Array.getElem?_eq_some_iff.1 h).1

theorem flat_take (ps : List ByteArray) (k : Nat) (h : k < ps.length) : (ps.take (k + 1)).flatMap (·.data.toList) = (ps.take k).flatMap (·.data.toList) ++ ps[k].data.toList := by
  rw [List.take_succ_eq_append_getElem h, List.flatMap_append]; simp
theorem flat_take_le (ps : List ByteArray) (k : Nat) (h : k < ps.length) : ((ps.take k).flatMap (·.data.toList)).length + ps[k].size ≤ (ps.flatMap (·.data.toList)).length := by
  have e : ps = ps.take (k + 1) ++ ps.drop (k + 1) := (List.take_append_drop _ _).symm
  have h1 : (ps.flatMap (·.data.toList)).length = ((ps.take (k + 1)).flatMap (·.data.toList)).length + ((ps.drop (k + 1)).flatMap (·.data.toList)).length := by
    conv => lhs; rw [e]
    rw [List.flatMap_append, List.length_append]
  rw [flat_take ps k h, List.length_append, data_len] at h1
  omega

set_option maxHeartbeats 1000000 in
theorem impl_write (ps : List ByteArray) (hp0 : ps ≠ []) (hp : ps.length ≤ 100) (g : Nat) (w0 : World) (b : Nat) (L : List UInt8) (w : World) (hst : St w0 b L w) (hg : w.heap[g]? = some (.cells (ps.map Value.string).toArray 9 (0, 0))) (hl : L.length + (ps.flatMap (·.data.toList)).length ≤ 900000) :
    Calls Tryz.prog 31 #[.pointer (some ⟨b, 0, none⟩), .slice (some ⟨g, 0, none⟩) ps.length ps.length] w (StP w0 b (L ++ ps.flatMap (·.data.toList)) w) := by
  have HST := Lib.hid hst
  have HG := Lib.hid hg
  have HF := Lib.hid fun k (h : k < ps.length) => flat_take ps k h
  have HL := Lib.hid fun k (h : k < ps.length) => flat_take_le ps k h
  clear hst hg
  go_enter Tryz.func31, Tryz.ntmps31
  go_wp2_with fail
  go_loopw [8] (fun i wr => ∃ k : Nat, k ≤ ps.length ∧ i = .int .i64 k ∧ St w0 b (L ++ (ps.take k).flatMap (·.data.toList)) wr ∧ KeptP w wr) (fun i _ => ps.length - (intOf i).toNat)
  case atStart => exact ⟨0, by omega, rfl, by have := HST.out; simpa using this, KeptP.refl _⟩
  case round =>
    obtain ⟨k, hk, rfl, hst, hkp⟩ := hrel
    have HS := Lib.hid hst
    have HK := Lib.hid hkp
    by_cases hlt : k < ps.length
    · have hgw := hkp.blk HG.out (by decide)
      have hc : wr.cell? ⟨g, k, none⟩ = some (.string ps[k]) := by
        rw [Lib.cell_of_heap hgw]
        simp [hlt]
      have hle := HL.out k hlt
      have hF := Lib.hid (HF.out k hlt)
      have hsz : (Lib.byteCells (L ++ (ps.take k).flatMap (·.data.toList))).length + ps[k].size ≤ 1000000 := by rw [bcells_len, List.length_append]; omega
      have HSZ := Lib.hid hsz
      generalize ps[k] = P at *
      clear hst hkp hsz hle hgw
      go_wp2_with fail
      refine (writeStringP _ b _ P _ HS.out.1 HSZ.out HS.out.2.size).mono ?_
      rintro e w2 ⟨rfl, h1, h2, h3⟩
      go_wp2_with fail
      go_roundw
      case rel => exact ⟨k + 1, by omega, by go_num, ⟨by rw [hF.out, ← List.append_assoc, bcells_append]; exact h1, Below.trans HS.out.2 h2⟩, HK.out.trans h3⟩
      case measure => simp [intOf]; omega
    · obtain rfl : k = ps.length := by omega
      clear hst hkp
      go_wp2_with fail
      go_end0
      exact ⟨rfl, by have := HS.out; rw [List.take_length] at this; exact this, HK.out⟩

theorem write_new (ps : List ByteArray) (hp0 : ps ≠ []) (hp : ps.length ≤ 100) (w0 : World) (b : Nat) (L : List UInt8) (w : World) (hst : St w0 b L w) (hl : L.length + (ps.flatMap (·.data.toList)).length ≤ 900000) :
    Calls Tryz.prog 31 #[.pointer (some ⟨b, 0, none⟩), .slice (some ⟨w.heap.size, 0, none⟩) ps.length ps.length] (w.alloc (.cells (ps.map Value.string).toArray 9)) (StP w0 b (L ++ ps.flatMap (·.data.toList)) w) :=
  (impl_write ps hp0 hp w.heap.size w0 b L _ (hst.alloc _) (heap_alloc_new w _) hl).mono fun e w' h => h.pre (KeptP.of_gw ((Gw.refl w).alloc _))
theorem write1 (x : ByteArray) (w0 : World) (b : Nat) (L : List UInt8) (w : World) (hst : St w0 b L w) (hl : L.length + x.size ≤ 800000) :
    Calls Tryz.prog 31 #[.pointer (some ⟨b, 0, none⟩), .slice (some ⟨w.heap.size, 0, none⟩) 1 1] (w.alloc (.cells #[.string x] 9)) (StP w0 b (L ++ x.data.toList) w) := by
  have := write_new [x] (by simp) (by simp) w0 b L w hst (by simp; omega)
  simpa using this
theorem write3 (x y z : ByteArray) (w0 : World) (b : Nat) (L : List UInt8) (w : World) (hst : St w0 b L w) (hl : L.length + (x.size + y.size + z.size) ≤ 800000) :
    Calls Tryz.prog 31 #[.pointer (some ⟨b, 0, none⟩), .slice (some ⟨w.heap.size, 0, none⟩) 3 3] (w.alloc (.cells #[.string x, .string y, .string z] 9)) (StP w0 b (L ++ (x.data.toList ++ (y.data.toList ++ z.data.toList))) w) := by
  have := write_new [x, y, z] (by simp) (by simp) w0 b L w hst (by simp; omega)
  simpa using this
theorem write5 (x y z p q : ByteArray) (w0 : World) (b : Nat) (L : List UInt8) (w : World) (hst : St w0 b L w) (hl : L.length + (x.size + y.size + z.size + p.size + q.size) ≤ 800000) :
    Calls Tryz.prog 31 #[.pointer (some ⟨b, 0, none⟩), .slice (some ⟨w.heap.size, 0, none⟩) 5 5] (w.alloc (.cells #[.string x, .string y, .string z, .string p, .string q] 9)) (StP w0 b (L ++ (x.data.toList ++ (y.data.toList ++ (z.data.toList ++ (p.data.toList ++ q.data.toList))))) w) := by
  have := write_new [x, y, z, p, q] (by simp) (by simp) w0 b L w hst (by simp; omega)
  simpa using this

/-- The program's two tables. -/
def rkV (i : Nat) : Int := ([0, 2, 2, 3, 3, 1, 1] : List Int).getD i 0
def TabP (w : World) : Prop := (∀ i, i < 7 → w.cell? ⟨0, i, none⟩ = some (.int .i64 (rkV i))) ∧ (∀ i, i < 7 → w.cell? ⟨2, i, none⟩ = some (.string (opAt i)))
theorem TabP.grow {w w' : World} (h : TabP w) (g : Gw w w') : TabP w' := ⟨fun i hi => g.cell (h.1 i hi) (cell_lt (h.1 i hi)), fun i hi => g.cell (h.2 i hi) (cell_lt (h.2 i hi))⟩

theorem impl_rank (u : LM) (w : World) (ht : TabP w) (h3 : u.k = 3 → 1 ≤ u.m ∧ u.m ≤ 6) : Calls Tryz.prog 29 #[u.val] w fun e w' => e = .returned (.int .i64 (lvM u.k u.m)) ∧ Gw w w' := by
  have hB := BoxM.new w u 36
  have hg : Gw w (w.alloc (.cells #[.int .i64 u.k, .int .i64 u.m, .string u.n, .int .i64 u.t.k, .string u.t.n, .slice u.t.a u.t.ks.length u.t.cap, .slice u.na u.ns.length u.nc, .slice u.a u.ks.length u.cap] 36)) := (Gw.refl w).alloc _
  obtain ⟨p0, p1, p2, p3, p4, p5, p6, p7⟩ := hB.c
  have ht2 := ht.grow hg
  by_cases hk3 : u.k = 3
  · obtain ⟨m1, m6⟩ := h3 hk3
    have hc := ht2.1 u.m.toNat (by omega)
    have F0 : rkV u.m.toNat = lvM u.k u.m := by
      rw [hk3]
      obtain e | e | e | e | e | e : u.m = 1 ∨ u.m = 2 ∨ u.m = 3 ∨ u.m = 4 ∨ u.m = 5 ∨ u.m = 6 := by omega
      all_goals rw [e]; rfl
    rw [F0] at hc
    have b3 : (u.k == 3) = true := by simpa using hk3
    have b4 : (u.k == 4) = false := by rw [hk3]; rfl
    have b7 : (u.k == 7) = false := by rw [hk3]; rfl
    have b11 : (u.k == 11) = false := by rw [hk3]; rfl
    have hm0 : (0 : Int) ≤ u.m := by omega
    have hm7 : u.m < 7 := by omega
    clear ht ht2 h3 hB F0 hk3 m1 m6
    go_enter Tryz.func29, Tryz.ntmps29
    go_wp2_with fail
    go_ret
    exact ⟨rfl, hg⟩
  by_cases hk0 : u.k = 4 ∨ u.k = 7 ∨ u.k = 11
  · have F := Lib.hid (show lvM u.k u.m = 0 from by unfold lvM; rw [if_pos hk0])
    clear ht ht2 h3 hB hk3
    rcases hk0 with h | h | h
    · have b4 : (u.k == 4) = true := by simpa using h
      clear h
      go_enter Tryz.func29, Tryz.ntmps29
      go_wp2_with fail
      go_ret
      exact ⟨by rw [F.out]; rfl, hg⟩
    · have b4 : (u.k == 4) = false := by rw [h]; rfl
      have b7 : (u.k == 7) = true := by simpa using h
      clear h
      go_enter Tryz.func29, Tryz.ntmps29
      go_wp2_with fail
      go_ret
      exact ⟨by rw [F.out]; rfl, hg⟩
    · have b4 : (u.k == 4) = false := by rw [h]; rfl
      have b7 : (u.k == 7) = false := by rw [h]; rfl
      have b11 : (u.k == 11) = true := by simpa using h
      clear h
      go_enter Tryz.func29, Tryz.ntmps29
      go_wp2_with fail
      go_ret
      exact ⟨by rw [F.out]; rfl, hg⟩
  have b3 : (u.k == 3) = false := by simpa using hk3
  have b4 : (u.k == 4) = false := by simpa using fun h => hk0 (.inl h)
  have b7 : (u.k == 7) = false := by simpa using fun h => hk0 (.inr (.inl h))
  have b11 : (u.k == 11) = false := by simpa using fun h => hk0 (.inr (.inr h))
  by_cases hk5 : u.k = 5
  · have F := Lib.hid (show lvM u.k u.m = 4 from by unfold lvM; rw [if_neg hk0, if_neg hk3, if_pos hk5])
    have b5 : (u.k == 5) = true := by simpa using hk5
    clear ht ht2 h3 hB hk3 hk0 hk5
    go_enter Tryz.func29, Tryz.ntmps29
    go_wp2_with fail
    go_ret
    exact ⟨by rw [F.out]; rfl, hg⟩
  · have F := Lib.hid (show lvM u.k u.m = 5 from by unfold lvM; rw [if_neg hk0, if_neg hk3, if_neg hk5])
    have b5 : (u.k == 5) = false := by simpa using hk5
    clear ht ht2 h3 hB hk3 hk0 hk5
    go_enter Tryz.func29, Tryz.ntmps29
    go_wp2_with fail
    go_ret
    exact ⟨by rw [F.out]; rfl, hg⟩

end Go.Proofs.YtbjedfbpikfflaaGreatDoor.Con

namespace Go.Proofs.YtbjedfbpikfflaaGreatDoor.Con
open Go.RowKit
set_option linter.unusedVariables false

/-- The method term prints v. -/
def TermK (v : LM) : Prop := ∀ (c : Bool) (w0 : World) (b : Nat) (L : List UInt8) (w : World) (pl : Int), v.tm.ok c = true → v.tm.nn ≤ 160 → St w0 b L w → v.Ok w0 → TabP w0 → L.length + (wrP pl (lvM v.k v.m) v.tm.txt).length ≤ 700000 → 0 ≤ pl → pl ≤ 5 →
    Calls Tryz.prog 18 #[.pointer (some ⟨b, 0, none⟩), v.val, .int .i64 pl] w (StP w0 b (L ++ wrP pl (lvM v.k v.m) v.tm.txt) w)
theorem TermK.zero {v : LM} (h : TermK v) (c : Bool) (w0 : World) (b : Nat) (L : List UInt8) (w : World) (h1 : v.tm.ok c = true) (h2 : v.tm.nn ≤ 160) (h3 : St w0 b L w) (h4 : v.Ok w0) (h5 : TabP w0) (h6 : L.length + v.tm.txt.length ≤ 700000) :
    Calls Tryz.prog 18 #[.pointer (some ⟨b, 0, none⟩), v.val, .int .i64 0] w (StP w0 b (L ++ v.tm.txt) w) := by
  have := h c w0 b L w 0 h1 h2 h3 h4 h5 (by rw [wr_zero]; exact h6) (by omega) (by omega)
  rw [wr_zero] at this
  exact this
abbrev LM.box (u : LM) : Obj := .cells #[.int .i64 u.k, .int .i64 u.m, .string u.n, .int .i64 u.t.k, .string u.t.n, .slice u.t.a u.t.ks.length u.t.cap, .slice u.na u.ns.length u.nc, .slice u.a u.ks.length u.cap] 36
theorem bytes_eq (l : List UInt8) : (⟨l.toArray⟩ : ByteArray).data.toList = l := by simp

set_option maxRecDepth 100000 in
set_option maxHeartbeats 1000000 in
theorem mth_app (u x y : LM) (hks : u.ks = [x, y]) (hnm : u.n.size ≤ 12) (px : TermK x) (ox : x.tm.ok false = true) (nx : x.tm.nn ≤ 160) (py : TermK y) (oy : y.tm.ok false = true) (ny : y.tm.nn ≤ 160) (T : List UInt8) (hT : T = wrP 4 (lvM x.k x.m) x.tm.txt ++ [32] ++ wrP 5 (lvM y.k y.m) y.tm.txt) (w0 : World) (b : Nat) (L : List UInt8) (w : World) (hst : St w0 b L w) (hok : u.Ok w0) (ht : TabP w0) (hl : L.length + T.length ≤ 700000) :
    Calls Tryz.prog 47 #[.pointer (some ⟨b, 0, none⟩), u.val] w (StP w0 b (L ++ T) w) := by
  obtain ⟨b', o', ha, hr⟩ := kids_row hok (by rw [hks]; simp)
  rw [hks] at hr
  have ax : AtM w0 b' o' x := by have := row_at hr 0 (by simp); simpa using this
  have ay : AtM w0 b' (o' + 8) y := row_at hr 1 (by simp)
  rw [hT] at hl
  simp only [List.length_append] at hl
  rw [show ([32] : List UInt8).length = 1 from rfl] at hl
  have hnl := data_len u.n
  have hb0 : (L).length + (wrP 4 (lvM x.k x.m) x.tm.txt).length ≤ 700000 := by
    try simp only [List.length_append]
    try simp only [data_len]
    try rw [show (⟨#[32]⟩ : ByteArray).size = 1 from rfl]
    try rw [show ([32] : List UInt8).length = 1 from rfl]
    omega
  have hb1 : (L ++ wrP 4 (lvM x.k x.m) x.tm.txt).length + (⟨#[32]⟩ : ByteArray).size ≤ 800000 := by
    try simp only [List.length_append]
    try simp only [data_len]
    try rw [show (⟨#[32]⟩ : ByteArray).size = 1 from rfl]
    try rw [show ([32] : List UInt8).length = 1 from rfl]
    omega
  have hb2 : (L ++ wrP 4 (lvM x.k x.m) x.tm.txt ++ (⟨#[32]⟩ : ByteArray).data.toList).length + (wrP 5 (lvM y.k y.m) y.tm.txt).length ≤ 700000 := by
    try simp only [List.length_append]
    try simp only [data_len]
    try rw [show (⟨#[32]⟩ : ByteArray).size = 1 from rfl]
    try rw [show ([32] : List UInt8).length = 1 from rfl]
    omega
  have HB0 := Lib.hid hb0
  have HB1 := Lib.hid hb1
  have HB2 := Lib.hid hb2
  have BU := BoxT.new w u
  have k0 := KeptP.of_gw ((Gw.refl w).alloc u.box)
  have st := hst.alloc u.box
  have HT := Lib.hid hT
  have TB := Lib.hid ht
  have HKS := Lib.hid hks
  have HA := Lib.hid ha
  have Ax := Lib.hid ax
  have Ay := Lib.hid ay
  clear hl hT hr ht hok hst hnl hnm hks ha ax ay hb0 hb1 hb2
  go_enter Tryz.func47, Tryz.ntmps47
  go_upto_region 1 with (fail)
  generalize w.alloc (.cells #[.int .i64 u.k, .int .i64 u.m, .string u.n, .int .i64 u.t.k, .string u.t.n, .slice u.t.a u.t.ks.length u.t.cap, .slice u.na u.ns.length u.nc, .slice u.a u.ks.length u.cap] 36) = W at *
  generalize w.heap.size = bx at *
  have ba := BU
  unfold BoxT at ba
  rw [HA.out, HKS.out] at ba
  have c7 : W.cell? ⟨bx, 7, none⟩ = some (.slice (some ⟨b', o', none⟩) 2 u.cap) := by rw [Lib.cell_of_heap ba]; rfl
  have c2 : W.cell? ⟨bx, 2, none⟩ = some (.string u.n) := by rw [Lib.cell_of_heap ba]; rfl
  obtain ⟨d0, d1, d2, d3, d4, d5, d6, d7⟩ := (Ax.out.grow st.2).c
  have ST := Lib.hid st
  have BA := Lib.hid ba
  clear st ba
  go_wp2_with fail
  refine (px false w0 b (L) _ 4 ox nx ST.out Ax.out.2 TB.out HB0.out (by decide) (by decide)).mono ?_
  rintro e W1 ⟨rfl, st, k1⟩
  have ba := k1.blk BA.out (by decide)
  replace k0 := k0.trans k1
  clear k1 c7 c2 ST BA d0 d1 d2 d3 d4 d5 d6 d7
  have c7 : W1.cell? ⟨bx, 7, none⟩ = some (.slice (some ⟨b', o', none⟩) 2 u.cap) := by rw [Lib.cell_of_heap ba]; rfl
  have c2 : W1.cell? ⟨bx, 2, none⟩ = some (.string u.n) := by rw [Lib.cell_of_heap ba]; rfl
  have ST := Lib.hid st
  have BA := Lib.hid ba
  clear st ba
  go_wp2_with fail
  refine (write1 (⟨#[32]⟩ : ByteArray) w0 b (L ++ wrP 4 (lvM x.k x.m) x.tm.txt) _ ST.out HB1.out).mono ?_
  rintro e W2 ⟨rfl, st, k2⟩
  have ba := k2.blk BA.out (by decide)
  replace k0 := k0.trans k2
  clear k2 c7 c2 ST BA
  have c7 : W2.cell? ⟨bx, 7, none⟩ = some (.slice (some ⟨b', o', none⟩) 2 u.cap) := by rw [Lib.cell_of_heap ba]; rfl
  have c2 : W2.cell? ⟨bx, 2, none⟩ = some (.string u.n) := by rw [Lib.cell_of_heap ba]; rfl
  obtain ⟨d0, d1, d2, d3, d4, d5, d6, d7⟩ := (Ay.out.grow st.2).c
  have ST := Lib.hid st
  have BA := Lib.hid ba
  clear st ba
  go_wp2_with fail
  refine (py false w0 b (L ++ wrP 4 (lvM x.k x.m) x.tm.txt ++ (⟨#[32]⟩ : ByteArray).data.toList) _ 5 oy ny ST.out Ay.out.2 TB.out HB2.out (by decide) (by decide)).mono ?_
  rintro e W3 ⟨rfl, st, k3⟩
  have ba := k3.blk BA.out (by decide)
  replace k0 := k0.trans k3
  clear k3 c7 c2 ST BA d0 d1 d2 d3 d4 d5 d6 d7
  have ST := Lib.hid st
  clear st ba
  go_wp2_with fail
  go_end0
  refine ⟨rfl, ?_, k0⟩
  have := ST.out
  rw [HT.out]
  simpa [List.append_assoc] using this

set_option maxRecDepth 100000 in
set_option maxHeartbeats 1000000 in
theorem mth_box (u x : LM) (hks : u.ks = [x]) (hnm : u.n.size ≤ 12) (px : TermK x) (ox : x.tm.ok false = true) (nx : x.tm.nn ≤ 160) (T : List UInt8) (hT : T = [33] ++ wrP 5 (lvM x.k x.m) x.tm.txt) (w0 : World) (b : Nat) (L : List UInt8) (w : World) (hst : St w0 b L w) (hok : u.Ok w0) (ht : TabP w0) (hl : L.length + T.length ≤ 700000) :
    Calls Tryz.prog 48 #[.pointer (some ⟨b, 0, none⟩), u.val] w (StP w0 b (L ++ T) w) := by
  obtain ⟨b', o', ha, hr⟩ := kids_row hok (by rw [hks]; simp)
  rw [hks] at hr
  have ax : AtM w0 b' o' x := by have := row_at hr 0 (by simp); simpa using this
  rw [hT] at hl
  simp only [List.length_append] at hl
  rw [show ([33] : List UInt8).length = 1 from rfl] at hl
  have hnl := data_len u.n
  have hb0 : (L).length + (⟨#[33]⟩ : ByteArray).size ≤ 800000 := by
    try simp only [List.length_append]
    try simp only [data_len]
    try rw [show (⟨#[33]⟩ : ByteArray).size = 1 from rfl]
    try rw [show ([33] : List UInt8).length = 1 from rfl]
    omega
  have hb1 : (L ++ (⟨#[33]⟩ : ByteArray).data.toList).length + (wrP 5 (lvM x.k x.m) x.tm.txt).length ≤ 700000 := by
    try simp only [List.length_append]
    try simp only [data_len]
    try rw [show (⟨#[33]⟩ : ByteArray).size = 1 from rfl]
    try rw [show ([33] : List UInt8).length = 1 from rfl]
    omega
  have HB0 := Lib.hid hb0
  have HB1 := Lib.hid hb1
  have BU := BoxT.new w u
  have k0 := KeptP.of_gw ((Gw.refl w).alloc u.box)
  have st := hst.alloc u.box
  have HT := Lib.hid hT
  have TB := Lib.hid ht
  have HKS := Lib.hid hks
  have HA := Lib.hid ha
  have Ax := Lib.hid ax
  clear hl hT hr ht hok hst hnl hnm hks ha ax hb0 hb1
  go_enter Tryz.func48, Tryz.ntmps48
  go_upto_region 1 with (fail)
  generalize w.alloc (.cells #[.int .i64 u.k, .int .i64 u.m, .string u.n, .int .i64 u.t.k, .string u.t.n, .slice u.t.a u.t.ks.length u.t.cap, .slice u.na u.ns.length u.nc, .slice u.a u.ks.length u.cap] 36) = W at *
  generalize w.heap.size = bx at *
  have ba := BU
  unfold BoxT at ba
  rw [HA.out, HKS.out] at ba
  have c7 : W.cell? ⟨bx, 7, none⟩ = some (.slice (some ⟨b', o', none⟩) 1 u.cap) := by rw [Lib.cell_of_heap ba]; rfl
  have c2 : W.cell? ⟨bx, 2, none⟩ = some (.string u.n) := by rw [Lib.cell_of_heap ba]; rfl
  have ST := Lib.hid st
  have BA := Lib.hid ba
  clear st ba
  go_wp2_with fail
  refine (write1 (⟨#[33]⟩ : ByteArray) w0 b (L) _ ST.out HB0.out).mono ?_
  rintro e W1 ⟨rfl, st, k1⟩
  have ba := k1.blk BA.out (by decide)
  replace k0 := k0.trans k1
  clear k1 c7 c2 ST BA
  have c7 : W1.cell? ⟨bx, 7, none⟩ = some (.slice (some ⟨b', o', none⟩) 1 u.cap) := by rw [Lib.cell_of_heap ba]; rfl
  have c2 : W1.cell? ⟨bx, 2, none⟩ = some (.string u.n) := by rw [Lib.cell_of_heap ba]; rfl
  obtain ⟨d0, d1, d2, d3, d4, d5, d6, d7⟩ := (Ax.out.grow st.2).c
  have ST := Lib.hid st
  have BA := Lib.hid ba
  clear st ba
  go_wp2_with fail
  refine (px false w0 b (L ++ (⟨#[33]⟩ : ByteArray).data.toList) _ 5 ox nx ST.out Ax.out.2 TB.out HB1.out (by decide) (by decide)).mono ?_
  rintro e W2 ⟨rfl, st, k2⟩
  have ba := k2.blk BA.out (by decide)
  replace k0 := k0.trans k2
  clear k2 c7 c2 ST BA d0 d1 d2 d3 d4 d5 d6 d7
  have ST := Lib.hid st
  clear st ba
  go_wp2_with fail
  go_end0
  refine ⟨rfl, ?_, k0⟩
  have := ST.out
  rw [HT.out]
  simpa [List.append_assoc] using this

set_option maxRecDepth 100000 in
set_option maxHeartbeats 1000000 in
theorem mth_let (u x y : LM) (hks : u.ks = [x, y]) (hnm : u.n.size ≤ 12) (px : TermK x) (ox : x.tm.ok false = true) (nx : x.tm.nn ≤ 160) (py : TermK y) (oy : y.tm.ok false = true) (ny : y.tm.nn ≤ 160) (T : List UInt8) (hT : T = [108, 101, 116, 32] ++ u.n.data.toList ++ [32, 61, 32] ++ x.tm.txt ++ [32, 105, 110, 32] ++ y.tm.txt) (w0 : World) (b : Nat) (L : List UInt8) (w : World) (hst : St w0 b L w) (hok : u.Ok w0) (ht : TabP w0) (hl : L.length + T.length ≤ 700000) :
    Calls Tryz.prog 49 #[.pointer (some ⟨b, 0, none⟩), u.val] w (StP w0 b (L ++ T) w) := by
  obtain ⟨b', o', ha, hr⟩ := kids_row hok (by rw [hks]; simp)
  rw [hks] at hr
  have ax : AtM w0 b' o' x := by have := row_at hr 0 (by simp); simpa using this
  have ay : AtM w0 b' (o' + 8) y := row_at hr 1 (by simp)
  rw [hT] at hl
  simp only [List.length_append] at hl
  rw [show ([108, 101, 116, 32] : List UInt8).length = 4 from rfl] at hl
  rw [show ([32, 61, 32] : List UInt8).length = 3 from rfl] at hl
  rw [show ([32, 105, 110, 32] : List UInt8).length = 4 from rfl] at hl
  have hnl := data_len u.n
  have hb0 : (L).length + ((⟨#[108, 101, 116, 32]⟩ : ByteArray).size + u.n.size + (⟨#[32, 61, 32]⟩ : ByteArray).size) ≤ 800000 := by
    try simp only [List.length_append]
    try simp only [data_len]
    try rw [show (⟨#[108, 101, 116, 32]⟩ : ByteArray).size = 4 from rfl]
    try rw [show ([108, 101, 116, 32] : List UInt8).length = 4 from rfl]
    try rw [show (⟨#[32, 61, 32]⟩ : ByteArray).size = 3 from rfl]
    try rw [show ([32, 61, 32] : List UInt8).length = 3 from rfl]
    try rw [show (⟨#[32, 105, 110, 32]⟩ : ByteArray).size = 4 from rfl]
    try rw [show ([32, 105, 110, 32] : List UInt8).length = 4 from rfl]
    omega
  have hb1 : (L ++ ((⟨#[108, 101, 116, 32]⟩ : ByteArray).data.toList ++ (u.n.data.toList ++ (⟨#[32, 61, 32]⟩ : ByteArray).data.toList))).length + (x.tm.txt).length ≤ 700000 := by
    try simp only [List.length_append]
    try simp only [data_len]
    try rw [show (⟨#[108, 101, 116, 32]⟩ : ByteArray).size = 4 from rfl]
    try rw [show ([108, 101, 116, 32] : List UInt8).length = 4 from rfl]
    try rw [show (⟨#[32, 61, 32]⟩ : ByteArray).size = 3 from rfl]
    try rw [show ([32, 61, 32] : List UInt8).length = 3 from rfl]
    try rw [show (⟨#[32, 105, 110, 32]⟩ : ByteArray).size = 4 from rfl]
    try rw [show ([32, 105, 110, 32] : List UInt8).length = 4 from rfl]
    omega
  have hb2 : (L ++ ((⟨#[108, 101, 116, 32]⟩ : ByteArray).data.toList ++ (u.n.data.toList ++ (⟨#[32, 61, 32]⟩ : ByteArray).data.toList)) ++ x.tm.txt).length + (⟨#[32, 105, 110, 32]⟩ : ByteArray).size ≤ 800000 := by
    try simp only [List.length_append]
    try simp only [data_len]
    try rw [show (⟨#[108, 101, 116, 32]⟩ : ByteArray).size = 4 from rfl]
    try rw [show ([108, 101, 116, 32] : List UInt8).length = 4 from rfl]
    try rw [show (⟨#[32, 61, 32]⟩ : ByteArray).size = 3 from rfl]
    try rw [show ([32, 61, 32] : List UInt8).length = 3 from rfl]
    try rw [show (⟨#[32, 105, 110, 32]⟩ : ByteArray).size = 4 from rfl]
    try rw [show ([32, 105, 110, 32] : List UInt8).length = 4 from rfl]
    omega
  have hb3 : (L ++ ((⟨#[108, 101, 116, 32]⟩ : ByteArray).data.toList ++ (u.n.data.toList ++ (⟨#[32, 61, 32]⟩ : ByteArray).data.toList)) ++ x.tm.txt ++ (⟨#[32, 105, 110, 32]⟩ : ByteArray).data.toList).length + (y.tm.txt).length ≤ 700000 := by
    try simp only [List.length_append]
    try simp only [data_len]
    try rw [show (⟨#[108, 101, 116, 32]⟩ : ByteArray).size = 4 from rfl]
    try rw [show ([108, 101, 116, 32] : List UInt8).length = 4 from rfl]
    try rw [show (⟨#[32, 61, 32]⟩ : ByteArray).size = 3 from rfl]
    try rw [show ([32, 61, 32] : List UInt8).length = 3 from rfl]
    try rw [show (⟨#[32, 105, 110, 32]⟩ : ByteArray).size = 4 from rfl]
    try rw [show ([32, 105, 110, 32] : List UInt8).length = 4 from rfl]
    omega
  have HB0 := Lib.hid hb0
  have HB1 := Lib.hid hb1
  have HB2 := Lib.hid hb2
  have HB3 := Lib.hid hb3
  have BU := BoxT.new w u
  have k0 := KeptP.of_gw ((Gw.refl w).alloc u.box)
  have st := hst.alloc u.box
  have HT := Lib.hid hT
  have TB := Lib.hid ht
  have HKS := Lib.hid hks
  have HA := Lib.hid ha
  have Ax := Lib.hid ax
  have Ay := Lib.hid ay
  clear hl hT hr ht hok hst hnl hnm hks ha ax ay hb0 hb1 hb2 hb3
  go_enter Tryz.func49, Tryz.ntmps49
  go_upto_region 1 with (fail)
  generalize w.alloc (.cells #[.int .i64 u.k, .int .i64 u.m, .string u.n, .int .i64 u.t.k, .string u.t.n, .slice u.t.a u.t.ks.length u.t.cap, .slice u.na u.ns.length u.nc, .slice u.a u.ks.length u.cap] 36) = W at *
  generalize w.heap.size = bx at *
  have ba := BU
  unfold BoxT at ba
  rw [HA.out, HKS.out] at ba
  have c7 : W.cell? ⟨bx, 7, none⟩ = some (.slice (some ⟨b', o', none⟩) 2 u.cap) := by rw [Lib.cell_of_heap ba]; rfl
  have c2 : W.cell? ⟨bx, 2, none⟩ = some (.string u.n) := by rw [Lib.cell_of_heap ba]; rfl
  have ST := Lib.hid st
  have BA := Lib.hid ba
  clear st ba
  go_wp2_with fail
  refine (write3 (⟨#[108, 101, 116, 32]⟩ : ByteArray) u.n (⟨#[32, 61, 32]⟩ : ByteArray) w0 b (L) _ ST.out HB0.out).mono ?_
  rintro e W1 ⟨rfl, st, k1⟩
  have ba := k1.blk BA.out (by decide)
  replace k0 := k0.trans k1
  clear k1 c7 c2 ST BA
  have c7 : W1.cell? ⟨bx, 7, none⟩ = some (.slice (some ⟨b', o', none⟩) 2 u.cap) := by rw [Lib.cell_of_heap ba]; rfl
  have c2 : W1.cell? ⟨bx, 2, none⟩ = some (.string u.n) := by rw [Lib.cell_of_heap ba]; rfl
  obtain ⟨d0, d1, d2, d3, d4, d5, d6, d7⟩ := (Ax.out.grow st.2).c
  have ST := Lib.hid st
  have BA := Lib.hid ba
  clear st ba
  go_wp2_with fail
  refine (px.zero false w0 b (L ++ ((⟨#[108, 101, 116, 32]⟩ : ByteArray).data.toList ++ (u.n.data.toList ++ (⟨#[32, 61, 32]⟩ : ByteArray).data.toList))) _ ox nx ST.out Ax.out.2 TB.out HB1.out).mono ?_
  rintro e W2 ⟨rfl, st, k2⟩
  have ba := k2.blk BA.out (by decide)
  replace k0 := k0.trans k2
  clear k2 c7 c2 ST BA d0 d1 d2 d3 d4 d5 d6 d7
  have c7 : W2.cell? ⟨bx, 7, none⟩ = some (.slice (some ⟨b', o', none⟩) 2 u.cap) := by rw [Lib.cell_of_heap ba]; rfl
  have c2 : W2.cell? ⟨bx, 2, none⟩ = some (.string u.n) := by rw [Lib.cell_of_heap ba]; rfl
  have ST := Lib.hid st
  have BA := Lib.hid ba
  clear st ba
  go_wp2_with fail
  refine (write1 (⟨#[32, 105, 110, 32]⟩ : ByteArray) w0 b (L ++ ((⟨#[108, 101, 116, 32]⟩ : ByteArray).data.toList ++ (u.n.data.toList ++ (⟨#[32, 61, 32]⟩ : ByteArray).data.toList)) ++ x.tm.txt) _ ST.out HB2.out).mono ?_
  rintro e W3 ⟨rfl, st, k3⟩
  have ba := k3.blk BA.out (by decide)
  replace k0 := k0.trans k3
  clear k3 c7 c2 ST BA
  have c7 : W3.cell? ⟨bx, 7, none⟩ = some (.slice (some ⟨b', o', none⟩) 2 u.cap) := by rw [Lib.cell_of_heap ba]; rfl
  have c2 : W3.cell? ⟨bx, 2, none⟩ = some (.string u.n) := by rw [Lib.cell_of_heap ba]; rfl
  obtain ⟨d0, d1, d2, d3, d4, d5, d6, d7⟩ := (Ay.out.grow st.2).c
  have ST := Lib.hid st
  have BA := Lib.hid ba
  clear st ba
  go_wp2_with fail
  refine (py.zero false w0 b (L ++ ((⟨#[108, 101, 116, 32]⟩ : ByteArray).data.toList ++ (u.n.data.toList ++ (⟨#[32, 61, 32]⟩ : ByteArray).data.toList)) ++ x.tm.txt ++ (⟨#[32, 105, 110, 32]⟩ : ByteArray).data.toList) _ oy ny ST.out Ay.out.2 TB.out HB3.out).mono ?_
  rintro e W4 ⟨rfl, st, k4⟩
  have ba := k4.blk BA.out (by decide)
  replace k0 := k0.trans k4
  clear k4 c7 c2 ST BA d0 d1 d2 d3 d4 d5 d6 d7
  have ST := Lib.hid st
  clear st ba
  go_wp2_with fail
  go_end0
  refine ⟨rfl, ?_, k0⟩
  have := ST.out
  rw [HT.out]
  simpa [List.append_assoc] using this

set_option maxRecDepth 100000 in
set_option maxHeartbeats 1000000 in
theorem mth_if (u x y z : LM) (hks : u.ks = [x, y, z]) (hnm : u.n.size ≤ 12) (px : TermK x) (ox : x.tm.ok false = true) (nx : x.tm.nn ≤ 160) (py : TermK y) (oy : y.tm.ok false = true) (ny : y.tm.nn ≤ 160) (pz : TermK z) (oz : z.tm.ok false = true) (nz : z.tm.nn ≤ 160) (T : List UInt8) (hT : T = [105, 102, 32] ++ x.tm.txt ++ [32, 116, 104, 101, 110, 32] ++ y.tm.txt ++ [32, 101, 108, 115, 101, 32] ++ z.tm.txt) (w0 : World) (b : Nat) (L : List UInt8) (w : World) (hst : St w0 b L w) (hok : u.Ok w0) (ht : TabP w0) (hl : L.length + T.length ≤ 700000) :
    Calls Tryz.prog 53 #[.pointer (some ⟨b, 0, none⟩), u.val] w (StP w0 b (L ++ T) w) := by
  obtain ⟨b', o', ha, hr⟩ := kids_row hok (by rw [hks]; simp)
  rw [hks] at hr
  have ax : AtM w0 b' o' x := by have := row_at hr 0 (by simp); simpa using this
  have ay : AtM w0 b' (o' + 8) y := row_at hr 1 (by simp)
  have az : AtM w0 b' (o' + 16) z := row_at hr 2 (by simp)
  rw [hT] at hl
  simp only [List.length_append] at hl
  rw [show ([105, 102, 32] : List UInt8).length = 3 from rfl] at hl
  rw [show ([32, 116, 104, 101, 110, 32] : List UInt8).length = 6 from rfl] at hl
  rw [show ([32, 101, 108, 115, 101, 32] : List UInt8).length = 6 from rfl] at hl
  have hnl := data_len u.n
  have hb0 : (L).length + (⟨#[105, 102, 32]⟩ : ByteArray).size ≤ 800000 := by
    try simp only [List.length_append]
    try simp only [data_len]
    try rw [show (⟨#[105, 102, 32]⟩ : ByteArray).size = 3 from rfl]
    try rw [show ([105, 102, 32] : List UInt8).length = 3 from rfl]
    try rw [show (⟨#[32, 116, 104, 101, 110, 32]⟩ : ByteArray).size = 6 from rfl]
    try rw [show ([32, 116, 104, 101, 110, 32] : List UInt8).length = 6 from rfl]
    try rw [show (⟨#[32, 101, 108, 115, 101, 32]⟩ : ByteArray).size = 6 from rfl]
    try rw [show ([32, 101, 108, 115, 101, 32] : List UInt8).length = 6 from rfl]
    omega
  have hb1 : (L ++ (⟨#[105, 102, 32]⟩ : ByteArray).data.toList).length + (x.tm.txt).length ≤ 700000 := by
    try simp only [List.length_append]
    try simp only [data_len]
    try rw [show (⟨#[105, 102, 32]⟩ : ByteArray).size = 3 from rfl]
    try rw [show ([105, 102, 32] : List UInt8).length = 3 from rfl]
    try rw [show (⟨#[32, 116, 104, 101, 110, 32]⟩ : ByteArray).size = 6 from rfl]
    try rw [show ([32, 116, 104, 101, 110, 32] : List UInt8).length = 6 from rfl]
    try rw [show (⟨#[32, 101, 108, 115, 101, 32]⟩ : ByteArray).size = 6 from rfl]
    try rw [show ([32, 101, 108, 115, 101, 32] : List UInt8).length = 6 from rfl]
    omega
  have hb2 : (L ++ (⟨#[105, 102, 32]⟩ : ByteArray).data.toList ++ x.tm.txt).length + (⟨#[32, 116, 104, 101, 110, 32]⟩ : ByteArray).size ≤ 800000 := by
    try simp only [List.length_append]
    try simp only [data_len]
    try rw [show (⟨#[105, 102, 32]⟩ : ByteArray).size = 3 from rfl]
    try rw [show ([105, 102, 32] : List UInt8).length = 3 from rfl]
    try rw [show (⟨#[32, 116, 104, 101, 110, 32]⟩ : ByteArray).size = 6 from rfl]
    try rw [show ([32, 116, 104, 101, 110, 32] : List UInt8).length = 6 from rfl]
    try rw [show (⟨#[32, 101, 108, 115, 101, 32]⟩ : ByteArray).size = 6 from rfl]
    try rw [show ([32, 101, 108, 115, 101, 32] : List UInt8).length = 6 from rfl]
    omega
  have hb3 : (L ++ (⟨#[105, 102, 32]⟩ : ByteArray).data.toList ++ x.tm.txt ++ (⟨#[32, 116, 104, 101, 110, 32]⟩ : ByteArray).data.toList).length + (y.tm.txt).length ≤ 700000 := by
    try simp only [List.length_append]
    try simp only [data_len]
    try rw [show (⟨#[105, 102, 32]⟩ : ByteArray).size = 3 from rfl]
    try rw [show ([105, 102, 32] : List UInt8).length = 3 from rfl]
    try rw [show (⟨#[32, 116, 104, 101, 110, 32]⟩ : ByteArray).size = 6 from rfl]
    try rw [show ([32, 116, 104, 101, 110, 32] : List UInt8).length = 6 from rfl]
    try rw [show (⟨#[32, 101, 108, 115, 101, 32]⟩ : ByteArray).size = 6 from rfl]
    try rw [show ([32, 101, 108, 115, 101, 32] : List UInt8).length = 6 from rfl]
    omega
  have hb4 : (L ++ (⟨#[105, 102, 32]⟩ : ByteArray).data.toList ++ x.tm.txt ++ (⟨#[32, 116, 104, 101, 110, 32]⟩ : ByteArray).data.toList ++ y.tm.txt).length + (⟨#[32, 101, 108, 115, 101, 32]⟩ : ByteArray).size ≤ 800000 := by
    try simp only [List.length_append]
    try simp only [data_len]
    try rw [show (⟨#[105, 102, 32]⟩ : ByteArray).size = 3 from rfl]
    try rw [show ([105, 102, 32] : List UInt8).length = 3 from rfl]
    try rw [show (⟨#[32, 116, 104, 101, 110, 32]⟩ : ByteArray).size = 6 from rfl]
    try rw [show ([32, 116, 104, 101, 110, 32] : List UInt8).length = 6 from rfl]
    try rw [show (⟨#[32, 101, 108, 115, 101, 32]⟩ : ByteArray).size = 6 from rfl]
    try rw [show ([32, 101, 108, 115, 101, 32] : List UInt8).length = 6 from rfl]
    omega
  have hb5 : (L ++ (⟨#[105, 102, 32]⟩ : ByteArray).data.toList ++ x.tm.txt ++ (⟨#[32, 116, 104, 101, 110, 32]⟩ : ByteArray).data.toList ++ y.tm.txt ++ (⟨#[32, 101, 108, 115, 101, 32]⟩ : ByteArray).data.toList).length + (z.tm.txt).length ≤ 700000 := by
    try simp only [List.length_append]
    try simp only [data_len]
    try rw [show (⟨#[105, 102, 32]⟩ : ByteArray).size = 3 from rfl]
    try rw [show ([105, 102, 32] : List UInt8).length = 3 from rfl]
    try rw [show (⟨#[32, 116, 104, 101, 110, 32]⟩ : ByteArray).size = 6 from rfl]
    try rw [show ([32, 116, 104, 101, 110, 32] : List UInt8).length = 6 from rfl]
    try rw [show (⟨#[32, 101, 108, 115, 101, 32]⟩ : ByteArray).size = 6 from rfl]
    try rw [show ([32, 101, 108, 115, 101, 32] : List UInt8).length = 6 from rfl]
    omega
  have HB0 := Lib.hid hb0
  have HB1 := Lib.hid hb1
  have HB2 := Lib.hid hb2
  have HB3 := Lib.hid hb3
  have HB4 := Lib.hid hb4
  have HB5 := Lib.hid hb5
  have BU := BoxT.new w u
  have k0 := KeptP.of_gw ((Gw.refl w).alloc u.box)
  have st := hst.alloc u.box
  have HT := Lib.hid hT
  have TB := Lib.hid ht
  have HKS := Lib.hid hks
  have HA := Lib.hid ha
  have Ax := Lib.hid ax
  have Ay := Lib.hid ay
  have Az := Lib.hid az
  clear hl hT hr ht hok hst hnl hnm hks ha ax ay az hb0 hb1 hb2 hb3 hb4 hb5
  go_enter Tryz.func53, Tryz.ntmps53
  go_upto_region 1 with (fail)
  generalize w.alloc (.cells #[.int .i64 u.k, .int .i64 u.m, .string u.n, .int .i64 u.t.k, .string u.t.n, .slice u.t.a u.t.ks.length u.t.cap, .slice u.na u.ns.length u.nc, .slice u.a u.ks.length u.cap] 36) = W at *
  generalize w.heap.size = bx at *
  have ba := BU
  unfold BoxT at ba
  rw [HA.out, HKS.out] at ba
  have c7 : W.cell? ⟨bx, 7, none⟩ = some (.slice (some ⟨b', o', none⟩) 3 u.cap) := by rw [Lib.cell_of_heap ba]; rfl
  have c2 : W.cell? ⟨bx, 2, none⟩ = some (.string u.n) := by rw [Lib.cell_of_heap ba]; rfl
  have ST := Lib.hid st
  have BA := Lib.hid ba
  clear st ba
  go_wp2_with fail
  refine (write1 (⟨#[105, 102, 32]⟩ : ByteArray) w0 b (L) _ ST.out HB0.out).mono ?_
  rintro e W1 ⟨rfl, st, k1⟩
  have ba := k1.blk BA.out (by decide)
  replace k0 := k0.trans k1
  clear k1 c7 c2 ST BA
  have c7 : W1.cell? ⟨bx, 7, none⟩ = some (.slice (some ⟨b', o', none⟩) 3 u.cap) := by rw [Lib.cell_of_heap ba]; rfl
  have c2 : W1.cell? ⟨bx, 2, none⟩ = some (.string u.n) := by rw [Lib.cell_of_heap ba]; rfl
  obtain ⟨d0, d1, d2, d3, d4, d5, d6, d7⟩ := (Ax.out.grow st.2).c
  have ST := Lib.hid st
  have BA := Lib.hid ba
  clear st ba
  go_wp2_with fail
  refine (px.zero false w0 b (L ++ (⟨#[105, 102, 32]⟩ : ByteArray).data.toList) _ ox nx ST.out Ax.out.2 TB.out HB1.out).mono ?_
  rintro e W2 ⟨rfl, st, k2⟩
  have ba := k2.blk BA.out (by decide)
  replace k0 := k0.trans k2
  clear k2 c7 c2 ST BA d0 d1 d2 d3 d4 d5 d6 d7
  have c7 : W2.cell? ⟨bx, 7, none⟩ = some (.slice (some ⟨b', o', none⟩) 3 u.cap) := by rw [Lib.cell_of_heap ba]; rfl
  have c2 : W2.cell? ⟨bx, 2, none⟩ = some (.string u.n) := by rw [Lib.cell_of_heap ba]; rfl
  have ST := Lib.hid st
  have BA := Lib.hid ba
  clear st ba
  go_wp2_with fail
  refine (write1 (⟨#[32, 116, 104, 101, 110, 32]⟩ : ByteArray) w0 b (L ++ (⟨#[105, 102, 32]⟩ : ByteArray).data.toList ++ x.tm.txt) _ ST.out HB2.out).mono ?_
  rintro e W3 ⟨rfl, st, k3⟩
  have ba := k3.blk BA.out (by decide)
  replace k0 := k0.trans k3
  clear k3 c7 c2 ST BA
  have c7 : W3.cell? ⟨bx, 7, none⟩ = some (.slice (some ⟨b', o', none⟩) 3 u.cap) := by rw [Lib.cell_of_heap ba]; rfl
  have c2 : W3.cell? ⟨bx, 2, none⟩ = some (.string u.n) := by rw [Lib.cell_of_heap ba]; rfl
  obtain ⟨d0, d1, d2, d3, d4, d5, d6, d7⟩ := (Ay.out.grow st.2).c
  have ST := Lib.hid st
  have BA := Lib.hid ba
  clear st ba
  go_wp2_with fail
  refine (py.zero false w0 b (L ++ (⟨#[105, 102, 32]⟩ : ByteArray).data.toList ++ x.tm.txt ++ (⟨#[32, 116, 104, 101, 110, 32]⟩ : ByteArray).data.toList) _ oy ny ST.out Ay.out.2 TB.out HB3.out).mono ?_
  rintro e W4 ⟨rfl, st, k4⟩
  have ba := k4.blk BA.out (by decide)
  replace k0 := k0.trans k4
  clear k4 c7 c2 ST BA d0 d1 d2 d3 d4 d5 d6 d7
  have c7 : W4.cell? ⟨bx, 7, none⟩ = some (.slice (some ⟨b', o', none⟩) 3 u.cap) := by rw [Lib.cell_of_heap ba]; rfl
  have c2 : W4.cell? ⟨bx, 2, none⟩ = some (.string u.n) := by rw [Lib.cell_of_heap ba]; rfl
  have ST := Lib.hid st
  have BA := Lib.hid ba
  clear st ba
  go_wp2_with fail
  refine (write1 (⟨#[32, 101, 108, 115, 101, 32]⟩ : ByteArray) w0 b (L ++ (⟨#[105, 102, 32]⟩ : ByteArray).data.toList ++ x.tm.txt ++ (⟨#[32, 116, 104, 101, 110, 32]⟩ : ByteArray).data.toList ++ y.tm.txt) _ ST.out HB4.out).mono ?_
  rintro e W5 ⟨rfl, st, k5⟩
  have ba := k5.blk BA.out (by decide)
  replace k0 := k0.trans k5
  clear k5 c7 c2 ST BA
  have c7 : W5.cell? ⟨bx, 7, none⟩ = some (.slice (some ⟨b', o', none⟩) 3 u.cap) := by rw [Lib.cell_of_heap ba]; rfl
  have c2 : W5.cell? ⟨bx, 2, none⟩ = some (.string u.n) := by rw [Lib.cell_of_heap ba]; rfl
  obtain ⟨d0, d1, d2, d3, d4, d5, d6, d7⟩ := (Az.out.grow st.2).c
  have ST := Lib.hid st
  have BA := Lib.hid ba
  clear st ba
  go_wp2_with fail
  refine (pz.zero false w0 b (L ++ (⟨#[105, 102, 32]⟩ : ByteArray).data.toList ++ x.tm.txt ++ (⟨#[32, 116, 104, 101, 110, 32]⟩ : ByteArray).data.toList ++ y.tm.txt ++ (⟨#[32, 101, 108, 115, 101, 32]⟩ : ByteArray).data.toList) _ oz nz ST.out Az.out.2 TB.out HB5.out).mono ?_
  rintro e W6 ⟨rfl, st, k6⟩
  have ba := k6.blk BA.out (by decide)
  replace k0 := k0.trans k6
  clear k6 c7 c2 ST BA d0 d1 d2 d3 d4 d5 d6 d7
  have ST := Lib.hid st
  clear st ba
  go_wp2_with fail
  go_end0
  refine ⟨rfl, ?_, k0⟩
  have := ST.out
  rw [HT.out]
  simpa [List.append_assoc] using this

end Go.Proofs.YtbjedfbpikfflaaGreatDoor.Con

namespace Go.Proofs.YtbjedfbpikfflaaGreatDoor.Con
open Go.RowKit
set_option linter.unusedVariables false

/-- The method prints u. -/
def MthK (F : FuncId) (u : LM) : Prop := ∀ (w0 : World) (b : Nat) (L : List UInt8) (w : World), St w0 b L w → u.Ok w0 → TabP w0 → L.length + u.tm.txt.length ≤ 700000 → Calls Tryz.prog F #[.pointer (some ⟨b, 0, none⟩), u.val] w (StP w0 b (L ++ u.tm.txt) w)

theorem mth_var (u : LM) (hnm : u.n.size ≤ 12) (w0 : World) (b : Nat) (L : List UInt8) (w : World) (hst : St w0 b L w) (hl : L.length ≤ 700000) :
    Calls Tryz.prog 43 #[.pointer (some ⟨b, 0, none⟩), u.val] w (StP w0 b (L ++ u.n.data.toList) w) := by
  have BU := BoxT.new w u
  have k0 := KeptP.of_gw ((Gw.refl w).alloc u.box)
  have st := hst.alloc u.box
  clear hst
  go_enter Tryz.func43, Tryz.ntmps43
  go_upto_region 1 with (fail)
  generalize w.alloc (.cells #[.int .i64 u.k, .int .i64 u.m, .string u.n, .int .i64 u.t.k, .string u.t.n, .slice u.t.a u.t.ks.length u.t.cap, .slice u.na u.ns.length u.nc, .slice u.a u.ks.length u.cap] 36) = W at *
  generalize w.heap.size = bx at *
  have c2 : W.cell? ⟨bx, 2, none⟩ = some (.string u.n) := by rw [Lib.cell_of_heap BU]; rfl
  have ST := Lib.hid st
  clear st BU
  go_wp2_with fail
  refine (write1 u.n w0 b L _ ST.out (by omega)).mono ?_
  rintro e W1 ⟨rfl, st, k1⟩
  go_wp2_with fail
  go_end0
  exact ⟨rfl, st, k0.trans k1⟩

theorem mth_num (u : LM) (h1 : -2147483648 ≤ u.m) (h2 : u.m ≤ 2147483647) (w0 : World) (b : Nat) (L : List UInt8) (w : World) (hst : St w0 b L w) (hl : L.length ≤ 700000) :
    Calls Tryz.prog 44 #[.pointer (some ⟨b, 0, none⟩), u.val] w (StP w0 b (L ++ numP u.m) w) := by
  have BU := BoxT.new w u
  have k0 := KeptP.of_gw ((Gw.refl w).alloc u.box)
  have st := hst.alloc u.box
  have hz : (str (decV u.m)).size ≤ 11 := by rw [str_size]; exact (decV_len (m := u.m) ⟨h1, h2⟩).2
  clear hst
  by_cases hn : u.m < 0
  · have F := Lib.hid (show numP u.m = [40] ++ (decV u.m ++ [41]) from by unfold numP; rw [if_pos hn]; simp)
    go_enter Tryz.func44, Tryz.ntmps44
    go_upto_region 1 with (fail)
    generalize w.alloc (.cells #[.int .i64 u.k, .int .i64 u.m, .string u.n, .int .i64 u.t.k, .string u.t.n, .slice u.t.a u.t.ks.length u.t.cap, .slice u.na u.ns.length u.nc, .slice u.a u.ks.length u.cap] 36) = W at *
    generalize w.heap.size = bx at *
    have c1 : W.cell? ⟨bx, 1, none⟩ = some (.int .i64 u.m) := by rw [Lib.cell_of_heap BU]; rfl
    have ST := Lib.hid st
    clear st BU
    go_wp2_with fail
    refine (impl_decimal u.m (by omega) (by omega) _).mono ?_
    rintro e W1 ⟨rfl, g1⟩
    have ST1 := Lib.hid (ST.out.grow g1)
    have K1 := Lib.hid (k0.trans (KeptP.of_gw g1))
    generalize hS : (⟨(decV u.m).toArray⟩ : ByteArray) = S
    have HZ : S.size ≤ 11 := by rw [← hS]; exact hz
    have HS := Lib.hid hS
    clear hS hz k0
    go_wp2_with fail
    refine (write3 ⟨#[40]⟩ S ⟨#[41]⟩ w0 b L _ ST1.out (by show L.length + (1 + S.size + 1) ≤ _; omega)).mono ?_
    rintro e W2 ⟨rfl, st, k2⟩
    have ST2 := Lib.hid st
    clear st
    go_wp2_with fail
    go_end0
    refine ⟨rfl, ?_, K1.out.trans k2⟩
    have := ST2.out
    rw [F.out]
    rw [← HS.out] at this
    simpa using this
  · have F := Lib.hid (show numP u.m = decV u.m from by unfold numP; rw [if_neg hn])
    go_enter Tryz.func44, Tryz.ntmps44
    go_upto_region 1 with (fail)
    generalize w.alloc (.cells #[.int .i64 u.k, .int .i64 u.m, .string u.n, .int .i64 u.t.k, .string u.t.n, .slice u.t.a u.t.ks.length u.t.cap, .slice u.na u.ns.length u.nc, .slice u.a u.ks.length u.cap] 36) = W at *
    generalize w.heap.size = bx at *
    have c1 : W.cell? ⟨bx, 1, none⟩ = some (.int .i64 u.m) := by rw [Lib.cell_of_heap BU]; rfl
    have ST := Lib.hid st
    clear st BU
    go_wp2_with fail
    refine (impl_decimal u.m (by omega) (by omega) _).mono ?_
    rintro e W1 ⟨rfl, g1⟩
    have ST1 := Lib.hid (ST.out.grow g1)
    have K1 := Lib.hid (k0.trans (KeptP.of_gw g1))
    generalize hS : (⟨(decV u.m).toArray⟩ : ByteArray) = S
    have HZ : S.size ≤ 11 := by rw [← hS]; exact hz
    have HS := Lib.hid hS
    clear hS hz k0
    go_wp2_with fail
    refine (write1 S w0 b L _ ST1.out (by omega)).mono ?_
    rintro e W2 ⟨rfl, st, k2⟩
    have ST2 := Lib.hid st
    clear st
    go_wp2_with fail
    go_end0
    refine ⟨rfl, ?_, K1.out.trans k2⟩
    have := ST2.out
    rw [F.out]
    rw [← HS.out] at this
    simpa using this

set_option maxRecDepth 100000 in
set_option maxHeartbeats 1000000 in
theorem mth_op (u x y : LM) (hk : u.k = 3) (m1 : 1 ≤ u.m) (m6 : u.m ≤ 6) (hks : u.ks = [x, y]) (px : TermK x) (ox : x.tm.ok false = true) (nx : x.tm.nn ≤ 160) (py : TermK y) (oy : y.tm.ok false = true) (ny : y.tm.nn ≤ 160) (T : List UInt8) (hT : T = wrP (lftP u.m) (lvM x.k x.m) x.tm.txt ++ [32] ++ (opTextV u.m).data.toList ++ [32] ++ wrP (lvM 3 u.m + 1) (lvM y.k y.m) y.tm.txt) (w0 : World) (b : Nat) (L : List UInt8) (w : World) (hst : St w0 b L w) (hok : u.Ok w0) (ht : TabP w0) (hl : L.length + T.length ≤ 700000) :
    Calls Tryz.prog 45 #[.pointer (some ⟨b, 0, none⟩), u.val] w (StP w0 b (L ++ T) w) := by
  obtain ⟨b', o', ha, hr⟩ := kids_row hok (by rw [hks]; simp)
  rw [hks] at hr
  have ax : AtM w0 b' o' x := by have := row_at hr 0 (by simp); simpa using this
  have ay : AtM w0 b' (o' + 8) y := row_at hr 1 (by simp)
  rw [hT] at hl
  simp only [List.length_append] at hl
  rw [show ([32] : List UInt8).length = 1 from rfl] at hl
  have hol := opText_len u.m
  have hb0 : L.length + (wrP (lftP u.m) (lvM x.k x.m) x.tm.txt).length ≤ 700000 := by omega
  have hb1 : (L ++ wrP (lftP u.m) (lvM x.k x.m) x.tm.txt).length + ((⟨#[32]⟩ : ByteArray).size + (opTextV u.m).size + (⟨#[32]⟩ : ByteArray).size) ≤ 800000 := by
    simp only [List.length_append]
    rw [show (⟨#[32]⟩ : ByteArray).size = 1 from rfl, ← data_len]
    omega
  have hb2 : (L ++ wrP (lftP u.m) (lvM x.k x.m) x.tm.txt ++ ((⟨#[32]⟩ : ByteArray).data.toList ++ ((opTextV u.m).data.toList ++ (⟨#[32]⟩ : ByteArray).data.toList))).length + (wrP (lvM 3 u.m + 1) (lvM y.k y.m) y.tm.txt).length ≤ 700000 := by
    simp only [List.length_append]
    rw [show ((⟨#[32]⟩ : ByteArray).data.toList).length = 1 from rfl]
    omega
  have hlv : 1 ≤ lvM 3 u.m ∧ lvM 3 u.m ≤ 3 := by unfold lvM; rw [if_neg (by omega), if_pos rfl]; (repeat' split) <;> omega
  have hr3 := Lib.hid fun (W : World) (g : Gw w0 W) => show Calls Tryz.prog 29 #[u.val] W fun e w' => e = .returned (.int .i64 (lvM 3 u.m)) ∧ Gw W w' from by
    have := impl_rank u W (ht.grow g) (fun _ => ⟨m1, m6⟩)
    rw [hk] at this
    exact this
  have HB0 := Lib.hid hb0
  have HB1 := Lib.hid hb1
  have HB2 := Lib.hid hb2
  have BU := BoxT.new w u
  have k0 := KeptP.of_gw ((Gw.refl w).alloc u.box)
  have st := hst.alloc u.box
  have HT := Lib.hid hT
  have TB := Lib.hid ht
  have HKS := Lib.hid hks
  have HA := Lib.hid ha
  have Ax := Lib.hid ax
  have Ay := Lib.hid ay
  have HLF := Lib.hid (show lftP u.m = if lvM 3 u.m = 1 then 2 else lvM 3 u.m from rfl)
  obtain ⟨l1, l3⟩ := hlv
  generalize lvM 3 u.m = lv at *
  generalize lftP u.m = lf at *
  clear hl hT hr ht hok hst hks ha ax ay hb0 hb1 hb2 hk
  by_cases hlv1 : lv = 1
  · have hlf := HLF.out
    rw [if_pos (by omega)] at hlf
    subst hlv1
    subst hlf
    clear HLF
    go_enter Tryz.func45, Tryz.ntmps45
    go_upto_region 1 with (fail)
    generalize w.alloc (.cells #[.int .i64 u.k, .int .i64 u.m, .string u.n, .int .i64 u.t.k, .string u.t.n, .slice u.t.a u.t.ks.length u.t.cap, .slice u.na u.ns.length u.nc, .slice u.a u.ks.length u.cap] 36) = W at *
    generalize w.heap.size = bx at *
    obtain ⟨q0, q1, q2, q3, q4, q5, q6, q7⟩ := BU.box.c
    have hr4 := hr3.out W st.2
    have ST := Lib.hid st
    clear st
    go_wp2_with fail
    refine hr4.mono ?_
    rintro e W1 ⟨rfl, g1⟩
    have ba := (KeptP.of_gw g1).blk BU (by decide)
    rw [HA.out, HKS.out] at ba
    have st := ST.out.grow g1
    replace k0 := k0.trans (KeptP.of_gw g1)
    have TBx := Lib.hid (TB.out.grow st.2)
    clear q0 q1 q2 q3 q4 q5 q6 q7 hr4 ST BU g1
    have c7 : W1.cell? ⟨bx, 7, none⟩ = some (.slice (some ⟨b', o', none⟩) 2 u.cap) := by rw [Lib.cell_of_heap ba]; rfl
    obtain ⟨d0, d1, d2, d3, d4, d5, d6, d7⟩ := (Ax.out.grow st.2).c
    have ST := Lib.hid st
    have BA := Lib.hid ba
    clear st ba
    go_wp2_with fail
    refine (px false w0 b L _ 2 ox nx ST.out Ax.out.2 TB.out HB0.out (by decide) (by decide)).mono ?_
    rintro e W2 ⟨rfl, st, k1⟩
    have ba := k1.blk BA.out (by decide)
    replace k0 := k0.trans k1
    clear k1 c7 ST BA d0 d1 d2 d3 d4 d5 d6 d7
    have c1 : W2.cell? ⟨bx, 1, none⟩ = some (.int .i64 u.m) := by rw [Lib.cell_of_heap ba]; rfl
    have htb := (TB.out.grow st.2).2
    have HO := Lib.hid htb
    have ST := Lib.hid st
    have BA := Lib.hid ba
    clear st ba htb
    go_wp2_with fail
    refine (impl_optext u.m _ HO.out).mono ?_
    rintro e w' ⟨rfl, rfl⟩
    generalize hO : opTextV u.m = O at *
    go_wp2_with fail
    refine (write3 ⟨#[32]⟩ O ⟨#[32]⟩ w0 b (L ++ wrP 2 (lvM x.k x.m) x.tm.txt) _ ST.out HB1.out).mono ?_
    rintro e W3 ⟨rfl, st, k2⟩
    have ba := k2.blk BA.out (by decide)
    replace k0 := k0.trans k2
    clear k2 c1 ST BA HO
    have c7 : W3.cell? ⟨bx, 7, none⟩ = some (.slice (some ⟨b', o', none⟩) 2 u.cap) := by rw [Lib.cell_of_heap ba]; rfl
    obtain ⟨d0, d1, d2, d3, d4, d5, d6, d7⟩ := (Ay.out.grow st.2).c
    have ST := Lib.hid st
    clear st ba
    go_wp2_with fail
    refine (py false w0 b _ _ 2 oy ny ST.out Ay.out.2 TB.out HB2.out (by decide) (by decide)).mono ?_
    rintro e W4 ⟨rfl, st, k3⟩
    have ST4 := Lib.hid st
    clear st
    go_wp2_with fail
    go_end0
    refine ⟨rfl, ?_, k0.trans k3⟩
    have := ST4.out
    rw [HT.out]
    simpa [List.append_assoc] using this
  by_cases hlv2 : lv = 2
  · have hlf := HLF.out
    rw [if_neg (by omega)] at hlf
    subst hlv2
    subst hlf
    clear HLF
    go_enter Tryz.func45, Tryz.ntmps45
    go_upto_region 1 with (fail)
    generalize w.alloc (.cells #[.int .i64 u.k, .int .i64 u.m, .string u.n, .int .i64 u.t.k, .string u.t.n, .slice u.t.a u.t.ks.length u.t.cap, .slice u.na u.ns.length u.nc, .slice u.a u.ks.length u.cap] 36) = W at *
    generalize w.heap.size = bx at *
    obtain ⟨q0, q1, q2, q3, q4, q5, q6, q7⟩ := BU.box.c
    have hr4 := hr3.out W st.2
    have ST := Lib.hid st
    clear st
    go_wp2_with fail
    refine hr4.mono ?_
    rintro e W1 ⟨rfl, g1⟩
    have ba := (KeptP.of_gw g1).blk BU (by decide)
    rw [HA.out, HKS.out] at ba
    have st := ST.out.grow g1
    replace k0 := k0.trans (KeptP.of_gw g1)
    have TBx := Lib.hid (TB.out.grow st.2)
    clear q0 q1 q2 q3 q4 q5 q6 q7 hr4 ST BU g1
    have c7 : W1.cell? ⟨bx, 7, none⟩ = some (.slice (some ⟨b', o', none⟩) 2 u.cap) := by rw [Lib.cell_of_heap ba]; rfl
    obtain ⟨d0, d1, d2, d3, d4, d5, d6, d7⟩ := (Ax.out.grow st.2).c
    have ST := Lib.hid st
    have BA := Lib.hid ba
    clear st ba
    go_wp2_with fail
    refine (px false w0 b L _ 2 ox nx ST.out Ax.out.2 TB.out HB0.out (by decide) (by decide)).mono ?_
    rintro e W2 ⟨rfl, st, k1⟩
    have ba := k1.blk BA.out (by decide)
    replace k0 := k0.trans k1
    clear k1 c7 ST BA d0 d1 d2 d3 d4 d5 d6 d7
    have c1 : W2.cell? ⟨bx, 1, none⟩ = some (.int .i64 u.m) := by rw [Lib.cell_of_heap ba]; rfl
    have htb := (TB.out.grow st.2).2
    have HO := Lib.hid htb
    have ST := Lib.hid st
    have BA := Lib.hid ba
    clear st ba htb
    go_wp2_with fail
    refine (impl_optext u.m _ HO.out).mono ?_
    rintro e w' ⟨rfl, rfl⟩
    generalize hO : opTextV u.m = O at *
    go_wp2_with fail
    refine (write3 ⟨#[32]⟩ O ⟨#[32]⟩ w0 b (L ++ wrP 2 (lvM x.k x.m) x.tm.txt) _ ST.out HB1.out).mono ?_
    rintro e W3 ⟨rfl, st, k2⟩
    have ba := k2.blk BA.out (by decide)
    replace k0 := k0.trans k2
    clear k2 c1 ST BA HO
    have c7 : W3.cell? ⟨bx, 7, none⟩ = some (.slice (some ⟨b', o', none⟩) 2 u.cap) := by rw [Lib.cell_of_heap ba]; rfl
    obtain ⟨d0, d1, d2, d3, d4, d5, d6, d7⟩ := (Ay.out.grow st.2).c
    have ST := Lib.hid st
    clear st ba
    go_wp2_with fail
    refine (py false w0 b _ _ 3 oy ny ST.out Ay.out.2 TB.out HB2.out (by decide) (by decide)).mono ?_
    rintro e W4 ⟨rfl, st, k3⟩
    have ST4 := Lib.hid st
    clear st
    go_wp2_with fail
    go_end0
    refine ⟨rfl, ?_, k0.trans k3⟩
    have := ST4.out
    rw [HT.out]
    simpa [List.append_assoc] using this
  by_cases hlv3 : lv = 3
  · have hlf := HLF.out
    rw [if_neg (by omega)] at hlf
    subst hlv3
    subst hlf
    clear HLF
    go_enter Tryz.func45, Tryz.ntmps45
    go_upto_region 1 with (fail)
    generalize w.alloc (.cells #[.int .i64 u.k, .int .i64 u.m, .string u.n, .int .i64 u.t.k, .string u.t.n, .slice u.t.a u.t.ks.length u.t.cap, .slice u.na u.ns.length u.nc, .slice u.a u.ks.length u.cap] 36) = W at *
    generalize w.heap.size = bx at *
    obtain ⟨q0, q1, q2, q3, q4, q5, q6, q7⟩ := BU.box.c
    have hr4 := hr3.out W st.2
    have ST := Lib.hid st
    clear st
    go_wp2_with fail
    refine hr4.mono ?_
    rintro e W1 ⟨rfl, g1⟩
    have ba := (KeptP.of_gw g1).blk BU (by decide)
    rw [HA.out, HKS.out] at ba
    have st := ST.out.grow g1
    replace k0 := k0.trans (KeptP.of_gw g1)
    have TBx := Lib.hid (TB.out.grow st.2)
    clear q0 q1 q2 q3 q4 q5 q6 q7 hr4 ST BU g1
    have c7 : W1.cell? ⟨bx, 7, none⟩ = some (.slice (some ⟨b', o', none⟩) 2 u.cap) := by rw [Lib.cell_of_heap ba]; rfl
    obtain ⟨d0, d1, d2, d3, d4, d5, d6, d7⟩ := (Ax.out.grow st.2).c
    have ST := Lib.hid st
    have BA := Lib.hid ba
    clear st ba
    go_wp2_with fail
    refine (px false w0 b L _ 3 ox nx ST.out Ax.out.2 TB.out HB0.out (by decide) (by decide)).mono ?_
    rintro e W2 ⟨rfl, st, k1⟩
    have ba := k1.blk BA.out (by decide)
    replace k0 := k0.trans k1
    clear k1 c7 ST BA d0 d1 d2 d3 d4 d5 d6 d7
    have c1 : W2.cell? ⟨bx, 1, none⟩ = some (.int .i64 u.m) := by rw [Lib.cell_of_heap ba]; rfl
    have htb := (TB.out.grow st.2).2
    have HO := Lib.hid htb
    have ST := Lib.hid st
    have BA := Lib.hid ba
    clear st ba htb
    go_wp2_with fail
    refine (impl_optext u.m _ HO.out).mono ?_
    rintro e w' ⟨rfl, rfl⟩
    generalize hO : opTextV u.m = O at *
    go_wp2_with fail
    refine (write3 ⟨#[32]⟩ O ⟨#[32]⟩ w0 b (L ++ wrP 3 (lvM x.k x.m) x.tm.txt) _ ST.out HB1.out).mono ?_
    rintro e W3 ⟨rfl, st, k2⟩
    have ba := k2.blk BA.out (by decide)
    replace k0 := k0.trans k2
    clear k2 c1 ST BA HO
    have c7 : W3.cell? ⟨bx, 7, none⟩ = some (.slice (some ⟨b', o', none⟩) 2 u.cap) := by rw [Lib.cell_of_heap ba]; rfl
    obtain ⟨d0, d1, d2, d3, d4, d5, d6, d7⟩ := (Ay.out.grow st.2).c
    have ST := Lib.hid st
    clear st ba
    go_wp2_with fail
    refine (py false w0 b _ _ 4 oy ny ST.out Ay.out.2 TB.out HB2.out (by decide) (by decide)).mono ?_
    rintro e W4 ⟨rfl, st, k3⟩
    have ST4 := Lib.hid st
    clear st
    go_wp2_with fail
    go_end0
    refine ⟨rfl, ?_, k0.trans k3⟩
    have := ST4.out
    rw [HT.out]
    simpa [List.append_assoc] using this
  exfalso
  omega

end Go.Proofs.YtbjedfbpikfflaaGreatDoor.Con

namespace Go.Proofs.YtbjedfbpikfflaaGreatDoor.Con
open Go.RowKit
set_option linter.unusedVariables false

theorem joinP_join (sep : List UInt8) (xs : List (List UInt8)) : Lib.join xs sep = joinP sep xs := by
  cases xs with
  | nil => rfl
  | cons x r => rw [Lib.join_cons]; show x ++ Lib.joinTail sep r = x ++ r.flatMap fun y => sep ++ y; unfold Lib.joinTail; rw [List.flatMap_def]

theorem impl_inBr (a : Option Addr) (cap : Nat) (xs : List ByteArray) (h : xs.length ≤ 3) (hs : ∀ s ∈ xs, 1 ≤ s.size ∧ s.size ≤ 12) (w : World) (hsl : strSl w a cap xs) :
    Calls Tryz.prog 68 #[.slice a xs.length cap] w (StrP (brP (xs.map (·.data.toList))) 44 w) := by
  by_cases hx : xs = []
  · subst hx
    go_enter Tryz.func68, Tryz.ntmps68
    go_wp2_with fail
    go_ret
    exact ⟨⟨#[]⟩, rfl, by decide, rfl, Gw.refl _⟩
  obtain ⟨b, o, rfl, hr⟩ := hsl.2.2.resolve_left hx
  have hlen := brn_len h hs
  have hb : brP (xs.map (·.data.toList)) = [91] ++ joinP [44, 32] (xs.map (·.data.toList)) ++ [93] := by unfold brP; rw [if_neg (by simpa using hx)]
  have hjl : (joinP [44, 32] (xs.map (·.data.toList))).length ≤ 42 := by rw [hb] at hlen; simp at hlen; omega
  have hbw : b < w.heap.size := by
    cases xs with
    | nil => exact absurd rfl hx
    | cons s r => exact cell_lt (strSl_get hr 0 (by simp))
  have hpos : 0 < xs.length := by cases xs with | nil => exact absurd rfl hx | cons => simp
  have key := Tryz.strings_Join b o cap xs ⟨#[44, 32]⟩ w (fun j x hj => by
      obtain ⟨h1, rfl⟩ := List.getElem?_eq_some_iff.1 hj
      exact strSl_get hr j h1) hbw (by omega) hsl.1 (by rw [joinP_join]; exact Nat.le_trans hjl (by decide))
  rw [joinP_join] at key
  have HB := Lib.hid hb
  have HLN := Lib.hid hlen
  clear hr hsl hs hb hlen
  go_enter Tryz.func68, Tryz.ntmps68
  go_wp2_with fail
  refine key.mono ?_
  rintro e w1 ⟨rfl, g1⟩
  generalize hS : (⟨(joinP (⟨#[44, 32]⟩ : ByteArray).data.toList (xs.map (·.data.toList))).toArray⟩ : ByteArray) = S
  have hSz : S.size ≤ 42 := by rw [← hS]; exact hjl
  have HS := Lib.hid hS
  clear hS
  go_wp2_with fail
  go_ret
  refine ⟨(⟨#[91]⟩ : ByteArray) ++ S ++ ⟨#[93]⟩, ?_, ?_, rfl, g1⟩
  · rw [HB.out, ← HS.out, ← str_add, ← str_add]
  · rw [ByteArray.size_append, ByteArray.size_append]
    show 1 + S.size + 1 ≤ 44
    omega

theorem joinP_take_le (sep : List UInt8) (hs : sep.length = 2) (ls : List (List UInt8)) (k : Nat) (hk : k < ls.length) :
    (0 < k → (joinP sep (ls.take k)).length + 2 + (ls.getD k []).length ≤ (joinP sep ls).length) ∧ (joinP sep (ls.take k)).length + (ls.getD k []).length ≤ (joinP sep ls).length := by
  have e : ls = ls.take (k + 1) ++ ls.drop (k + 1) := (List.take_append_drop _ _).symm
  have h1 : (joinP sep (ls.take (k + 1))).length ≤ (joinP sep ls).length := by
    conv => rhs; rw [e]
    cases h : ls.take (k + 1) with
    | nil => simp [joinP]
    | cons x r => simp only [List.cons_append, joinP, List.length_append, List.flatMap_append]; omega
  have h2 : joinP sep (ls.take (k + 1)) = if ls.take k = [] then ls.getD k [] else joinP sep (ls.take k) ++ (sep ++ ls.getD k []) := by
    rw [List.take_succ_eq_append_getElem hk, joinP_snoc, List.getD, List.getElem?_eq_getElem hk]
    rfl
  rw [h2] at h1
  refine ⟨fun h0 => ?_, ?_⟩
  · rw [if_neg (fun e => by have := congrArg List.length e; rw [List.length_take, List.length_nil] at this; omega)] at h1
    simp only [List.length_append] at h1
    omega
  · split at h1
    · rename_i h
      rw [h]
      show 0 + _ ≤ _
      omega
    · simp only [List.length_append] at h1
      omega

set_option maxRecDepth 100000 in
set_option maxHeartbeats 2000000 in
theorem impl_list (c : Bool) (ks : List LM) (h0 : ks ≠ []) (hn : ks.length ≤ 5) (hp : ∀ u ∈ ks, TermK u ∧ u.tm.ok c = true ∧ u.tm.nn ≤ 160) (b' o' cap : Nat) (pre sep post : ByteArray) (hsep : sep.size = 2) (hpre : pre.size ≤ 10) (hpost : post.size ≤ 10) (w0 : World) (hr : gRow 8 tmE LM.Ok w0 ks b' o') (ht : TabP w0)
    (b : Nat) (L : List UInt8) (w : World) (hst : St w0 b L w) (hl : L.length + pre.size + (joinP sep.data.toList (ks.map fun u => u.tm.txt)).length ≤ 700000) :
    Calls Tryz.prog 67 #[.pointer (some ⟨b, 0, none⟩), .string pre, .slice (some ⟨b', o', none⟩) ks.length cap, .string sep, .string post] w (StP w0 b (L ++ pre.data.toList ++ joinP sep.data.toList (ks.map fun u => u.tm.txt) ++ post.data.toList) w) := by
  generalize hls : (ks.map fun u => u.tm.txt) = ls at *
  have hll : ls.length = ks.length := by rw [← hls]; simp
  have hpl := data_len pre
  have HSN := Lib.hid fun k (hk : k < ks.length) => show joinP sep.data.toList (ls.take (k + 1)) = if k = 0 then ls.getD k [] else joinP sep.data.toList (ls.take k) ++ (sep.data.toList ++ ls.getD k []) from by
    rw [List.take_succ_eq_append_getElem (by omega), joinP_snoc, List.getD, List.getElem?_eq_getElem (by omega)]
    by_cases hk0 : k = 0
    · rw [if_pos (by rw [hk0]; rfl), if_pos hk0]; rfl
    · rw [if_neg (fun e => by have := congrArg List.length e; rw [List.length_take, List.length_nil] at this; omega), if_neg hk0]; rfl
  have HLE := Lib.hid fun k (hk : k < ks.length) => joinP_take_le sep.data.toList (by rw [data_len]; exact hsep) ls k (by omega)
  have HAT := Lib.hid fun k (hk : k < ks.length) (W : World) (g : Gw w0 W) => (row_at hr k hk).grow g
  have HP := Lib.hid fun k (hk : k < ks.length) => show TermK ks[k] ∧ ks[k].tm.ok c = true ∧ ks[k].tm.nn ≤ 160 ∧ ks[k].Ok w0 ∧ ks[k].tm.txt = ls.getD k [] from by
    obtain ⟨a1, a2, a3⟩ := hp _ (List.getElem_mem hk)
    refine ⟨a1, a2, a3, (hr k hk).2, ?_⟩
    rw [← hls, List.getD, List.getElem?_eq_getElem (by simpa using hk), List.getElem_map]; rfl
  have HLL := Lib.hid hll
  have TB := Lib.hid ht
  have HST := Lib.hid hst
  have HDS := Lib.hid (data_len sep)
  have hpos : 0 < ks.length := by cases ks with | nil => exact absurd rfl h0 | cons => simp
  have hsz2 : sep.size ≤ 2 := by omega
  have HSEP := Lib.hid hsep
  clear hr hp h0 hll hls ht hst hsep
  go_enter Tryz.func67, Tryz.ntmps67
  go_wp2_with fail
  refine (write1 pre w0 b L _ HST.out (by omega)).mono ?_
  rintro e W1 ⟨rfl, st1, k1⟩
  have ST1 := Lib.hid st1
  have K1 := Lib.hid k1
  clear st1 k1 HST
  go_wp2_with fail
  go_loopw [18] (fun i wr => ∃ k : Nat, k ≤ ks.length ∧ i = .int .i64 k ∧ St w0 b (L ++ pre.data.toList ++ joinP sep.data.toList (ls.take k)) wr ∧ KeptP w wr) (fun i _ => ks.length - (intOf i).toNat)
  case atStart => exact ⟨0, by omega, rfl, by have := ST1.out; simpa [joinP] using this, K1.out⟩
  case round =>
    obtain ⟨k, hk, rfl, hst, hkp⟩ := hrel
    by_cases hlt : k < ks.length
    · obtain ⟨d0, d1, d2, d3, d4, d5, d6, d7⟩ := (HAT.out k hlt _ hst.2).c
      have hpk := HP.out k hlt
      have hle := HLE.out k hlt
      have hsn := HSN.out k hlt
      generalize ks[k] = v at *
      have ST := Lib.hid hst
      have K := Lib.hid hkp
      have HSNk := Lib.hid hsn
      have HPK := Lib.hid hpk
      have st := hst.alloc v.box
      have kk := hkp.trans (KeptP.of_gw ((Gw.refl _).alloc v.box))
      have BV := BoxT.new wr v
      have hlk : (0 < k → (L ++ pre.data.toList ++ joinP sep.data.toList (ls.take k)).length + 2 + (ls.getD k []).length ≤ 700000) ∧ (L ++ pre.data.toList ++ joinP sep.data.toList (ls.take k)).length + (ls.getD k []).length ≤ 700000 := by
        simp only [List.length_append]
        exact ⟨fun h => by have := hle.1 h; omega, by have := hle.2; omega⟩
      have HLK := Lib.hid hlk
      clear hst hkp hsn hpk hlk ST K hle
      go_upto_region 4 with (fail)
      generalize wr.alloc (.cells #[.int .i64 v.k, .int .i64 v.m, .string v.n, .int .i64 v.t.k, .string v.t.n, .slice v.t.a v.t.ks.length v.t.cap, .slice v.na v.ns.length v.nc, .slice v.a v.ks.length v.cap] 36) = V at *
      clear d0 d1 d2 d3 d4 d5 d6 d7
      by_cases hk0 : 0 < k
      · have ST := Lib.hid st
        have K := Lib.hid kk
        have BX := Lib.hid BV
        clear st kk BV
        go_wp2_with fail
        refine (write1 sep w0 b _ _ ST.out (by have := HLK.out.2; omega)).mono ?_
        rintro e W2 ⟨rfl, st, k2⟩
        have BV := BX.out.kept k2
        obtain ⟨q0, q1, q2, q3, q4, q5, q6, q7⟩ := BV.box.c
        have K2 := Lib.hid (K.out.trans k2)
        have ST2 := Lib.hid st
        clear k2 st BV K ST BX
        go_wp2_with fail
        refine (HPK.out.1.zero c w0 b _ _ HPK.out.2.1 HPK.out.2.2.1 ST2.out HPK.out.2.2.2.1 TB.out (by rw [HPK.out.2.2.2.2]; have := HLK.out.1 hk0; simp only [List.length_append] at this ⊢; have := HDS.out; omega)).mono ?_
        rintro e W3 ⟨rfl, st, k3⟩
        have ST3 := Lib.hid st
        have K3 := Lib.hid (K2.out.trans k3)
        clear st k3 q0 q1 q2 q3 q4 q5 q6 q7
        go_wp2_with fail
        go_roundw
        case rel => exact ⟨k + 1, by omega, by go_num, by
          have := ST3.out
          rw [HPK.out.2.2.2.2] at this
          rw [HSNk.out, if_neg (by omega)]
          simpa [List.append_assoc] using this, K3.out⟩
        case measure => simp [intOf]; omega
      · obtain ⟨q0, q1, q2, q3, q4, q5, q6, q7⟩ := BV.box.c
        have ST := Lib.hid st
        have K := Lib.hid kk
        have hk1 : k = 0 := by omega
        have HK1 := Lib.hid hk1
        clear st kk BV hk1
        go_wp2_with fail
        refine (HPK.out.1.zero c w0 b _ _ HPK.out.2.1 HPK.out.2.2.1 ST.out HPK.out.2.2.2.1 TB.out (by rw [HPK.out.2.2.2.2]; exact HLK.out.2)).mono ?_
        rintro e W3 ⟨rfl, st, k3⟩
        have ST3 := Lib.hid st
        have K3 := Lib.hid (K.out.trans k3)
        clear st k3 q0 q1 q2 q3 q4 q5 q6 q7
        go_wp2_with fail
        go_roundw
        case rel => exact ⟨k + 1, by omega, by go_num, by
          have := ST3.out
          rw [HPK.out.2.2.2.2] at this
          rw [HSNk.out, if_pos HK1.out]
          have e0 : ls.take k = [] := by rw [HK1.out]; rfl
          rw [e0] at this
          simpa [joinP, List.append_assoc] using this, K3.out⟩
        case measure => simp [intOf]; omega
    · obtain rfl : k = ks.length := by omega
      have ST := Lib.hid hst
      have K := Lib.hid hkp
      clear hst hkp
      go_wp2_with fail
      refine (write1 post w0 b _ _ ST.out (by simp only [List.length_append]; rw [List.take_of_length_le (by rw [HLL.out]; omega)]; omega)).mono ?_
      rintro e W2 ⟨rfl, st2, k2⟩
      have ST2 := Lib.hid st2
      clear st2
      go_wp2_with fail
      go_end0
      refine ⟨rfl, ?_, K.out.trans k2⟩
      have := ST2.out
      rw [List.take_of_length_le (by rw [HLL.out]; omega)] at this
      exact this

end Go.Proofs.YtbjedfbpikfflaaGreatDoor.Con
