/-
  Contracts of impl.writeType, impl.writeTypePart and impl.TypeText. No condition but that the type lies in memory.
-/
import Derived.Test.YtbjedfbpikfflaaGreatDoorTyTxt
import Derived.Test.YtbjedfbpikfflaaGreatDoorBldS
namespace Go.Proofs.YtbjedfbpikfflaaGreatDoor.Con
open Go.RowKit
set_option linter.unusedVariables false

def WrPost (B b : Nat) (bs : List Value) (l : List UInt8) (w : World) (e : Ending) (w' : World) : Prop :=
  e = .returned (.tuple #[]) ∧ Lib.IsBuilder 52 5 B b (bs ++ Lib.byteCells l) w' ∧ Below B w w' ∧ Kept w w'

theorem bcells_append (a b : List UInt8) : Lib.byteCells (a ++ b) = Lib.byteCells a ++ Lib.byteCells b := by simp [Lib.byteCells]
theorem bcells_len (a : List UInt8) : (Lib.byteCells a).length = a.length := by simp [Lib.byteCells]

theorem isBuilder_grow {B b : Nat} {bs : List Value} {w w' : World} (h : Lib.IsBuilder 52 5 B b bs w) (g : Gw w w') : Lib.IsBuilder 52 5 B b bs w' := by
  have key : ∀ p, Lib.BuilderAt 52 5 B b p bs w → Lib.BuilderAt 52 5 B b p bs w' := by
    rintro p ⟨h1, v, h2, h3, h4⟩
    refine ⟨h1, v, (g.block b (Array.getElem?_eq_some_iff.1 h2).1).trans h2, ?_, h4⟩
    exact own_chg h3 (Chg.of_gw g (fun _ => False)) (fun _ _ h => h)
  exact h.imp (key _) (key _)

/-- A block of the call's own is kept. -/
theorem Kept.blk {w w' : World} (h : Kept w w') {x : Nat} {cs : Array Value} {e : TypeId} {fr : Nat × Nat} (hx : w.heap[x]? = some (.cells cs e fr)) (he : e ≠ 52 ∧ e ≠ 5) : w'.heap[x]? = some (.cells cs e fr) :=
  (h.2 x (Array.getElem?_eq_some_iff.1 hx).1 (fun cs' e' fr' h' => by rw [hx] at h'; injection h' with h'; injection h' with _ h2 _; rw [← h2]; exact he)).trans hx

theorem ta_int_int (W : World) : (Instr.typeAssert (.iface 118 (.agg #[])) 115 118 true).run Tryz.prog W = .ok (.tuple #[.agg #[], .bool true]) W := by kernel_rfl
theorem ta_dat_int (n : ByteArray) (W : World) : (Instr.typeAssert (.iface 120 (.agg #[.string n])) 115 118 true).run Tryz.prog W = .ok (.tuple #[.agg #[], .bool false]) W := by kernel_rfl
theorem ta_dat_dat (n : ByteArray) (W : World) : (Instr.typeAssert (.iface 120 (.agg #[.string n])) 115 120 true).run Tryz.prog W = .ok (.tuple #[.agg #[.string n], .bool true]) W := by kernel_rfl
theorem ta_fun_int (cs : Array Value) (W : World) : (Instr.typeAssert (.iface 122 (.agg cs)) 115 118 true).run Tryz.prog W = .ok (.tuple #[.agg #[], .bool false]) W := by kernel_rfl
theorem ta_fun_dat (cs : Array Value) (W : World) : (Instr.typeAssert (.iface 122 (.agg cs)) 115 120 true).run Tryz.prog W = .ok (.tuple #[.agg #[.string ⟨#[]⟩], .bool false]) W := by kernel_rfl
theorem ta_fun_fun (cs : Array Value) (W : World) : (Instr.typeAssert (.iface 122 (.agg cs)) 115 122 true).run Tryz.prog W = .ok (.tuple #[.agg cs, .bool true]) W := by kernel_rfl
theorem ta_bang_int (cs : Array Value) (W : World) : (Instr.typeAssert (.iface 124 (.agg cs)) 115 118 true).run Tryz.prog W = .ok (.tuple #[.agg #[], .bool false]) W := by kernel_rfl
theorem ta_bang_dat (cs : Array Value) (W : World) : (Instr.typeAssert (.iface 124 (.agg cs)) 115 120 true).run Tryz.prog W = .ok (.tuple #[.agg #[.string ⟨#[]⟩], .bool false]) W := by kernel_rfl
theorem ta_bang_fun (cs : Array Value) (W : World) : (Instr.typeAssert (.iface 124 (.agg cs)) 115 122 true).run Tryz.prog W = .ok (.tuple #[.agg #[.int .i64 0, .string ⟨#[]⟩, .slice none 0 0, .int .i64 0, .string ⟨#[]⟩, .slice none 0 0], .bool false]) W := by kernel_rfl
theorem ta_bang_bang (cs : Array Value) (W : World) : (Instr.typeAssert (.iface 124 (.agg cs)) 115 124 true).run Tryz.prog W = .ok (.tuple #[.agg cs, .bool true]) W := by kernel_rfl

set_option maxRecDepth 100000 in
theorem writeType_int (B b : Nat) (bs : List Value) (t : LT) (w0 w : World) (hB : B = w0.heap.size) (hg0 : Gw w0 w) (h : t.Ok w0) (hb : Lib.IsBuilder 52 5 B b bs w) (hl : bs.length ≤ 900000)
    (hk : t.k = 1) (he : t.n.toList.isEmpty = true) (hks : t.ks.length = 0) : Calls Tryz.prog 83 #[.pointer (some ⟨b, 0, none⟩), t.val] w (WrPost B b bs ([73, 110, 116]) w) := by
  have g1 : Gw w (w.alloc (.cells #[.int .i64 t.k, .string t.n, .slice t.a t.ks.length t.cap] 33)) := (Gw.refl w).alloc _
  have key := impl_node t _ (h.grow (hg0.trans g1)) (by rw [hk, hks]; unfold headB; simp [he])
  have hv : nodeV t = .iface 118 (.agg #[]) := by unfold nodeV; rw [if_pos hk]
  rw [hv] at key
  have hBw : B ≤ w.heap.size := hB ▸ hg0.size
  clear hk hks hv hB
  have ta := ta_int_int
  go_enter Tryz.func83, Tryz.ntmps83
  go_wp2_with fail
  refine key.mono ?_
  rintro e w1 ⟨rfl, hg⟩
  have g2 := g1.trans hg
  go_wp2_with fail
  have g3 := g2.alloc (.cells #[] 118)
  refine (writeString B b bs ⟨#[73, 110, 116]⟩ _ (isBuilder_grow hb g3) (by show bs.length + 3 ≤ _; omega) (Nat.le_trans hBw g3.size)).mono ?_
  rintro e w2 ⟨rfl, hb2, hg4, hk4⟩
  go_wp2_with fail
  go_end0
  exact ⟨rfl, hb2, Below.trans (Below.mono g3 hBw) hg4, (Kept.of_gw g3).trans hk4⟩

set_option maxRecDepth 100000 in
theorem writeType_dat (B b : Nat) (bs : List Value) (t : LT) (w0 w : World) (hB : B = w0.heap.size) (hg0 : Gw w0 w) (h : t.Ok w0) (hb : Lib.IsBuilder 52 5 B b bs w) (hl : bs.length ≤ 900000)
    (hk : t.k = 2) (he : dataB t.n = true) (hks : t.ks.length = 0) : Calls Tryz.prog 83 #[.pointer (some ⟨b, 0, none⟩), t.val] w (WrPost B b bs (t.n.data.toList) w) := by
  have g1 : Gw w (w.alloc (.cells #[.int .i64 t.k, .string t.n, .slice t.a t.ks.length t.cap] 33)) := (Gw.refl w).alloc _
  have key := impl_node t _ (h.grow (hg0.trans g1)) (by rw [hk, hks]; unfold headB; simp [he])
  have hv : nodeV t = .iface 120 (.agg #[.string t.n]) := by unfold nodeV; rw [if_neg (by omega), if_pos hk]
  rw [hv] at key
  have hs := dataB_size he
  have hBw : B ≤ w.heap.size := hB ▸ hg0.size
  clear hk hks hv hB
  have ta1 := ta_dat_int t.n
  have ta2 := ta_dat_dat t.n
  go_enter Tryz.func83, Tryz.ntmps83
  go_wp2_with fail
  refine key.mono ?_
  rintro e w1 ⟨rfl, hg⟩
  have g2 := g1.trans hg
  go_wp2_with fail
  have g3 := g2.alloc (.cells #[.string t.n] 120)
  refine (writeString B b bs t.n _ (isBuilder_grow hb g3) (by omega) (Nat.le_trans hBw g3.size)).mono ?_
  rintro e w2 ⟨rfl, hb2, hg4, hk4⟩
  go_wp2_with fail
  go_end0
  exact ⟨rfl, hb2, Below.trans (Below.mono g3 hBw) hg4, (Kept.of_gw g3).trans hk4⟩

/-- A type's writer, for every place that it may be called at. -/
def Wr (t : LT) : Prop := ∀ (B b : Nat) (bs : List Value) (w0 w : World), B = w0.heap.size → Gw w0 w → t.Ok w0 → Lib.IsBuilder 52 5 B b bs w → bs.length + t.ty.txt.length ≤ 800000 →
    Calls Tryz.prog 83 #[.pointer (some ⟨b, 0, none⟩), t.val] w (WrPost B b bs t.ty.txt w)

set_option maxRecDepth 100000 in
theorem writePart_of (t : LT) (key : Wr t) (B b : Nat) (bs : List Value) (w0 w : World) (hB : B = w0.heap.size) (hg0 : Gw w0 w) (h : t.Ok w0) (hb : Lib.IsBuilder 52 5 B b bs w) (hl : bs.length + (clo t.k t.ty.txt).length ≤ 800000) :
    Calls Tryz.prog 95 #[.pointer (some ⟨b, 0, none⟩), t.val] w (WrPost B b bs (clo t.k t.ty.txt) w) := by
  have g1 : Gw w (w.alloc (.cells #[.int .i64 t.k, .string t.n, .slice t.a t.ks.length t.cap] 33)) := (Gw.refl w).alloc _
  have hBw : B ≤ w.heap.size := hB ▸ hg0.size
  have HKEY := Lib.hid key
  by_cases hk : t.k = 3
  · have hkb : (t.k == 3) = true := by simpa using hk
    have hc := (show clo t.k t.ty.txt = [40] ++ t.ty.txt ++ [41] from by unfold clo; rw [if_pos hk]; rfl)
    have hl' : bs.length + t.ty.txt.length + 2 ≤ 800000 := by rw [hc] at hl; simp at hl; omega
    have HC := Lib.hid hc
    clear hc hl
    have hbk := heap_alloc_new w (.cells #[.int .i64 t.k, .string t.n, .slice t.a t.ks.length t.cap] 33)
    have HBK := Lib.hid hbk
    clear hk key hbk
    go_enter Tryz.func95, Tryz.ntmps95
    go_wp2_with fail
    refine (writeString B b bs ⟨#[40]⟩ _ (isBuilder_grow hb g1) (by show bs.length + 1 ≤ _; omega) (Nat.le_trans hBw g1.size)).mono ?_
    rintro e w2 ⟨rfl, hb2, hg2, hk2⟩
    have hbk2 := hk2.blk HBK.out (by decide)
    have c0 : w2.cell? ⟨w.heap.size, 0, none⟩ = some (.int .i64 t.k) := cell_of_row _ _ 0 _ _ _ hbk2
    have c1 : w2.cell? ⟨w.heap.size, 1, none⟩ = some (.string t.n) := cell_of_row _ _ 1 _ _ _ hbk2
    have c2 : w2.cell? ⟨w.heap.size, 2, none⟩ = some (.slice t.a t.ks.length t.cap) := cell_of_row _ _ 2 _ _ _ hbk2
    have hlt : w.heap.size < w2.heap.size := (Array.getElem?_eq_some_iff.1 hbk2).1
    clear hbk2
    have hgB : Below B w w2 := Below.trans (Below.mono g1 hBw) hg2
    have hkB : Kept w w2 := (Kept.of_gw g1).trans hk2
    have hgw : Gw w0 w2 := by have h2 : Below w0.heap.size w w2 := hB ▸ hgB; exact Below.trans hg0 h2
    go_wp2_with fail
    refine (HKEY.out B b _ w0 _ hB hgw h hb2 (by rw [List.length_append, bcells_len]; show bs.length + 1 + _ ≤ _; omega)).mono ?_
    rintro e w3 ⟨rfl, hb3, hg3, hk3⟩
    have hB3 : B ≤ w3.heap.size := Nat.le_trans (Nat.le_trans hBw hgB.size) hg3.size
    go_wp2_with fail
    refine (writeString B b _ ⟨#[41]⟩ _ hb3 (by rw [List.length_append, List.length_append, bcells_len, bcells_len]; show bs.length + 1 + t.ty.txt.length + 1 ≤ _; omega) hB3).mono ?_
    rintro e w4 ⟨rfl, hb4, hg4, hk4⟩
    go_wp2_with fail
    go_end0
    refine ⟨rfl, ?_, Below.trans (Below.trans hgB hg3) hg4, (hkB.trans hk3).trans hk4⟩
    rw [HC.out, bcells_append, bcells_append, ← List.append_assoc, ← List.append_assoc]
    exact hb4
  · have hkb : (t.k == 3) = false := by simpa using hk
    have hc := (show clo t.k t.ty.txt = t.ty.txt from by unfold clo; rw [if_neg hk])
    have hl' : bs.length + t.ty.txt.length ≤ 800000 := by rw [hc] at hl; omega
    have HC := Lib.hid hc
    clear hc hl
    clear hk key
    go_enter Tryz.func95, Tryz.ntmps95
    go_wp2_with fail
    refine (HKEY.out B b bs w0 _ hB (hg0.trans g1) h (isBuilder_grow hb g1) (by omega)).mono ?_
    rintro e w3 ⟨rfl, hb3, hg3, hk3⟩
    go_wp2_with fail
    refine bodyPost_ret (results_none rfl _ _ _) rfl ⟨rfl, by rw [HC.out]; exact hb3, Below.trans (Below.mono g1 hBw) hg3, (Kept.of_gw g1).trans hk3⟩

set_option maxRecDepth 100000 in
theorem writeType_bang (B b : Nat) (bs : List Value) (t : LT) (w0 w : World) (hB : B = w0.heap.size) (hg0 : Gw w0 w) (h : t.Ok w0) (hb : Lib.IsBuilder 52 5 B b bs w) (hl : bs.length ≤ 900000)
    (hk : t.k = 4) (he : t.n.toList.isEmpty = true) (x : LT) (hks : t.ks = [x]) (hx : x.Ok w0) (key0 : Wr x) (hl2 : bs.length + 1 + (clo x.k x.ty.txt).length ≤ 800000) : Calls Tryz.prog 83 #[.pointer (some ⟨b, 0, none⟩), t.val] w (WrPost B b bs (33 :: clo x.k x.ty.txt) w) := by
  have g1 : Gw w (w.alloc (.cells #[.int .i64 t.k, .string t.n, .slice t.a t.ks.length t.cap] 33)) := (Gw.refl w).alloc _
  have key := impl_node t _ (h.grow (hg0.trans g1)) (by rw [hk, hks]; unfold headB; simp [he])
  have hv : nodeV t = .iface 124 (.agg #[.int .i64 x.k, .string x.n, .slice x.a x.ks.length x.cap]) := by unfold nodeV; rw [if_neg (by omega), if_neg (by omega), if_neg (by omega), hks]; rfl
  rw [hv] at key
  have hBw : B ≤ w.heap.size := hB ▸ hg0.size
  have HKEY := Lib.hid key0
  have HB := Lib.hid hB
  clear hk hks hv hB key0
  have ta1 := ta_bang_int #[.int .i64 x.k, .string x.n, .slice x.a x.ks.length x.cap]
  have ta2 := ta_bang_dat #[.int .i64 x.k, .string x.n, .slice x.a x.ks.length x.cap]
  have ta3 := ta_bang_fun #[.int .i64 x.k, .string x.n, .slice x.a x.ks.length x.cap]
  have ta4 := ta_bang_bang #[.int .i64 x.k, .string x.n, .slice x.a x.ks.length x.cap]
  go_enter Tryz.func83, Tryz.ntmps83
  go_wp2_with fail
  refine key.mono ?_
  rintro e w1 ⟨rfl, hg⟩
  have g2 := g1.trans hg
  go_wp2_with fail
  have hbk := heap_alloc_new w1 (.cells #[.int .i64 x.k, .string x.n, .slice x.a x.ks.length x.cap] 124)
  have g3 := g2.alloc (.cells #[.int .i64 x.k, .string x.n, .slice x.a x.ks.length x.cap] 124)
  refine (writeString B b bs ⟨#[33]⟩ _ (isBuilder_grow hb g3) (by show bs.length + 1 ≤ _; omega) (Nat.le_trans hBw g3.size)).mono ?_
  rintro e w2 ⟨rfl, hb2, hg4, hk4⟩
  have hbk2 := hk4.blk hbk (by decide)
  have c0 : w2.cell? ⟨w1.heap.size, 0, none⟩ = some (.int .i64 x.k) := cell_of_row _ _ 0 _ _ _ hbk2
  have c1 : w2.cell? ⟨w1.heap.size, 1, none⟩ = some (.string x.n) := cell_of_row _ _ 1 _ _ _ hbk2
  have c2 : w2.cell? ⟨w1.heap.size, 2, none⟩ = some (.slice x.a x.ks.length x.cap) := cell_of_row _ _ 2 _ _ _ hbk2
  have hlt : w1.heap.size < w2.heap.size := (Array.getElem?_eq_some_iff.1 hbk2).1
  clear hbk hbk2 ta1 ta2 ta3 ta4
  have hgB : Below B w w2 := Below.trans (Below.mono g3 hBw) hg4
  have hgw : Gw w0 w2 := by have h2 : Below w0.heap.size w w2 := HB.out ▸ hgB; exact Below.trans hg0 h2
  have hkB : Kept w w2 := (Kept.of_gw g3).trans hk4
  go_wp2_with fail
  refine (writePart_of x HKEY.out B b _ w0 _ HB.out hgw hx hb2 (by rw [List.length_append, bcells_len]; show bs.length + 1 + _ ≤ _; omega)).mono ?_
  rintro e w3 ⟨rfl, hb3, hg5, hk5⟩
  go_wp2_with fail
  go_end0
  refine ⟨rfl, ?_, Below.trans hgB hg5, hkB.trans hk5⟩
  rw [show (33 :: clo x.k x.ty.txt : List UInt8) = [33] ++ clo x.k x.ty.txt from rfl, bcells_append, ← List.append_assoc]
  exact hb3

set_option maxRecDepth 100000 in
theorem writeType_fun (B b : Nat) (bs : List Value) (t : LT) (w0 w : World) (hB : B = w0.heap.size) (hg0 : Gw w0 w) (h : t.Ok w0) (hb : Lib.IsBuilder 52 5 B b bs w) (hl : bs.length ≤ 900000)
    (hk : t.k = 3) (he : t.n.toList.isEmpty = true) (x y : LT) (hks : t.ks = [x, y]) (hx : x.Ok w0) (hy : y.Ok w0) (key0 : Wr x) (key1 : Wr y) (hl2 : bs.length + (clo x.k x.ty.txt).length + 4 + y.ty.txt.length ≤ 800000) : Calls Tryz.prog 83 #[.pointer (some ⟨b, 0, none⟩), t.val] w (WrPost B b bs (clo x.k x.ty.txt ++ [32, 45, 62, 32] ++ y.ty.txt) w) := by
  have g1 : Gw w (w.alloc (.cells #[.int .i64 t.k, .string t.n, .slice t.a t.ks.length t.cap] 33)) := (Gw.refl w).alloc _
  have key := impl_node t _ (h.grow (hg0.trans g1)) (by rw [hk, hks]; unfold headB; simp [he])
  have hv : nodeV t = .iface 122 (.agg #[.int .i64 x.k, .string x.n, .slice x.a x.ks.length x.cap, .int .i64 y.k, .string y.n, .slice y.a y.ks.length y.cap]) := by unfold nodeV; rw [if_neg (by omega), if_neg (by omega), if_pos hk, hks]; rfl
  rw [hv] at key
  have hBw : B ≤ w.heap.size := hB ▸ hg0.size
  have HKEY := Lib.hid key0
  have HKEY1 := Lib.hid key1
  have HB := Lib.hid hB
  have hcl := clo_len x.k x.ty.txt
  clear hk hks hv hB key0 key1
  have ta1 := ta_fun_int #[.int .i64 x.k, .string x.n, .slice x.a x.ks.length x.cap, .int .i64 y.k, .string y.n, .slice y.a y.ks.length y.cap]
  have ta2 := ta_fun_dat #[.int .i64 x.k, .string x.n, .slice x.a x.ks.length x.cap, .int .i64 y.k, .string y.n, .slice y.a y.ks.length y.cap]
  have ta3 := ta_fun_fun #[.int .i64 x.k, .string x.n, .slice x.a x.ks.length x.cap, .int .i64 y.k, .string y.n, .slice y.a y.ks.length y.cap]
  go_enter Tryz.func83, Tryz.ntmps83
  go_wp2_with fail
  refine key.mono ?_
  rintro e w1 ⟨rfl, hg⟩
  have g2 := g1.trans hg
  go_wp2_with fail
  have hbk := heap_alloc_new w1 (.cells #[.int .i64 x.k, .string x.n, .slice x.a x.ks.length x.cap, .int .i64 y.k, .string y.n, .slice y.a y.ks.length y.cap] 122)
  have g3 := g2.alloc (.cells #[.int .i64 x.k, .string x.n, .slice x.a x.ks.length x.cap, .int .i64 y.k, .string y.n, .slice y.a y.ks.length y.cap] 122)
  have hB3 : B ≤ (w1.alloc (.cells #[.int .i64 x.k, .string x.n, .slice x.a x.ks.length x.cap, .int .i64 y.k, .string y.n, .slice y.a y.ks.length y.cap] 122)).heap.size := Nat.le_trans hBw g3.size
  have hgw3 : Gw w0 (w1.alloc (.cells #[.int .i64 x.k, .string x.n, .slice x.a x.ks.length x.cap, .int .i64 y.k, .string y.n, .slice y.a y.ks.length y.cap] 122)) := hg0.trans g3
  refine (writePart_of x HKEY.out B b _ w0 _ HB.out hgw3 hx (isBuilder_grow hb g3) (by omega)).mono ?_
  rintro e w2 ⟨rfl, hb2, hg4, hk4⟩
  have hbk2 := hk4.blk hbk (by decide)
  have hlt2 : w1.heap.size < w2.heap.size := (Array.getElem?_eq_some_iff.1 hbk2).1
  have HBK2 := Lib.hid hbk2
  clear hbk hbk2 ta1 ta2 ta3
  have hB2 : B ≤ w2.heap.size := Nat.le_trans hB3 hg4.size
  go_wp2_with fail
  refine (writeString B b _ ⟨#[32, 45, 62, 32]⟩ _ hb2 (by rw [List.length_append, bcells_len]; show bs.length + _ + 4 ≤ _; omega) hB2).mono ?_
  rintro e w3 ⟨rfl, hb3, hg5, hk5⟩
  have hbk3 := hk5.blk HBK2.out (by decide)
  have c3 : w3.cell? ⟨w1.heap.size, 3, none⟩ = some (.int .i64 y.k) := cell_of_row _ _ 3 _ _ _ hbk3
  have c4 : w3.cell? ⟨w1.heap.size, 4, none⟩ = some (.string y.n) := cell_of_row _ _ 4 _ _ _ hbk3
  have c5 : w3.cell? ⟨w1.heap.size, 5, none⟩ = some (.slice y.a y.ks.length y.cap) := cell_of_row _ _ 5 _ _ _ hbk3
  have hlt : w1.heap.size < w3.heap.size := (Array.getElem?_eq_some_iff.1 hbk3).1
  clear hbk3
  have hgB : Below B w w3 := Below.trans (Below.trans (Below.mono g3 hBw) hg4) hg5
  have hgw : Gw w0 w3 := by have h2 : Below w0.heap.size w w3 := HB.out ▸ hgB; exact Below.trans hg0 h2
  have hkB : Kept w w3 := ((Kept.of_gw g3).trans hk4).trans hk5
  go_wp2_with fail
  refine (HKEY1.out B b _ w0 _ HB.out hgw hy hb3 (by rw [List.length_append, List.length_append, bcells_len, bcells_len]; show bs.length + _ + 4 + _ ≤ _; omega)).mono ?_
  rintro e w4 ⟨rfl, hb4, hg6, hk6⟩
  go_wp2_with fail
  go_end0
  refine ⟨rfl, ?_, Below.trans hgB hg6, hkB.trans hk6⟩
  rw [bcells_append, bcells_append, ← List.append_assoc, ← List.append_assoc]
  exact hb4

theorem wr_all (t : LT) : ∀ (m : Nat), Wf t.ty m → Wr t := by
  refine LT.ind (P := fun t => ∀ (m : Nat), Wf t.ty m → Wr t) (fun k n a c ks ih m hw B b bs w0 w hB hg0 h hb hl => ?_) t
  have ety : (LT.mk k n a c ks).ty = .mk k n (ks.map LT.ty) := LT.ty_eq _
  rw [ety] at hw hl ⊢
  have hsl : slOk w0 a c ks := h.kids
  rcases hw.cases with ⟨rfl, he, hk⟩ | ⟨rfl, he, hk⟩ | ⟨rfl, he, x, y, p, q, hk, h1, h2, rfl⟩ | ⟨rfl, he, x, p, hk, h1, rfl⟩
  · rw [txt_eq]
    exact writeType_int B b bs (.mk 1 n a c ks) w0 w hB hg0 h hb (by omega) rfl he (by simp at hk; subst hk; rfl)
  · rw [txt_eq]
    exact writeType_dat B b bs (.mk 2 n a c ks) w0 w hB hg0 h hb (by omega) rfl he (by simp at hk; subst hk; rfl)
  · match ks, hk with
    | [x', y'], hk =>
      simp at hk
      obtain ⟨rfl, rfl⟩ := hk
      obtain ⟨b', o, rfl, hr⟩ := hsl.2.2.resolve_left (by simp)
      obtain ⟨_, _, _, hx⟩ := rowOk_get hr 0 (by simp)
      obtain ⟨_, _, _, hy⟩ := rowOk_get hr 1 (by simp)
      rw [txt_eq] at hl ⊢
      have hf : formT 3 n (List.map Ty.kd [x'.ty, y'.ty]) (List.map Ty.txt [x'.ty, y'.ty]) = clo x'.k x'.ty.txt ++ [32, 45, 62, 32] ++ y'.ty.txt := by rw [← LT.ty_k]; rfl
      have hf' : formT 3 n (List.map Ty.kd (List.map LT.ty [x', y'])) (List.map Ty.txt (List.map LT.ty [x', y'])) = clo x'.k x'.ty.txt ++ [32, 45, 62, 32] ++ y'.ty.txt := hf
      rw [hf'] at hl ⊢
      simp at hl
      exact writeType_fun B b bs (.mk 3 n (some ⟨b', o, none⟩) c [x', y']) w0 w hB hg0 h hb (by omega) rfl he x' y' rfl hx hy (ih x' (by simp) p h1) (ih y' (by simp) q h2) (by omega)
  · match ks, hk with
    | [x'], hk =>
      simp at hk
      subst hk
      obtain ⟨b', o, rfl, hr⟩ := hsl.2.2.resolve_left (by simp)
      obtain ⟨_, _, _, hx⟩ := rowOk_get hr 0 (by simp)
      rw [txt_eq] at hl ⊢
      have hf' : formT 4 n (List.map Ty.kd (List.map LT.ty [x'])) (List.map Ty.txt (List.map LT.ty [x'])) = 33 :: clo x'.k x'.ty.txt := by rw [← LT.ty_k]; rfl
      rw [hf'] at hl ⊢
      simp at hl
      exact writeType_bang B b bs (.mk 4 n (some ⟨b', o, none⟩) c [x']) w0 w hB hg0 h hb (by omega) rfl he x' rfl hx (ih x' (by simp) p h1) (by omega)

theorem impl_typeText (t : LT) (w : World) (h : t.Ok w) : Calls Tryz.prog 66 #[t.val] w (StrGw (textOf t.ty) w) := by
  have g1 : Gw w (w.alloc (.cells #[.int .i64 t.k, .string t.n, .slice t.a t.ks.length t.cap] 33)) := (Gw.refl w).alloc _
  have key := impl_valid t _ (h.grow g1)
  cases hv : validB t.ty with
  | false =>
    rw [hv] at key
    have HT := Lib.hid (show textOf t.ty = [] from by unfold textOf; rw [hv]; rfl)
    clear hv
    go_enter Tryz.func66, Tryz.ntmps66
    go_wp2_with fail
    refine key.mono ?_
    rintro e w1 ⟨rfl, hg⟩
    go_wp2_with fail
    go_ret
    exact ⟨ret_str (by rw [HT.out]), g1.trans hg⟩
  | true =>
    rw [hv] at key
    obtain ⟨m, hw, hm⟩ := Wf.of_valid hv
    have HT := Lib.hid (show textOf t.ty = t.ty.txt from by unfold textOf; rw [hv]; rfl)
    have hlen := txt_le m _ hw
    clear hv
    go_enter Tryz.func66, Tryz.ntmps66
    go_wp2_with fail
    refine key.mono ?_
    rintro e w1 ⟨rfl, hg⟩
    obtain ⟨hc, hf⟩ := bcell hg
    have g2 := g1.trans hg
    have hl1 : w.heap.size < w1.heap.size := by have := hg.size; simp at this; omega
    go_wp2_with fail
    have g3 : Gw w1 (w1.alloc (.cells #[.pointer none, .slice none 0 0] 52)) := (Gw.refl w1).alloc _
    have hI := Lib.fresh_isBuilder 52 5 w1
    refine (wr_all t m hw w1.heap.size w1.heap.size [] w1 _ rfl g3 (h.grow g2) hI (by simp; omega)).mono ?_
    rintro e w2 ⟨rfl, hb2, hg4, hk4⟩
    have hs : w1.heap.size ≤ w2.heap.size := hg4.size |> fun h => by simp at h; omega
    rw [List.nil_append] at hb2
    go_wp2_with fail
    refine (Tryz.Builder_String_any w1.heap.size w1.heap.size t.ty.txt _ hb2 hs).mono ?_
    rintro e w3 ⟨rfl, h7⟩
    go_wp2_with fail
    go_ret
    exact ⟨ret_str (by rw [HT.out]), g2.trans (Below.trans (Below.trans g3 hg4) h7)⟩

end Go.Proofs.YtbjedfbpikfflaaGreatDoor.Con
