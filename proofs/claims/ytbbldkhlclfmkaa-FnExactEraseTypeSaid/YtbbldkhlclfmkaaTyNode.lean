/-
  Contracts of impl.isDataName and impl.typeNodeOf: the node at the top of a type, as a value behind an interface. No condition but that the type lies in memory.
-/
import Derived.Test.YtbbldkhlclfmkaaTySpec
import Derived.Test.YtbbldkhlclfmkaaTyTo
import Derived.Outline
import Derived.Lib.Hide
import Derived.Deep.QuietTactic
import Derived.BigQuiet
namespace Go.Proofs.Ytbbldkhlclfmkaa.Con
open Go.RowKit
set_option linter.unusedVariables false

theorem impl_dataName (n : ByteArray) (hn : n.size ≤ 9223372036854775807) (w : World) : Calls Try.prog 111 #[.string n] w fun e w' => e = .returned (.bool (dataB n)) ∧ Gw w w' := by
  cases hu : upperB n with
  | false =>
    have F := Lib.hid (show false = dataB n from by unfold dataB; rw [hu]; rfl)
    go_enter Try.func111, Try.ntmps111
    go_wp2_with fail
    refine (impl_upper _ hn _).mono ?_
    rw [hu]
    rintro e w1 ⟨rfl, hg⟩
    go_wp2_with fail
    go_ret
    exact ⟨ret_b F.out, hg⟩
  | true =>
    have F := Lib.hid (show (!(n.toList == [73, 110, 116])) = dataB n from by unfold dataB; rw [hu]; rfl)
    go_enter Try.func111, Try.ntmps111
    go_wp2_with fail
    refine (impl_upper _ hn _).mono ?_
    rw [hu]
    rintro e w1 ⟨rfl, hg⟩
    go_wp2_with fail
    go_ret
    exact ⟨ret_b F.out, hg⟩

def NodeGw (v : Value) (w : World) (e : Ending) (w' : World) : Prop := e = .returned v ∧ Gw w w'

theorem node_kind (k : Int) (n : ByteArray) (a : Option Addr) (l c : Nat) (h1 : (k == 1) = false) (h2 : (k == 2) = false) (h3 : (k == 3) = false) (h4 : (k == 4) = false) (w : World) : Calls Try.prog 85 #[.agg #[.int .i64 k, .string n, .slice a l c]] w (NodeGw (.nilIface) w) := by
  go_enter Try.func85, Try.ntmps85
  go_wp2_with fail
  go_ret
  exact ⟨rfl, (Gw.refl w).alloc _⟩

theorem node_int_name (n : ByteArray) (a : Option Addr) (l c : Nat) (hm : n.toList.isEmpty = false) (w : World) : Calls Try.prog 85 #[.agg #[.int .i64 1, .string n, .slice a l c]] w (NodeGw (.nilIface) w) := by
  go_enter Try.func85, Try.ntmps85
  go_wp2_with fail
  go_ret
  exact ⟨rfl, (Gw.refl w).alloc _⟩

theorem node_int_len (n : ByteArray) (a : Option Addr) (l c : Nat) (hl : l ≤ 9223372036854775807) (hm : n.toList.isEmpty = true) (h0 : ((l : Int) == 0) = false) (h00 : (l == 0) = false) (w : World) : Calls Try.prog 85 #[.agg #[.int .i64 1, .string n, .slice a l c]] w (NodeGw (.nilIface) w) := by
  go_enter Try.func85, Try.ntmps85
  go_wp2_with fail
  go_ret
  exact ⟨rfl, (Gw.refl w).alloc _⟩

theorem node_fun_name (n : ByteArray) (a : Option Addr) (l c : Nat) (hm : n.toList.isEmpty = false) (w : World) : Calls Try.prog 85 #[.agg #[.int .i64 3, .string n, .slice a l c]] w (NodeGw (.nilIface) w) := by
  go_enter Try.func85, Try.ntmps85
  go_wp2_with fail
  go_ret
  exact ⟨rfl, (Gw.refl w).alloc _⟩

theorem node_fun_len (n : ByteArray) (a : Option Addr) (l c : Nat) (hl : l ≤ 9223372036854775807) (hm : n.toList.isEmpty = true) (h0 : ((l : Int) == 2) = false) (h00 : (l == 2) = false) (w : World) : Calls Try.prog 85 #[.agg #[.int .i64 3, .string n, .slice a l c]] w (NodeGw (.nilIface) w) := by
  go_enter Try.func85, Try.ntmps85
  go_wp2_with fail
  go_ret
  exact ⟨rfl, (Gw.refl w).alloc _⟩

theorem node_bang_name (n : ByteArray) (a : Option Addr) (l c : Nat) (hm : n.toList.isEmpty = false) (w : World) : Calls Try.prog 85 #[.agg #[.int .i64 4, .string n, .slice a l c]] w (NodeGw (.nilIface) w) := by
  go_enter Try.func85, Try.ntmps85
  go_wp2_with fail
  go_ret
  exact ⟨rfl, (Gw.refl w).alloc _⟩

theorem node_bang_len (n : ByteArray) (a : Option Addr) (l c : Nat) (hl : l ≤ 9223372036854775807) (hm : n.toList.isEmpty = true) (h0 : ((l : Int) == 1) = false) (h00 : (l == 1) = false) (w : World) : Calls Try.prog 85 #[.agg #[.int .i64 4, .string n, .slice a l c]] w (NodeGw (.nilIface) w) := by
  go_enter Try.func85, Try.ntmps85
  go_wp2_with fail
  go_ret
  exact ⟨rfl, (Gw.refl w).alloc _⟩

theorem node_dat_name (n : ByteArray) (hn : n.size ≤ 9223372036854775807) (a : Option Addr) (l c : Nat) (hb : dataB n = false) (w : World) : Calls Try.prog 85 #[.agg #[.int .i64 2, .string n, .slice a l c]] w (NodeGw (.nilIface) w) := by
  go_enter Try.func85, Try.ntmps85
  go_wp2_with fail
  refine (impl_dataName _ hn _).mono ?_
  rw [hb]
  rintro e w1 ⟨rfl, hg⟩
  obtain ⟨hc, hf⟩ := bcell hg
  go_wp2_with fail
  go_ret
  exact ⟨rfl, ((Gw.refl w).alloc _).trans hg⟩

theorem node_dat_len (n : ByteArray) (hn : n.size ≤ 9223372036854775807) (a : Option Addr) (l c : Nat) (hl : l ≤ 9223372036854775807) (hb : dataB n = true) (h0 : ((l : Int) == 0) = false) (h00 : (l == 0) = false) (w : World) : Calls Try.prog 85 #[.agg #[.int .i64 2, .string n, .slice a l c]] w (NodeGw (.nilIface) w) := by
  go_enter Try.func85, Try.ntmps85
  go_wp2_with fail
  refine (impl_dataName _ hn _).mono ?_
  rw [hb]
  rintro e w1 ⟨rfl, hg⟩
  obtain ⟨hc, hf⟩ := bcell hg
  go_wp2_with fail
  go_ret
  exact ⟨rfl, ((Gw.refl w).alloc _).trans hg⟩

theorem node_int (n : ByteArray) (a : Option Addr) (c : Nat) (hm : n.toList.isEmpty = true) (w : World) : Calls Try.prog 85 #[.agg #[.int .i64 1, .string n, .slice a 0 c]] w (NodeGw (.iface 162 (.agg #[])) w) := by
  go_enter Try.func85, Try.ntmps85
  go_wp2_with fail
  go_ret
  exact ⟨rfl, (Gw.refl w).alloc _⟩

theorem node_dat (n : ByteArray) (hn : n.size ≤ 9223372036854775807) (a : Option Addr) (c : Nat) (hb : dataB n = true) (w : World) : Calls Try.prog 85 #[.agg #[.int .i64 2, .string n, .slice a 0 c]] w (NodeGw (.iface 164 (.agg #[.string n])) w) := by
  go_enter Try.func85, Try.ntmps85
  go_wp2_with fail
  refine (impl_dataName _ hn _).mono ?_
  rw [hb]
  rintro e w1 ⟨rfl, hg⟩
  obtain ⟨hc, hf⟩ := bcell hg
  go_wp2_with fail
  go_ret
  exact ⟨rfl, ((Gw.refl w).alloc _).trans hg⟩

theorem node_bang (n : ByteArray) (b o c : Nat) (x : LT) (hm : n.toList.isEmpty = true) (w : World) (c0 : w.cell? ⟨b, o, none⟩ = some (.int .i64 x.k)) (c1 : w.cell? ⟨b, o + 1, none⟩ = some (.string x.n)) (c2 : w.cell? ⟨b, o + 2, none⟩ = some (.slice x.a x.ks.length x.cap)) : Calls Try.prog 85 #[.agg #[.int .i64 4, .string n, .slice (some ⟨b, o, none⟩) 1 c]] w (NodeGw (.iface 133 (.agg #[.int .i64 x.k, .string x.n, .slice x.a x.ks.length x.cap])) w) := by
  have hb0 : b < w.heap.size := cell_lt c0
  go_enter Try.func85, Try.ntmps85
  go_wp2_with fail
  go_ret
  exact ⟨rfl, (Gw.refl w).alloc _⟩

theorem node_fun (n : ByteArray) (b o c : Nat) (x y : LT) (hm : n.toList.isEmpty = true) (w : World) (c0 : w.cell? ⟨b, o, none⟩ = some (.int .i64 x.k)) (c1 : w.cell? ⟨b, o + 1, none⟩ = some (.string x.n)) (c2 : w.cell? ⟨b, o + 2, none⟩ = some (.slice x.a x.ks.length x.cap)) (d0 : w.cell? ⟨b, o + 3, none⟩ = some (.int .i64 y.k)) (d1 : w.cell? ⟨b, o + 3 + 1, none⟩ = some (.string y.n)) (d2 : w.cell? ⟨b, o + 3 + 2, none⟩ = some (.slice y.a y.ks.length y.cap)) : Calls Try.prog 85 #[.agg #[.int .i64 3, .string n, .slice (some ⟨b, o, none⟩) 2 c]] w (NodeGw (.iface 130 (.agg #[.int .i64 x.k, .string x.n, .slice x.a x.ks.length x.cap, .int .i64 y.k, .string y.n, .slice y.a y.ks.length y.cap])) w) := by
  have hb0 : b < w.heap.size := cell_lt c0
  go_enter Try.func85, Try.ntmps85
  go_wp2_with fail
  go_quiet (fail)
  go_wp2_with fail
  go_ret
  exact ⟨rfl, ((Gw.refl w).alloc _).drewN _⟩

end Go.Proofs.Ytbbldkhlclfmkaa.Con
