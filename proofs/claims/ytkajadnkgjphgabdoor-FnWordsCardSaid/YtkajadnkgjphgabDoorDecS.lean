/-
  Contract of the model's Decimal: it answers the decimal form; what was in memory stays as it was. No condition.
-/
import Derived.Test.YtkajadnkgjphgabDoorDec
import Derived.Laws.IdiomStrings
namespace Go.Proofs.YtkajadnkgjphgabDoor.Con
open Go.RowKit

theorem byteInfoS : (Tryd.prog.info? 5).map (fun i => (i.zero, i.size, i.bytes)) = some (some (.int .u8 0), 1, 1) := by kernel_rfl

theorem byteCells_snoc1 (l : List UInt8) (b : UInt8) : Lib.byteCells l ++ [.int .u8 (b.toNat : Int)] = Lib.byteCells (l ++ [b]) := by rw [Lib.byteCells_append]; rfl
theorem cell_digI (k : Nat) : [Value.int .u8 (48 + (k : Int) % 10)] = Lib.byteCells [UInt8.ofNat (48 + k % 10)] := by
  rw [cell_dig _ (Nat.mod_lt _ (by omega))]
  simp
theorem own_app {w : World} {B e : Nat} {v : Value} {n m : Nat} {xs : List Value} {l : List UInt8} (h : w.ownsRow B e 1 v n xs) (hx : xs = Lib.byteCells l) (hn : n = m) (hm : m = l.length) : w.ownsRow B e 1 v l.length (Lib.byteCells l) := by
  subst hx; subst hn; subst hm; exact h
theorem one_new {w : World} {x : Value} {t : TypeId} (j : Nat) (u : Value) (h : [x][j]? = some u) : (w.alloc (.cells #[x] t)).cell? ((⟨w.heap.size, 0, none⟩ : Addr).add j) = some u := by
  match j, h with
  | 0, h => simp at h; subst h; simp [Addr.add]
  | (j + 1), h => simp at h
theorem addr_j (g j : Nat) : (⟨g, 0, none⟩ : Addr).add j = ⟨g, j, none⟩ := by
  unfold Addr.add
  split
  · next h => subst h; rfl
  · simp
theorem cells_at {w : World} {B e g cap n : Nat} {l : List UInt8} (h : w.ownsRow B e 1 (.slice (some ⟨g, 0, none⟩) n cap) l.length (Lib.byteCells l)) (j : Nat) (hj : j < l.length) : w.cell? ⟨g, j, none⟩ = some (.int .u8 ((l[j]'hj).toNat : Int)) := by
  have := h.cells (g := g) rfl j (.int .u8 ((l[j]'hj).toNat : Int)) (by simp [Lib.byteCells, hj])
  rwa [addr_j] at this
theorem own_slice {w : World} {B e : Nat} {v : Value} {n : Nat} {xs : List Value} (h : w.ownsRow B e 1 v n xs) (hn : 0 < n) : ∃ g cap, v = .slice (some ⟨g, 0, none⟩) n cap ∧ g < w.heap.size ∧ n ≤ cap ∧ cap ≤ maxLen := by
  rcases h.2 with ⟨_, h0⟩ | ⟨g, cap, cur, hv, _, hg, h1, h2, _⟩
  · omega
  · exact ⟨g, cap, hv, (Array.getElem?_eq_some_iff.1 hg).1, h1, h2⟩
theorem drop_rev (l : List UInt8) (k : Nat) (h : k < l.length) : (l.drop k).reverse = (l.drop (k + 1)).reverse ++ [l[k]'h] := by
  rw [List.drop_eq_getElem_cons h, List.reverse_cons]
theorem ret_s2 {a b : ByteArray} (h : a = b) : Ending.returned (.string a) = .returned (.string b) := by rw [h]

end Go.Proofs.YtkajadnkgjphgabDoor.Con
