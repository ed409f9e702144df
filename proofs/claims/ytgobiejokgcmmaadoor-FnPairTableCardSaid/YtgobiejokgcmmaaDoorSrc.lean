/-
  Contracts of the model's source of choices (l00Src): each draw answers a number in its range and keeps the source; which number, they do not say. Condition: fewer than a million draws.
-/
import Derived.Test.YtgobiejokgcmmaaDoorRb
import Derived.Deep.QuietTactic
import Derived.BigQuiet
namespace Go.Proofs.YtgobiejokgcmmaaDoor.Con
open Go.RowKit

/-- A source in block b of the call's own, over the bytes zs; at most N draws so far. -/
def Src (B b N : Nat) (v : Value) (zs : List Int) (w : World) : Prop :=
  B ≤ b ∧ RdBytes w v zs ∧ ∃ i s : Int, w.heap[b]? = some (.cells #[v, .int .i64 i, .int .u64 s] 65 (0, 0)) ∧ 0 ≤ i ∧ i ≤ N

theorem and255 (x : Int) : 0 ≤ bits .and .u64 x 255 ∧ bits .and .u64 x 255 ≤ 255 := by
  have h : ((BitVec.ofInt 64 x) &&& (BitVec.ofInt 64 255)).toNat ≤ 255 := by
    rw [BitVec.toNat_and]
    exact Nat.and_le_right
  show 0 ≤ IntKind.u64.wrap ((((BitVec.ofInt 64 x) &&& (BitVec.ofInt 64 255)).toNat : Nat) : Int) ∧ IntKind.u64.wrap ((((BitVec.ofInt 64 x) &&& (BitVec.ofInt 64 255)).toNat : Nat) : Int) ≤ 255
  generalize ((BitVec.ofInt 64 x) &&& (BitVec.ofInt 64 255)).toNat = m at h
  rw [IntKind.wrap_u64]
  omega

theorem w64and (x : Int) : 0 ≤ wrap64 (bits .and .u64 x 255) ∧ wrap64 (bits .and .u64 x 255) ≤ 255 := by
  have := and255 x
  rw [IntWalk.wrap64_in _ ⟨by omega, by omega⟩]
  exact this

theorem src_put {b : Nat} {v x y : Value} {w : World} (hb : w.heap[b]? = some (.cells #[v, x, y] 65 (0, 0))) (p q : Value) :
    ((w.setCell ⟨b, 1, none⟩ p).setCell ⟨b, 2, none⟩ q).heap[b]? = some (.cells #[v, p, q] 65 (0, 0)) := by
  simp [World.setCell, Array.getElem?_modify, hb]
/-- Only block b has turned. -/
def Only (b : Nat) (w w' : World) : Prop := w'.os = w.os ∧ w'.tape = w.tape ∧ w'.output = w.output ∧ w'.heap.size = w.heap.size ∧ ∀ k, k ≠ b → w'.heap[k]? = w.heap[k]?
theorem Only.refl (b : Nat) (w : World) : Only b w w := ⟨rfl, rfl, rfl, rfl, fun _ _ => rfl⟩
theorem Only.trans {b : Nat} {w w' w'' : World} (h : Only b w w') (g : Only b w' w'') : Only b w w'' :=
  ⟨g.1.trans h.1, g.2.1.trans h.2.1, g.2.2.1.trans h.2.2.1, g.2.2.2.1.trans h.2.2.2.1, fun k hk => (g.2.2.2.2 k hk).trans (h.2.2.2.2 k hk)⟩
theorem Only.below {B b : Nat} {w w' : World} (h : Only b w w') (hB : B ≤ b) : Below B w w' :=
  ⟨h.1, h.2.1, h.2.2.1, Nat.le_of_eq h.2.2.2.1.symm, fun k hk => h.2.2.2.2 k (by omega)⟩
theorem only_put {b : Nat} (w : World) (p q : Value) : Only b w ((w.setCell ⟨b, 1, none⟩ p).setCell ⟨b, 2, none⟩ q) :=
  ⟨rfl, rfl, rfl, by simp [World.setCell], fun k hk => by rw [Below.heap_setCell _ _ _ _ hk, Below.heap_setCell _ _ _ _ hk]⟩
theorem RdBytes.put {b : Nat} {v : Value} {i s : Int} {zs : List Int} {w : World} (h : RdBytes w v zs) (hb : w.heap[b]? = some (.cells #[v, .int .i64 i, .int .u64 s] 65 (0, 0))) (p q : Value) :
    RdBytes ((w.setCell ⟨b, 1, none⟩ p).setCell ⟨b, 2, none⟩ q) v zs := by
  obtain ⟨h1, h2, h3⟩ := h
  refine ⟨h1, h2, h3.imp id ?_⟩
  rintro ⟨k, off, cap, rfl, hp, hk, hc⟩
  refine ⟨k, off, cap, rfl, hp, by simpa [World.setCell] using hk, fun j hj => ?_⟩
  have hne : k ≠ b := by
    rintro rfl
    have h0 := hc 0 hp
    simp only [World.cell?, hb, Nat.add_zero] at h0
    match off, h0 with
    | 0, h0 => simp at h0
    | 1, h0 => simp at h0
    | 2, h0 => simp at h0
    | (n + 3), h0 => simp at h0
  have e : ((w.setCell ⟨b, 1, none⟩ p).setCell ⟨b, 2, none⟩ q).heap[k]? = w.heap[k]? := by
    rw [Below.heap_setCell _ _ _ _ hne, Below.heap_setCell _ _ _ _ hne]
  rw [World.cell?_of_block (w := w) e]
  exact hc j hj

/-- What a draw leaves. -/
theorem src_step {B b N : Nat} {v : Value} {zs : List Int} {w : World} {i s : Int} (hB : B ≤ b) (hR : RdBytes w v zs) (hb : w.heap[b]? = some (.cells #[v, .int .i64 i, .int .u64 s] 65 (0, 0))) (h0 : 0 ≤ i) (h1 : i ≤ N) (s' : Int) :
    Src B b (N + 1) v zs ((w.setCell ⟨b, 1, none⟩ (.int .i64 (i + 1))).setCell ⟨b, 2, none⟩ (.int .u64 s')) ∧ Only b w ((w.setCell ⟨b, 1, none⟩ (.int .i64 (i + 1))).setCell ⟨b, 2, none⟩ (.int .u64 s')) :=
  ⟨⟨hB, hR.put hb _ _, i + 1, s', src_put hb _ _, by omega, by omega⟩, only_put w _ _⟩

theorem src_from (v : Value) (zs : List Int) (w : World) (h : RdBytes w v zs) :
    Calls Tryd.prog 45 #[v] w fun e w' => e = .returned (.pointer (some ⟨w.heap.size, 0, none⟩)) ∧ Src w.heap.size w.heap.size 0 v zs w' ∧ Below w.heap.size w w' := by
  have hg : Below w.heap.size w (w.alloc (.cells #[v, .int .i64 0, .int .u64 0] 65)) := (Below.refl _ _).alloc (Nat.le_refl _) _
  have hS : Src w.heap.size w.heap.size 0 v zs (w.alloc (.cells #[v, .int .i64 0, .int .u64 0] 65)) := ⟨Nat.le_refl _, h.grow hg, 0, 0, heap_alloc_new _ _, Int.le_refl _, Int.le_refl _⟩
  obtain ⟨ao, cap, rfl⟩ := h.slice
  go_enter Tryd.func45, Tryd.ntmps45
  go_wp2_with fail
  go_ret
  exact ⟨rfl, hS, hg⟩

set_option maxHeartbeats 1000000 in
theorem src_next (B b N : Nat) (v : Value) (zs : List Int) (w : World) (h : Src B b N v zs w) (hN : N ≤ 1000000) :
    Calls Tryd.prog 53 #[.pointer (some ⟨b, 0, none⟩)] w fun e w' => (∃ r : Int, 0 ≤ r ∧ r ≤ 255 ∧ e = .returned (.int .i64 r)) ∧ Src B b (N + 1) v zs w' ∧ Only b w w' := by
  obtain ⟨hB, hR, i, s, hb, hi0, hi1⟩ := h
  have c0 : w.cell? ⟨b, 0, none⟩ = some v := by simp [World.cell?, hb]
  have c1 : w.cell? ⟨b, 1, none⟩ = some (.int .i64 i) := by simp [World.cell?, hb]
  have c2 : w.cell? ⟨b, 2, none⟩ = some (.int .u64 s) := by simp [World.cell?, hb]
  have f1 : w.frozen? ⟨b, 1, none⟩ = false := by simp [World.frozen?, hb]
  have f2 : w.frozen? ⟨b, 2, none⟩ = false := by simp [World.frozen?, hb]
  have hlb : b < w.heap.size := (Array.getElem?_eq_some_iff.1 hb).1
  have HS : ∀ s', Hid (Src B b (N + 1) v zs ((w.setCell ⟨b, 1, none⟩ (.int .i64 (i + 1))).setCell ⟨b, 2, none⟩ (.int .u64 s')) ∧ Only b w ((w.setCell ⟨b, 1, none⟩ (.int .i64 (i + 1))).setCell ⟨b, 2, none⟩ (.int .u64 s'))) :=
    fun s' => Lib.hid (src_step hB hR hb hi0 hi1 s')
  obtain ⟨hz, hm, hR2⟩ := hR
  unfold maxLen at hm
  by_cases hlt : i < zs.length
  · obtain ⟨n, rfl⟩ : ∃ n : Nat, i = n := ⟨i.toNat, by omega⟩
    obtain ⟨k, off, cap, rfl, hp, hk, hc⟩ : (∃ k off cap, v = .slice (some ⟨k, off, none⟩) zs.length cap ∧ 0 < zs.length ∧ k < w.heap.size ∧ ∀ j, j < zs.length → w.cell? ⟨k, off + j, none⟩ = some (.int .u8 (zs.getD j 0))) := by
      rcases hR2 with ⟨rfl, _⟩ | h
      · simp at hlt; omega
      · exact h
    have hcn := hc n (by omega)
    generalize hq : zs.getD n 0 = z at hcn
    have hzn : 0 ≤ z ∧ z ≤ 255 := by
      rw [← hq, List.getD, List.getElem?_eq_getElem (by omega : n < zs.length)]
      exact hz _ (List.getElem_mem _)
    clear hq hz hR2 hc
    obtain ⟨z0, z1⟩ := hzn
    have HB := Lib.hid hb
    clear hb
    go_enter Tryd.func53, Tryd.ntmps53
    go_wp2_with fail
    go_quiet (fail)
    go_wp2_with fail
    go_quiet (fail)
    go_wp2_with fail
    go_quiet (fail)
    go_wp2_with fail
    go_ret
    have hS := HS (IntKind.u64.wrap (IntKind.u64.wrap (IntKind.u64.wrap (s * 6364136223846793005) + z) + 1442695040888963407))
    exact ⟨⟨z, z0, z1, rfl⟩, hS.out.1, hS.out.2⟩
  · obtain ⟨ao, cap, rfl⟩ : ∃ ao cap, v = .slice ao zs.length cap := by
      rcases hR2 with ⟨rfl, ao, cap, rfl⟩ | ⟨k, off, cap, rfl, _⟩
      · exact ⟨ao, cap, rfl⟩
      · exact ⟨_, cap, rfl⟩
    have HB := Lib.hid hb
    clear hb hz hR2
    go_enter Tryd.func53, Tryd.ntmps53
    go_wp2_with fail
    go_quiet (fail)
    go_wp2_with fail
    go_quiet (fail)
    go_wp2_with fail
    go_ret
    have hS := HS (IntKind.u64.wrap (IntKind.u64.wrap (IntKind.u64.wrap (s * 6364136223846793005)) + 1442695040888963407))
    exact ⟨⟨_, (w64and _).1, (w64and _).2, rfl⟩, hS.out.1, hS.out.2⟩

theorem src_mono {B b N M : Nat} {v : Value} {zs : List Int} {w : World} (h : Src B b N v zs w) (hM : N ≤ M) : Src B b M v zs w := by
  obtain ⟨hB, hR, i, s, hb, h0, h1⟩ := h
  exact ⟨hB, hR, i, s, hb, h0, by omega⟩

set_option maxHeartbeats 1000000 in
/-- A number below n; 0 where n is 1 or less. -/
theorem src_pick (B b N : Nat) (v : Value) (zs : List Int) (n : Int) (w : World) (h : Src B b N v zs w) (hN : N + 2 ≤ 1000000) (hn : n ≤ 9223372036854775807) :
    Calls Tryd.prog 52 #[.pointer (some ⟨b, 0, none⟩), .int .i64 n] w fun e w' => (∃ r : Int, 0 ≤ r ∧ (r < n ∨ r = 0) ∧ r ≤ 65535 ∧ e = .returned (.int .i64 r)) ∧ Src B b (N + 2) v zs w' ∧ Only b w w' := by
  by_cases h1 : n ≤ 1
  · go_enter Tryd.func52, Tryd.ntmps52
    go_wp2_with fail
    go_ret
    exact ⟨⟨0, Int.le_refl _, Or.inr rfl, by omega, rfl⟩, src_mono h (by omega), Only.refl _ _⟩
  · by_cases h2 : 200 < n
    · go_enter Tryd.func52, Tryd.ntmps52
      go_wp2_with fail
      refine (src_next B b N v zs _ h (by omega)).mono ?_
      rintro e w1 ⟨⟨r, r0, r1, rfl⟩, s1, b1⟩
      go_wp2_with fail
      refine (src_next B b (N + 1) v zs _ s1 (by omega)).mono ?_
      rintro e w2 ⟨⟨q, q0, q1, rfl⟩, s2, b2⟩
      have hm0 : 0 ≤ (r * 256 + q) % n := Int.emod_nonneg _ (by omega)
      have hm1 : (r * 256 + q) % n < n := Int.emod_lt_of_pos _ (by omega)
      have hm2 : (r * 256 + q) % n ≤ r * 256 + q := by
        by_cases hx : r * 256 + q < n
        · rw [Int.emod_eq_of_lt (by omega) hx]; exact Int.le_refl _
        · omega
      go_wp2_with fail
      go_ret
      exact ⟨⟨_, hm0, Or.inl hm1, by omega, rfl⟩, s2, b1.trans b2⟩
    · go_enter Tryd.func52, Tryd.ntmps52
      go_wp2_with fail
      refine (src_next B b N v zs _ h (by omega)).mono ?_
      rintro e w1 ⟨⟨r, r0, r1, rfl⟩, s1, b1⟩
      have hm0 : 0 ≤ r % n := Int.emod_nonneg _ (by omega)
      have hm1 : r % n < n := Int.emod_lt_of_pos _ (by omega)
      go_wp2_with fail
      go_ret
      exact ⟨⟨_, hm0, Or.inl hm1, by omega, rfl⟩, src_mono s1 (by omega), b1⟩

theorem src_one (B b N : Nat) (v : Value) (zs : List Int) (n : Int) (w : World) (h : Src B b N v zs w) (hN : N + 2 ≤ 1000000) (hn : n ≤ 9223372036854775807) :
    Calls Tryd.prog 47 #[.pointer (some ⟨b, 0, none⟩), .int .i64 n] w fun e w' => (∃ r : Bool, e = .returned (.bool r)) ∧ Src B b (N + 2) v zs w' ∧ Only b w w' := by
  go_enter Tryd.func47, Tryd.ntmps47
  go_wp2_with fail
  refine (src_pick B b N v zs n _ h hN hn).mono ?_
  rintro e w1 ⟨⟨r, r0, r1, r2, rfl⟩, s1, b1⟩
  go_wp2_with fail
  go_ret
  exact ⟨⟨_, rfl⟩, s1, b1⟩

/-- A list of numbers of 64 bits, in a row of cells of the call's own or that came in. -/
def RdInts (w : World) (v : Value) (xs : List Int) : Prop := ∃ k cap, v = .slice (some ⟨k, 0, none⟩) xs.length cap ∧ k < w.heap.size ∧ 0 < xs.length ∧ xs.length ≤ 1000 ∧ ∀ j, j < xs.length → w.cell? ⟨k, j, none⟩ = some (.int .i64 (xs.getD j 0))

set_option maxHeartbeats 400000 in
theorem src_among (B b N : Nat) (v u : Value) (zs xs : List Int) (w : World) (h : Src B b N v zs w) (hN : N + 2 ≤ 1000000) (hx : RdInts w u xs)
    (hne : ∀ k cap, u = .slice (some ⟨k, 0, none⟩) xs.length cap → k ≠ b) :
    Calls Tryd.prog 48 #[.pointer (some ⟨b, 0, none⟩), u] w fun e w' => (∃ r : Int, r ∈ xs ∧ e = .returned (.int .i64 r)) ∧ Src B b (N + 2) v zs w' ∧ Only b w w' := by
  obtain ⟨k, cap, rfl, hk, hp, hl, hc⟩ := hx
  have hkb := hne k cap rfl
  go_enter Tryd.func48, Tryd.ntmps48
  go_wp2_with fail
  refine (src_pick B b N v zs (xs.length : Int) _ h hN (by omega)).mono ?_
  rintro e w1 ⟨⟨r, r0, r1, r2, rfl⟩, s1, b1⟩
  obtain ⟨n, rfl⟩ : ∃ n : Nat, r = n := ⟨r.toNat, by omega⟩
  have hn : n < xs.length := by omega
  have hcn : w1.cell? ⟨k, n, none⟩ = some (.int .i64 (xs.getD n 0)) := (World.cell?_of_block (w := w) (b1.2.2.2.2 k hkb)).trans (hc n hn)
  have hmem : xs.getD n 0 ∈ xs := by rw [List.getD, List.getElem?_eq_getElem hn]; exact List.getElem_mem _
  generalize xs.getD n 0 = z at hcn hmem
  clear r1 hc hne
  go_wp2_with fail
  go_ret
  exact ⟨⟨z, hmem, rfl⟩, s1, b1⟩

theorem src_alloc {B b N : Nat} {v : Value} {zs : List Int} {w : World} (h : Src B b N v zs w) (o : Obj) : Src B b N v zs (w.alloc o) := by
  obtain ⟨hB, hR, i, s, hb, h0, h1⟩ := h
  exact ⟨hB, hR.grow ((Below.refl _ _).alloc (Nat.le_refl _) _), i, s, (Below.heap_alloc w o b (Array.getElem?_eq_some_iff.1 hb).1).trans hb, h0, h1⟩
theorem src_lt {B b N : Nat} {v : Value} {zs : List Int} {w : World} (h : Src B b N v zs w) : b < w.heap.size := by
  obtain ⟨_, _, _, _, hb, _, _⟩ := h
  exact (Array.getElem?_eq_some_iff.1 hb).1
theorem src_le {B b N : Nat} {v : Value} {zs : List Int} {w : World} (h : Src B b N v zs w) : B ≤ b := h.1

theorem rdInts_new (w : World) (t : TypeId) (xs : List Int) (hp : 0 < xs.length) (hl : xs.length ≤ 1000) : RdInts (w.alloc (.cells (xs.map (Value.int .i64)).toArray t)) (.slice (some ⟨w.heap.size, 0, none⟩) xs.length xs.length) xs := by
  refine ⟨w.heap.size, xs.length, rfl, by simp, hp, hl, fun j hj => ?_⟩
  rw [World.cell?_alloc_at _ _ _ _ rfl]
  simp [List.getD, hj]

def ints1 : List Int := [-2147483648, 2147483647, -1, 65536, -2147483647]
def ints2 : List Int := [-9223372036854775808, 9223372036854775807, 2147483648, -2147483649, 4294967296, -4294967296, 4294967295, 0]
def in64 (n : Int) : Prop := -9223372036854775808 ≤ n ∧ n ≤ 9223372036854775807
theorem ints1_in : ∀ r ∈ ints1, in64 r := by unfold ints1 in64; simp
theorem ints2_in : ∀ r ∈ ints2, in64 r := by unfold ints2 in64; simp

end Go.Proofs.YtgobiejokgcmmaaDoor.Con
