/-
  Contracts of the model's draws of texts: some text of at most 100 bytes. Condition: fewer than a million draws.
-/
import Derived.Test.YtgpnicgjlljkdaaDoorSrc
import Derived.Test.YtgpnicgjlljkdaaDoorDecS
namespace Go.Proofs.YtgpnicgjlljkdaaDoor.Con
open Go.RowKit

def RdStrs (w : World) (v : Value) (xs : List ByteArray) : Prop := ∃ k cap, v = .slice (some ⟨k, 0, none⟩) xs.length cap ∧ k < w.heap.size ∧ 0 < xs.length ∧ xs.length ≤ 1000 ∧ ∀ j, j < xs.length → w.cell? ⟨k, j, none⟩ = some (.string (xs.getD j ⟨#[]⟩))
theorem rdStrs_new (w : World) (t : TypeId) (xs : List ByteArray) (hp : 0 < xs.length) (hl : xs.length ≤ 1000) : RdStrs (w.alloc (.cells (xs.map Value.string).toArray t)) (.slice (some ⟨w.heap.size, 0, none⟩) xs.length xs.length) xs := by
  refine ⟨w.heap.size, xs.length, rfl, by simp, hp, hl, fun j hj => ?_⟩
  rw [World.cell?_alloc_at _ _ _ _ rfl]
  simp [List.getD, hj]

set_option maxHeartbeats 400000 in
theorem src_text (B b N : Nat) (v u : Value) (zs : List Int) (xs : List ByteArray) (w : World) (h : Src B b N v zs w) (hN : N + 2 ≤ 1000000) (hx : RdStrs w u xs)
    (hne : ∀ k cap, u = .slice (some ⟨k, 0, none⟩) xs.length cap → k ≠ b) :
    Calls Tryd.prog 25 #[.pointer (some ⟨b, 0, none⟩), u] w fun e w' => (∃ r : ByteArray, r ∈ xs ∧ e = .returned (.string r)) ∧ Src B b (N + 2) v zs w' ∧ Only b w w' := by
  obtain ⟨k, cap, rfl, hk, hp, hl, hc⟩ := hx
  have hkb := hne k cap rfl
  go_enter Tryd.func25, Tryd.ntmps25
  go_wp2_with fail
  refine (src_pick B b N v zs (xs.length : Int) _ h hN (by omega)).mono ?_
  rintro e w1 ⟨⟨r, r0, r1, r2, rfl⟩, s1, b1⟩
  obtain ⟨n, rfl⟩ : ∃ n : Nat, r = n := ⟨r.toNat, by omega⟩
  have hn : n < xs.length := by omega
  have hcn : w1.cell? ⟨k, n, none⟩ = some (.string (xs.getD n ⟨#[]⟩)) := (World.cell?_of_block (w := w) (b1.2.2.2.2 k hkb)).trans (hc n hn)
  have hmem : xs.getD n ⟨#[]⟩ ∈ xs := by rw [List.getD, List.getElem?_eq_getElem hn]; exact List.getElem_mem _
  generalize xs.getD n ⟨#[]⟩ = z at hcn hmem
  clear r1 hc hne
  go_wp2_with fail
  go_ret
  exact ⟨⟨z, hmem, rfl⟩, s1, b1⟩

/-- The slice v lies below block B. -/
def Low (B : Nat) (v : Value) : Prop := ∀ k off len cap, v = .slice (some ⟨k, off, none⟩) len cap → 0 < len → k < B
theorem low_of {w : World} {v : Value} {zs : List Int} (h : RdBytes w v zs) : Low w.heap.size v := by
  rintro k off len cap rfl hl
  obtain ⟨_, _, ⟨rfl, ao, c, he⟩ | ⟨k', off', c, he, hp, hk, _⟩⟩ := h
  · simp at he; omega
  · simp at he; omega
theorem src_keep {B b N B2 : Nat} {v : Value} {zs : List Int} {w w' : World} (h : Src B b N v zs w) (hl : Low B2 v) (hb : b < B2) (g : Below B2 w w') : Src B b N v zs w' := by
  obtain ⟨hB, ⟨h1, h2, h3⟩, i, s, hh, i0, i1⟩ := h
  refine ⟨hB, ⟨h1, h2, h3.imp id ?_⟩, i, s, (g.block b hb).trans hh, i0, i1⟩
  rintro ⟨k, off, cap, rfl, hp, hk, hc⟩
  exact ⟨k, off, cap, rfl, hp, Nat.lt_of_lt_of_le hk g.size, fun j hj => (g.cell (p := ⟨k, off + j, none⟩) (hl k off _ cap rfl hp)).trans (hc j hj)⟩
theorem own_only {b B2 e n : Nat} {v : Value} {xs : List Value} {w w' : World} (h : w.ownsRow B2 e 1 v n xs) (hb : b < B2) (g : Only b w w') : w'.ownsRow B2 e 1 v n xs := by
  refine ⟨h.1, h.2.imp id ?_⟩
  rintro ⟨k, cap, cur, he, hk, hg, rest⟩
  exact ⟨k, cap, cur, he, hk, (g.2.2.2.2 k (by omega)).trans hg, rest⟩
theorem cell_u8 (r : Int) (h0 : 0 ≤ r) (h1 : r ≤ 255) : [Value.int .u8 r] = Lib.byteCells [UInt8.ofNat r.toNat] := by
  unfold Lib.byteCells
  rw [List.map_cons, List.map_nil, UInt8.toNat_ofNat', Nat.mod_eq_of_lt (by omega)]
  congr 2
  omega

set_option maxHeartbeats 1000000 in
set_option maxRecDepth 100000 in
theorem src_word (B b N : Nat) (v : Value) (zs : List Int) (w : World) (h : Src B b N v zs w) (hN : N + 20 ≤ 1000000) :
    Calls Tryd.prog 26 #[.pointer (some ⟨b, 0, none⟩), .int .i64 15] w fun e w' => (∃ r : ByteArray, r.size ≤ 100 ∧ e = .returned (.string r)) ∧ Below B w w' := by
  obtain ⟨i0, hi, hz0, hz1, hz2⟩ := info_parts byteInfoS
  have hBb := src_le h
  have hbl := src_lt h
  have hlow : Low w.heap.size v := low_of h.2.1
  have hmade := World.ownsRow_made (base := w.heap.size) (e := 5) (size := 1) w #[] 0 (Nat.le_refl _) (Nat.zero_le _) rfl
  have hG : Below w.heap.size w (w.alloc (.cells #[] 5)) := (Below.refl _ _).alloc (Nat.le_refl _) _
  go_enter Tryd.func26, Tryd.ntmps26
  go_wp2_with fail
  refine (src_pick B b N v zs 15 _ (src_alloc h _) (by omega) (by omega)).mono ?_
  rintro e w1 ⟨⟨r, r0, r1, r2, rfl⟩, s1, b1⟩
  obtain ⟨m, rfl⟩ : ∃ m : Nat, r = m := ⟨r.toNat, by omega⟩
  have hown1 := own_only hmade hbl b1
  have hB1 : Below B w w1 := (hG.mono (by omega)).trans (b1.below hBb)
  have hw1 : w.heap.size ≤ w1.heap.size := by have := b1.2.2.2.1; simp at this; omega
  clear hmade hG
  go_wp2_with fail
  go_loopw [5, 6] (fun v5 v6 wr => ∃ (k : Nat) (acc : List UInt8), v6 = .int .i64 k ∧ k + acc.length ≤ 15 ∧ wr.ownsRow w.heap.size 5 1 v5 acc.length (Lib.byteCells acc) ∧ (∃ g cap, v5 = .slice (some ⟨g, 0, none⟩) acc.length cap) ∧ Src B b (N + 2 + acc.length) v zs wr ∧ Below B w wr ∧ w.heap.size ≤ wr.heap.size) (fun _ v6 _ => (intOf v6).toNat)
  case atStart => exact ⟨m, [], rfl, by simp; omega, hown1, ⟨_, _, rfl⟩, s1, hB1, hw1⟩
  case round =>
    obtain ⟨k, acc, rfl, hk, hown, ⟨g2, cap2, rfl⟩, hs, hb, hsz⟩ := hrel
    clear hown1 s1 b1 hB1 hw1 r0 r1 r2
    by_cases hz : k = 0
    · subst hz
      rw [show ((0 : Nat) : Int) = 0 from rfl]
      obtain ⟨S, hS0⟩ : ∃ S : ByteArray, S = ⟨acc.toArray⟩ := ⟨_, rfl⟩
      have hconv : (convert 22 9 (.slice (some ⟨g2, 0, none⟩) acc.length cap2)).run Tryd.prog wr = .ok (.string S) wr := by
        have h := run_convert_bytes_back (P := Tryd.prog) wr 22 9 5 ⟨g2, 0, none⟩ cap2 acc Tryd.underlying22 Tryd.underlying5 Tryd.underlying9 (fun j hj => by rw [addr_j]; exact cells_at hown j hj)
        rw [hS0]
        exact h
      have hSz : S.size ≤ 100 := by rw [hS0]; show acc.toArray.size ≤ 100; simp; omega
      clear hS0 hown
      go_wp2_with fail
      go_ret
      exact ⟨⟨S, hSz, rfl⟩, hb⟩
    · have hk0 : 0 < k := by omega
      have hal : acc.length ≤ 15 := by omega
      go_wp2_with fail
      refine (src_next B b (N + 2 + acc.length) v zs _ hs (by omega)).mono ?_
      rintro e w2 ⟨⟨q, q0, q1, rfl⟩, s2, b2⟩
      have hown2 := own_only hown hbl b2
      have hsz2 : w.heap.size ≤ w2.heap.size := by rw [b2.2.2.2.1]; exact hsz
      have HB := Lib.hid (hb.trans (b2.below hBb))
      clear hb b2 hs hown
      go_wp2_with (at_builtin; refine wpList_append_own _ rfl _ _ 22 rfl w.heap.size 5 i0 (.int .u8 0) 1 1 Tryd.underlying22 hi hz0 hz1 hz2 rfl (by decide) _ _ _ rfl (hown2.alloc _) ⟨w2.heap.size, 0, none⟩ 1 1 [.int .u8 q] rfl rfl one_new (fun u hu => by simp at hu; subst hu; rfl) (by unfold maxLen; omega) (by omega) (by simp; omega) ?_)
      intro v' w3 hown' hgrow _
      have hW3 : Below w.heap.size w2 w3 := ((Below.refl _ _).alloc hsz2 _).grown hgrow (by simp; omega) (fun j hj => (hown2.lt j hj).1)
      have hsl := own_slice hown' (by omega)
      obtain ⟨g3, cap3, rfl, _, _, _⟩ := hsl
      have hO : w3.ownsRow w.heap.size 5 1 (.slice (some ⟨g3, 0, none⟩) (acc.length + 1) cap3) (acc ++ [UInt8.ofNat q.toNat]).length (Lib.byteCells (acc ++ [UInt8.ofNat q.toNat])) := own_app hown' (by rw [Lib.byteCells_append, ← cell_u8 q q0 q1]) rfl (by simp)
      have hS3 : Src B b (N + 2 + (acc ++ [UInt8.ofNat q.toNat]).length) v zs w3 := by
        have := src_keep s2 hlow hbl hW3
        simpa [Nat.add_assoc] using this
      clear hown' hgrow hown2 s2
      go_wp2_with fail
      go_roundw
      case rel => exact ⟨k - 1, acc ++ [UInt8.ofNat q.toNat], by congr 1; omega, by simp; omega, hO, ⟨g3, cap3, by simp⟩, hS3, HB.out.trans (hW3.mono (by omega)), Nat.le_trans hsz2 hW3.size⟩
      case measure => first | (simp [intOf]; done) | (simp [intOf]; omega)

set_option maxHeartbeats 400000 in
theorem draw_isname (v : Value) (zs : List Int) (w : World) (h : RdBytes w v zs) :
    Calls Tryd.prog 7 #[v] w fun e w' => (∃ s : ByteArray, s.size ≤ 100 ∧ e = .returned (.string s)) ∧ Gw w w' := by
  obtain ⟨xs, hxs⟩ : ∃ xs : List ByteArray, xs = [⟨#[]⟩, ⟨#[108, 101, 116]⟩, ⟨#[105, 110]⟩, ⟨#[49, 97]⟩, ⟨#[97, 95, 98]⟩, ⟨#[97, 98, 99, 100, 101, 102, 103, 104, 105, 106, 107, 108]⟩, ⟨#[97, 98, 99, 100, 101, 102, 103, 104, 105, 106, 107, 108, 109]⟩, ⟨#[90, 57]⟩, ⟨#[101, 108, 115, 101]⟩, ⟨#[101, 108, 115, 101, 115]⟩, ⟨#[97, 0]⟩, ⟨#[195, 164]⟩] := ⟨_, rfl⟩
  have hle : ∀ r ∈ xs, r.size ≤ 100 := by rw [hxs]; decide
  have hl0 : 0 < xs.length := by rw [hxs]; decide
  have hl1 : xs.length ≤ 1000 := by rw [hxs]; decide
  have HX := Lib.hid hxs
  clear hxs
  go_enter Tryd.func7, Tryd.ntmps7
  go_wp2_with fail
  refine (src_from v zs _ h).mono ?_
  rintro e w1 ⟨rfl, s1, b1⟩
  go_wp2_with fail
  refine (src_one _ _ 0 v zs 3 _ s1 (by omega) (by omega)).mono ?_
  rintro e w2 ⟨⟨r, rfl⟩, s2, b2⟩
  cases r with
  | true =>
    have hR := rdStrs_new w2 9 xs hl0 hl1
    rw [HX.out] at hR
    go_wp2_with fail
    refine (src_text _ _ 2 v _ zs _ _ (src_alloc s2 _) (by omega) hR (fun k cap hk => by have := src_lt s2; simp at hk; omega)).mono ?_
    rintro e w3 ⟨⟨t, ht, rfl⟩, s3, b3⟩
    have hts : t.size ≤ 100 := hle t (by rw [HX.out]; exact ht)
    clear ht
    go_wp2_with fail
    go_ret
    exact ⟨⟨t, hts, rfl⟩, b1.trans ((b2.below (Nat.le_refl _)).trans (((Below.refl _ _).alloc (by have := src_lt s2; omega) _).trans (b3.below (Nat.le_refl _))))⟩
  | false =>
    go_wp2_with fail
    refine (src_word _ _ 2 v zs _ s2 (by omega)).mono ?_
    rintro e w3 ⟨⟨t, ht, rfl⟩, b3⟩
    go_wp2_with fail
    go_ret
    exact ⟨⟨t, ht, rfl⟩, b1.trans ((b2.below (Nat.le_refl _)).trans b3)⟩

theorem draw_decimal (v : Value) (zs : List Int) (w : World) (h : RdBytes w v zs) :
    Calls Tryd.prog 14 #[v] w fun e w' => (∃ r : Int, in64 r ∧ e = .returned (.int .i64 r)) ∧ Gw w w' := by
  go_enter Tryd.func14, Tryd.ntmps14
  go_wp2_with fail
  refine (src_from v zs _ h).mono ?_
  rintro e w1 ⟨rfl, s1, b1⟩
  go_wp2_with fail
  refine (src_raw _ _ 0 v zs _ s1 (by omega)).mono ?_
  rintro e w3 ⟨⟨a, ha, rfl⟩, s3, b3⟩
  go_wp2_with fail
  go_ret
  exact ⟨⟨a, ha, rfl⟩, b1.trans b3⟩

end Go.Proofs.YtgpnicgjlljkdaaDoor.Con
