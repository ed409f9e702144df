/-
  Contract of strings.Builder's WriteString, over a builder that the call has made itself. Condition: the builder holds fewer than 2^47 bytes.
-/
import Derived.Test.YtbjedfbpikfflaaGreatDoorBld
import Derived.Lib.AppendStr
namespace Go.Proofs.YtbjedfbpikfflaaGreatDoor.Con
open Go.RowKit

theorem strCells_bytes (s : ByteArray) : Lib.strCells s = Lib.byteCells s.data.toList := by
  unfold Lib.strCells Lib.byteCells
  rfl

/-- Blocks that are neither a builder nor bytes are as they were. -/
def Kept (w w' : World) : Prop := w.heap.size ≤ w'.heap.size ∧ ∀ x, x < w.heap.size → (∀ cs e fr, w.heap[x]? = some (.cells cs e fr) → e ≠ 52 ∧ e ≠ 5) → w'.heap[x]? = w.heap[x]?

theorem Kept.of_gw {w w' : World} (h : Gw w w') : Kept w w' := ⟨h.size, fun x hx _ => h.block x hx⟩
theorem Kept.refl (w : World) : Kept w w := Kept.of_gw (Gw.refl w)
theorem Kept.trans {a b c : World} (h : Kept a b) (k : Kept b c) : Kept a c :=
  ⟨Nat.le_trans h.1 k.1, fun x hx hn => (k.2 x (Nat.lt_of_lt_of_le hx h.1) (by rw [h.2 x hx hn]; exact hn)).trans (h.2 x hx hn)⟩
theorem Kept.set {w w' : World} (h : Kept w w') {p : Addr} {cs : Array Value} {fr : Nat × Nat} (hp : w'.heap[p.block]? = some (.cells cs 52 fr)) (v : Value) : Kept w (w'.setCell p v) :=
  ⟨by simpa [World.setCell] using h.1, fun x hx hn => (Below.heap_setCell w' p v x (fun e => by
    subst e
    have := (h.2 p.block hx hn).symm.trans hp
    exact (hn _ _ _ this).1 rfl)).trans (h.2 x hx hn)⟩
theorem Kept.grown {w w' w2 : World} (h : Kept w w') {B n : Nat} {v : Value} {xs : List Value} (ho : w'.ownsRow B 5 1 v n xs) (g : w'.grownBy w2 v.ownBlock) : Kept w w2 :=
  ⟨Nat.le_trans h.1 g.size, fun x hx hn => (g.block x (Nat.lt_of_lt_of_le hx h.1) (fun e => by
    rcases ho.2 with ⟨rfl, _⟩ | ⟨g', cap, cur, rfl, _, hg, _⟩
    · cases e
    · have : g' = x := by simpa [Value.ownBlock] using e.symm
      subst this
      exact (hn _ _ _ ((h.2 g' hx hn).symm.trans hg)).2 rfl)).trans (h.2 x hx hn)⟩

theorem copyCheckK (B b : Nat) (bs : List Value) (w : World) (h : Lib.IsBuilder 52 5 B b bs w) :
    Calls Tryz.prog 69 #[.pointer (some ⟨b, 0, none⟩)] w fun e w' => e = .returned (.tuple #[]) ∧ (Lib.BuilderAt 52 5 B b (.pointer (some ⟨b, 0, none⟩)) bs w' ∧ Below B w w' ∧ Kept w w') := by
  rcases h with h | h
  · refine (copyCheck_fresh b w h.cell0 h.shape h.frozen0).mono ?_
    rintro e w' ⟨rfl, rfl⟩
    obtain ⟨h1, v, h2, _⟩ := id h
    exact ⟨rfl, h.used _, (Below.refl B w).setCell (p := ⟨b, 0, none⟩) h.1 _, (Kept.refl w).set (p := ⟨b, 0, none⟩) h2 _⟩
  · refine (copyCheck_used b w h.cell0).mono ?_
    rintro e w' ⟨rfl, rfl⟩
    exact ⟨rfl, h, Below.refl B _, Kept.refl _⟩

set_option maxHeartbeats 4000000 in
set_option maxRecDepth 100000 in
theorem writeString (B b : Nat) (bs : List Value) (s : ByteArray) (w : World) (h : Lib.IsBuilder 52 5 B b bs w) (hlen : bs.length + s.size ≤ 1000000) (hBw : B ≤ w.heap.size) :
    Calls Tryz.prog 54 #[.pointer (some ⟨b, 0, none⟩), .string s] w fun e w' => e = .returned (.tuple #[.int .i64 s.size, .nilIface]) ∧ (Lib.IsBuilder 52 5 B b (bs ++ Lib.byteCells s.data.toList) w' ∧ Below B w w' ∧ Kept w w') := by
  obtain ⟨i0, hi, hz0, hz1, hz2⟩ := info_parts byteInfo
  have HI := Lib.hid hi
  have HZ0 := Lib.hid hz0
  have HZ1 := Lib.hid hz1
  have HZ2 := Lib.hid hz2
  clear hi hz0 hz1 hz2
  go_enter Tryz.func54, Tryz.ntmps54
  go_wp2_with (go_at_call 69; refine (copyCheckK B b bs _ h).mono ?_)
  rintro e w1 ⟨rfl, h1, hb1, hk1⟩
  obtain ⟨hB, v, hbk, hown, hne⟩ := h1
  obtain ⟨ao, cap, rfl⟩ : ∃ ao cap, v = .slice ao bs.length cap := by
    rcases hown.2 with ⟨hv, h0⟩ | ⟨g, cap, cur, hv, _⟩
    · exact ⟨none, 0, by rw [hv, h0]⟩
    · exact ⟨_, _, hv⟩
  have c1 : w1.cell? ⟨b, 1, none⟩ = some (.slice ao bs.length cap) := by rw [Lib.cell_of_heap hbk]; rfl
  have hlt : b < w1.heap.size := (Array.getElem?_eq_some_iff.1 hbk).1
  have HBK := Lib.hid hbk
  have HO := Lib.hid hown
  have HNE := Lib.hid hne
  clear hbk hown hne
  go_wp2_with (at_builtin; refine Lib.wpList_append_own_string _ rfl _ _ 50 9 rfl B 5 i0 Tryz.underlying50 Tryz.underlying9 HI.out HZ0.out HZ1.out HZ2.out _ bs.length bs rfl HO.out s rfl (by unfold maxLen; omega) (by omega) (by have := hb1.size; omega) ?_)
  intro v' w2 hown' hgrow _
  have hb2 : w2.heap[b]? = some (.cells #[.pointer (some ⟨b, 0, none⟩), .slice ao bs.length cap] 52 (0, 0)) := by
    rw [hgrow.block b hlt (fun e => HNE.out e.symm)]
    exact HBK.out
  have d0 : w2.cell? ⟨b, 0, none⟩ = some (.pointer (some ⟨b, 0, none⟩)) := by rw [Lib.cell_of_heap hb2]; rfl
  have d1 : w2.cell? ⟨b, 1, none⟩ = some (.slice ao bs.length cap) := by rw [Lib.cell_of_heap hb2]; rfl
  have f1 : w2.frozen? ⟨b, 1, none⟩ = false := Lib.frozen_of_heap hb2 1
  obtain ⟨ao', cap', rfl⟩ : ∃ ao' cap', v' = .slice ao' (bs.length + s.size) cap' := by
    rcases hown'.2 with ⟨hv, h0⟩ | ⟨g, cap', cur, hv, _⟩
    · exact ⟨none, 0, by rw [hv, h0]⟩
    · exact ⟨_, cap', hv⟩
  have HB2 := Lib.hid hb2
  have HO2 := Lib.hid hown'
  have HGR := Lib.hid hgrow
  clear hb2 hown' hgrow
  go_wp2_with fail
  go_ret2
  refine ⟨rfl, ?_, ?_, ?_⟩
  · refine Or.inr (Lib.BuilderAt.put (T := 52) (e := 5) hB HB2.out (bs' := bs ++ Lib.byteCells s.data.toList) ?_ (by decide))
    have := HO2.out
    rw [strCells_bytes] at this
    have hl : (bs ++ Lib.byteCells s.data.toList).length = bs.length + s.size := by
      simpa using this.1
    rw [hl]
    exact this
  · exact (hb1.grown HGR.out (by have := hb1.size; omega) (fun k hk => (HO.out.lt k hk).1)).setCell (p := ⟨b, 1, none⟩) hB _
  · exact (hk1.grown HO.out HGR.out).set (p := ⟨b, 1, none⟩) HB2.out _

end Go.Proofs.YtbjedfbpikfflaaGreatDoor.Con
