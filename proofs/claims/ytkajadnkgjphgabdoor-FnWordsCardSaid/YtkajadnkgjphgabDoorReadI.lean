/-
  Contract of the program's ReadDecimal: what it answers is said by 'RV'; what was in memory stays as it was. Condition: strconv's two errors read as interface values.
-/
import Derived.Test.YtkajadnkgjphgabDoorRead
import Derived.Test.YtkajadnkgjphgabDoorShelf
import Derived.Lib.AtoiErrMem
namespace Go.Proofs.YtkajadnkgjphgabDoor.Con
open Go.RowKit Go.PlainAid

/-- strconv's two errors are interface values. -/
def ErrsMet (w : World) : Prop := (∃ te pe, w.cell? ⟨0, 0, none⟩ = some (.iface te pe)) ∧ (∃ te pe, w.cell? ⟨1, 0, none⟩ = some (.iface te pe)) ∧ 0 < w.heap.size ∧ 1 < w.heap.size
theorem ErrsMet.grow {w w' : World} (h : ErrsMet w) (g : Gw w w') : ErrsMet w' := by
  obtain ⟨⟨a, b, h1⟩, ⟨c, d, h2⟩, l1, l2⟩ := h
  exact ⟨⟨a, b, g.cell h1 l1⟩, ⟨c, d, g.cell h2 l2⟩, Nat.lt_of_lt_of_le l1 g.size, Nat.lt_of_lt_of_le l2 g.size⟩

theorem bytesWorld_gw (w : World) (e : TypeId) (s : ByteArray) : Gw w (Lib.bytesWorld w e s) := Lib.bytesWorld_below w e s

set_option maxHeartbeats 1000000 in
theorem impl_read (s : ByteArray) (hs : s.size ≤ 281474976710656) (w : World) (hE : ErrsMet w) : Calls Tryd.prog 13 #[.string s] w fun e w' => Reads s.data.toList e ∧ Gw w w' := by
  obtain ⟨⟨ta, pa, hS⟩, ⟨tb, pb, hR⟩, _, _⟩ := hE
  rcases hp : Lib.parseIntB 32 s.data.toList with v | _ | _
  rotate_left
  · have R := Lib.hid (RV_none (l := s.data.toList) (fun v h => by rw [hp] at h; cases h))
    go_enter Tryd.func13, Tryd.ntmps13
    go_wp2_with fail
    refine (Any.strconv_ParseInt_10_at32_syntax Tryd.laysC174 s hs hp _ _ hS (Or.inr ⟨ta, pa, rfl⟩)).mono ?_
    rintro e w1 ⟨N, rfl, _, _, hb⟩
    go_wp2_with fail
    go_ret2
    exact ⟨Reads.mk R.out, hb⟩
  · have R := Lib.hid (RV_none (l := s.data.toList) (fun v h => by rw [hp] at h; cases h))
    go_enter Tryd.func13, Tryd.ntmps13
    go_wp2_with fail
    refine (Any.strconv_ParseInt_10_at32_range Tryd.laysC174 s hs hp _ _ hR (Or.inr ⟨tb, pb, rfl⟩)).mono ?_
    rintro e w1 ⟨N, rfl, _, _, hb⟩
    go_wp2_with fail
    go_ret2
    exact ⟨Reads.mk R.out, hb⟩
  · obtain ⟨v0, v1⟩ := parse_in hp
    have HP := Lib.hid hp
    go_enter Tryd.func13, Tryd.ntmps13
    go_wp2_with fail
    refine (Tryd.strconv_ParseInt_10_at32_ok s (by omega) v hp _).mono ?_
    clear hp
    rintro e w1 ⟨rfl, hw⟩
    have g1 : Gw w w1 := by
      rcases hw with rfl | ⟨t, rfl⟩
      · exact Gw.refl _
      · exact bytesWorld_gw _ _ _
    have HG := Lib.hid g1
    clear hw g1
    go_wp2_with fail
    refine (impl_decimal v (by omega) (by omega) _).mono ?_
    rintro e w2 ⟨rfl, g2⟩
    generalize hSS : (⟨(decV v).toArray⟩ : ByteArray) = S
    have hSl : S.toList = decV v := by rw [← hSS, ByteArray.toList_eq]
    have HS := Lib.hid hSl
    clear hSS hSl
    by_cases hq : decV v = s.data.toList
    · have R := Lib.hid (RV_ok HP.out hq)
      have hq2 : (S.toList == s.toList) = true := by rw [HS.out, ByteArray.toList_eq]; simpa using hq
      clear hq
      go_wp2_with fail
      go_ret2
      exact ⟨Reads.mk R.out, HG.out.trans g2⟩
    · have R := Lib.hid (RV_other HP.out hq)
      have hq2 : (S.toList == s.toList) = false := by rw [HS.out, ByteArray.toList_eq]; simpa using hq
      clear hq
      go_wp2_with fail
      go_ret2
      exact ⟨Reads.mk R.out, HG.out.trans g2⟩

end Go.Proofs.YtkajadnkgjphgabDoor.Con
