/-
  Contract of the program's ReadDecimal: what it answers is said by 'RV'; what was in memory stays as it was. Condition: strconv's two errors read as interface values.
-/
import Derived.Test.YtgpnicgjlljkdaaDoorRead
import Derived.Test.YtgpnicgjlljkdaaDoorShelf
import Derived.Lib.AtoiErrMem
namespace Go.Proofs.YtgpnicgjlljkdaaDoor.Con
open Go.RowKit Go.PlainAid

/-- strconv's two errors are interface values. -/
def ErrsMet (w : World) : Prop := (∃ te pe, w.cell? ⟨0, 0, none⟩ = some (.iface te pe)) ∧ (∃ te pe, w.cell? ⟨1, 0, none⟩ = some (.iface te pe)) ∧ 0 < w.heap.size ∧ 1 < w.heap.size
theorem ErrsMet.grow {w w' : World} (h : ErrsMet w) (g : Gw w w') : ErrsMet w' := by
  obtain ⟨⟨a, b, h1⟩, ⟨c, d, h2⟩, l1, l2⟩ := h
  exact ⟨⟨a, b, g.cell h1 l1⟩, ⟨c, d, g.cell h2 l2⟩, Nat.lt_of_lt_of_le l1 g.size, Nat.lt_of_lt_of_le l2 g.size⟩

theorem bytesWorld_gw (w : World) (e : TypeId) (s : ByteArray) : Gw w (Lib.bytesWorld w e s) := Lib.bytesWorld_below w e s

set_option maxHeartbeats 1000000 in
theorem impl_between (s : ByteArray) (hs : s.size ≤ 281474976710656) (lo hi : Int) (b1 : -4294967295 ≤ lo) (b2 : hi ≤ 4294967295) (w : World) (hE : ErrsMet w) : Calls Tryd.prog 35 #[.string s, .int .i64 lo, .int .i64 hi] w fun e w' => ReadsB lo hi s.data.toList e ∧ Gw w w' := by
  obtain ⟨⟨ta, pa, hS⟩, ⟨tb, pb, hR⟩, _, _⟩ := hE
  rcases hp : Lib.parseIntB 64 s.data.toList with v | _ | _
  rotate_left
  · have R := Lib.hid (RB_none (lo := lo) (hi := hi) b1 b2 (l := s.data.toList) (fun v h => by rw [hp] at h; cases h))
    go_enter Tryd.func35, Tryd.ntmps35
    go_wp2_with fail
    refine (Any.strconv_ParseInt_10_at64_syntax Tryd.laysC174 s hs hp _ _ hS (Or.inr ⟨ta, pa, rfl⟩)).mono ?_
    rintro e w1 ⟨N, rfl, _, _, hb⟩
    go_wp2_with fail
    go_ret2
    exact ⟨ReadsB.mk R.out, hb⟩
  · have R := Lib.hid (RB_none (lo := lo) (hi := hi) b1 b2 (l := s.data.toList) (fun v h => by rw [hp] at h; cases h))
    go_enter Tryd.func35, Tryd.ntmps35
    go_wp2_with fail
    refine (Any.strconv_ParseInt_10_at64_range Tryd.laysC174 s hs hp _ _ hR (Or.inr ⟨tb, pb, rfl⟩)).mono ?_
    rintro e w1 ⟨N, rfl, _, _, hb⟩
    go_wp2_with fail
    go_ret2
    exact ⟨ReadsB.mk R.out, hb⟩
  · obtain ⟨v0, v1⟩ := parse64_in hp
    have HP := Lib.hid hp
    by_cases hlo : v < lo
    · have R := Lib.hid (RB_other b1 b2 hp (Or.inl hlo))
      go_enter Tryd.func35, Tryd.ntmps35
      go_wp2_with fail
      refine (Tryd.strconv_ParseInt_10_at64_ok s (by omega) v hp _).mono ?_
      clear hp
      rintro e w1 ⟨rfl, hw⟩
      have g1 : Gw w w1 := by
        rcases hw with rfl | ⟨t, rfl⟩
        · exact Gw.refl _
        · exact bytesWorld_gw _ _ _
      have HG := Lib.hid g1
      clear hw g1
      go_wp2_with fail
      go_ret2
      exact ⟨ReadsB.mk R.out, HG.out⟩
    by_cases hhi : hi < v
    · have R := Lib.hid (RB_other b1 b2 hp (Or.inr (Or.inl hhi)))
      go_enter Tryd.func35, Tryd.ntmps35
      go_wp2_with fail
      refine (Tryd.strconv_ParseInt_10_at64_ok s (by omega) v hp _).mono ?_
      clear hp
      rintro e w1 ⟨rfl, hw⟩
      have g1 : Gw w w1 := by
        rcases hw with rfl | ⟨t, rfl⟩
        · exact Gw.refl _
        · exact bytesWorld_gw _ _ _
      have HG := Lib.hid g1
      clear hw g1
      go_wp2_with fail
      go_ret2
      exact ⟨ReadsB.mk R.out, HG.out⟩
    go_enter Tryd.func35, Tryd.ntmps35
    go_wp2_with fail
    refine (Tryd.strconv_ParseInt_10_at64_ok s (by omega) v hp _).mono ?_
    clear hp
    rintro e w1 ⟨rfl, hw⟩
    have g1 : Gw w w1 := by
      rcases hw with rfl | ⟨t, rfl⟩
      · exact Gw.refl _
      · exact bytesWorld_gw _ _ _
    have HG := Lib.hid g1
    clear hw g1
    go_wp2_with fail
    refine (impl_decimal v (by omega) (by omega) _).mono ?_
    rintro e w2 ⟨rfl, g2⟩
    generalize hSS : (⟨(decV v).toArray⟩ : ByteArray) = S
    have hSl : S.toList = decV v := by rw [← hSS, ByteArray.toList_eq]
    have HS := Lib.hid hSl
    clear hSS hSl
    by_cases hq : decV v = s.data.toList
    · have R := Lib.hid (RB_ok (lo := lo) (hi := hi) (by omega) (by omega) hq)
      have hq2 : (S.toList == s.toList) = true := by rw [HS.out, ByteArray.toList_eq]; simpa using hq
      clear hq
      go_wp2_with fail
      go_ret2
      exact ⟨ReadsB.mk R.out, HG.out.trans g2⟩
    · have R := Lib.hid (RB_other b1 b2 HP.out (Or.inr (Or.inr hq)))
      have hq2 : (S.toList == s.toList) = false := by rw [HS.out, ByteArray.toList_eq]; simpa using hq
      clear hq
      go_wp2_with fail
      go_ret2
      exact ⟨ReadsB.mk R.out, HG.out.trans g2⟩

theorem impl_read (s : ByteArray) (hs : s.size ≤ 281474976710656) (w : World) (hE : ErrsMet w) : Calls Tryd.prog 15 #[.string s] w fun e w' => Reads s.data.toList e ∧ Gw w w' := by
  go_enter Tryd.func15, Tryd.ntmps15
  go_wp2_with fail
  refine (impl_between s hs (-2147483648) 2147483647 (by omega) (by omega) _ hE).mono ?_
  rintro e w1 ⟨⟨n, ok, hr, rfl⟩, g1⟩
  go_wp2_with fail
  go_ret2
  exact ⟨Reads.mk hr.rv, g1⟩

end Go.Proofs.YtgpnicgjlljkdaaDoor.Con
