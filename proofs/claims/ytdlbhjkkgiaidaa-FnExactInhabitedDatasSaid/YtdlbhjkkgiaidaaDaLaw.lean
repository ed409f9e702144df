/-
  Contracts of ValidDatas, KnownType and FindData, of the model and of the program. No condition but that all lies in memory.
-/
import Derived.Test.YtdlbhjkkgiaidaaDaOkP
import Derived.Test.YtdlbhjkkgiaidaaDaOpen
import Derived.Test.YtdlbhjkkgiaidaaTyLaw
namespace Go.Proofs.Ytdlbhjkkgiaidaa.Con
open Go.RowKit
set_option linter.unusedVariables false

theorem spec_vd (ds : List LD) (w : World) (a : Option Addr) (cap : Nat) (h : dsOk w a cap ds) : Calls Try.prog 33 #[.slice a ds.length cap] w (BoolGw (datasB (ds.map dty)) w) := by
  have key := Lib.hid (spec_ok ds w a cap h)
  clear h
  go_enter Try.func33, Try.ntmps33
  go_wp2_with fail
  refine key.out.mono ?_
  rintro e w1 ⟨rfl, g⟩
  go_wp2_with fail
  go_ret
  exact ⟨rfl, g⟩

theorem spec_kt (ds : List LD) (t : LT) (w : World) (a : Option Addr) (cap : Nat) (h : dsOk w a cap ds) (ht : t.Ok w) : Calls Try.prog 37 #[.slice a ds.length cap, t.val] w (BoolGw (datasB (ds.map dty) && fB (ds.map LN.n) t.ty) w) := by
  have g1 : Gw w (w.alloc (.cells #[.int .i64 t.k, .string t.n, .slice t.a t.ks.length t.cap] 29)) := (Gw.refl w).alloc _
  have BX := Box.new w t 29
  have HD := Lib.hid (dsOk.grow h g1)
  have HT := Lib.hid (ht.grow g1)
  have G1 := Lib.hid g1
  clear h ht g1
  go_enter Try.func37, Try.ntmps37
  go_upto_region 1 with (fail)
  generalize w.alloc (.cells #[.int .i64 t.k, .string t.n, .slice t.a t.ks.length t.cap] 29) = w1 at *
  have key := spec_ok ds w1 a cap HD.out
  cases hb : datasB (ds.map dty) with
  | false =>
    rw [hb] at key
    have KEY := Lib.hid key
    have HB := Lib.hid hb
    clear key hb
    go_wp2_with fail
    refine KEY.out.mono ?_
    rintro e w2 ⟨rfl, g⟩
    go_wp2_with fail
    go_ret
    exact ⟨ret_b (by rw [HB.out]; rfl), G1.out.trans g⟩
  | true =>
    rw [hb] at key
    have KEY := Lib.hid key
    have HB := Lib.hid hb
    clear key hb
    go_wp2_with fail
    refine KEY.out.mono ?_
    rintro e w2 ⟨rfl, g2⟩
    have BX2 := BX.grow g2
    obtain ⟨p0, p1, p2⟩ := BX2.c
    have G2 := Lib.hid (G1.out.trans g2)
    have HT2 := Lib.hid (HT.out.grow g2)
    have HD2 := Lib.hid (dsOk.grow HD.out g2)
    have key := spec_valid t w2 HT2.out
    clear g2
    cases hv : validB t.ty with
    | false =>
      have HF := Lib.hid (show fB (ds.map LN.n) t.ty = false by unfold fB; rw [hv]; rfl)
      rw [hv] at key
      have KEY := Lib.hid key
      clear key hv
      go_wp2_with fail
      refine KEY.out.mono ?_
      rintro e w3 ⟨rfl, g3⟩
      clear p0 p1 p2
      go_wp2_with fail
      go_ret
      exact ⟨ret_b (by rw [HB.out, HF.out]; rfl), G2.out.trans g3⟩
    | true =>
      have HF := Lib.hid (show fB (ds.map LN.n) t.ty = t.ty.known (ds.map LN.n) by unfold fB; rw [hv]; rfl)
      rw [hv] at key
      have KEY := Lib.hid key
      clear key hv
      go_wp2_with fail
      refine KEY.out.mono ?_
      rintro e w3 ⟨rfl, g3⟩
      have BX3 := BX2.grow g3
      clear p0 p1 p2
      obtain ⟨p0, p1, p2⟩ := BX3.c
      have G3 := Lib.hid (G2.out.trans g3)
      have KEY := Lib.hid (spec_known ds t w3 a cap (dsOk.grow HD2.out g3) (HT2.out.grow g3))
      clear g3
      go_wp2_with fail
      refine KEY.out.mono ?_
      rintro e w4 ⟨rfl, g4⟩
      clear p0 p1 p2
      go_wp2_with fail
      go_ret
      exact ⟨ret_b (by rw [HB.out, HF.out]; rfl), G3.out.trans g4⟩

theorem impl_kt (ds : List LD) (t : LT) (w : World) (a : Option Addr) (cap : Nat) (h : dsOk w a cap ds) (ht : t.Ok w) : Calls Try.prog 38 #[.slice a ds.length cap, t.val] w (BoolGw (datasB (ds.map dty) && fB (ds.map LN.n) t.ty) w) := by
  have g1 : Gw w (w.alloc (.cells #[.int .i64 t.k, .string t.n, .slice t.a t.ks.length t.cap] 29)) := (Gw.refl w).alloc _
  have BX := Box.new w t 29
  have HD := Lib.hid (dsOk.grow h g1)
  have HT := Lib.hid (ht.grow g1)
  have G1 := Lib.hid g1
  clear h ht g1
  go_enter Try.func38, Try.ntmps38
  go_upto_region 1 with (fail)
  generalize w.alloc (.cells #[.int .i64 t.k, .string t.n, .slice t.a t.ks.length t.cap] 29) = w1 at *
  have key := impl_ok ds w1 a cap HD.out
  cases hb : datasB (ds.map dty) with
  | false =>
    rw [hb] at key
    have KEY := Lib.hid key
    have HB := Lib.hid hb
    clear key hb
    go_wp2_with fail
    refine KEY.out.mono ?_
    rintro e w2 ⟨rfl, g⟩
    go_wp2_with fail
    go_ret
    exact ⟨ret_b (by rw [HB.out]; rfl), G1.out.trans g⟩
  | true =>
    rw [hb] at key
    have KEY := Lib.hid key
    have HB := Lib.hid hb
    clear key hb
    go_wp2_with fail
    refine KEY.out.mono ?_
    rintro e w2 ⟨rfl, g2⟩
    have BX2 := BX.grow g2
    obtain ⟨p0, p1, p2⟩ := BX2.c
    have G2 := Lib.hid (G1.out.trans g2)
    have KEY := Lib.hid (impl_declared ds t w2 a cap (dsOk.grow HD.out g2) (HT.out.grow g2))
    clear g2
    go_wp2_with fail
    refine KEY.out.mono ?_
    rintro e w3 ⟨rfl, g3⟩
    clear p0 p1 p2
    go_wp2_with fail
    go_ret
    exact ⟨ret_b (by rw [HB.out]; rfl), G2.out.trans g3⟩

/-- What FindData answers. -/
def FindR (D : List DD) (nm : ByteArray) (r : Int) (ok : Bool) : Prop := if datasB D = true ∧ hasB (D.map Prod.fst) nm = true then IsIx nm (D.map Prod.fst) r ∧ ok = true else r = 0 ∧ ok = false
theorem FindR.uniq {D : List DD} {nm : ByteArray} {r s : Int} {p q : Bool} (h : FindR D nm r p) (k : FindR D nm s q) : r = s ∧ p = q := by
  unfold FindR at h k
  split at h
  · rename_i hc
    rw [if_pos hc] at k
    exact ⟨h.1.uniq k.1, h.2.trans k.2.symm⟩
  · rename_i hc
    rw [if_neg hc] at k
    exact ⟨h.1.trans k.1.symm, h.2.trans k.2.symm⟩
def FindGw (D : List DD) (nm : ByteArray) (w : World) (e : Ending) (w' : World) : Prop := ∃ r ok, e = .returned (.tuple #[.int .i64 r, .bool ok]) ∧ FindR D nm r ok ∧ Gw w w'

theorem spec_fd (ds : List LD) (nm : ByteArray) (w : World) (a : Option Addr) (cap : Nat) (h : dsOk w a cap ds) : Calls Try.prog 39 #[.slice a ds.length cap, .string nm] w (FindGw (ds.map dty) nm w) := by
  have key := spec_ok ds w a cap h
  have HD := Lib.hid h
  clear h
  cases hb : datasB (ds.map dty) with
  | false =>
    rw [hb] at key
    have KEY := Lib.hid key
    have HF := Lib.hid (show FindR (ds.map dty) nm 0 false by unfold FindR; rw [if_neg (by rw [hb]; simp)]; exact ⟨rfl, rfl⟩)
    clear key hb
    go_enter Try.func39, Try.ntmps39
    go_wp2_with fail
    refine KEY.out.mono ?_
    rintro e w2 ⟨rfl, g⟩
    go_wp2_with fail
    refine bodyPost_ret (v := .tuple #[.int .i64 0, .bool false]) (by simp [results, Try.results39, go_sem]) rfl ⟨_, _, rfl, HF.out, g⟩
  | true =>
    rw [hb] at key
    have KEY := Lib.hid key
    have HB := Lib.hid hb
    clear key hb
    go_enter Try.func39, Try.ntmps39
    go_wp2_with fail
    refine KEY.out.mono ?_
    rintro e w2 ⟨rfl, g2⟩
    have HD2 := Lib.hid (dsOk.grow HD.out g2)
    have G2 := Lib.hid g2
    clear g2
    go_wp2_with fail
    refine (spec_named ds w2 a cap nm HD2.out).mono ?_
    rintro e w3 ⟨r, rfl, hr, g3⟩
    have hn := ix_neg hr
    have G3 := Lib.hid (G2.out.trans g3)
    have HD3 := Lib.hid (dsOk.grow HD2.out g3)
    clear hr g3
    cases hh : hasB (ds.map LN.n) nm with
    | false =>
      rw [hh] at hn
      have HF := Lib.hid (show FindR (ds.map dty) nm 0 false by unfold FindR; rw [fst_dty, if_neg (by rw [hh]; simp)]; exact ⟨rfl, rfl⟩)
      clear hh
      go_wp2_with fail
      refine bodyPost_ret (v := .tuple #[.int .i64 0, .bool false]) (by simp [results, Try.results39, go_sem]) rfl ⟨_, _, rfl, HF.out, G3.out⟩
    | true =>
      rw [hh] at hn
      have HH := Lib.hid hh
      clear hh
      go_wp2_with fail
      refine (spec_named ds w3 a cap nm HD3.out).mono ?_
      rintro e w4 ⟨r', rfl, hr', g4⟩
      have HR := Lib.hid hr'
      clear hr' hn
      go_wp2_with fail
      refine bodyPost_ret (v := .tuple #[.int .i64 r', .bool true]) (by simp [results, Try.results39, go_sem]) rfl ⟨_, _, rfl, by unfold FindR; rw [fst_dty, if_pos ⟨HB.out, HH.out⟩]; exact ⟨HR.out, rfl⟩, G3.out.trans g4⟩

theorem impl_fd (ds : List LD) (nm : ByteArray) (w : World) (a : Option Addr) (cap : Nat) (h : dsOk w a cap ds) : Calls Try.prog 40 #[.slice a ds.length cap, .string nm] w (FindGw (ds.map dty) nm w) := by
  have HD := Lib.hid h
  clear h
  go_enter Try.func40, Try.ntmps40
  go_wp2_with fail
  refine (impl_dataIndex ds w a cap nm HD.out).mono ?_
  rintro e w1 ⟨r, rfl, hr, g1⟩
  have hn := ix_neg hr
  have HR := Lib.hid hr
  have G1 := Lib.hid g1
  have HD1 := Lib.hid (dsOk.grow HD.out g1)
  have hb0 : r ≤ 9223372036854775807 ∧ -9223372036854775808 ≤ r := by
    have hl := Nat.le_trans HD.out.1 HD.out.2.1
    unfold maxLen at hl
    rcases hr with ⟨j, rfl, h1, _⟩ | ⟨rfl, _⟩
    · have := (List.getElem?_eq_some_iff.1 h1).1
      rw [List.length_map] at this
      omega
    · omega
  clear hr g1
  cases hh : hasB (ds.map LN.n) nm with
  | false =>
    rw [hh] at hn
    have HF := Lib.hid (show FindR (ds.map dty) nm 0 false by unfold FindR; rw [fst_dty, if_neg (by rw [hh]; simp)]; exact ⟨rfl, rfl⟩)
    clear hh
    go_wp2_with fail
    refine bodyPost_ret (v := .tuple #[.int .i64 0, .bool false]) (by simp [results, Try.results40, go_sem]) rfl ⟨_, _, rfl, HF.out, G1.out⟩
  | true =>
    rw [hh] at hn
    have HH := Lib.hid hh
    have key := impl_ok ds w1 a cap HD1.out
    clear hh
    cases hb : datasB (ds.map dty) with
    | false =>
      rw [hb] at key
      have KEY := Lib.hid key
      have HF := Lib.hid (show FindR (ds.map dty) nm 0 false by unfold FindR; rw [if_neg (by rw [hb]; simp)]; exact ⟨rfl, rfl⟩)
      clear key hb
      go_wp2_with fail
      refine KEY.out.mono ?_
      rintro e w2 ⟨rfl, g⟩
      go_wp2_with fail
      refine bodyPost_ret (v := .tuple #[.int .i64 0, .bool false]) (by simp [results, Try.results40, go_sem]) rfl ⟨_, _, rfl, HF.out, G1.out.trans g⟩
    | true =>
      rw [hb] at key
      have KEY := Lib.hid key
      have HB := Lib.hid hb
      clear key hb
      go_wp2_with fail
      refine KEY.out.mono ?_
      rintro e w2 ⟨rfl, g⟩
      go_wp2_with fail
      refine bodyPost_ret (v := .tuple #[.int .i64 r, .bool true]) (by simp [results, Try.results40, go_sem]) rfl ⟨_, _, rfl, by unfold FindR; rw [fst_dty, if_pos ⟨HB.out, HH.out⟩]; exact ⟨HR.out, rfl⟩, G1.out.trans g⟩

end Go.Proofs.Ytdlbhjkkgiaidaa.Con
