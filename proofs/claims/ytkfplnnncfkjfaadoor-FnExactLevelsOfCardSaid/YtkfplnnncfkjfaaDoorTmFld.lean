/-
  Contract of the model's l03Fields: whether the fields of a node fit its kind. No condition but that the term lies in memory.
-/
import Derived.Test.YtkfplnnncfkjfaaDoorTmSpec
import Derived.Test.YtkfplnnncfkjfaaDoorName
import Derived.Test.YtkfplnnncfkjfaaDoorTySpec
namespace Go.Proofs.YtkfplnnncfkjfaaDoor.Con
open Go.RowKit
set_option linter.unusedVariables false

theorem fld1 {k m : Int} {n : ByteArray} {t : Ty} {ns : List ByteArray} (h : nameM k n = false) : fldM k m n t ns = false := by unfold fldM; rw [h]; rfl
theorem fld2 {k m : Int} {n : ByteArray} {t : Ty} {ns : List ByteArray} (h : typeM k t = false) : fldM k m n t ns = false := by unfold fldM; rw [h]; simp
theorem fld3 {k m : Int} {n : ByteArray} {t : Ty} {ns : List ByteArray} (h : namesM k ns = false) : fldM k m n t ns = false := by unfold fldM; rw [h]; simp
theorem zero_inI (m : Int) : (m == 0) = inI m 0 0 := by
  unfold inI
  by_cases h : m = 0
  · subst h; rfl
  · have h1 : (m == 0) = false := by simpa using h
    rw [h1]
    by_cases h2 : 0 ≤ m
    · have : ¬ m ≤ 0 := by omega
      simp [this]
    · simp [h2]
theorem zero_inI' (m : Int) : decide (m = 0) = inI m 0 0 := by
  rw [← zero_inI]
  by_cases h : m = 0 <;> simp [h]
theorem fld4 {k m : Int} {n : ByteArray} {t : Ty} {ns : List ByteArray} {b : Bool} (h1 : nameM k n = true) (h2 : typeM k t = true) (h3 : namesM k ns = true) (h4 : numM k m = b) : fldM k m n t ns = b := by unfold fldM; rw [h1, h2, h3, h4]; rfl

set_option maxHeartbeats 1000000 in
theorem spec_fld_1 (u : LM) (w : World) (b o : Nat) (hk : u.k = 1) (h : tmAt w b o u) : Calls Tryd.prog 100 #[.pointer (some ⟨b, o, none⟩)] w (BoolGw (fldM u.k u.m u.n u.t.ty u.ns) w) := by
  have hn : u.n.size ≤ 9223372036854775807 := h.2.nm
  have hl : u.ns.length ≤ 9223372036854775807 := Nat.le_trans h.2.nms.1 h.2.nms.2.1
  have hnc : u.nc ≤ 9223372036854775807 := h.2.nms.2.1
  have A := Lib.hid h
  obtain ⟨p0, p1, p2, p3, p4, p5, p6, p7⟩ := h.c
  have HK := Lib.hid hk
  rw [hk] at p0 ⊢
  clear h hk
  have e1 : nameM 1 u.n = lowerB u.n := by simp [nameM]
  have e2 : typeM 1 u.t.ty = noTy u.t.ty := by simp [typeM]
  have e3 : namesM 1 u.ns = decide (u.ns.length = 0) := by simp [namesM]
  have e4 : numM 1 u.m = inI u.m 0 0 := by simp [numM]
  have E1 := Lib.hid e1
  have E2 := Lib.hid e2
  have E3 := Lib.hid e3
  have E4 := Lib.hid e4
  clear e1 e2 e3 e4
  go_enter Tryd.func100, Tryd.ntmps100
  go_wp2_with fail
  refine (spec_lower u.n hn _).mono ?_
  rintro e w1 ⟨rfl, g1⟩
  have A1 := Lib.hid (A.out.grow g1)
  have G1 := Lib.hid (Gw.trans (Gw.refl w) g1)
  clear p0 p1 p2 p3 p4 p5 p6 p7 g1
  obtain ⟨p0, p1, p2, p3, p4, p5, p6, p7⟩ := A1.out.c
  rw [HK.out] at p0
  cases hB : lowerB u.n with
  | false =>
    have F := Lib.hid (fld1 (k := 1) (m := u.m) (t := u.t.ty) (ns := u.ns) (E1.out.trans hB))
    clear hB
    go_wp2_with fail
    go_ret
    exact ⟨ret_b F.out.symm, G1.out⟩
  | true =>
    have N1 := Lib.hid (E1.out.trans hB)
    clear hB
    go_wp2_with fail
    refine (spec_noTy u.t _ A1.out.2.ty).mono ?_
    rintro e w2 ⟨rfl, g2⟩
    have A2 := Lib.hid (A1.out.grow g2)
    have G2 := Lib.hid (Gw.trans G1.out g2)
    clear p0 p1 p2 p3 p4 p5 p6 p7 g2
    obtain ⟨p0, p1, p2, p3, p4, p5, p6, p7⟩ := A2.out.c
    rw [HK.out] at p0
    cases hT : noTy u.t.ty with
    | false =>
      have F := Lib.hid (fld2 (k := 1) (m := u.m) (n := u.n) (ns := u.ns) (E2.out.trans hT))
      clear hT
      go_wp2_with fail
      go_ret
      exact ⟨ret_b F.out.symm, G2.out⟩
    | true =>
      have N2 := Lib.hid (E2.out.trans hT)
      clear hT
      by_cases hS : u.ns.length = 0
      rotate_left
      · have F := Lib.hid (fld3 (k := 1) (m := u.m) (n := u.n) (t := u.t.ty) (ns := u.ns) (E3.out.trans (decide_eq_false hS)))
        have hS2 : (0 : Int) < u.ns.length := by omega
        go_wp2_with fail
        go_ret
        exact ⟨ret_b F.out.symm, G2.out⟩
      have N3 := Lib.hid (E3.out.trans (decide_eq_true hS))
      rw [hS] at p6
      go_wp2_with fail
      go_ret
      exact ⟨ret_b (by rw [fld4 N1.out N2.out N3.out E4.out]; first | exact zero_inI _ | exact zero_inI' _), G2.out⟩

set_option maxHeartbeats 1000000 in
theorem spec_fld_2 (u : LM) (w : World) (b o : Nat) (hk : u.k = 2) (h : tmAt w b o u) : Calls Tryd.prog 100 #[.pointer (some ⟨b, o, none⟩)] w (BoolGw (fldM u.k u.m u.n u.t.ty u.ns) w) := by
  have hn : u.n.size ≤ 9223372036854775807 := h.2.nm
  have hl : u.ns.length ≤ 9223372036854775807 := Nat.le_trans h.2.nms.1 h.2.nms.2.1
  have hnc : u.nc ≤ 9223372036854775807 := h.2.nms.2.1
  have A := Lib.hid h
  obtain ⟨p0, p1, p2, p3, p4, p5, p6, p7⟩ := h.c
  have HK := Lib.hid hk
  rw [hk] at p0 ⊢
  clear h hk
  have e1 : nameM 2 u.n = u.n.toList.isEmpty := by simp [nameM]
  have e2 : typeM 2 u.t.ty = noTy u.t.ty := by simp [typeM]
  have e3 : namesM 2 u.ns = decide (u.ns.length = 0) := by simp [namesM]
  have e4 : numM 2 u.m = inI u.m (-2147483648) 2147483647 := by simp [numM]
  have E1 := Lib.hid e1
  have E2 := Lib.hid e2
  have E3 := Lib.hid e3
  have E4 := Lib.hid e4
  clear e1 e2 e3 e4
  cases hB : u.n.toList.isEmpty with
  | false =>
    have F := Lib.hid (fld1 (k := 2) (m := u.m) (t := u.t.ty) (ns := u.ns) (E1.out.trans hB))
    go_enter Tryd.func100, Tryd.ntmps100
    go_wp2_with fail
    go_ret
    exact ⟨ret_b F.out.symm, Gw.refl _⟩
  | true =>
    have N1 := Lib.hid (E1.out.trans hB)
    go_enter Tryd.func100, Tryd.ntmps100
    go_wp2_with fail
    refine (spec_noTy u.t _ A.out.2.ty).mono ?_
    rintro e w1 ⟨rfl, g1⟩
    have A1 := Lib.hid (A.out.grow g1)
    have G1 := Lib.hid (Gw.trans (Gw.refl w) g1)
    clear p0 p1 p2 p3 p4 p5 p6 p7 g1
    obtain ⟨p0, p1, p2, p3, p4, p5, p6, p7⟩ := A1.out.c
    rw [HK.out] at p0
    cases hT : noTy u.t.ty with
    | false =>
      have F := Lib.hid (fld2 (k := 2) (m := u.m) (n := u.n) (ns := u.ns) (E2.out.trans hT))
      clear hT
      go_wp2_with fail
      go_ret
      exact ⟨ret_b F.out.symm, G1.out⟩
    | true =>
      have N2 := Lib.hid (E2.out.trans hT)
      clear hT
      by_cases hS : u.ns.length = 0
      rotate_left
      · have F := Lib.hid (fld3 (k := 2) (m := u.m) (n := u.n) (t := u.t.ty) (ns := u.ns) (E3.out.trans (decide_eq_false hS)))
        have hS2 : (0 : Int) < u.ns.length := by omega
        go_wp2_with fail
        go_ret
        exact ⟨ret_b F.out.symm, G1.out⟩
      have N3 := Lib.hid (E3.out.trans (decide_eq_true hS))
      rw [hS] at p6
      go_wp2_with fail
      refine (spec_inI u.m (-2147483648) 2147483647 _).mono ?_
      rintro e w2 ⟨rfl, g2⟩
      go_wp2_with fail
      go_ret
      exact ⟨ret_b (fld4 N1.out N2.out N3.out E4.out).symm, Gw.trans G1.out g2⟩

set_option maxHeartbeats 1000000 in
theorem spec_fld_3 (u : LM) (w : World) (b o : Nat) (hk : u.k = 3) (h : tmAt w b o u) : Calls Tryd.prog 100 #[.pointer (some ⟨b, o, none⟩)] w (BoolGw (fldM u.k u.m u.n u.t.ty u.ns) w) := by
  have hn : u.n.size ≤ 9223372036854775807 := h.2.nm
  have hl : u.ns.length ≤ 9223372036854775807 := Nat.le_trans h.2.nms.1 h.2.nms.2.1
  have hnc : u.nc ≤ 9223372036854775807 := h.2.nms.2.1
  have A := Lib.hid h
  obtain ⟨p0, p1, p2, p3, p4, p5, p6, p7⟩ := h.c
  have HK := Lib.hid hk
  rw [hk] at p0 ⊢
  clear h hk
  have e1 : nameM 3 u.n = u.n.toList.isEmpty := by simp [nameM]
  have e2 : typeM 3 u.t.ty = noTy u.t.ty := by simp [typeM]
  have e3 : namesM 3 u.ns = decide (u.ns.length = 0) := by simp [namesM]
  have e4 : numM 3 u.m = inI u.m 1 6 := by simp [numM]
  have E1 := Lib.hid e1
  have E2 := Lib.hid e2
  have E3 := Lib.hid e3
  have E4 := Lib.hid e4
  clear e1 e2 e3 e4
  cases hB : u.n.toList.isEmpty with
  | false =>
    have F := Lib.hid (fld1 (k := 3) (m := u.m) (t := u.t.ty) (ns := u.ns) (E1.out.trans hB))
    go_enter Tryd.func100, Tryd.ntmps100
    go_wp2_with fail
    go_ret
    exact ⟨ret_b F.out.symm, Gw.refl _⟩
  | true =>
    have N1 := Lib.hid (E1.out.trans hB)
    go_enter Tryd.func100, Tryd.ntmps100
    go_wp2_with fail
    refine (spec_noTy u.t _ A.out.2.ty).mono ?_
    rintro e w1 ⟨rfl, g1⟩
    have A1 := Lib.hid (A.out.grow g1)
    have G1 := Lib.hid (Gw.trans (Gw.refl w) g1)
    clear p0 p1 p2 p3 p4 p5 p6 p7 g1
    obtain ⟨p0, p1, p2, p3, p4, p5, p6, p7⟩ := A1.out.c
    rw [HK.out] at p0
    cases hT : noTy u.t.ty with
    | false =>
      have F := Lib.hid (fld2 (k := 3) (m := u.m) (n := u.n) (ns := u.ns) (E2.out.trans hT))
      clear hT
      go_wp2_with fail
      go_ret
      exact ⟨ret_b F.out.symm, G1.out⟩
    | true =>
      have N2 := Lib.hid (E2.out.trans hT)
      clear hT
      by_cases hS : u.ns.length = 0
      rotate_left
      · have F := Lib.hid (fld3 (k := 3) (m := u.m) (n := u.n) (t := u.t.ty) (ns := u.ns) (E3.out.trans (decide_eq_false hS)))
        have hS2 : (0 : Int) < u.ns.length := by omega
        go_wp2_with fail
        go_ret
        exact ⟨ret_b F.out.symm, G1.out⟩
      have N3 := Lib.hid (E3.out.trans (decide_eq_true hS))
      rw [hS] at p6
      go_wp2_with fail
      refine (spec_inI u.m 1 6 _).mono ?_
      rintro e w2 ⟨rfl, g2⟩
      go_wp2_with fail
      go_ret
      exact ⟨ret_b (fld4 N1.out N2.out N3.out E4.out).symm, Gw.trans G1.out g2⟩

set_option maxHeartbeats 1000000 in
theorem spec_fld_4 (u : LM) (w : World) (b o : Nat) (hk : u.k = 4) (h : tmAt w b o u) : Calls Tryd.prog 100 #[.pointer (some ⟨b, o, none⟩)] w (BoolGw (fldM u.k u.m u.n u.t.ty u.ns) w) := by
  have hn : u.n.size ≤ 9223372036854775807 := h.2.nm
  have hl : u.ns.length ≤ 9223372036854775807 := Nat.le_trans h.2.nms.1 h.2.nms.2.1
  have hnc : u.nc ≤ 9223372036854775807 := h.2.nms.2.1
  have A := Lib.hid h
  obtain ⟨p0, p1, p2, p3, p4, p5, p6, p7⟩ := h.c
  have HK := Lib.hid hk
  rw [hk] at p0 ⊢
  clear h hk
  have e1 : nameM 4 u.n = lowerB u.n := by simp [nameM]
  have e2 : typeM 4 u.t.ty = validB u.t.ty := by simp [typeM]
  have e3 : namesM 4 u.ns = decide (u.ns.length = 0) := by simp [namesM]
  have e4 : numM 4 u.m = inI u.m 0 0 := by simp [numM]
  have E1 := Lib.hid e1
  have E2 := Lib.hid e2
  have E3 := Lib.hid e3
  have E4 := Lib.hid e4
  clear e1 e2 e3 e4
  go_enter Tryd.func100, Tryd.ntmps100
  go_wp2_with fail
  refine (spec_lower u.n hn _).mono ?_
  rintro e w1 ⟨rfl, g1⟩
  have A1 := Lib.hid (A.out.grow g1)
  have G1 := Lib.hid (Gw.trans (Gw.refl w) g1)
  clear p0 p1 p2 p3 p4 p5 p6 p7 g1
  obtain ⟨p0, p1, p2, p3, p4, p5, p6, p7⟩ := A1.out.c
  rw [HK.out] at p0
  cases hB : lowerB u.n with
  | false =>
    have F := Lib.hid (fld1 (k := 4) (m := u.m) (t := u.t.ty) (ns := u.ns) (E1.out.trans hB))
    clear hB
    go_wp2_with fail
    go_ret
    exact ⟨ret_b F.out.symm, G1.out⟩
  | true =>
    have N1 := Lib.hid (E1.out.trans hB)
    clear hB
    go_wp2_with fail
    refine (spec_valid u.t _ A1.out.2.ty).mono ?_
    rintro e w2 ⟨rfl, g2⟩
    have A2 := Lib.hid (A1.out.grow g2)
    have G2 := Lib.hid (Gw.trans G1.out g2)
    clear p0 p1 p2 p3 p4 p5 p6 p7 g2
    obtain ⟨p0, p1, p2, p3, p4, p5, p6, p7⟩ := A2.out.c
    rw [HK.out] at p0
    cases hT : validB u.t.ty with
    | false =>
      have F := Lib.hid (fld2 (k := 4) (m := u.m) (n := u.n) (ns := u.ns) (E2.out.trans hT))
      clear hT
      go_wp2_with fail
      go_ret
      exact ⟨ret_b F.out.symm, G2.out⟩
    | true =>
      have N2 := Lib.hid (E2.out.trans hT)
      clear hT
      by_cases hS : u.ns.length = 0
      rotate_left
      · have F := Lib.hid (fld3 (k := 4) (m := u.m) (n := u.n) (t := u.t.ty) (ns := u.ns) (E3.out.trans (decide_eq_false hS)))
        have hS2 : (0 : Int) < u.ns.length := by omega
        go_wp2_with fail
        go_ret
        exact ⟨ret_b F.out.symm, G2.out⟩
      have N3 := Lib.hid (E3.out.trans (decide_eq_true hS))
      rw [hS] at p6
      go_wp2_with fail
      go_ret
      exact ⟨ret_b (by rw [fld4 N1.out N2.out N3.out E4.out]; first | exact zero_inI _ | exact zero_inI' _), G2.out⟩

set_option maxHeartbeats 1000000 in
theorem spec_fld_5 (u : LM) (w : World) (b o : Nat) (hk : u.k = 5) (h : tmAt w b o u) : Calls Tryd.prog 100 #[.pointer (some ⟨b, o, none⟩)] w (BoolGw (fldM u.k u.m u.n u.t.ty u.ns) w) := by
  have hn : u.n.size ≤ 9223372036854775807 := h.2.nm
  have hl : u.ns.length ≤ 9223372036854775807 := Nat.le_trans h.2.nms.1 h.2.nms.2.1
  have hnc : u.nc ≤ 9223372036854775807 := h.2.nms.2.1
  have A := Lib.hid h
  obtain ⟨p0, p1, p2, p3, p4, p5, p6, p7⟩ := h.c
  have HK := Lib.hid hk
  rw [hk] at p0 ⊢
  clear h hk
  have e1 : nameM 5 u.n = u.n.toList.isEmpty := by simp [nameM]
  have e2 : typeM 5 u.t.ty = noTy u.t.ty := by simp [typeM]
  have e3 : namesM 5 u.ns = decide (u.ns.length = 0) := by simp [namesM]
  have e4 : numM 5 u.m = inI u.m 0 0 := by simp [numM]
  have E1 := Lib.hid e1
  have E2 := Lib.hid e2
  have E3 := Lib.hid e3
  have E4 := Lib.hid e4
  clear e1 e2 e3 e4
  cases hB : u.n.toList.isEmpty with
  | false =>
    have F := Lib.hid (fld1 (k := 5) (m := u.m) (t := u.t.ty) (ns := u.ns) (E1.out.trans hB))
    go_enter Tryd.func100, Tryd.ntmps100
    go_wp2_with fail
    go_ret
    exact ⟨ret_b F.out.symm, Gw.refl _⟩
  | true =>
    have N1 := Lib.hid (E1.out.trans hB)
    go_enter Tryd.func100, Tryd.ntmps100
    go_wp2_with fail
    refine (spec_noTy u.t _ A.out.2.ty).mono ?_
    rintro e w1 ⟨rfl, g1⟩
    have A1 := Lib.hid (A.out.grow g1)
    have G1 := Lib.hid (Gw.trans (Gw.refl w) g1)
    clear p0 p1 p2 p3 p4 p5 p6 p7 g1
    obtain ⟨p0, p1, p2, p3, p4, p5, p6, p7⟩ := A1.out.c
    rw [HK.out] at p0
    cases hT : noTy u.t.ty with
    | false =>
      have F := Lib.hid (fld2 (k := 5) (m := u.m) (n := u.n) (ns := u.ns) (E2.out.trans hT))
      clear hT
      go_wp2_with fail
      go_ret
      exact ⟨ret_b F.out.symm, G1.out⟩
    | true =>
      have N2 := Lib.hid (E2.out.trans hT)
      clear hT
      by_cases hS : u.ns.length = 0
      rotate_left
      · have F := Lib.hid (fld3 (k := 5) (m := u.m) (n := u.n) (t := u.t.ty) (ns := u.ns) (E3.out.trans (decide_eq_false hS)))
        have hS2 : (0 : Int) < u.ns.length := by omega
        go_wp2_with fail
        go_ret
        exact ⟨ret_b F.out.symm, G1.out⟩
      have N3 := Lib.hid (E3.out.trans (decide_eq_true hS))
      rw [hS] at p6
      go_wp2_with fail
      go_ret
      exact ⟨ret_b (by rw [fld4 N1.out N2.out N3.out E4.out]; first | exact zero_inI _ | exact zero_inI' _), G1.out⟩

set_option maxHeartbeats 1000000 in
theorem spec_fld_6 (u : LM) (w : World) (b o : Nat) (hk : u.k = 6) (h : tmAt w b o u) : Calls Tryd.prog 100 #[.pointer (some ⟨b, o, none⟩)] w (BoolGw (fldM u.k u.m u.n u.t.ty u.ns) w) := by
  have hn : u.n.size ≤ 9223372036854775807 := h.2.nm
  have hl : u.ns.length ≤ 9223372036854775807 := Nat.le_trans h.2.nms.1 h.2.nms.2.1
  have hnc : u.nc ≤ 9223372036854775807 := h.2.nms.2.1
  have A := Lib.hid h
  obtain ⟨p0, p1, p2, p3, p4, p5, p6, p7⟩ := h.c
  have HK := Lib.hid hk
  rw [hk] at p0 ⊢
  clear h hk
  have e1 : nameM 6 u.n = u.n.toList.isEmpty := by simp [nameM]
  have e2 : typeM 6 u.t.ty = noTy u.t.ty := by simp [typeM]
  have e3 : namesM 6 u.ns = decide (u.ns.length = 0) := by simp [namesM]
  have e4 : numM 6 u.m = inI u.m 0 0 := by simp [numM]
  have E1 := Lib.hid e1
  have E2 := Lib.hid e2
  have E3 := Lib.hid e3
  have E4 := Lib.hid e4
  clear e1 e2 e3 e4
  cases hB : u.n.toList.isEmpty with
  | false =>
    have F := Lib.hid (fld1 (k := 6) (m := u.m) (t := u.t.ty) (ns := u.ns) (E1.out.trans hB))
    go_enter Tryd.func100, Tryd.ntmps100
    go_wp2_with fail
    go_ret
    exact ⟨ret_b F.out.symm, Gw.refl _⟩
  | true =>
    have N1 := Lib.hid (E1.out.trans hB)
    go_enter Tryd.func100, Tryd.ntmps100
    go_wp2_with fail
    refine (spec_noTy u.t _ A.out.2.ty).mono ?_
    rintro e w1 ⟨rfl, g1⟩
    have A1 := Lib.hid (A.out.grow g1)
    have G1 := Lib.hid (Gw.trans (Gw.refl w) g1)
    clear p0 p1 p2 p3 p4 p5 p6 p7 g1
    obtain ⟨p0, p1, p2, p3, p4, p5, p6, p7⟩ := A1.out.c
    rw [HK.out] at p0
    cases hT : noTy u.t.ty with
    | false =>
      have F := Lib.hid (fld2 (k := 6) (m := u.m) (n := u.n) (ns := u.ns) (E2.out.trans hT))
      clear hT
      go_wp2_with fail
      go_ret
      exact ⟨ret_b F.out.symm, G1.out⟩
    | true =>
      have N2 := Lib.hid (E2.out.trans hT)
      clear hT
      by_cases hS : u.ns.length = 0
      rotate_left
      · have F := Lib.hid (fld3 (k := 6) (m := u.m) (n := u.n) (t := u.t.ty) (ns := u.ns) (E3.out.trans (decide_eq_false hS)))
        have hS2 : (0 : Int) < u.ns.length := by omega
        go_wp2_with fail
        go_ret
        exact ⟨ret_b F.out.symm, G1.out⟩
      have N3 := Lib.hid (E3.out.trans (decide_eq_true hS))
      rw [hS] at p6
      go_wp2_with fail
      go_ret
      exact ⟨ret_b (by rw [fld4 N1.out N2.out N3.out E4.out]; first | exact zero_inI _ | exact zero_inI' _), G1.out⟩

set_option maxHeartbeats 1000000 in
theorem spec_fld_7 (u : LM) (w : World) (b o : Nat) (hk : u.k = 7) (h : tmAt w b o u) : Calls Tryd.prog 100 #[.pointer (some ⟨b, o, none⟩)] w (BoolGw (fldM u.k u.m u.n u.t.ty u.ns) w) := by
  have hn : u.n.size ≤ 9223372036854775807 := h.2.nm
  have hl : u.ns.length ≤ 9223372036854775807 := Nat.le_trans h.2.nms.1 h.2.nms.2.1
  have hnc : u.nc ≤ 9223372036854775807 := h.2.nms.2.1
  have A := Lib.hid h
  obtain ⟨p0, p1, p2, p3, p4, p5, p6, p7⟩ := h.c
  have HK := Lib.hid hk
  rw [hk] at p0 ⊢
  clear h hk
  have e1 : nameM 7 u.n = lowerB u.n := by simp [nameM]
  have e2 : typeM 7 u.t.ty = noTy u.t.ty := by simp [typeM]
  have e3 : namesM 7 u.ns = decide (u.ns.length = 0) := by simp [namesM]
  have e4 : numM 7 u.m = inI u.m 0 0 := by simp [numM]
  have E1 := Lib.hid e1
  have E2 := Lib.hid e2
  have E3 := Lib.hid e3
  have E4 := Lib.hid e4
  clear e1 e2 e3 e4
  go_enter Tryd.func100, Tryd.ntmps100
  go_wp2_with fail
  refine (spec_lower u.n hn _).mono ?_
  rintro e w1 ⟨rfl, g1⟩
  have A1 := Lib.hid (A.out.grow g1)
  have G1 := Lib.hid (Gw.trans (Gw.refl w) g1)
  clear p0 p1 p2 p3 p4 p5 p6 p7 g1
  obtain ⟨p0, p1, p2, p3, p4, p5, p6, p7⟩ := A1.out.c
  rw [HK.out] at p0
  cases hB : lowerB u.n with
  | false =>
    have F := Lib.hid (fld1 (k := 7) (m := u.m) (t := u.t.ty) (ns := u.ns) (E1.out.trans hB))
    clear hB
    go_wp2_with fail
    go_ret
    exact ⟨ret_b F.out.symm, G1.out⟩
  | true =>
    have N1 := Lib.hid (E1.out.trans hB)
    clear hB
    go_wp2_with fail
    refine (spec_noTy u.t _ A1.out.2.ty).mono ?_
    rintro e w2 ⟨rfl, g2⟩
    have A2 := Lib.hid (A1.out.grow g2)
    have G2 := Lib.hid (Gw.trans G1.out g2)
    clear p0 p1 p2 p3 p4 p5 p6 p7 g2
    obtain ⟨p0, p1, p2, p3, p4, p5, p6, p7⟩ := A2.out.c
    rw [HK.out] at p0
    cases hT : noTy u.t.ty with
    | false =>
      have F := Lib.hid (fld2 (k := 7) (m := u.m) (n := u.n) (ns := u.ns) (E2.out.trans hT))
      clear hT
      go_wp2_with fail
      go_ret
      exact ⟨ret_b F.out.symm, G2.out⟩
    | true =>
      have N2 := Lib.hid (E2.out.trans hT)
      clear hT
      by_cases hS : u.ns.length = 0
      rotate_left
      · have F := Lib.hid (fld3 (k := 7) (m := u.m) (n := u.n) (t := u.t.ty) (ns := u.ns) (E3.out.trans (decide_eq_false hS)))
        have hS2 : (0 : Int) < u.ns.length := by omega
        go_wp2_with fail
        go_ret
        exact ⟨ret_b F.out.symm, G2.out⟩
      have N3 := Lib.hid (E3.out.trans (decide_eq_true hS))
      rw [hS] at p6
      go_wp2_with fail
      go_ret
      exact ⟨ret_b (by rw [fld4 N1.out N2.out N3.out E4.out]; first | exact zero_inI _ | exact zero_inI' _), G2.out⟩

set_option maxHeartbeats 1000000 in
theorem spec_fld_8 (u : LM) (w : World) (b o : Nat) (hk : u.k = 8) (h : tmAt w b o u) : Calls Tryd.prog 100 #[.pointer (some ⟨b, o, none⟩)] w (BoolGw (fldM u.k u.m u.n u.t.ty u.ns) w) := by
  have hn : u.n.size ≤ 9223372036854775807 := h.2.nm
  have hl : u.ns.length ≤ 9223372036854775807 := Nat.le_trans h.2.nms.1 h.2.nms.2.1
  have hnc : u.nc ≤ 9223372036854775807 := h.2.nms.2.1
  have A := Lib.hid h
  obtain ⟨p0, p1, p2, p3, p4, p5, p6, p7⟩ := h.c
  have HK := Lib.hid hk
  rw [hk] at p0 ⊢
  clear h hk
  have e1 : nameM 8 u.n = upperB u.n := by simp [nameM]
  have e2 : typeM 8 u.t.ty = noTy u.t.ty := by simp [typeM]
  have e3 : namesM 8 u.ns = decide (u.ns.length = 0) := by simp [namesM]
  have e4 : numM 8 u.m = inI u.m 0 0 := by simp [numM]
  have E1 := Lib.hid e1
  have E2 := Lib.hid e2
  have E3 := Lib.hid e3
  have E4 := Lib.hid e4
  clear e1 e2 e3 e4
  go_enter Tryd.func100, Tryd.ntmps100
  go_wp2_with fail
  refine (spec_upper u.n hn _).mono ?_
  rintro e w1 ⟨rfl, g1⟩
  have A1 := Lib.hid (A.out.grow g1)
  have G1 := Lib.hid (Gw.trans (Gw.refl w) g1)
  clear p0 p1 p2 p3 p4 p5 p6 p7 g1
  obtain ⟨p0, p1, p2, p3, p4, p5, p6, p7⟩ := A1.out.c
  rw [HK.out] at p0
  cases hB : upperB u.n with
  | false =>
    have F := Lib.hid (fld1 (k := 8) (m := u.m) (t := u.t.ty) (ns := u.ns) (E1.out.trans hB))
    clear hB
    go_wp2_with fail
    go_ret
    exact ⟨ret_b F.out.symm, G1.out⟩
  | true =>
    have N1 := Lib.hid (E1.out.trans hB)
    clear hB
    go_wp2_with fail
    refine (spec_noTy u.t _ A1.out.2.ty).mono ?_
    rintro e w2 ⟨rfl, g2⟩
    have A2 := Lib.hid (A1.out.grow g2)
    have G2 := Lib.hid (Gw.trans G1.out g2)
    clear p0 p1 p2 p3 p4 p5 p6 p7 g2
    obtain ⟨p0, p1, p2, p3, p4, p5, p6, p7⟩ := A2.out.c
    rw [HK.out] at p0
    cases hT : noTy u.t.ty with
    | false =>
      have F := Lib.hid (fld2 (k := 8) (m := u.m) (n := u.n) (ns := u.ns) (E2.out.trans hT))
      clear hT
      go_wp2_with fail
      go_ret
      exact ⟨ret_b F.out.symm, G2.out⟩
    | true =>
      have N2 := Lib.hid (E2.out.trans hT)
      clear hT
      by_cases hS : u.ns.length = 0
      rotate_left
      · have F := Lib.hid (fld3 (k := 8) (m := u.m) (n := u.n) (t := u.t.ty) (ns := u.ns) (E3.out.trans (decide_eq_false hS)))
        have hS2 : (0 : Int) < u.ns.length := by omega
        go_wp2_with fail
        go_ret
        exact ⟨ret_b F.out.symm, G2.out⟩
      have N3 := Lib.hid (E3.out.trans (decide_eq_true hS))
      rw [hS] at p6
      go_wp2_with fail
      go_ret
      exact ⟨ret_b (by rw [fld4 N1.out N2.out N3.out E4.out]; first | exact zero_inI _ | exact zero_inI' _), G2.out⟩

set_option maxHeartbeats 1000000 in
theorem spec_fld_9 (u : LM) (w : World) (b o : Nat) (hk : u.k = 9) (h : tmAt w b o u) : Calls Tryd.prog 100 #[.pointer (some ⟨b, o, none⟩)] w (BoolGw (fldM u.k u.m u.n u.t.ty u.ns) w) := by
  have hn : u.n.size ≤ 9223372036854775807 := h.2.nm
  have hl : u.ns.length ≤ 9223372036854775807 := Nat.le_trans h.2.nms.1 h.2.nms.2.1
  have hnc : u.nc ≤ 9223372036854775807 := h.2.nms.2.1
  have A := Lib.hid h
  obtain ⟨p0, p1, p2, p3, p4, p5, p6, p7⟩ := h.c
  have HK := Lib.hid hk
  rw [hk] at p0 ⊢
  clear h hk
  have e1 : nameM 9 u.n = u.n.toList.isEmpty := by simp [nameM]
  have e2 : typeM 9 u.t.ty = noTy u.t.ty := by simp [typeM]
  have e3 : namesM 9 u.ns = decide (u.ns.length = 0) := by simp [namesM]
  have e4 : numM 9 u.m = inI u.m 0 0 := by simp [numM]
  have E1 := Lib.hid e1
  have E2 := Lib.hid e2
  have E3 := Lib.hid e3
  have E4 := Lib.hid e4
  clear e1 e2 e3 e4
  cases hB : u.n.toList.isEmpty with
  | false =>
    have F := Lib.hid (fld1 (k := 9) (m := u.m) (t := u.t.ty) (ns := u.ns) (E1.out.trans hB))
    go_enter Tryd.func100, Tryd.ntmps100
    go_wp2_with fail
    go_ret
    exact ⟨ret_b F.out.symm, Gw.refl _⟩
  | true =>
    have N1 := Lib.hid (E1.out.trans hB)
    go_enter Tryd.func100, Tryd.ntmps100
    go_wp2_with fail
    refine (spec_noTy u.t _ A.out.2.ty).mono ?_
    rintro e w1 ⟨rfl, g1⟩
    have A1 := Lib.hid (A.out.grow g1)
    have G1 := Lib.hid (Gw.trans (Gw.refl w) g1)
    clear p0 p1 p2 p3 p4 p5 p6 p7 g1
    obtain ⟨p0, p1, p2, p3, p4, p5, p6, p7⟩ := A1.out.c
    rw [HK.out] at p0
    cases hT : noTy u.t.ty with
    | false =>
      have F := Lib.hid (fld2 (k := 9) (m := u.m) (n := u.n) (ns := u.ns) (E2.out.trans hT))
      clear hT
      go_wp2_with fail
      go_ret
      exact ⟨ret_b F.out.symm, G1.out⟩
    | true =>
      have N2 := Lib.hid (E2.out.trans hT)
      clear hT
      by_cases hS : u.ns.length = 0
      rotate_left
      · have F := Lib.hid (fld3 (k := 9) (m := u.m) (n := u.n) (t := u.t.ty) (ns := u.ns) (E3.out.trans (decide_eq_false hS)))
        have hS2 : (0 : Int) < u.ns.length := by omega
        go_wp2_with fail
        go_ret
        exact ⟨ret_b F.out.symm, G1.out⟩
      have N3 := Lib.hid (E3.out.trans (decide_eq_true hS))
      rw [hS] at p6
      go_wp2_with fail
      go_ret
      exact ⟨ret_b (by rw [fld4 N1.out N2.out N3.out E4.out]; first | exact zero_inI _ | exact zero_inI' _), G1.out⟩

set_option maxHeartbeats 1000000 in
theorem spec_fld_10 (u : LM) (w : World) (b o : Nat) (hk : u.k = 10) (h : tmAt w b o u) : Calls Tryd.prog 100 #[.pointer (some ⟨b, o, none⟩)] w (BoolGw (fldM u.k u.m u.n u.t.ty u.ns) w) := by
  have hn : u.n.size ≤ 9223372036854775807 := h.2.nm
  have hl : u.ns.length ≤ 9223372036854775807 := Nat.le_trans h.2.nms.1 h.2.nms.2.1
  have hnc : u.nc ≤ 9223372036854775807 := h.2.nms.2.1
  have A := Lib.hid h
  obtain ⟨p0, p1, p2, p3, p4, p5, p6, p7⟩ := h.c
  have HK := Lib.hid hk
  rw [hk] at p0 ⊢
  clear h hk
  have e1 : nameM 10 u.n = upperB u.n := by simp [nameM]
  have e2 : typeM 10 u.t.ty = noTy u.t.ty := by simp [typeM]
  have e3 : namesM 10 u.ns = (decide (u.ns.length ≤ 3) && distB u.ns) := by simp [namesM]
  have e4 : numM 10 u.m = inI u.m 0 0 := by simp [numM]
  have E1 := Lib.hid e1
  have E2 := Lib.hid e2
  have E3 := Lib.hid e3
  have E4 := Lib.hid e4
  clear e1 e2 e3 e4
  go_enter Tryd.func100, Tryd.ntmps100
  go_wp2_with fail
  refine (spec_upper u.n hn _).mono ?_
  rintro e w1 ⟨rfl, g1⟩
  have A1 := Lib.hid (A.out.grow g1)
  have G1 := Lib.hid (Gw.trans (Gw.refl w) g1)
  clear p0 p1 p2 p3 p4 p5 p6 p7 g1
  obtain ⟨p0, p1, p2, p3, p4, p5, p6, p7⟩ := A1.out.c
  rw [HK.out] at p0
  cases hB : upperB u.n with
  | false =>
    have F := Lib.hid (fld1 (k := 10) (m := u.m) (t := u.t.ty) (ns := u.ns) (E1.out.trans hB))
    clear hB
    go_wp2_with fail
    go_ret
    exact ⟨ret_b F.out.symm, G1.out⟩
  | true =>
    have N1 := Lib.hid (E1.out.trans hB)
    clear hB
    go_wp2_with fail
    refine (spec_noTy u.t _ A1.out.2.ty).mono ?_
    rintro e w2 ⟨rfl, g2⟩
    have A2 := Lib.hid (A1.out.grow g2)
    have G2 := Lib.hid (Gw.trans G1.out g2)
    clear p0 p1 p2 p3 p4 p5 p6 p7 g2
    obtain ⟨p0, p1, p2, p3, p4, p5, p6, p7⟩ := A2.out.c
    rw [HK.out] at p0
    cases hT : noTy u.t.ty with
    | false =>
      have F := Lib.hid (fld2 (k := 10) (m := u.m) (n := u.n) (ns := u.ns) (E2.out.trans hT))
      clear hT
      go_wp2_with fail
      go_ret
      exact ⟨ret_b F.out.symm, G2.out⟩
    | true =>
      have N2 := Lib.hid (E2.out.trans hT)
      clear hT
      by_cases hS : u.ns.length ≤ 3
      rotate_left
      · have F := Lib.hid (fld3 (k := 10) (m := u.m) (n := u.n) (t := u.t.ty) (ns := u.ns) (E3.out.trans (by rw [decide_eq_false hS]; rfl)))
        go_wp2_with fail
        go_ret
        exact ⟨ret_b F.out.symm, G2.out⟩
      have hD3 : decide (u.ns.length ≤ 3) = true := decide_eq_true hS
      have D3 := Lib.hid hD3
      clear hD3
      go_wp2_with fail
      refine (spec_dist u.ns _ u.na u.nc A2.out.2.nms).mono ?_
      rintro e w3 ⟨rfl, g3⟩
      have A3 := Lib.hid (A2.out.grow g3)
      have G3 := Lib.hid (Gw.trans G2.out g3)
      clear p0 p1 p2 p3 p4 p5 p6 p7 g3
      obtain ⟨p0, p1, p2, p3, p4, p5, p6, p7⟩ := A3.out.c
      rw [HK.out] at p0
      cases hD : distB u.ns with
      | false =>
        have F := Lib.hid (fld3 (k := 10) (m := u.m) (n := u.n) (t := u.t.ty) (ns := u.ns) (E3.out.trans (by simp [D3.out, hD])))
        clear hD
        go_wp2_with fail
        go_ret
        exact ⟨ret_b F.out.symm, G3.out⟩
      | true =>
        have N3 := Lib.hid (show namesM 10 u.ns = true from E3.out.trans (by simp [D3.out, hD]))
        clear hD
        go_wp2_with fail
        go_ret
        exact ⟨ret_b (by rw [fld4 N1.out N2.out N3.out E4.out]; first | exact zero_inI _ | exact zero_inI' _), G3.out⟩

set_option maxHeartbeats 1000000 in
theorem spec_fld_11 (u : LM) (w : World) (b o : Nat) (hk : u.k = 11) (h : tmAt w b o u) : Calls Tryd.prog 100 #[.pointer (some ⟨b, o, none⟩)] w (BoolGw (fldM u.k u.m u.n u.t.ty u.ns) w) := by
  have hn : u.n.size ≤ 9223372036854775807 := h.2.nm
  have hl : u.ns.length ≤ 9223372036854775807 := Nat.le_trans h.2.nms.1 h.2.nms.2.1
  have hnc : u.nc ≤ 9223372036854775807 := h.2.nms.2.1
  have A := Lib.hid h
  obtain ⟨p0, p1, p2, p3, p4, p5, p6, p7⟩ := h.c
  have HK := Lib.hid hk
  rw [hk] at p0 ⊢
  clear h hk
  have e1 : nameM 11 u.n = u.n.toList.isEmpty := by simp [nameM]
  have e2 : typeM 11 u.t.ty = noTy u.t.ty := by simp [typeM]
  have e3 : namesM 11 u.ns = decide (u.ns.length = 0) := by simp [namesM]
  have e4 : numM 11 u.m = inI u.m 0 0 := by simp [numM]
  have E1 := Lib.hid e1
  have E2 := Lib.hid e2
  have E3 := Lib.hid e3
  have E4 := Lib.hid e4
  clear e1 e2 e3 e4
  cases hB : u.n.toList.isEmpty with
  | false =>
    have F := Lib.hid (fld1 (k := 11) (m := u.m) (t := u.t.ty) (ns := u.ns) (E1.out.trans hB))
    go_enter Tryd.func100, Tryd.ntmps100
    go_wp2_with fail
    go_ret
    exact ⟨ret_b F.out.symm, Gw.refl _⟩
  | true =>
    have N1 := Lib.hid (E1.out.trans hB)
    go_enter Tryd.func100, Tryd.ntmps100
    go_wp2_with fail
    refine (spec_noTy u.t _ A.out.2.ty).mono ?_
    rintro e w1 ⟨rfl, g1⟩
    have A1 := Lib.hid (A.out.grow g1)
    have G1 := Lib.hid (Gw.trans (Gw.refl w) g1)
    clear p0 p1 p2 p3 p4 p5 p6 p7 g1
    obtain ⟨p0, p1, p2, p3, p4, p5, p6, p7⟩ := A1.out.c
    rw [HK.out] at p0
    cases hT : noTy u.t.ty with
    | false =>
      have F := Lib.hid (fld2 (k := 11) (m := u.m) (n := u.n) (ns := u.ns) (E2.out.trans hT))
      clear hT
      go_wp2_with fail
      go_ret
      exact ⟨ret_b F.out.symm, G1.out⟩
    | true =>
      have N2 := Lib.hid (E2.out.trans hT)
      clear hT
      by_cases hS : u.ns.length = 0
      rotate_left
      · have F := Lib.hid (fld3 (k := 11) (m := u.m) (n := u.n) (t := u.t.ty) (ns := u.ns) (E3.out.trans (decide_eq_false hS)))
        have hS2 : (0 : Int) < u.ns.length := by omega
        go_wp2_with fail
        go_ret
        exact ⟨ret_b F.out.symm, G1.out⟩
      have N3 := Lib.hid (E3.out.trans (decide_eq_true hS))
      rw [hS] at p6
      go_wp2_with fail
      go_ret
      exact ⟨ret_b (by rw [fld4 N1.out N2.out N3.out E4.out]; first | exact zero_inI _ | exact zero_inI' _), G1.out⟩

theorem spec_fld (u : LM) (w : World) (b o : Nat) (h1 : 1 ≤ u.k) (h2 : u.k ≤ 11) (h : tmAt w b o u) : Calls Tryd.prog 100 #[.pointer (some ⟨b, o, none⟩)] w (BoolGw (fldM u.k u.m u.n u.t.ty u.ns) w) := by
  by_cases h1' : u.k = 1
  · exact spec_fld_1 u w b o h1' h
  by_cases h2' : u.k = 2
  · exact spec_fld_2 u w b o h2' h
  by_cases h3' : u.k = 3
  · exact spec_fld_3 u w b o h3' h
  by_cases h4' : u.k = 4
  · exact spec_fld_4 u w b o h4' h
  by_cases h5' : u.k = 5
  · exact spec_fld_5 u w b o h5' h
  by_cases h6' : u.k = 6
  · exact spec_fld_6 u w b o h6' h
  by_cases h7' : u.k = 7
  · exact spec_fld_7 u w b o h7' h
  by_cases h8' : u.k = 8
  · exact spec_fld_8 u w b o h8' h
  by_cases h9' : u.k = 9
  · exact spec_fld_9 u w b o h9' h
  by_cases h10' : u.k = 10
  · exact spec_fld_10 u w b o h10' h
  exact spec_fld_11 u w b o (by omega) h

end Go.Proofs.YtkfplnnncfkjfaaDoor.Con
