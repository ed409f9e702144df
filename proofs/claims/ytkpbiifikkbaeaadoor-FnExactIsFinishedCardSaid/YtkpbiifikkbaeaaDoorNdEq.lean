/-
  The laws' own eqClosure, eqFrame, eqThunk, eqNeed and their rows, on equal states. No condition but that they lie in memory.
-/
import Derived.Test.YtkpbiifikkbaeaaDoorNd
namespace Go.Proofs.YtkpbiifikkbaeaaDoor.Con
open Go.RowKit Go.ChangeShapes Go.WideShapes Go.ChangeAt Go.Deep
set_option linter.unusedVariables false

theorem eqKS (xs ys : List LK) (w : World) (a b : Option Addr) (c d : Nat) (ho : coSl w a c xs) (hp : coSl w b d ys) (he : xs.map LK.co = ys.map LK.co) :
    Calls Tryd.prog 44 #[.slice a xs.length c, .slice b ys.length d] w (TrueGw w) := by
  have hl := kmap_len he
  rw [hl]
  exact eqCoreS_of xs ys (fun x _ y w2 => laws_eqCore x y w2) w ys.length hl rfl a b c d ho hp he
theorem eqNS (xs ys : List Int) (w : World) (a b : Option Addr) (c d : Nat) (ho : numSl w a c xs) (hp : numSl w b d ys) (he : xs = ys) :
    Calls Tryd.prog 54 #[.slice a xs.length c, .slice b ys.length d] w (TrueGw w) := by
  subst he
  exact laws_eqNumS xs w a b c d ho hp

set_option maxRecDepth 100000 in
theorem laws_eqClosure (t u : LCl) (w : World) (h1 : clOk w t) (h2 : clOk w u) (he : t.pu = u.pu) : Calls Tryd.prog 45 #[t.val, u.val] w (TrueGw w) := by
  have e0 : t.t.co = u.t.co := congrArg (fun x : LClP => x.1) he
  have e1 : t.e = u.e := congrArg (fun x : LClP => x.2) he
  have E0 := Lib.hid e0
  have A0 := Lib.hid (h1.1)
  have B0 := Lib.hid (h2.1)
  have E1 := Lib.hid e1
  have A1 := Lib.hid (h1.2)
  have B1 := Lib.hid (h2.2)
  clear h1 h2 he e0 e1
  obtain ⟨t_t, t_ea, t_ec, t_e⟩ := t
  obtain ⟨u_t, u_ea, u_ec, u_e⟩ := u
  have hg0 : Gw w ((w.alloc (.cells #[.int .i64 t_t.k, .int .i64 t_t.v, .slice t_t.da t_t.ds.length t_t.dc, .slice t_t.a t_t.ks.length t_t.cap, .slice t_ea t_e.length t_ec] 44)).alloc (.cells #[.int .i64 u_t.k, .int .i64 u_t.v, .slice u_t.da u_t.ds.length u_t.dc, .slice u_t.a u_t.ks.length u_t.cap, .slice u_ea u_e.length u_ec] 44)) := ((Gw.refl w).alloc _).alloc _
  go_enter Tryd.func45, Tryd.ntmps45
  go_wp2_with fail
  refine (laws_eqCore t_t u_t _ (coGr _ _ _ A0.out hg0) (coGr _ _ _ B0.out hg0) E0.out).mono ?_
  rintro e w1 ⟨rfl, hg1⟩
  have gB0 := hg1
  obtain ⟨hc0, _⟩ := bcell gB0
  replace hg1 := hg0.trans hg1
  go_wp2_with fail
  refine (eqNS t_e u_e _ t_ea u_ea t_ec u_ec (gSl.grow nLen nGr A1.out hg1) (gSl.grow nLen nGr B1.out hg1) E1.out).mono ?_
  rintro e w2 ⟨rfl, hg2⟩
  clear hc0
  have gB1 := gB0.trans hg2
  replace hg2 := hg1.trans hg2
  go_wp2_with fail
  go_ret
  exact ⟨rfl, hg2⟩

set_option maxRecDepth 100000 in
theorem laws_eqFrame (t u : LFr) (w : World) (h1 : frOk w t) (h2 : frOk w u) (he : t.pu = u.pu) : Calls Tryd.prog 86 #[t.val, u.val] w (TrueGw w) := by
  have e0 : t.k = u.k := congrArg (fun x : LFrP => x.1) he
  have e1 : t.v = u.v := congrArg (fun x : LFrP => x.2.1) he
  have e2 : t.d = u.d := congrArg (fun x : LFrP => x.2.2.1) he
  have e3 : t.c.pu = u.c.pu := congrArg (fun x : LFrP => x.2.2.2) he
  have E2 := Lib.hid e2
  have A2 := Lib.hid (h1.2.2.1)
  have B2 := Lib.hid (h2.2.2.1)
  have E3 := Lib.hid e3
  have A3 := Lib.hid (h1.2.2.2)
  have B3 := Lib.hid (h2.2.2.2)
  clear h1 h2 he e2 e3
  obtain ⟨t_k, t_v, t_da, t_dc, t_d, t_c⟩ := t
  obtain ⟨u_k, u_v, u_da, u_dc, u_d, u_c⟩ := u
  obtain rfl : t_k = u_k := e0
  obtain rfl : t_v = u_v := e1
  have hg0 : Gw w ((w.alloc (.cells #[.int .i64 t_k, .int .i64 t_v, .slice t_da t_d.length t_dc, .int .i64 t_c.t.k, .int .i64 t_c.t.v, .slice t_c.t.da t_c.t.ds.length t_c.t.dc, .slice t_c.t.a t_c.t.ks.length t_c.t.cap, .slice t_c.ea t_c.e.length t_c.ec] 74)).alloc (.cells #[.int .i64 t_k, .int .i64 t_v, .slice u_da u_d.length u_dc, .int .i64 u_c.t.k, .int .i64 u_c.t.v, .slice u_c.t.da u_c.t.ds.length u_c.t.dc, .slice u_c.t.a u_c.t.ks.length u_c.t.cap, .slice u_c.ea u_c.e.length u_c.ec] 74)) := ((Gw.refl w).alloc _).alloc _
  go_enter Tryd.func86, Tryd.ntmps86
  go_wp2_with fail
  refine (eqNS t_d u_d _ t_da u_da t_dc u_dc (gSl.grow nLen nGr A2.out hg0) (gSl.grow nLen nGr B2.out hg0) E2.out).mono ?_
  rintro e w1 ⟨rfl, hg1⟩
  have gB0 := hg1
  obtain ⟨hc0, _⟩ := bcell gB0
  replace hg1 := hg0.trans hg1
  go_wp2_with fail
  refine (laws_eqClosure t_c u_c _ (clGr _ _ _ A3.out hg1) (clGr _ _ _ B3.out hg1) E3.out).mono ?_
  rintro e w2 ⟨rfl, hg2⟩
  clear hc0
  have gB1 := gB0.trans hg2
  replace hg2 := hg1.trans hg2
  go_wp2_with fail
  go_ret
  exact ⟨rfl, hg2⟩

set_option maxRecDepth 100000 in
theorem laws_eqFrameS_of (xs ys : List LFr)
    (w : World) (n : Nat) (hx : xs.length = n) (hy : ys.length = n) (a b : Option Addr) (c d : Nat) (ho : frSl w a c xs) (hp : frSl w b d ys) (he : xs.map LFr.pu = ys.map LFr.pu) :
    Calls Tryd.prog 46 #[.slice a n c, .slice b n d] w (TrueGw w) := by
  have hn : n ≤ 9223372036854775807 := hx ▸ Nat.le_trans ho.1 ho.2.1
  have hr1 := ho.2.2
  have hr2 := hp.2.2
  have HX := Lib.hid hx
  have HY := Lib.hid hy
  have HE := Lib.hid he
  clear hx hy he ho hp
  go_enter Tryd.func46, Tryd.ntmps46
  go_wp2_with fail
  go_loopw [5] (fun i wr => ∃ j : Nat, j ≤ n ∧ i = .int .i64 j ∧ Gw w wr) (fun i _ => n - (intOf i).toNat)
  case atStart => exact ⟨0, by omega, rfl, Gw.refl _⟩
  case round =>
    obtain ⟨j, hj, rfl, hg⟩ := hrel
    by_cases hlt : j < n
    · have hx := HX.out
      have hy := HY.out
      obtain ⟨b1, o1, rfl, r1⟩ := hr1.resolve_left (fun e => by subst e; simp at hx; omega)
      obtain ⟨b2, o2, rfl, r2⟩ := hr2.resolve_left (fun e => by subst e; simp at hy; omega)
      have hjx : j < xs.length := by omega
      have hjy : j < ys.length := by omega
      obtain ⟨c0, c1, c2, c3, c4, c5, c6, c7, hk⟩ := frRow_get (r1.grow frLen frGr hg) j hjx
      obtain ⟨d0, d1, d2, d3, d4, d5, d6, d7, hl⟩ := frRow_get (r2.grow frLen frGr hg) j hjy
      clear hr1 hr2 hx hy
      go_wp2_with fail
      go_still_tail 8, (by kernel_rfl)
      change wpList _ _ _ _ _ wr.drew
      have hk' : frOk wr.drew xs[j] := frFr _ _ _ hk fun _ _ => rfl
      have hl' : frOk wr.drew ys[j] := frFr _ _ _ hl fun _ _ => rfl
      have hg' : Gw w wr.drew := hg.drew
      generalize wr.drew = w2 at hk' hl' hg' ⊢
      have HK := Lib.hid hk'
      have HL := Lib.hid hl'
      clear c0 c1 c2 c3 c4 c5 c6 c7 d0 d1 d2 d3 d4 d5 d6 d7 hk hl hg hk' hl' r1 r2
      have HM := Lib.hid (kmap_get HE.out j hjx hjy)
      go_wp2_with fail
      refine (laws_eqFrame xs[j] ys[j] _ HK.out HL.out HM.out).mono ?_
      rintro e w1 ⟨rfl, hg1⟩
      have hg2 := hg'.trans hg1
      go_wp2_with fail
      go_roundw
      case rel => exact ⟨j + 1, by omega, by go_num, hg2⟩
      case measure => simp [intOf]; omega
    · obtain rfl : j = n := by omega
      go_wp2_with fail
      go_ret
      exact ⟨rfl, hg⟩
theorem laws_eqFrameS (xs ys : List LFr) (w : World) (a b : Option Addr) (c d : Nat) (ho : frSl w a c xs) (hp : frSl w b d ys) (he : xs.map LFr.pu = ys.map LFr.pu) :
    Calls Tryd.prog 46 #[.slice a xs.length c, .slice b ys.length d] w (TrueGw w) := by
  have hl := kmap_len he
  rw [hl]
  exact laws_eqFrameS_of xs ys w ys.length hl rfl a b c d ho hp he

set_option maxRecDepth 100000 in
theorem laws_eqThunk (t u : LTh) (w : World) (h1 : thOk w t) (h2 : thOk w u) (he : t.pu = u.pu) : Calls Tryd.prog 87 #[t.val, u.val] w (TrueGw w) := by
  have e0 : t.b = u.b := congrArg (fun x : LThP => x.1) he
  have e1 : t.c.pu = u.c.pu := congrArg (fun x : LThP => x.2) he
  have E1 := Lib.hid e1
  have A1 := Lib.hid (h1)
  have B1 := Lib.hid (h2)
  clear h1 h2 he e1
  obtain ⟨t_b, t_c⟩ := t
  obtain ⟨u_b, u_c⟩ := u
  obtain rfl : t_b = u_b := e0
  have hg0 : Gw w ((w.alloc (.cells #[.bool t_b, .int .i64 t_c.t.k, .int .i64 t_c.t.v, .slice t_c.t.da t_c.t.ds.length t_c.t.dc, .slice t_c.t.a t_c.t.ks.length t_c.t.cap, .slice t_c.ea t_c.e.length t_c.ec] 79)).alloc (.cells #[.bool t_b, .int .i64 u_c.t.k, .int .i64 u_c.t.v, .slice u_c.t.da u_c.t.ds.length u_c.t.dc, .slice u_c.t.a u_c.t.ks.length u_c.t.cap, .slice u_c.ea u_c.e.length u_c.ec] 79)) := ((Gw.refl w).alloc _).alloc _
  go_enter Tryd.func87, Tryd.ntmps87
  go_wp2_with fail
  refine (laws_eqClosure t_c u_c _ (clGr _ _ _ A1.out hg0) (clGr _ _ _ B1.out hg0) E1.out).mono ?_
  rintro e w1 ⟨rfl, hg1⟩
  have gB0 := hg1
  replace hg1 := hg0.trans hg1
  go_wp2_with fail
  go_ret
  exact ⟨rfl, hg1⟩

set_option maxRecDepth 100000 in
theorem laws_eqThunkS_of (xs ys : List LTh)
    (w : World) (n : Nat) (hx : xs.length = n) (hy : ys.length = n) (a b : Option Addr) (c d : Nat) (ho : thSl w a c xs) (hp : thSl w b d ys) (he : xs.map LTh.pu = ys.map LTh.pu) :
    Calls Tryd.prog 47 #[.slice a n c, .slice b n d] w (TrueGw w) := by
  have hn : n ≤ 9223372036854775807 := hx ▸ Nat.le_trans ho.1 ho.2.1
  have hr1 := ho.2.2
  have hr2 := hp.2.2
  have HX := Lib.hid hx
  have HY := Lib.hid hy
  have HE := Lib.hid he
  clear hx hy he ho hp
  go_enter Tryd.func47, Tryd.ntmps47
  go_wp2_with fail
  go_loopw [5] (fun i wr => ∃ j : Nat, j ≤ n ∧ i = .int .i64 j ∧ Gw w wr) (fun i _ => n - (intOf i).toNat)
  case atStart => exact ⟨0, by omega, rfl, Gw.refl _⟩
  case round =>
    obtain ⟨j, hj, rfl, hg⟩ := hrel
    by_cases hlt : j < n
    · have hx := HX.out
      have hy := HY.out
      obtain ⟨b1, o1, rfl, r1⟩ := hr1.resolve_left (fun e => by subst e; simp at hx; omega)
      obtain ⟨b2, o2, rfl, r2⟩ := hr2.resolve_left (fun e => by subst e; simp at hy; omega)
      have hjx : j < xs.length := by omega
      have hjy : j < ys.length := by omega
      obtain ⟨c0, c1, c2, c3, c4, c5, hk⟩ := thRow_get (r1.grow thLen thGr hg) j hjx
      obtain ⟨d0, d1, d2, d3, d4, d5, hl⟩ := thRow_get (r2.grow thLen thGr hg) j hjy
      clear hr1 hr2 hx hy
      go_wp2_with fail
      go_still_tail 8, (by kernel_rfl)
      change wpList _ _ _ _ _ wr.drew
      have hk' : thOk wr.drew xs[j] := thFr _ _ _ hk fun _ _ => rfl
      have hl' : thOk wr.drew ys[j] := thFr _ _ _ hl fun _ _ => rfl
      have hg' : Gw w wr.drew := hg.drew
      generalize wr.drew = w2 at hk' hl' hg' ⊢
      have HK := Lib.hid hk'
      have HL := Lib.hid hl'
      clear c0 c1 c2 c3 c4 c5 d0 d1 d2 d3 d4 d5 hk hl hg hk' hl' r1 r2
      have HM := Lib.hid (kmap_get HE.out j hjx hjy)
      go_wp2_with fail
      refine (laws_eqThunk xs[j] ys[j] _ HK.out HL.out HM.out).mono ?_
      rintro e w1 ⟨rfl, hg1⟩
      have hg2 := hg'.trans hg1
      go_wp2_with fail
      go_roundw
      case rel => exact ⟨j + 1, by omega, by go_num, hg2⟩
      case measure => simp [intOf]; omega
    · obtain rfl : j = n := by omega
      go_wp2_with fail
      go_ret
      exact ⟨rfl, hg⟩
theorem laws_eqThunkS (xs ys : List LTh) (w : World) (a b : Option Addr) (c d : Nat) (ho : thSl w a c xs) (hp : thSl w b d ys) (he : xs.map LTh.pu = ys.map LTh.pu) :
    Calls Tryd.prog 47 #[.slice a xs.length c, .slice b ys.length d] w (TrueGw w) := by
  have hl := kmap_len he
  rw [hl]
  exact laws_eqThunkS_of xs ys w ys.length hl rfl a b c d ho hp he

set_option maxRecDepth 100000 in
theorem laws_eqNeed (t u : LNd) (w : World) (h1 : ndOk w t) (h2 : ndOk w u) (he : t.pu = u.pu) : Calls Tryd.prog 13 #[t.val, u.val] w (TrueGw w) := by
  have e0 : t.c.pu = u.c.pu := congrArg (fun x : LNdP => x.1) he
  have e1 : t.s.map LFr.pu = u.s.map LFr.pu := congrArg (fun x : LNdP => x.2.1) he
  have e2 : t.h.map LTh.pu = u.h.map LTh.pu := congrArg (fun x : LNdP => x.2.2) he
  have E0 := Lib.hid e0
  have A0 := Lib.hid (h1.1)
  have B0 := Lib.hid (h2.1)
  have E1 := Lib.hid e1
  have A1 := Lib.hid (h1.2.1)
  have B1 := Lib.hid (h2.2.1)
  have E2 := Lib.hid e2
  have A2 := Lib.hid (h1.2.2)
  have B2 := Lib.hid (h2.2.2)
  clear h1 h2 he e0 e1 e2
  obtain ⟨t_c, t_sa, t_sc, t_s, t_ha, t_hc, t_h⟩ := t
  obtain ⟨u_c, u_sa, u_sc, u_s, u_ha, u_hc, u_h⟩ := u
  have hg0 : Gw w ((w.alloc (.cells #[.int .i64 t_c.t.k, .int .i64 t_c.t.v, .slice t_c.t.da t_c.t.ds.length t_c.t.dc, .slice t_c.t.a t_c.t.ks.length t_c.t.cap, .slice t_c.ea t_c.e.length t_c.ec, .slice t_sa t_s.length t_sc, .slice t_ha t_h.length t_hc] 48)).alloc (.cells #[.int .i64 u_c.t.k, .int .i64 u_c.t.v, .slice u_c.t.da u_c.t.ds.length u_c.t.dc, .slice u_c.t.a u_c.t.ks.length u_c.t.cap, .slice u_c.ea u_c.e.length u_c.ec, .slice u_sa u_s.length u_sc, .slice u_ha u_h.length u_hc] 48)) := ((Gw.refl w).alloc _).alloc _
  go_enter Tryd.func13, Tryd.ntmps13
  go_wp2_with fail
  refine (laws_eqClosure t_c u_c _ (clGr _ _ _ A0.out hg0) (clGr _ _ _ B0.out hg0) E0.out).mono ?_
  rintro e w1 ⟨rfl, hg1⟩
  have gB0 := hg1
  obtain ⟨hc0, _⟩ := bcell gB0
  replace hg1 := hg0.trans hg1
  go_wp2_with fail
  refine (laws_eqFrameS t_s u_s _ t_sa u_sa t_sc u_sc (gSl.grow frLen frGr A1.out hg1) (gSl.grow frLen frGr B1.out hg1) E1.out).mono ?_
  rintro e w2 ⟨rfl, hg2⟩
  clear hc0
  have gB1 := gB0.trans hg2
  obtain ⟨hc1, _⟩ := bcell gB1
  replace hg2 := hg1.trans hg2
  go_wp2_with fail
  refine (laws_eqThunkS t_h u_h _ t_ha u_ha t_hc u_hc (gSl.grow thLen thGr A2.out hg2) (gSl.grow thLen thGr B2.out hg2) E2.out).mono ?_
  rintro e w3 ⟨rfl, hg3⟩
  clear hc1
  have gB2 := gB1.trans hg3
  replace hg3 := hg2.trans hg3
  go_wp2_with fail
  go_ret
  exact ⟨rfl, hg3⟩

end Go.Proofs.YtkpbiifikkbaeaaDoor.Con
