/-
  The laws' own functions eqTermS and eqTerm: of terms that say the same they answer true. No condition but that both lie in memory.
-/
import Derived.Test.YtbbldkhlclfmkaaStrS
import Derived.Test.YtbbldkhlclfmkaaDaEq
namespace Go.Proofs.Ytbbldkhlclfmkaa.Con
open Go.RowKit
set_option linter.unusedVariables false

set_option maxRecDepth 100000 in
theorem eqTermS_of (xs ys : List LM) (ih : ∀ t ∈ xs, ∀ (u : LM) (w : World), t.Ok w → u.Ok w → t.tm = u.tm → Calls Try.prog 22 #[t.val, u.val] w (TrueGw w))
    (w : World) (n : Nat) (hx : xs.length = n) (hy : ys.length = n) (a b : Option Addr) (c d : Nat) (ho : tmSl w a c xs) (hp : tmSl w b d ys) (he : xs.map LM.tm = ys.map LM.tm) :
    Calls Try.prog 55 #[.slice a n c, .slice b n d] w (TrueGw w) := by
  have hn : n ≤ 9223372036854775807 := hx ▸ Nat.le_trans ho.1 ho.2.1
  have hr1 := ho.2.2
  have hr2 := hp.2.2
  have HX := Lib.hid hx
  have HY := Lib.hid hy
  have HE := Lib.hid he
  clear hx hy he ho hp
  go_enter Try.func55, Try.ntmps55
  go_wp2_with fail
  go_loopw [5] (fun i wr => ∃ j : Nat, j ≤ n ∧ i = .int .i64 j ∧ Gw w wr) (fun i _ => n - (intOf i).toNat)
  case atStart => exact ⟨0, by omega, rfl, Gw.refl _⟩
  case round =>
    obtain ⟨j, hj, rfl, hg⟩ := hrel
    by_cases hlt : j < n
    · have hx := HX.out
      have hy := HY.out
      obtain ⟨b1, o1, rfl, r1⟩ := hr1.resolve_left (fun e => by subst e; simp at hx; omega)
      obtain ⟨b2, o2, rfl, r2⟩ := hr2.resolve_left (fun e => by subst e; simp at hy; omega)
      have hjx : j < xs.length := by omega
      have hjy : j < ys.length := by omega
      obtain ⟨c0, c1, c2, c3, c4, c5, c6, c7, hk⟩ := tmRow_get (r1.grow tmLen tmGr hg) j hjx
      obtain ⟨d0, d1, d2, d3, d4, d5, d6, d7, hl⟩ := tmRow_get (r2.grow tmLen tmGr hg) j hjy
      clear hr1 hr2 hx hy
      go_wp2_with fail
      go_still_tail 8, (by kernel_rfl)
      change wpList _ _ _ _ _ wr.drew
      have hk' : LM.Ok wr.drew xs[j] := hk.drew
      have hl' : LM.Ok wr.drew ys[j] := hl.drew
      have hg' : Gw w wr.drew := hg.drew
      generalize wr.drew = w2 at hk' hl' hg' ⊢
      have HK := Lib.hid hk'
      have HL := Lib.hid hl'
      clear c0 c1 c2 c3 c4 c5 c6 c7 d0 d1 d2 d3 d4 d5 d6 d7 hk hl hg hk' hl' r1 r2
      have HM := Lib.hid (map_get_of HE.out j hjx hjy)
      go_wp2_with fail
      refine (ih xs[j] (List.getElem_mem hjx) ys[j] _ HK.out HL.out HM.out).mono ?_
      rintro e w1 ⟨rfl, hg1⟩
      have hg2 := hg'.trans hg1
      go_wp2_with fail
      go_roundw
      case rel => exact ⟨j + 1, by omega, by go_num, hg2⟩
      case measure => simp [intOf]; omega
    · obtain rfl : j = n := by omega
      go_wp2_with fail
      go_ret
      exact ⟨rfl, hg⟩

set_option maxRecDepth 100000 in
theorem eqTerm_of (t u : LM) (ih : ∀ (w : World) (n : Nat), t.ks.length = n → u.ks.length = n → tmSl w t.a t.cap t.ks → tmSl w u.a u.cap u.ks → Calls Try.prog 55 #[.slice t.a n t.cap, .slice u.a n u.cap] w (TrueGw w))
    (w : World) (h1 : t.Ok w) (h2 : u.Ok w) (he : t.tm = u.tm) : Calls Try.prog 22 #[t.val, u.val] w (TrueGw w) := by
  have K1 := Lib.hid h1.kids
  have K2 := Lib.hid h2.kids
  have T1 := Lib.hid h1.ty
  have T2 := Lib.hid h2.ty
  have S1 := Lib.hid h1.nms
  have S2 := Lib.hid h2.nms
  obtain ⟨k, m, n, t, na, nc, ns, a, c, ks⟩ := t
  obtain ⟨k', m', n', t', na', nc', ns', a', c', ks'⟩ := u
  rw [LM.tm_eq, LM.tm_eq] at he
  simp only [LM.k, LM.m, LM.n, LM.t, LM.ns, LM.ks, Tm.mk.injEq] at he
  obtain ⟨rfl, rfl, rfl, ht, rfl, hk⟩ := he
  have hl : ks.length = ks'.length := by simpa using congrArg List.length hk
  have HL := Lib.hid hl.symm
  clear hk
  have T12 := Lib.hid ht
  show Calls Try.prog 22 #[.agg #[.int .i64 k, .int .i64 m, .string n, .int .i64 t.k, .string t.n, .slice t.a t.ks.length t.cap, .slice na ns.length nc, .slice a ks.length c], .agg #[.int .i64 k, .int .i64 m, .string n, .int .i64 t'.k, .string t'.n, .slice t'.a t'.ks.length t'.cap, .slice na' ns.length nc', .slice a' ks'.length c']] w (TrueGw w)
  have hg0 : Gw w ((w.alloc (.cells #[.int .i64 k, .int .i64 m, .string n, .int .i64 t.k, .string t.n, .slice t.a t.ks.length t.cap, .slice na ns.length nc, .slice a ks.length c] 43)).alloc (.cells #[.int .i64 k, .int .i64 m, .string n, .int .i64 t'.k, .string t'.n, .slice t'.a t'.ks.length t'.cap, .slice na' ns.length nc', .slice a' ks'.length c'] 43)) := ((Gw.refl w).alloc _).alloc _
  rw [hl] at hg0 ⊢
  clear hl h1 h2 ht
  go_enter Try.func22, Try.ntmps22
  go_wp2_with fail
  refine (laws_eqType t t' _ (T1.out.grow hg0) (T2.out.grow hg0) T12.out).mono ?_
  rintro e w1 ⟨rfl, hg1⟩
  obtain ⟨hc1, _⟩ := bcell hg1
  have gA := hg1
  replace hg1 := hg0.trans hg1
  go_wp2_with fail
  refine (laws_eqStrS ns _ na na' nc nc' (S1.out.grow hg1) (S2.out.grow hg1)).mono ?_
  rintro e w2 ⟨rfl, hg2⟩
  clear hc1
  obtain ⟨hc2, _⟩ := bcell (gA.trans hg2)
  replace hg2 := hg1.trans hg2
  go_wp2_with fail
  refine (ih _ _ HL.out.symm rfl (K1.out.grow tmLen tmGr hg2) (K2.out.grow tmLen tmGr hg2)).mono ?_
  rintro e w3 ⟨rfl, hg3⟩
  go_wp2_with fail
  go_ret
  exact ⟨rfl, hg2.trans hg3⟩

theorem laws_eqTerm (t : LM) : ∀ (u : LM) (w : World), t.Ok w → u.Ok w → t.tm = u.tm → Calls Try.prog 22 #[t.val, u.val] w (TrueGw w) := by
  refine LM.ind (P := fun t => ∀ (u : LM) (w : World), t.Ok w → u.Ok w → t.tm = u.tm → Calls Try.prog 22 #[t.val, u.val] w (TrueGw w)) (fun k m n t na nc ns a c ks ih u w h1 h2 he => ?_) t
  refine eqTerm_of (.mk k m n t na nc ns a c ks) u (fun w1 l hm hm' s1 s2 => ?_) w h1 h2 he
  refine eqTermS_of ks u.ks (fun x hx y w2 => ih x hx y w2) w1 l hm hm' a u.a c u.cap s1 s2 ?_
  have := he
  rw [LM.tm_eq, LM.tm_eq u] at this
  simpa [LM.ks] using (Tm.mk.inj this).2.2.2.2.2

end Go.Proofs.Ytbbldkhlclfmkaa.Con
