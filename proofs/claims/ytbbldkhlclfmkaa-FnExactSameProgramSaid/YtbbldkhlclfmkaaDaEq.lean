/-
  The laws' own functions eqConstructor, eqConstructorS, eqData, eqDataS: of declarations that say the same they answer true. No condition but that both lie in memory.
-/
import Derived.Test.YtbbldkhlclfmkaaDaTo
import Derived.Test.YtbbldkhlclfmkaaTyEq
namespace Go.Proofs.Ytbbldkhlclfmkaa.Con
open Go.RowKit
set_option linter.unusedVariables false

theorem map_len_of {α β : Type} {f : α → β} {xs ys : List α} (h : xs.map f = ys.map f) : xs.length = ys.length := by simpa using congrArg List.length h
theorem map_get_of {α β : Type} {f : α → β} {xs ys : List α} (h : xs.map f = ys.map f) (i : Nat) (hx : i < xs.length) (hy : i < ys.length) : f xs[i] = f ys[i] := by
  have := congrArg (fun l => l[i]?) h
  simpa [List.getElem?_map, List.getElem?_eq_getElem hx, List.getElem?_eq_getElem hy] using this

theorem laws_eqConstructor (t u : LC) (w : World) (h1 : cOk w t) (h2 : cOk w u) (he : cty t = cty u) : Calls Try.prog 128 #[t.val, u.val] w (TrueGw w) := by
  have k1 := h1.2
  have k2 := h2.2
  have he1 : t.n = u.n := congrArg Prod.fst he
  have he2 : t.xs.map LT.ty = u.xs.map LT.ty := congrArg Prod.snd he
  have hl := map_len_of he2
  obtain ⟨n, hn⟩ : ∃ n, u.xs.length = n := ⟨_, rfl⟩
  rw [hn] at hl
  show Calls Try.prog 128 #[.agg #[.string t.n, .slice t.a t.xs.length t.cap], .agg #[.string u.n, .slice u.a u.xs.length u.cap]] w (TrueGw w)
  rw [he1, hl, hn]
  have HE := Lib.hid he2
  have HL := Lib.hid hl
  have HN := Lib.hid hn
  have K1 := Lib.hid k1
  have K2 := Lib.hid k2
  clear he he1 he2 hl hn h1 h2 k1 k2
  go_enter Try.func128, Try.ntmps128
  go_wp2_with fail
  refine (laws_eqTypeS t.xs u.xs _ n HL.out HN.out t.a u.a t.cap u.cap (slOk_grow_of K1.out ?_) (slOk_grow_of K2.out ?_) HE.out).mono ?_
  · exact ((Below.refl _ _).alloc (Nat.le_refl _) _).alloc (by simp) _
  · exact ((Below.refl _ _).alloc (Nat.le_refl _) _).alloc (by simp) _
  rintro e w1 ⟨rfl, hg⟩
  go_wp2_with fail
  go_ret
  exact ⟨rfl, (((Gw.refl w).alloc _).alloc _).trans hg⟩

set_option maxRecDepth 100000 in
theorem laws_eqConstructorS (xs ys : List LC) (w : World) (n : Nat) (hx : xs.length = n) (hy : ys.length = n) (a b : Option Addr) (c d : Nat) (ho : nsl cOk w a c xs) (hp : nsl cOk w b d ys) (he : xs.map cty = ys.map cty) :
    Calls Try.prog 116 #[.slice a n c, .slice b n d] w (TrueGw w) := by
  have hn : n ≤ 9223372036854775807 := hx ▸ Nat.le_trans ho.1 ho.2.1
  have hr1 := ho.2.2
  have hr2 := hp.2.2
  have HX := Lib.hid hx
  have HY := Lib.hid hy
  have HE := Lib.hid he
  clear hx hy he ho hp
  go_enter Try.func116, Try.ntmps116
  go_wp2_with fail
  go_loopw [5] (fun i wr => ∃ j : Nat, j ≤ n ∧ i = .int .i64 j ∧ Gw w wr) (fun i _ => n - (intOf i).toNat)
  case atStart => exact ⟨0, by omega, rfl, Gw.refl _⟩
  case round =>
    obtain ⟨j, hj, rfl, hg⟩ := hrel
    by_cases hlt : j < n
    · have hx := HX.out
      have hy := HY.out
      obtain ⟨b1, o1, rfl, r1⟩ := hr1.resolve_left (fun e => by subst e; simp at hx; omega)
      obtain ⟨b2, o2, rfl, r2⟩ := hr2.resolve_left (fun e => by subst e; simp at hy; omega)
      have hjx : j < xs.length := by omega
      have hjy : j < ys.length := by omega
      obtain ⟨c0, c1, hk⟩ := (r1.grow hg (fun _ h => h.grow hg)) j hjx
      obtain ⟨d0, d1, hl⟩ := (r2.grow hg (fun _ h => h.grow hg)) j hjy
      clear hr1 hr2 hx hy
      go_wp2_with fail
      go_still_tail 8, (by kernel_rfl)
      change wpList _ _ _ _ _ wr.drew
      have hk' : cOk wr.drew xs[j] := cFrames _ _ _ hk (fun _ _ => rfl)
      have hl' : cOk wr.drew ys[j] := cFrames _ _ _ hl (fun _ _ => rfl)
      have hg' : Gw w wr.drew := hg.drew
      generalize wr.drew = w2 at hk' hl' hg' ⊢
      have HK := Lib.hid hk'
      have HL := Lib.hid hl'
      clear c0 c1 d0 d1 hk hl hg hk' hl' r1 r2
      have HM := Lib.hid (map_get_of HE.out j hjx hjy)
      go_wp2_with fail
      refine (laws_eqConstructor xs[j] ys[j] _ HK.out HL.out HM.out).mono ?_
      rintro e w1 ⟨rfl, hg1⟩
      have hg2 := hg'.trans hg1
      go_wp2_with fail
      go_roundw
      case rel => exact ⟨j + 1, by omega, by go_num, hg2⟩
      case measure => simp [intOf]; omega
    · obtain rfl : j = n := by omega
      go_wp2_with fail
      go_ret
      exact ⟨rfl, hg⟩

theorem laws_eqData (t u : LD) (w : World) (h1 : dOk w t) (h2 : dOk w u) (he : dty t = dty u) : Calls Try.prog 97 #[t.val, u.val] w (TrueGw w) := by
  have k1 := h1.2
  have k2 := h2.2
  have he1 : t.n = u.n := congrArg Prod.fst he
  have he2 : t.xs.map cty = u.xs.map cty := congrArg Prod.snd he
  have hl := map_len_of he2
  obtain ⟨n, hn⟩ : ∃ n, u.xs.length = n := ⟨_, rfl⟩
  rw [hn] at hl
  show Calls Try.prog 97 #[.agg #[.string t.n, .slice t.a t.xs.length t.cap], .agg #[.string u.n, .slice u.a u.xs.length u.cap]] w (TrueGw w)
  rw [he1, hl, hn]
  have HE := Lib.hid he2
  have HL := Lib.hid hl
  have HN := Lib.hid hn
  have K1 := Lib.hid k1
  have K2 := Lib.hid k2
  clear he he1 he2 hl hn h1 h2 k1 k2
  go_enter Try.func97, Try.ntmps97
  go_wp2_with fail
  refine (laws_eqConstructorS t.xs u.xs _ n HL.out HN.out t.a u.a t.cap u.cap (csOk.grow K1.out ?_) (csOk.grow K2.out ?_) HE.out).mono ?_
  · exact ((Below.refl _ _).alloc (Nat.le_refl _) _).alloc (by simp) _
  · exact ((Below.refl _ _).alloc (Nat.le_refl _) _).alloc (by simp) _
  rintro e w1 ⟨rfl, hg⟩
  go_wp2_with fail
  go_ret
  exact ⟨rfl, (((Gw.refl w).alloc _).alloc _).trans hg⟩

set_option maxRecDepth 100000 in
theorem laws_eqDataS (xs ys : List LD) (w : World) (n : Nat) (hx : xs.length = n) (hy : ys.length = n) (a b : Option Addr) (c d : Nat) (ho : nsl dOk w a c xs) (hp : nsl dOk w b d ys) (he : xs.map dty = ys.map dty) :
    Calls Try.prog 68 #[.slice a n c, .slice b n d] w (TrueGw w) := by
  have hn : n ≤ 9223372036854775807 := hx ▸ Nat.le_trans ho.1 ho.2.1
  have hr1 := ho.2.2
  have hr2 := hp.2.2
  have HX := Lib.hid hx
  have HY := Lib.hid hy
  have HE := Lib.hid he
  clear hx hy he ho hp
  go_enter Try.func68, Try.ntmps68
  go_wp2_with fail
  go_loopw [5] (fun i wr => ∃ j : Nat, j ≤ n ∧ i = .int .i64 j ∧ Gw w wr) (fun i _ => n - (intOf i).toNat)
  case atStart => exact ⟨0, by omega, rfl, Gw.refl _⟩
  case round =>
    obtain ⟨j, hj, rfl, hg⟩ := hrel
    by_cases hlt : j < n
    · have hx := HX.out
      have hy := HY.out
      obtain ⟨b1, o1, rfl, r1⟩ := hr1.resolve_left (fun e => by subst e; simp at hx; omega)
      obtain ⟨b2, o2, rfl, r2⟩ := hr2.resolve_left (fun e => by subst e; simp at hy; omega)
      have hjx : j < xs.length := by omega
      have hjy : j < ys.length := by omega
      obtain ⟨c0, c1, hk⟩ := (r1.grow hg (fun _ h => h.grow hg)) j hjx
      obtain ⟨d0, d1, hl⟩ := (r2.grow hg (fun _ h => h.grow hg)) j hjy
      clear hr1 hr2 hx hy
      go_wp2_with fail
      go_still_tail 8, (by kernel_rfl)
      change wpList _ _ _ _ _ wr.drew
      have hk' : dOk wr.drew xs[j] := dFrames _ _ _ hk (fun _ _ => rfl)
      have hl' : dOk wr.drew ys[j] := dFrames _ _ _ hl (fun _ _ => rfl)
      have hg' : Gw w wr.drew := hg.drew
      generalize wr.drew = w2 at hk' hl' hg' ⊢
      have HK := Lib.hid hk'
      have HL := Lib.hid hl'
      clear c0 c1 d0 d1 hk hl hg hk' hl' r1 r2
      have HM := Lib.hid (map_get_of HE.out j hjx hjy)
      go_wp2_with fail
      refine (laws_eqData xs[j] ys[j] _ HK.out HL.out HM.out).mono ?_
      rintro e w1 ⟨rfl, hg1⟩
      have hg2 := hg'.trans hg1
      go_wp2_with fail
      go_roundw
      case rel => exact ⟨j + 1, by omega, by go_num, hg2⟩
      case measure => simp [intOf]; omega
    · obtain rfl : j = n := by omega
      go_wp2_with fail
      go_ret
      exact ⟨rfl, hg⟩

end Go.Proofs.Ytbbldkhlclfmkaa.Con
