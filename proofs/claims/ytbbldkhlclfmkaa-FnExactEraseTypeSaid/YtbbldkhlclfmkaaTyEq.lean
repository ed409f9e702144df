/-
  The laws' own function eqType: of two types that are equal but for their addresses it says true. No condition but that both lie in memory.
-/
import Derived.Test.YtbbldkhlclfmkaaTyNew
import Derived.Outline
import Derived.LoopTactic
import Derived.Lib.Hide
import Derived.StillTailTactics
namespace Go.Proofs.Ytbbldkhlclfmkaa.Con
open Go.RowKit

theorem map_ty_len {xs ys : List LT} (h : xs.map LT.ty = ys.map LT.ty) : xs.length = ys.length := by simpa using congrArg List.length h

theorem map_ty_get {xs ys : List LT} (h : xs.map LT.ty = ys.map LT.ty) (i : Nat) (hx : i < xs.length) (hy : i < ys.length) : xs[i].ty = ys[i].ty := by
  have := congrArg (fun l => l[i]?) h
  simpa [List.getElem?_map, List.getElem?_eq_getElem hx, List.getElem?_eq_getElem hy] using this

set_option maxRecDepth 100000 in
theorem eqTypeS_of (xs ys : List LT) (ih : ∀ t ∈ xs, ∀ (u : LT) (w : World), t.Ok w → u.Ok w → t.ty = u.ty → Calls Try.prog 13 #[t.val, u.val] w (TrueGw w))
    (w : World) (n : Nat) (hx : xs.length = n) (hy : ys.length = n) (a b : Option Addr) (c d : Nat) (ho : slOk w a c xs) (hp : slOk w b d ys) (he : xs.map LT.ty = ys.map LT.ty) :
    Calls Try.prog 41 #[.slice a n c, .slice b n d] w (TrueGw w) := by
  have hn : n ≤ 9223372036854775807 := hx ▸ Nat.le_trans ho.1 ho.2.1
  have hr1 := ho.2.2
  have hr2 := hp.2.2
  have HX := Lib.hid hx
  have HY := Lib.hid hy
  have HE := Lib.hid he
  clear hx hy he ho hp
  go_enter Try.func41, Try.ntmps41
  go_wp2_with fail
  go_loopw [5] (fun i wr => ∃ j : Nat, j ≤ n ∧ i = .int .i64 j ∧ Gw w wr) (fun i _ => n - (intOf i).toNat)
  case atStart => exact ⟨0, by omega, rfl, Gw.refl _⟩
  case round =>
    obtain ⟨j, hj, rfl, hg⟩ := hrel
    by_cases hlt : j < n
    · have hx := HX.out
      have hy := HY.out
      obtain ⟨b1, o1, rfl, r1⟩ := hr1.resolve_left (fun e => by subst e; simp at hx; omega)
      obtain ⟨b2, o2, rfl, r2⟩ := hr2.resolve_left (fun e => by subst e; simp at hy; omega)
      have hjx : j < xs.length := by omega
      have hjy : j < ys.length := by omega
      obtain ⟨c0, c1, c2, hk⟩ := rowOk_get (r1.grow hg) j hjx
      obtain ⟨d0, d1, d2, hl⟩ := rowOk_get (r2.grow hg) j hjy
      clear hr1 hr2 hx hy
      go_wp2_with fail
      go_still_tail 8, (by kernel_rfl)
      change wpList _ _ _ _ _ wr.drew
      have hk' : xs[j].Ok wr.drew := hk.drew
      have hl' : ys[j].Ok wr.drew := hl.drew
      have hg' : Gw w wr.drew := hg.drew
      generalize wr.drew = w2 at hk' hl' hg' ⊢
      clear c0 c1 c2 d0 d1 d2 hk hl hg
      have HM := Lib.hid (map_ty_get HE.out j hjx hjy)
      go_wp2_with fail
      refine (ih xs[j] (List.getElem_mem hjx) ys[j] _ hk' hl' HM.out).mono ?_
      rintro e w1 ⟨rfl, hg1⟩
      have hg2 := hg'.trans hg1
      go_wp2_with fail
      go_roundw
      case rel => exact ⟨j + 1, by omega, by go_num, hg2⟩
      case measure => simp [intOf]; omega
    · obtain rfl : j = n := by omega
      go_wp2_with fail
      go_ret
      exact ⟨rfl, hg⟩

theorem eqType_of (t u : LT) (ih : ∀ (w : World) (n : Nat), t.ks.length = n → u.ks.length = n → slOk w t.a t.cap t.ks → slOk w u.a u.cap u.ks → Calls Try.prog 41 #[.slice t.a n t.cap, .slice u.a n u.cap] w (TrueGw w))
    (w : World) (h1 : t.Ok w) (h2 : u.Ok w) (he : t.ty = u.ty) : Calls Try.prog 13 #[t.val, u.val] w (TrueGw w) := by
  have k1 := h1.kids
  have k2 := h2.kids
  obtain ⟨k, n, a, c, ks⟩ := t
  obtain ⟨k', n', a', c', ks'⟩ := u
  rw [LT.ty_eq, LT.ty_eq] at he
  simp only [LT.k, LT.n, LT.ks, Ty.mk.injEq] at he
  obtain ⟨rfl, rfl, hk⟩ := he
  have hl := (map_ty_len hk).symm
  have HL := Lib.hid hl
  clear hk
  show Calls Try.prog 13 #[.agg #[.int .i64 k, .string n, .slice a ks.length c], .agg #[.int .i64 k, .string n, .slice a' ks'.length c']] w (TrueGw w)
  rw [hl]
  clear hl
  go_enter Try.func13, Try.ntmps13
  go_wp2_with fail
  refine (ih _ _ rfl HL.out (k1.grow ?_) (k2.grow ?_)).mono ?_
  · exact ((Below.refl _ _).alloc (Nat.le_refl _) _).alloc (by simp) _
  · exact ((Below.refl _ _).alloc (Nat.le_refl _) _).alloc (by simp) _
  rintro e w1 ⟨rfl, hg⟩
  go_wp2_with fail
  go_ret
  exact ⟨rfl, (((Gw.refl w).alloc _).alloc _).trans hg⟩

theorem laws_eqType (t : LT) : ∀ (u : LT) (w : World), t.Ok w → u.Ok w → t.ty = u.ty → Calls Try.prog 13 #[t.val, u.val] w (TrueGw w) := by
  refine LT.ind (P := fun t => ∀ (u : LT) (w : World), t.Ok w → u.Ok w → t.ty = u.ty → Calls Try.prog 13 #[t.val, u.val] w (TrueGw w)) (fun k n a c ks ih u w h1 h2 he => ?_) t
  refine eqType_of (.mk k n a c ks) u (fun w1 m hm hm' s1 s2 => ?_) w h1 h2 he
  refine eqTypeS_of ks u.ks (fun x hx y w2 => ih x hx y w2) w1 m hm hm' a u.a c u.cap s1 s2 ?_
  have := he
  rw [LT.ty_eq, LT.ty_eq u] at this
  simpa [LT.ks] using (Ty.mk.inj this).2.2

theorem laws_eqTypeS (xs ys : List LT) (w : World) (n : Nat) (hx : xs.length = n) (hy : ys.length = n) (a b : Option Addr) (c d : Nat) (ho : slOk w a c xs) (hp : slOk w b d ys) (he : xs.map LT.ty = ys.map LT.ty) :
    Calls Try.prog 41 #[.slice a n c, .slice b n d] w (TrueGw w) :=
  eqTypeS_of xs ys (fun t _ => laws_eqType t) w n hx hy a b c d ho hp he

end Go.Proofs.Ytbbldkhlclfmkaa.Con
