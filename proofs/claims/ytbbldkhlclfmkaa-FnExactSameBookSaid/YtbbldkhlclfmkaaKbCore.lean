/-
  Contracts of the model's and the program's SameBook. Condition: both books lie in blocks of cells.
-/
import Derived.Test.YtbbldkhlclfmkaaKnCore
import Derived.Test.YtbbldkhlclfmkaaBk
namespace Go.Proofs.Ytbbldkhlclfmkaa.Con.KCore
open Go.RowKit Go.Proofs.Ytbbldkhlclfmkaa.Con
set_option linter.unusedVariables false

set_option maxRecDepth 100000 in
theorem eqfL (k : Kb) (I : World → Prop) (T : Nat → Prop) (R : Srr k.M I T) (xs ys : List LK) (ih : ∀ u ∈ xs, CmpC k I T u) (w : World) (a a' : Option Addr) (c c' : Nat) (S : Value → Prop) (hx : LF w a c xs) (hy : LF w a' c' ys) (hI : I w) (hmp : Mp w k.M S) (hbig : ∀ u ∈ xs, Bg w S (2 * LK.sz u)) :
    Calls Try.prog 78 #[.slice a xs.length c, .slice a' ys.length c', .func (.func 119) #[] #[.pointer (some ⟨k.CN, 0, none⟩), .pointer (some ⟨k.CL, 0, none⟩), .pointer (some ⟨k.CK, 0, none⟩)]] w (RowPost k I T w S xs ys) := by
  have hlx : xs.length ≤ 9223372036854775807 := Nat.le_trans hx.1 hx.2.1
  have hly : ys.length ≤ 9223372036854775807 := Nat.le_trans hy.1 hy.2.1
  by_cases hl : xs.length = ys.length
  rotate_left
  · have F := Lib.hid (show ¬ AllEq xs ys from fun e => hl e.1)
    obtain ⟨n, hn⟩ : ∃ n, n = xs.length := ⟨_, rfl⟩
    obtain ⟨m, hm⟩ : ∃ m, m = ys.length := ⟨_, rfl⟩
    rw [← hn, ← hm] at hl
    rw [← hn] at hlx ⊢
    rw [← hm] at hly ⊢
    have q1 : ((n : Int) != (m : Int)) = true := by simp; omega
    clear hn hm hl hx hy hI hmp hbig R ih
    go_enter Try.func78, Try.ntmps78
    go_wp2_with fail
    go_ret
    exact row_false F.out (Chg.of_gw (Gw.refl _) _)
  by_cases h0 : xs.length = 0
  · have e0 : ys.length = 0 := by omega
    have F := Lib.hid (show AllEq xs ys from ⟨hl, fun i hx => absurd hx (by omega)⟩)
    have EN := Lib.hid (show I w ∧ Mp w k.M S from ⟨hI, hmp⟩)
    rw [h0, e0]
    clear hl h0 e0 hx hy hI hmp hbig R ih hlx hly
    go_enter Try.func78, Try.ntmps78
    go_wp2_with fail
    go_loopw [17] (fun i wr => i = .int .i64 0 ∧ wr = w) (fun i _ => 0)
    case atStart => exact ⟨rfl, rfl⟩
    case round =>
      obtain ⟨rfl, rfl⟩ := hrel
      go_wp2_with fail
      go_ret
      exact row_true F.out (Chg.of_gw (Gw.refl _) _) EN.out
  obtain ⟨b, o, rfl, rx⟩ := hx.2.2 (by omega)
  obtain ⟨b', o', rfl, ry⟩ := hy.2.2 (by omega)
  exact eqf' k I T R xs ys ih xs.length ys.length hl rfl rfl hlx w b o b' o' c c' S hx.1 hy.1 rx ry hI hmp hbig

def SameB (x y : LB) (w : World) (e : Ending) (w' : World) : Prop := ∃ r : Bool, e = .returned (.bool r) ∧ (r = true ↔ x.cs = y.cs) ∧ Gw w w'
theorem cs_iff (x y : LB) : x.cs = y.cs ↔ AllEq x.ks y.ks := by
  unfold LB.cs
  constructor
  · intro h
    have hl : x.ks.length = y.ks.length := by have := congrArg List.length h; simpa using this
    refine ⟨hl, fun i hx hy => ?_⟩
    have e1 : (x.ks.map LK.co)[i]'(by simpa using hx) = (y.ks.map LK.co)[i]'(by simpa using hy) := by simp only [h]
    simpa using e1
  · rintro ⟨hl, h4⟩
    refine List.ext_getElem (by simpa using hl) fun i hi hi' => ?_
    simp only [List.length_map] at hi hi'
    simpa using h4 i hi hi'

set_option maxRecDepth 100000 in
set_option maxHeartbeats 1000000 in
theorem spec_sameB (x y : LB) (w : World) (hx : bOk w x) (hy : bOk w y) : Calls Try.prog 34 #[x.val, y.val] w (SameB x y w) := by
  have hlx := hx.len
  have hly := hy.len
  have gA : Gw w ((w.alloc (.cells #[.slice x.a x.ks.length x.cap] 74)).alloc (.cells #[.slice y.a y.ks.length y.cap] 74)) := ((Gw.refl w).alloc _).alloc _
  have b1 := (BoxB.new w x 74).grow ((Gw.refl _).alloc (.cells #[.slice y.a y.ks.length y.cap] 74))
  have b2 := BoxB.new (w.alloc (.cells #[.slice x.a x.ks.length x.cap] 74)) y 74
  rw [World.size_alloc] at b2
  have OX := Lib.hid (hx.grow gA)
  have OY := Lib.hid (hy.grow gA)
  have GA := Lib.hid gA
  clear hx hy gA
  go_enter Try.func34, Try.ntmps34
  go_upto_region 1 with (fail)
  generalize (w.alloc (.cells #[.slice x.a x.ks.length x.cap] 74)).alloc (.cells #[.slice y.a y.ks.length y.cap] 74) = W1 at *
  obtain ⟨n, hn⟩ : ∃ n, n = x.ks.length := ⟨_, rfl⟩
  obtain ⟨m, hm⟩ : ∃ m, m = y.ks.length := ⟨_, rfl⟩
  have p0 := b1.c
  have q0 := b2.c
  rw [← hn] at p0 hlx
  rw [← hm] at q0 hly
  have HN := Lib.hid hn
  have HM := Lib.hid hm
  clear hn hm
  by_cases hnm : n = m
  rotate_left
  · have z1 : ((n : Int) != (m : Int)) = true := by simp; omega
    have F := Lib.hid (show ¬ x.cs = y.cs from fun e => hnm (by rw [HN.out, HM.out]; exact ((cs_iff x y).1 e).1))
    clear hnm
    go_wp2_with fail
    go_ret
    exact ⟨false, rfl, by simp [F.out], GA.out⟩
  subst hnm
  have z1 : ((n : Int) != (n : Int)) = false := by simp
  have B1 := Lib.hid b1
  have B2 := Lib.hid b2
  go_wp2_with fail
  clear p0 q0 z1 b1 b2
  go_loopw [5] (fun i wr => ∃ j : Nat, j ≤ n ∧ i = .int .i64 j ∧ Gw W1 wr ∧ ∀ i (hx : i < x.ks.length) (hy : i < y.ks.length), i < j → x.ks[i].co = y.ks[i].co) (fun i _ => n - (intOf i).toNat)
  case atStart => exact ⟨0, by omega, rfl, Gw.refl _, fun i _ _ h => absurd h (by omega)⟩
  case round =>
    obtain ⟨j, hj, rfl, hg, hall⟩ := hrel
    have HALL := Lib.hid hall
    have HG := Lib.hid hg
    clear hall
    have p0 := (B1.out.grow hg).c
    have q0 := (B2.out.grow hg).c
    rw [← HN.out] at p0
    rw [← HM.out] at q0
    by_cases hlt : j < n
    · have hjx : j < x.ks.length := by have := HN.out; omega
      have hjy : j < y.ks.length := by have := HM.out; omega
      obtain ⟨bk, ok, ea, hkid⟩ := coAt.kid (OX.out.grow hg) j hjx
      obtain ⟨bl, ol, eb, hkjd⟩ := coAt.kid (OY.out.grow hg) j hjy
      rw [ea] at p0
      rw [eb] at q0
      have s0 : (0 : Int) ≤ j := by omega
      have s1 : (j : Int) < n := by omega
      have K1 := Lib.hid (hkid.grow (Gw.refl wr).drew)
      have K2 := Lib.hid (hkjd.grow (Gw.refl wr).drew)
      have lx3 := cell_lt p0
      have ly3 := cell_lt q0
      clear ea eb hkid hkjd hg
      go_wp2_with fail
      go_region_held3 (fun W => W.cell? ⟨w.heap.size, 0, none⟩ = some (.slice (some ⟨bk, ok, none⟩) n x.cap) ∧ W.cell? ⟨w.heap.size + 1, 0, none⟩ = some (.slice (some ⟨bl, ol, none⟩) n y.cap))
        (first | exact ⟨p0, q0⟩ | exact ⟨(k5 _ _ lx3).trans p0, (k5 _ _ ly3).trans q0⟩)
        (first
          | (go_at_call 72; refine (sk_all x.ks[j] y.ks[j] _ bk (ok + j * 4) bl (ol + j * 4) (by exact K1.out) (by exact K2.out)).mono ?_; rintro e w5 ⟨r, rfl, hr, g5⟩; have k5 : ∀ b o, b < wr.heap.size → w5.cell? ⟨b, o, none⟩ = wr.cell? ⟨b, o, none⟩ := fun b o h => (bcell g5).1 b o h))
      have HG5 := Lib.hid ((HG.out.drew).trans g5)
      clear g5 k5 p0 q0
      cases r with
      | false =>
        have F := Lib.hid (show ¬ x.cs = y.cs from fun e => by have := hr.2 (((cs_iff x y).1 e).2 j hjx hjy); cases this)
        clear hr
        go_wp2_with fail
        go_ret
        exact ⟨false, rfl, by simp [F.out], GA.out.trans HG5.out⟩
      | true =>
        have HE := Lib.hid (hr.1 rfl)
        clear hr
        go_wp2_with fail
        go_roundw
        case rel =>
          refine ⟨j + 1, by omega, by go_num, HG5.out, fun i hx hy hi => ?_⟩
          by_cases e : i = j
          · subst e; exact HE.out
          · exact HALL.out i hx hy (by omega)
        case measure => simp [intOf]; omega
    · obtain rfl : j = n := by omega
      have F := Lib.hid (show x.cs = y.cs from (cs_iff x y).2 ⟨by rw [← HN.out, ← HM.out], fun i hx hy => HALL.out i hx hy (by have := HN.out; omega)⟩)
      go_wp2_with fail
      go_ret
      exact ⟨true, rfl, by simp [F.out], GA.out.trans HG.out⟩

/-- A book in blocks of cells. -/
def BF (w : World) (x : LB) : Prop := LF w x.a x.cap x.ks
theorem BF.keep {w w' : World} {x : LB} (h : BF w x) (hk : ∀ c, Free w c → w'.heap[c]? = w.heap[c]?) : BF w' x := ⟨h.1, h.2.1, fun hp => by
  obtain ⟨b, o, e, r⟩ := h.2.2 hp
  exact ⟨b, o, e, r.keep coFr hk⟩⟩
theorem BF.new {B : Nat} {w : World} {x : LB} (h : coNew B w x.a x.cap x.ks) : BF w x := by
  refine ⟨h.1.1, h.1.2.1, fun hl => ?_⟩
  obtain ⟨b, o, ha, hr⟩ := h.1.2.2.resolve_left (fun e => by rw [e] at hl; simp at hl)
  have hne : x.ks.isEmpty = false := by cases hx : x.ks with | nil => rw [hx] at hl; simp at hl | cons => rfl
  have hin : ∀ c, c ∈ nbl LK.bl x.a x.ks → Free w c := fun c hc => (h.2.2 c hc).2
  exact ⟨b, o, ha, hr, hin b (by unfold nbl; rw [hne, ha]; simp), fun u hu c hc => hin c (nbl_sub hu c hc)⟩

set_option maxRecDepth 100000 in
set_option maxHeartbeats 1000000 in
theorem impl_sameB (t u : LB) (w : World) (ht : BF w t) (hu : BF w u) : Calls Try.prog 36 #[t.val, u.val] w (SameB t u w) := by
  have gA : Gw w ((w.alloc (.cells #[.slice t.a t.ks.length t.cap] 74)).alloc (.cells #[.slice u.a u.ks.length u.cap] 74)) := ((Gw.refl w).alloc _).alloc _
  have b1 := (BoxB.new w t 74).grow ((Gw.refl _).alloc (.cells #[.slice u.a u.ks.length u.cap] 74))
  have b2 := BoxB.new (w.alloc (.cells #[.slice t.a t.ks.length t.cap] 74)) u 74
  rw [World.size_alloc] at b2
  have hk := free_gw gA
  have FX := Lib.hid (ht.keep hk)
  have FY := Lib.hid (hu.keep hk)
  have GA := Lib.hid gA
  clear ht hu hk gA
  go_enter Try.func36, Try.ntmps36
  go_upto_region 1 with (fail)
  generalize ((w.alloc (.cells #[.slice t.a t.ks.length t.cap] 74)).alloc (.cells #[.slice u.a u.ks.length u.cap] 74)) = W1 at *
  have l1 := b1.lt
  have l2 := b2.lt
  have z0 := b1.c
  have y0 := b2.c
  go_region_held3 (fun W => W.cell? ⟨w.heap.size, 0, none⟩ = some (.slice t.a t.ks.length t.cap) ∧ W.cell? ⟨w.heap.size + 1, 0, none⟩ = some (.slice u.a u.ks.length u.cap))
    (first | exact ⟨z0, y0⟩ | exact ⟨(k2 _ _ l1).trans z0, (k2 _ _ l2).trans y0⟩ | exact ⟨(k3 _ _ l1).trans z0, (k3 _ _ l2).trans y0⟩)
    (first
      | (go_at_call 75; refine (impl_cmc _).mono ?_; rintro e w2 ⟨k, k', rfl, henv, hmq, g2, hM', hMM⟩; have k2 : ∀ b o, b < W1.heap.size → w2.cell? ⟨b, o, none⟩ = W1.cell? ⟨b, o, none⟩ := fun b o h => (bcell g2).1 b o h)
      | (go_at_call 78; refine (eqfL k (Env k k') (Tn k k') (esr k k' (by omega)) t.ks u.ks (by exact fun x _ => cmp_all k k' (by omega) x) _ t.a u.a t.cap u.cap (fun _ => False) (by exact FX.out.keep (free_gw ((Gw.refl W1).drew.trans g2))) (by exact FY.out.keep (free_gw ((Gw.refl W1).drew.trans g2))) henv hmq (by exact fun _ _ v hv => hv.elim)).mono ?_; rintro e w4 ⟨r, rfl, hr, hc, _⟩; have k3 : ∀ b o, b < W1.heap.size → w4.cell? ⟨b, o, none⟩ = W1.cell? ⟨b, o, none⟩ := fun b o h => (World.cell?_of_block (a := ⟨b, o, none⟩) (hc.2.2.2.2 b (Nat.lt_of_lt_of_le h g2.size) (fun e => by have h6 : W1.heap.size ≤ k'.M := hM'; have h7 : b < W1.heap.size := h; rcases e with e | e <;> omega))).trans (k2 b o h)))
  have HR := Lib.hid (show r = true ↔ t.cs = u.cs from hr.trans (cs_iff t u).symm)
  have hG : Gw W1 w4 := Below.trans ((Gw.refl W1).drew.trans g2) (hc.gw g2.size (fun b hb e => by have h6 : W1.heap.size ≤ k'.M := hM'; have h7 : b < W1.heap.size := hb; rcases e with e | e <;> omega))
  have HG := Lib.hid (GA.out.trans hG)
  clear hr hc hG k2 k3 henv hmq
  go_wp2_with fail
  go_ret
  exact ⟨r, rfl, HR.out, HG.out⟩

end Go.Proofs.Ytbbldkhlclfmkaa.Con.KCore
namespace Go.Proofs.Ytbbldkhlclfmkaa.Con
theorem bOk.drew {w : World} {u : LB} (h : bOk w u) : bOk w.drew u := h.grow (Gw.refl w).drew
theorem bnew_grow {B : Nat} {w w' : World} {u : LB} (h : coNew B w u.a u.cap u.ks) (g : Gw w w') : coNew B w' u.a u.cap u.ks := gNewSl.grow coLen coGr h g
end Go.Proofs.Ytbbldkhlclfmkaa.Con
