/-
  Contracts of the program's typeComparer and SameType. Condition: both types lie in blocks of cells.
-/
import Derived.Test.YtbbldkhlclfmkaaKcType
namespace Go.Proofs.Ytbbldkhlclfmkaa.Con.KType
open Go.RowKit Go.Proofs.Ytbbldkhlclfmkaa.Con
set_option linter.unusedVariables false

theorem impl_node (x y : LT) (w : World) : Calls Try.prog 80 #[x.val, y.val] w fun e w' => ∃ r : Bool, e = .returned (.bool r) ∧ (r = true ↔ x.k = y.k ∧ x.n = y.n) ∧ Gw w w' := by
  have G := Lib.hid (((Gw.refl w).alloc (.cells #[.int .i64 x.k, .string x.n, .slice x.a x.ks.length x.cap] 29)).alloc (.cells #[.int .i64 y.k, .string y.n, .slice y.a y.ks.length y.cap] 29))
  by_cases h1 : x.k = y.k
  · have q1 : (x.k == y.k) = true := by simpa using h1
    by_cases h2 : x.n = y.n
    · have q2 : (x.n.toList == y.n.toList) = true := by rw [h2]; simp
      have F := Lib.hid (show x.k = y.k ∧ x.n = y.n from ⟨h1, h2⟩)
      clear h1 h2
      go_enter Try.func80, Try.ntmps80
      go_wp2_with (go_quiet (fail))
      go_ret
      exact ⟨_, rfl, by simpa using F.out, by first | exact G.out | exact G.out.drewN _⟩
    · have q2 := toList_neK h2
      have F := Lib.hid (show ¬ (x.k = y.k ∧ x.n = y.n) from fun h => h2 h.2)
      clear h1 h2
      go_enter Try.func80, Try.ntmps80
      go_wp2_with (go_quiet (fail))
      go_ret
      exact ⟨_, rfl, by simpa using F.out, by first | exact G.out | exact G.out.drewN _⟩
  · have q1 : (x.k == y.k) = false := by simpa using h1
    have F := Lib.hid (show ¬ (x.k = y.k ∧ x.n = y.n) from fun h => h1 h.1)
    clear h1
    go_enter Try.func80, Try.ntmps80
    go_wp2_with (go_quiet (fail))
    go_ret
    exact ⟨_, rfl, by simpa using F.out, by first | exact G.out | exact G.out.drewN _⟩

theorem tsr (k : Kb) : Srr k.M (TCaps k) (fun b => b = k.M) := ⟨rfl, fun h g => h.keep (free_gw g), fun _ h => .inl h, fun h _ hk => h.keep hk⟩
theorem tnode (k : Kb) : NodeC k (TCaps k) (fun b => b = k.M) where
  yes := fun x y w S hx hy hI hm hn => (impl_node x y w).mono fun e w' ⟨r, he, hr, g⟩ => by
    obtain rfl : r = true := hr.2 hn
    exact ⟨he, Chg.of_gw g _, hI.keep (free_gw g), KMp.gw tyFr hm g⟩
  no := fun x y w S hx hy hI hm hn => (impl_node x y w).mono fun e w' ⟨r, he, hr, g⟩ => by
    obtain rfl : r = false := by cases r with | false => rfl | true => exact absurd (hr.1 rfl) hn
    exact ⟨he, Chg.of_gw g _⟩
theorem cmp_all (k : Kb) (x : LT) : CmpC k (TCaps k) (fun b => b = k.M) x := cmp_ind k _ _ (tsr k) (fun _ h => h) (tnode k) x

theorem impl_tc (w : World) : Calls Try.prog 40 #[] w (TcPost 0 w) := by
  have KEY := Lib.hid (impl_tree 0 w)
  go_enter Try.func40, Try.ntmps40
  go_wp2_with fail
  refine KEY.out.mono ?_
  rintro e w1 ⟨k, hk, rfl, h⟩
  have H := Lib.hid h
  clear h
  go_wp2_with fail
  go_ret
  exact ⟨k, hk, rfl, H.out⟩

theorem FOk.new {B : Nat} {w : World} {t : LT} (h : t.New B w) : FOk w t := ⟨h.1, fun c hc => (h.2.2 c hc).2⟩

set_option maxRecDepth 100000 in
theorem impl_same (t u : LT) (B B' : Nat) (w : World) (ht : t.New B w) (hu : u.New B' w) : Calls Try.prog 12 #[t.val, u.val] w (SameGw t u w) := by
  have gA : Gw w ((w.alloc (.cells #[.int .i64 t.k, .string t.n, .slice t.a t.ks.length t.cap] 29)).alloc (.cells #[.int .i64 u.k, .string u.n, .slice u.a u.ks.length u.cap] 29)) := ((Gw.refl w).alloc _).alloc _
  have b1 := (Box.new w t 29).grow ((Gw.refl _).alloc (.cells #[.int .i64 u.k, .string u.n, .slice u.a u.ks.length u.cap] 29))
  have b2 := Box.new (w.alloc (.cells #[.int .i64 t.k, .string t.n, .slice t.a t.ks.length t.cap] 29)) u 29
  rw [World.size_alloc] at b2
  have hk := free_gw gA
  have FX := Lib.hid ((FOk.new ht).keep hk)
  have FY := Lib.hid ((FOk.new hu).keep hk)
  have GA := Lib.hid gA
  clear ht hu hk gA
  go_enter Try.func12, Try.ntmps12
  go_upto_region 1 with (fail)
  generalize ((w.alloc (.cells #[.int .i64 t.k, .string t.n, .slice t.a t.ks.length t.cap] 29)).alloc (.cells #[.int .i64 u.k, .string u.n, .slice u.a u.ks.length u.cap] 29)) = W1 at *
  have l1 := b1.lt
  have l2 := b2.lt
  obtain ⟨z0, z1, z2⟩ := b1.c
  obtain ⟨y0, y1, y2⟩ := b2.c
  go_region_held3 (fun W => W.cell? ⟨w.heap.size, 0, none⟩ = some (.int .i64 t.k) ∧ W.cell? ⟨w.heap.size, 1, none⟩ = some (.string t.n) ∧ W.cell? ⟨w.heap.size, 2, none⟩ = some (.slice t.a t.ks.length t.cap) ∧ W.cell? ⟨w.heap.size + 1, 0, none⟩ = some (.int .i64 u.k) ∧ W.cell? ⟨w.heap.size + 1, 1, none⟩ = some (.string u.n) ∧ W.cell? ⟨w.heap.size + 1, 2, none⟩ = some (.slice u.a u.ks.length u.cap))
    (first | exact ⟨z0, z1, z2, y0, y1, y2⟩ | exact ⟨(k2 _ _ l1).trans z0, (k2 _ _ l1).trans z1, (k2 _ _ l1).trans z2, (k2 _ _ l2).trans y0, (k2 _ _ l2).trans y1, (k2 _ _ l2).trans y2⟩ | exact ⟨(k3 _ _ l1).trans z0, (k3 _ _ l1).trans z1, (k3 _ _ l1).trans z2, (k3 _ _ l2).trans y0, (k3 _ _ l2).trans y1, (k3 _ _ l2).trans y2⟩)
    (first
      | (go_at_call 40; refine (impl_tc _).mono ?_; rintro e w2 ⟨k, _, rfl, hcap, hmp, g2, hM⟩; have k2 : ∀ b o, b < W1.heap.size → w2.cell? ⟨b, o, none⟩ = W1.cell? ⟨b, o, none⟩ := fun b o h => (bcell g2).1 b o h)
      | (go_at_call 105; refine (cmp_all k t u _ (fun _ => False) (by exact FX.out.keep (free_gw ((Gw.refl W1).drew.trans g2))) (by exact FY.out.keep (free_gw ((Gw.refl W1).drew.trans g2))) hcap hmp (fun v hv => hv.elim)).mono ?_; rintro e w3 ⟨r, rfl, hr, hc, _⟩; have k3 : ∀ b o, b < W1.heap.size → w3.cell? ⟨b, o, none⟩ = W1.cell? ⟨b, o, none⟩ := fun b o h => (World.cell?_of_block (a := ⟨b, o, none⟩) (hc.2.2.2.2 b (Nat.lt_of_lt_of_le h g2.size) (fun e => Nat.lt_irrefl _ (Nat.lt_of_lt_of_le (e ▸ h) hM)))).trans (k2 b o h)))
  have HR := Lib.hid hr
  have g3 : Gw W1.drew w2 := g2
  have hG : Gw W1 w3 := Below.trans ((Gw.refl W1).drew.trans g2) (hc.gw g2.size (fun b hb e => by have : b < W1.drew.heap.size := hb; omega))
  have HG := Lib.hid (GA.out.trans hG)
  clear hr hc hG g3 k2 k3 hcap hmp
  go_wp2_with fail
  go_ret
  exact ⟨r, rfl, HR.out, HG.out⟩

end Go.Proofs.Ytbbldkhlclfmkaa.Con.KType
