/-
  Contracts of the laws' marking of numbers and of core terms, and that what was marked is held. Condition: all lies in blocks of its own and is not too large.
  How many marks a core term takes hangs on the term without addresses only; a shifted one takes as many. No program in it.
-/
import Derived.Test.YtkpbiifikkbaeaaDoorGrM
import Derived.Test.YtkpbiifikkbaeaaDoorCoSh
import Derived.LoopTactic
import Derived.StillTailTactics
import Derived.BigQuiet
import Derived.Deep.Cut
namespace Go.Proofs.YtkpbiifikkbaeaaDoor.Con
open Go.RowKit
set_option linter.unusedVariables false

def HdN (w : World) (q : Nat) (e : Ending) (w' : World) : Prop := e = .returned (.int .i64 (q : Nat)) ∧ Gw w w'
/-- Numbers with their marks. -/
def mkN : List Int → Nat → List Int
  | [], _ => []
  | _ :: xs, k => (k : Int) :: mkN xs (k + 1)
theorem mkN_len : ∀ (L : List Int) (k : Nat), (mkN L k).length = L.length
  | [], _ => rfl
  | _ :: xs, k => by simp [mkN, mkN_len xs (k + 1)]
theorem mkN_app : ∀ (L M : List Int) (k : Nat), mkN (L ++ M) k = mkN L k ++ mkN M (k + L.length)
  | [], M, k => by simp [mkN]
  | x :: xs, M, k => by simp only [List.cons_append, mkN, mkN_app xs M (k + 1), List.length_cons]; rw [show k + 1 + xs.length = k + (xs.length + 1) by omega]
theorem mkN_take (L : List Int) (k j : Nat) (hj : j < L.length) : mkN (L.take (j + 1)) k = mkN (L.take j) k ++ [((k + j : Nat) : Int)] := by
  rw [List.take_succ_eq_append_getElem hj, mkN_app, List.length_take, Nat.min_eq_left (by omega)]; rfl
theorem mkN_get (L : List Int) (k j : Nat) (hj : j < (mkN L k).length) : (mkN L k)[j] = ((k + j : Nat) : Int) := by
  rw [mkN_len] at hj
  have h1 : mkN L k = mkN (L.take j) k ++ mkN (L.drop j) (k + j) := by
    have := mkN_app (L.take j) (L.drop j) k
    rwa [List.take_append_drop, List.length_take, Nat.min_eq_left (by omega)] at this
  have h2 : (mkN L k)[j]? = some ((k + j : Nat) : Int) := by
    rw [h1, List.getElem?_append_right (by rw [mkN_len, List.length_take]; omega), mkN_len, List.length_take, Nat.min_eq_left (by omega), Nat.sub_self, List.drop_eq_getElem_cons hj]
    rfl
  rw [List.getElem?_eq_getElem (by rw [mkN_len]; exact hj)] at h2
  exact Option.some.inj h2
theorem nbl_nB (a : Option Addr) (L M : List Int) (h : L.length = M.length) : nbl nB a L = nbl nB a M := by
  unfold nbl
  have e1 : L.isEmpty = M.isEmpty := by cases L <;> cases M <;> simp_all
  have e2 : ∀ K : List Int, K.flatMap nB = [] := fun K => by induction K <;> simp_all [nB]
  rw [e1, e2, e2]

set_option maxRecDepth 100000 in
set_option maxHeartbeats 1000000 in
theorem laws_markN (L : List Int) (B : Nat) (w : World) (a : Option Addr) (cap k : Nat) (h : numNew B w a cap L) (h2 : k + L.length ≤ 8000000) :
    Calls Tryd.prog 56 #[.slice a L.length cap, .int .i64 k] w fun e w' => e = .returned (.int .i64 ((k + L.length : Nat) : Int)) ∧ numNew B w' a cap (mkN L k) ∧ Chg w w' (fun x => x ∈ nbl nB a L) := by
  have hl : L.length ≤ 9223372036854775807 := Nat.le_trans h.1.1 h.1.2.1
  have H := Lib.hid h
  clear h
  go_enter Tryd.func56, Tryd.ntmps56
  go_wp2_with fail
  go_loopw [1, 5] (fun kv i wr => ∃ j : Nat, j ≤ L.length ∧ i = .int .i64 j ∧ kv = .int .i64 ((k + j : Nat) : Int) ∧ numNew B wr a cap (mkN (L.take j) k ++ L.drop j) ∧ Chg w wr (fun x => x ∈ nbl nB a L)) (fun _ i _ => L.length - (intOf i).toNat)
  case atStart => exact ⟨0, by omega, rfl, rfl, by simpa [mkN] using H.out, Chg.of_gw (Gw.refl w) _⟩
  case round =>
    obtain ⟨j, hj, rfl, rfl, hn, hc⟩ := hrel
    have HC := Lib.hid hc
    clear hc
    by_cases hlt : j < L.length
    · rw [List.drop_eq_getElem_cons hlt] at hn
      have hml : (mkN (L.take j) k).length = j := by rw [mkN_len, List.length_take]; omega
      obtain ⟨b, o, rfl, _⟩ := hn.1.2.2.resolve_left (ne_mid _ _ _)
      obtain ⟨c, hnew, hfr, hnb, hBb⟩ := hn.mid
      have c0 := c 0 _ rfl
      rw [hml, Nat.mul_one, Nat.add_zero] at c0
      have f0 := hfr.frozen (o + j)
      have q0 : (0 : Int) ≤ j := by omega
      have q1 : (j : Int) < L.length := by omega
      obtain ⟨kk, hkk⟩ : ∃ kk, kk = k + j := ⟨_, rfl⟩
      have hbin : b ∈ nbl nB (some ⟨b, o, none⟩) L := by rw [nb_ne (fun e => by rw [e] at hlt; simp at hlt)]; simp
      have hle : k ≤ 8000000 := by omega
      have NEW := Lib.hid (show numNew B (wr.setCell ⟨b, o + j, none⟩ (.int .i64 kk)) (some ⟨b, o, none⟩) cap (mkN (L.take (j + 1)) k ++ L.drop (j + 1)) by
        rw [mkN_take L k j hlt, List.append_assoc, ← hkk]
        refine gNewSl.step (k := 1) nLen nFr hn hml rfl (fun i v hv => ?_) ⟨⟨by omega, by omega⟩, List.nodup_nil, fun _ h => by cases h⟩ (((Upd.refl b (o + j * 1) (o + j * 1 + 1) _ wr).set (x := o + j) (by omega) (by omega) (.int .i64 kk)))
        match i, hv with
        | 0, hv =>
          injection hv with hv
          rw [← hv, Nat.mul_one, Nat.add_zero]
          exact World.cell?_setCell_same' _ _ _ (by rw [c0]; rfl)
        | n + 1, hv => exact absurd hv (by simp [nE]))
      have CC := Lib.hid (show Chg w (wr.setCell ⟨b, o + j, none⟩ (.int .i64 kk)) (fun x => x ∈ nbl nB (some ⟨b, o, none⟩) L) from HC.out.set _ _ (fun _ => hbin))
      rw [← hkk]
      have KK := Lib.hid hkk
      have hk2 : kk ≤ 8000000 := by omega
      clear c hnew hfr hnb hn hml hbin hkk HC
      go_wp2_with fail
      go_roundw
      case rel => exact ⟨j + 1, by omega, by go_num, by congr 1; have := KK.out; omega, NEW.out, CC.out⟩
      case measure => simp [intOf]; omega
    · obtain rfl : j = L.length := by omega
      rw [List.take_length, List.drop_length, List.append_nil] at hn
      go_wp2_with fail
      go_ret
      exact ⟨rfl, hn, HC.out⟩

set_option maxRecDepth 100000 in
theorem laws_heldN (L : List Int) (w : World) (a : Option Addr) (cap k n : Nat) (hn : L.length = n) (h : numSl w a cap (mkN L k)) (h2 : k + n ≤ 8000000) :
    Calls Tryd.prog 97 #[.slice a n cap, .int .i64 k] w (HdN w (k + n)) := by
  have hl : n ≤ 9223372036854775807 := by have := Nat.le_trans h.1 h.2.1; rw [mkN_len] at this; have h3 : maxLen = 9223372036854775807 := rfl; omega
  have hr := h.2.2
  have HN := Lib.hid hn
  clear h hn
  go_enter Tryd.func97, Tryd.ntmps97
  go_wp2_with fail
  go_loopw [1, 5] (fun kv i wr => ∃ j : Nat, j ≤ n ∧ i = .int .i64 j ∧ kv = .int .i64 ((k + j : Nat) : Int) ∧ Gw w wr) (fun _ i _ => n - (intOf i).toNat)
  case atStart => exact ⟨0, by omega, rfl, rfl, Gw.refl _⟩
  case round =>
    obtain ⟨j, hj, rfl, rfl, hg⟩ := hrel
    have G := Lib.hid hg
    by_cases hlt : j < n
    · have hjl : j < (mkN L k).length := by rw [mkN_len]; have := HN.out; omega
      obtain ⟨b, o, rfl, r⟩ := hr.resolve_left (fun e => by rw [e] at hjl; simp at hjl)
      obtain ⟨c0, _⟩ := numRow_get (r.grow nLen nGr hg) j hjl
      rw [mkN_get] at c0
      have q0 : (0 : Int) ≤ j := by omega
      have q1 : (j : Int) < n := by omega
      obtain ⟨kk, hkk⟩ : ∃ kk, kk = k + j := ⟨_, rfl⟩
      rw [← hkk] at c0 ⊢
      have KK := Lib.hid hkk
      have hk2 : kk ≤ 8000000 := by omega
      have e0 : ((kk : Int) != (kk : Int)) = false := by simp
      clear hkk hg r
      go_wp2_with (go_quiet (fail))
      go_roundw
      case rel => exact ⟨j + 1, by omega, by go_num, by congr 1; have := KK.out; omega, by first | exact G.out.drewN _ | exact G.out⟩
      case measure => simp [intOf]; omega
    · obtain rfl : j = n := by omega
      go_wp2_with fail
      go_ret
      exact ⟨rfl, G.out⟩

/-- A core term with its marks from number k on, and the number behind them. -/
def LK.mkd : LK → Nat → LK × Nat
  | .mk _ _ da dc ds a c ks, k => (.mk k ((k : Int) + 1) da dc (mkN ds (k + 2)) a c (mkc ks (k + 2 + ds.length)).1, (mkc ks (k + 2 + ds.length)).2)
where mkc : List LK → Nat → List LK × Nat
  | [], k => ([], k)
  | t :: ts, k => ((t.mkd k).1 :: (mkc ts (t.mkd k).2).1, (mkc ts (t.mkd k).2).2)
abbrev mkc (ks : List LK) (k : Nat) : List LK × Nat := LK.mkd.mkc ks k
theorem mkdK_eq (t : LK) (k : Nat) : t.mkd k = (.mk k ((k : Int) + 1) t.da t.dc (mkN t.ds (k + 2)) t.a t.cap (mkc t.ks (k + 2 + t.ds.length)).1, (mkc t.ks (k + 2 + t.ds.length)).2) := by
  obtain ⟨k', v, da, dc, ds, a, c, ks⟩ := t
  rw [LK.mkd]; rfl
theorem mkc_nil (k : Nat) : mkc [] k = ([], k) := by simp [mkc, LK.mkd.mkc]
theorem mkc_cons (t : LK) (ts : List LK) (k : Nat) : mkc (t :: ts) k = ((t.mkd k).1 :: (mkc ts (t.mkd k).2).1, (mkc ts (t.mkd k).2).2) := by simp only [mkc, LK.mkd.mkc]
theorem mkc_append (xs ys : List LK) (k : Nat) : mkc (xs ++ ys) k = ((mkc xs k).1 ++ (mkc ys (mkc xs k).2).1, (mkc ys (mkc xs k).2).2) := by
  induction xs generalizing k with
  | nil => simp [mkc_nil]
  | cons t ts ih => rw [List.cons_append, mkc_cons, mkc_cons, ih]; simp
/-- How many marks a core term takes. -/
def LK.mcn : LK → Nat
  | .mk _ _ _ _ ds _ _ ks => 2 + ds.length + mcs ks
where mcs : List LK → Nat
  | [] => 0
  | t :: ts => t.mcn + mcs ts
abbrev mcs (ks : List LK) : Nat := LK.mcn.mcs ks
theorem mcn_eq (t : LK) : t.mcn = 2 + t.ds.length + mcs t.ks := by
  obtain ⟨k', v, da, dc, ds, a, c, ks⟩ := t
  rw [LK.mcn]; rfl
theorem mcs_nil : mcs [] = 0 := by simp [mcs, LK.mcn.mcs]
theorem mcs_cons (t : LK) (ts : List LK) : mcs (t :: ts) = t.mcn + mcs ts := by simp only [mcs, LK.mcn.mcs]
theorem mcs_append (xs ys : List LK) : mcs (xs ++ ys) = mcs xs + mcs ys := by
  induction xs with
  | nil => simp [mcs_nil]
  | cons t ts ih => rw [List.cons_append, mcs_cons, mcs_cons, ih]; omega
mutual
theorem mkdK_len : ∀ (t : LK) (k : Nat), (t.mkd k).2 = k + t.mcn
  | .mk k' v da dc ds a c ks, k => by
    rw [mkdK_eq, mcn_eq]
    have := mkc_len ks (k + 2 + ds.length)
    simp only [LK.ks, LK.ds] at this ⊢
    omega
theorem mkc_len : ∀ (ks : List LK) (k : Nat), (mkc ks k).2 = k + mcs ks ∧ (mkc ks k).1.length = ks.length
  | [], k => by rw [mkc_nil, mcs_nil]; simp
  | t :: ts, k => by
    rw [mkc_cons, mcs_cons]
    have h1 := mkdK_len t k
    have h2 := mkc_len ts (t.mkd k).2
    simp only [List.length_cons]
    omega
end
mutual
theorem mkdK_bl : ∀ (t : LK) (k : Nat), (t.mkd k).1.bl = t.bl
  | .mk k' v da dc ds a c ks, k => by
    rw [mkdK_eq, LK.bl_eq, LK.bl_eq]
    have h1 := mkc_bl ks (k + 2 + ds.length)
    have h2 := (mkc_len ks (k + 2 + ds.length)).2
    simp only [LK.ks, LK.a, LK.da, LK.ds] at h1 h2 ⊢
    rw [nbl_nB da (mkN ds (k + 2)) ds (mkN_len _ _)]
    congr 1
    unfold nbl
    rw [h1]
    have e1 : (mkc ks (k + 2 + ds.length)).1.isEmpty = ks.isEmpty := by
      cases ks with
      | nil => rw [mkc_nil]
      | cons t ts => rw [mkc_cons]; rfl
    rw [e1]
theorem mkc_bl : ∀ (ks : List LK) (k : Nat), (mkc ks k).1.flatMap LK.bl = ks.flatMap LK.bl
  | [], k => by rw [mkc_nil]
  | t :: ts, k => by
    rw [mkc_cons, List.flatMap_cons, List.flatMap_cons, mkdK_bl t k, mkc_bl ts (t.mkd k).2]
end
theorem nbl_mkc (a : Option Addr) (ks : List LK) (k : Nat) : nbl LK.bl a (mkc ks k).1 = nbl LK.bl a ks := by
  unfold nbl
  rw [mkc_bl]
  have e1 : (mkc ks k).1.isEmpty = ks.isEmpty := by
    cases ks with
    | nil => rw [mkc_nil]
    | cons t ts => rw [mkc_cons]; rfl
  rw [e1]
theorem mkc_at (ks : List LK) (k j : Nat) (hlt : j < ks.length) : ∃ xs kk, (mkc (ks.take j) k).1 = xs ∧ (mkc (ks.take j) k).2 = kk ∧ xs.length = j ∧ k ≤ kk ∧ kk + ks[j].mcn ≤ k + mcs ks ∧
    mkc (ks.take (j + 1)) k = (xs ++ [(ks[j].mkd kk).1], (ks[j].mkd kk).2) ∧ xs ++ ks.drop j = xs ++ ks[j] :: ks.drop (j + 1) := by
  have hdrop : ks.drop j = ks[j] :: ks.drop (j + 1) := List.drop_eq_getElem_cons hlt
  have hlen := mkc_len (ks.take j) k
  have e2 : mcs ks = mcs (ks.take j) + mcs (ks.drop j) := by rw [← mcs_append, List.take_append_drop]
  refine ⟨_, _, rfl, rfl, by rw [hlen.2, List.length_take]; omega, by omega, ?_, ?_, by rw [hdrop]⟩
  · rw [hlen.1, e2, hdrop, mcs_cons]; omega
  · rw [List.take_succ_eq_append_getElem hlt, mkc_append, mkc_cons, mkc_nil]

theorem LK.new_parts {B : Nat} {w : World} {u : LK} (h : u.New B w) : numNew B w u.da u.dc u.ds ∧ coNew B w u.a u.cap u.ks ∧
    (∀ y, y ∈ nbl nB u.da u.ds → y ∈ u.bl) ∧ (∀ y, y ∈ nbl LK.bl u.a u.ks → y ∈ u.bl ∧ y ∉ nbl nB u.da u.ds) := by
  obtain ⟨h1, h2, h3⟩ := h
  rw [LK.bl_eq] at h2 h3
  rw [List.nodup_append] at h2
  obtain ⟨a1, a2, a3⟩ := h2
  exact ⟨⟨h1.dat, a1, fun b hb => h3 b (by simp [hb])⟩, ⟨h1.kids, a2, fun b hb => h3 b (by simp [hb])⟩, fun y hy => by rw [LK.bl_eq]; simp [hy], fun y hy => ⟨by rw [LK.bl_eq]; simp [hy], fun hm => a3 y hm y hy rfl⟩⟩

def MkK (ks : List LK) : Prop := ∀ (B : Nat) (w : World) (a : Option Addr) (cap k : Nat), coNew B w a cap ks → 1 ≤ k → k + mcs ks ≤ 8000000 →
    Calls Tryd.prog 55 #[.slice a ks.length cap, .int .i64 k] w fun e w' => e = .returned (.int .i64 ((mkc ks k).2 : Nat)) ∧ coNew B w' a cap (mkc ks k).1 ∧ Chg w w' (fun x => x ∈ nbl LK.bl a ks)

set_option maxHeartbeats 2000000 in
set_option maxRecDepth 100000 in
theorem markK_of (ks : List LK) (ih : ∀ t ∈ ks, MkK t.ks) : MkK ks := by
  intro B w a cap k h h1 h2
  have hl : ks.length ≤ 9223372036854775807 := Nat.le_trans h.1.1 h.1.2.1
  have H := Lib.hid h
  clear h
  go_enter Tryd.func55, Tryd.ntmps55
  go_wp2_with fail
  go_loopw [1, 5] (fun kv i wr => ∃ j : Nat, j ≤ ks.length ∧ i = .int .i64 j ∧ kv = .int .i64 ((mkc (ks.take j) k).2 : Nat) ∧ coNew B wr a cap ((mkc (ks.take j) k).1 ++ ks.drop j) ∧ Chg w wr (fun x => x ∈ nbl LK.bl a ks)) (fun _ i _ => ks.length - (intOf i).toNat)
  case atStart => exact ⟨0, by omega, rfl, by simp [mkc_nil], by simpa [mkc_nil] using H.out, Chg.of_gw (Gw.refl w) _⟩
  case round =>
    obtain ⟨j, hj, rfl, rfl, hn, hc⟩ := hrel
    have HC := Lib.hid hc
    clear hc
    by_cases hlt : j < ks.length
    · obtain ⟨xs, kk, hX, hK, hxs, hk1, hkb, hnext, hdr⟩ := mkc_at ks k j hlt
      rw [hX, hdr] at hn
      rw [hK]
      have HNX := Lib.hid hnext
      obtain ⟨b, o, rfl, _⟩ := hn.1.2.2.resolve_left (ne_mid _ _ _)
      obtain ⟨c, hnew, hfr, hnb, hBb⟩ := hn.mid
      rw [hxs] at c
      have HN := Lib.hid hn
      have HXS := Lib.hid hxs
      have HNB := Lib.hid hnb
      have HFR := Lib.hid hfr
      have HNW := Lib.hid hnew
      have HBB := Lib.hid hfr.lt
      have MN := Lib.hid (mcn_eq ks[j])
      have hbin := Lib.hid (show ∀ y, y = b ∨ y ∈ ks[j].bl → y ∈ nbl LK.bl (some ⟨b, o, none⟩) ks from fun y hy => by
        rw [nb_ne (fun e => by rw [e] at hlt; simp at hlt)]
        rcases hy with rfl | hy
        · simp
        · exact List.mem_cons_of_mem _ (List.mem_flatMap.2 ⟨_, List.getElem_mem hlt, hy⟩))
      have c0 := c 0 _ rfl
      have c1 := c 1 _ rfl
      have c2 := c 2 _ rfl
      have c3 := c 3 _ rfl
      rw [Nat.add_zero] at c0
      have f0 := hfr.frozen (o + j * 4)
      have f1 := hfr.frozen (o + j * 4 + 1)
      obtain ⟨n1, n2, n3, n4⟩ := LK.new_parts hnew
      have N1 := Lib.hid n1
      have N2 := Lib.hid n2
      have N3 := Lib.hid n3
      have N4 := Lib.hid n4
      have NBA := Lib.hid (show b ∉ nbl nB ks[j].da ks[j].ds from fun h => hnb (n3 b h))
      have NBK := Lib.hid (show b ∉ nbl LK.bl ks[j].a ks[j].ks from fun h => hnb (n4 b h).1)
      have q0 : (0 : Int) ≤ j := by omega
      have q1 : (j : Int) < ks.length := by omega
      have hkb2 : kk ≤ 8000000 := by omega
      have U1 := Lib.hid (((Upd.refl b (o + j * 4) (o + j * 4 + 4) (fun _ => False) wr).set (x := o + j * 4) (by omega) (by omega) (.int .i64 kk)).set (x := o + j * 4 + 1) (by omega) (by omega) (.int .i64 ((kk : Int) + 1)))
      have S0 := Lib.hid (show ((wr.setCell ⟨b, o + j * 4, none⟩ (.int .i64 kk)).setCell ⟨b, o + j * 4 + 1, none⟩ (.int .i64 ((kk : Int) + 1))).cell? ⟨b, o + j * 4, none⟩ = some (.int .i64 kk) by
        rw [World.cell?_setCell_other _ _ _ _ (by simp)]; exact World.cell?_setCell_same' _ _ _ (by rw [c0]; rfl))
      have S1 := Lib.hid (show ((wr.setCell ⟨b, o + j * 4, none⟩ (.int .i64 kk)).setCell ⟨b, o + j * 4 + 1, none⟩ (.int .i64 ((kk : Int) + 1))).cell? ⟨b, o + j * 4 + 1, none⟩ = some (.int .i64 ((kk : Int) + 1)) by
        exact World.cell?_setCell_same' _ _ _ (by rw [World.cell?_setCell_other _ _ _ _ (by simp), c1]; rfl))
      have s2 : ((wr.setCell ⟨b, o + j * 4, none⟩ (.int .i64 kk)).setCell ⟨b, o + j * 4 + 1, none⟩ (.int .i64 ((kk : Int) + 1))).cell? ⟨b, o + j * 4 + 2, none⟩ = some (.slice ks[j].da ks[j].ds.length ks[j].dc) := by
        rw [World.cell?_setCell_other _ _ _ _ (by simp), World.cell?_setCell_other _ _ _ _ (by simp)]; exact c2
      have s3 : ((wr.setCell ⟨b, o + j * 4, none⟩ (.int .i64 kk)).setCell ⟨b, o + j * 4 + 1, none⟩ (.int .i64 ((kk : Int) + 1))).cell? ⟨b, o + j * 4 + 3, none⟩ = some (.slice ks[j].a ks[j].ks.length ks[j].cap) := by
        rw [World.cell?_setCell_other _ _ _ _ (by simp), World.cell?_setCell_other _ _ _ _ (by simp)]; exact c3
      have S2 := Lib.hid s2
      have S3 := Lib.hid s3
      clear hn hxs hX hK hnext hdr hnew hfr hnb hBb n1 n2 n3 n4 c s2 s3
      go_upto_region 8 with (fail)
      clear c0 c1 c2 c3 f0 f1
      generalize (wr.setCell ⟨b, o + j * 4, none⟩ (.int .i64 kk)).setCell ⟨b, o + j * 4 + 1, none⟩ (.int .i64 ((kk : Int) + 1)) = w1 at *
      have M1 := Lib.hid (show Calls Tryd.prog 56 #[.slice ks[j].da ks[j].ds.length ks[j].dc, .int .i64 ((kk : Int) + 1 + 1)] w1 fun e w' => e = .returned (.int .i64 ((kk + 2 + ks[j].ds.length : Nat) : Int)) ∧ numNew B w' ks[j].da ks[j].dc (mkN ks[j].ds (kk + 2)) ∧ Chg w1 w' (fun x => x ∈ nbl nB ks[j].da ks[j].ds) by
        rw [show (kk : Int) + 1 + 1 = ((kk + 2 : Nat) : Int) by omega]
        exact laws_markN ks[j].ds B w1 _ _ (kk + 2) (gNewSl.same (by decide) nLen nFr N1.out fun y hy => U1.out.far y (N1.out.2.2 y hy).2.lt (fun e => NBA.out (e ▸ hy)) (fun h => h)) (by have := MN.out; omega))
      have s2 := S2.out
      go_wp2_with fail
      refine M1.out.mono ?_
      rintro e w2 ⟨rfl, hn2, hc2⟩
      have U2 := Lib.hid ((U1.out.mono (T := fun y => y ∈ nbl nB ks[j].da ks[j].ds) (fun _ h => h.elim)).chg HBB.out hc2 NBA.out)
      have kp2 : ∀ p, w2.cell? ⟨b, p, none⟩ = w1.cell? ⟨b, p, none⟩ := fun p => World.cell?_of_block (a := ⟨b, p, none⟩) (hc2.2.2.2.2 b (Nat.lt_of_lt_of_le HBB.out U1.out.size) NBA.out)
      have T0 := Lib.hid ((kp2 _).trans S0.out)
      have T1 := Lib.hid ((kp2 _).trans S1.out)
      have T2 := Lib.hid ((kp2 _).trans S2.out)
      have T3 := Lib.hid ((kp2 _).trans S3.out)
      have NN2 := Lib.hid hn2
      obtain ⟨k6, hk6⟩ : ∃ k6, k6 = kk + 2 + ks[j].ds.length := ⟨_, rfl⟩
      rw [← hk6]
      have K6 := Lib.hid hk6
      have KC := Lib.hid (ih ks[j] (List.getElem_mem hlt) B w2 ks[j].a ks[j].cap k6 (gNewSl.same (by decide) coLen coFr N2.out fun y hy => U2.out.far y (N2.out.2.2 y hy).2.lt (fun e => NBK.out (e ▸ hy)) (N4.out y hy).2) (by omega) (by have := MN.out; omega))
      clear hn2 hc2 kp2 s2 M1 hk6 S0 S1 S2 S3
      have s3 := T3.out
      go_wp2_with fail
      refine KC.out.mono ?_
      rintro e w3 ⟨rfl, hn3, hc3⟩
      have U3 := Lib.hid ((U2.out.mono (T := fun y => y ∈ ks[j].bl) (fun y h => N3.out y h)).chg HBB.out (hc3.mono fun y hy => (N4.out y hy).1) HNB.out)
      have kp3 : ∀ p, w3.cell? ⟨b, p, none⟩ = w2.cell? ⟨b, p, none⟩ := fun p => World.cell?_of_block (a := ⟨b, p, none⟩) (hc3.2.2.2.2 b (Nat.lt_of_lt_of_le HBB.out U2.out.size) NBK.out)
      have hlt0 : ∀ y ∈ nbl nB ks[j].da ks[j].ds, w3.heap[y]? = w2.heap[y]? := fun y hy => hc3.2.2.2.2 y (Nat.lt_of_lt_of_le (N1.out.2.2 y hy).2.lt U2.out.size) (fun hm => (N4.out y hm).2 hy)
      have hsame : nbl nB ks[j].da (mkN ks[j].ds (kk + 2)) = nbl nB ks[j].da ks[j].ds := nbl_nB _ _ _ (mkN_len _ _)
      have hd3 : numNew B w3 ks[j].da ks[j].dc (mkN ks[j].ds (kk + 2)) := gNewSl.same (by decide) nLen nFr NN2.out fun y hy => hlt0 y (hsame ▸ hy)
      have e6 := K6.out
      have hmk : (ks[j].mkd kk).1 = .mk kk ((kk : Int) + 1) ks[j].da ks[j].dc (mkN ks[j].ds (kk + 2)) ks[j].a ks[j].cap (mkc ks[j].ks k6).1 := by rw [mkdK_eq, e6]
      have hml : (mkc ks[j].ks k6).1.length = ks[j].ks.length := (mkc_len _ _).2
      have hnew' : LK.New B w3 (ks[j].mkd kk).1 := by
        refine ⟨?_, ?_, fun y hy => ?_⟩
        · rw [hmk]
          exact (LK.ok_iff _).2 ⟨⟨⟨by show (-9223372036854775808 : Int) ≤ kk; omega, by show (kk : Int) ≤ 9223372036854775807; omega⟩, ⟨by show (-9223372036854775808 : Int) ≤ kk + 1; omega, by show (kk : Int) + 1 ≤ 9223372036854775807; omega⟩, hd3.1⟩, hn3.1⟩
        · rw [mkdK_bl]; exact HNW.out.2.1
        · rw [mkdK_bl, LK.bl_eq] at hy
          rcases List.mem_append.1 hy with hy | hy
          · exact hd3.2.2 y (hsame ▸ hy)
          · exact hn3.2.2 y (by rw [nbl_mkc]; exact hy)
      have STEP := Lib.hid (show coNew B w3 (some ⟨b, o, none⟩) cap ((mkc (ks.take (j + 1)) k).1 ++ ks.drop (j + 1)) by
        rw [HNX.out, List.append_assoc]
        refine gNewSl.step coLen coFr HN.out HXS.out (mkdK_bl _ _) (fun i v hv => ?_) hnew' U3.out
        rw [hmk] at hv
        match i, hv with
        | 0, hv => injection hv with hv; rw [← hv, Nat.add_zero]; exact (kp3 _).trans T0.out
        | 1, hv => injection hv with hv; rw [← hv]; exact (kp3 _).trans T1.out
        | 2, hv => injection hv with hv; rw [← hv]; show _ = some (Value.slice _ (mkN ks[j].ds (kk + 2)).length _); rw [mkN_len]; exact (kp3 _).trans T2.out
        | 3, hv => injection hv with hv; rw [← hv]; show _ = some (Value.slice _ (mkc ks[j].ks k6).1.length _); rw [hml]; exact (kp3 _).trans T3.out
        | n + 4, hv => exact absurd hv (by simp [coE]))
      have CC := Lib.hid (HC.out.trans (U3.out.toChg) (fun y _ hy => hbin.out y hy))
      have QQ := Lib.hid (show (mkc (ks.take (j + 1)) k).2 = (mkc ks[j].ks k6).2 by rw [HNX.out, mkdK_eq, e6])
      clear hn3 hc3 kp3 hlt0 hsame hd3 e6 hmk hml hnew' s3 KC
      go_wp2_with fail
      go_roundw
      case rel => exact ⟨j + 1, by omega, by go_num, by rw [QQ.out], STEP.out, CC.out⟩
      case measure => simp [intOf]; omega
    · obtain rfl : j = ks.length := by omega
      rw [List.take_length, List.drop_length, List.append_nil] at hn
      rw [List.take_length]
      go_wp2_with fail
      go_ret
      exact ⟨rfl, hn, HC.out⟩

theorem laws_markKS (ks : List LK) : MkK ks := markK_of ks fun t _ => by
  refine LK.ind (P := fun t => MkK t.ks) (fun k v da dc ds a c ks ih => ?_) t
  exact markK_of ks ih

def HdK (ks : List LK) : Prop := ∀ (w : World) (a : Option Addr) (cap k n : Nat), ks.length = n → coSl w a cap (mkc ks k).1 → 1 ≤ k → k + mcs ks ≤ 8000000 → Calls Tryd.prog 98 #[.slice a n cap, .int .i64 k] w (HdN w (mkc ks k).2)

set_option maxRecDepth 100000 in
set_option maxHeartbeats 1000000 in
theorem heldK_of (ks : List LK) (ih : ∀ t ∈ ks, HdK t.ks) : HdK ks := by
  intro w a cap k n hn h h1 h2
  have hlen : (mkc ks k).1.length = n := (mkc_len ks k).2.trans hn
  have hl : n ≤ 9223372036854775807 := hlen ▸ Nat.le_trans h.1 h.2.1
  have hr := h.2.2
  have HLEN := Lib.hid hlen
  have HN := Lib.hid hn
  clear h hlen hn
  go_enter Tryd.func98, Tryd.ntmps98
  go_wp2_with fail
  go_loopw [1, 5] (fun kv i wr => ∃ j : Nat, j ≤ n ∧ i = .int .i64 j ∧ kv = .int .i64 ((mkc (ks.take j) k).2 : Nat) ∧ Gw w wr) (fun _ i _ => n - (intOf i).toNat)
  case atStart => exact ⟨0, by omega, rfl, by simp [mkc_nil], Gw.refl _⟩
  case round =>
    obtain ⟨j, hj, rfl, rfl, hg⟩ := hrel
    have HG := Lib.hid hg
    by_cases hlt : j < n
    · have hjk : j < ks.length := by have := HN.out; omega
      obtain ⟨xs, kk, hX, hK, hxs, hk1, hkb, hnext, _⟩ := mkc_at ks k j hjk
      rw [hK]
      have hjl : j < (mkc ks k).1.length := by have := HLEN.out; omega
      have hel : (mkc ks k).1[j] = (ks[j].mkd kk).1 := by
        have e3 : (mkc ks k).1 = (mkc (ks.take (j + 1)) k).1 ++ (mkc (ks.drop (j + 1)) (mkc (ks.take (j + 1)) k).2).1 := by
          have := mkc_append (ks.take (j + 1)) (ks.drop (j + 1)) k
          rw [List.take_append_drop] at this
          rw [this]
        have e5 : (mkc ks k).1[j]? = some (ks[j].mkd kk).1 := by
          rw [e3, hnext, List.append_assoc, List.getElem?_append_right (by omega), hxs, Nat.sub_self]; rfl
        rw [List.getElem?_eq_getElem hjl] at e5
        exact Option.some.inj e5
      obtain ⟨b, o, rfl, r⟩ := hr.resolve_left (fun e => by rw [e] at hjl; simp at hjl)
      obtain ⟨c0, c1, c2, c3, hok⟩ := coRow_get (r.grow coLen coGr hg) j hjl
      have hmk : (ks[j].mkd kk).1 = .mk kk ((kk : Int) + 1) ks[j].da ks[j].dc (mkN ks[j].ds (kk + 2)) ks[j].a ks[j].cap (mkc ks[j].ks (kk + 2 + ks[j].ds.length)).1 := by rw [mkdK_eq]
      rw [hel, hmk] at c0 c1 c2 c3 hok
      replace c0 : wr.cell? ⟨b, o + j * 4, none⟩ = some (.int .i64 kk) := c0
      replace c1 : wr.cell? ⟨b, o + j * 4 + 1, none⟩ = some (.int .i64 ((kk : Int) + 1)) := c1
      replace c2 : wr.cell? ⟨b, o + j * 4 + 2, none⟩ = some (.slice ks[j].da (mkN ks[j].ds (kk + 2)).length ks[j].dc) := c2
      replace c3 : wr.cell? ⟨b, o + j * 4 + 3, none⟩ = some (.slice ks[j].a (mkc ks[j].ks (kk + 2 + ks[j].ds.length)).1.length ks[j].cap) := c3
      rw [mkN_len] at c2
      rw [(mkc_len _ _).2] at c3
      have KD := Lib.hid (show numSl wr ks[j].da ks[j].dc (mkN ks[j].ds (kk + 2)) from hok.dat)
      have KK := Lib.hid (show coSl wr ks[j].a ks[j].cap (mkc ks[j].ks (kk + 2 + ks[j].ds.length)).1 from hok.kids)
      have MN := Lib.hid (mcn_eq ks[j])
      have QQ := Lib.hid (show (mkc (ks.take (j + 1)) k).2 = (mkc ks[j].ks (kk + 2 + ks[j].ds.length)).2 by rw [hnext, mkdK_eq])
      have hb := cell_lt c0
      have q0 : (0 : Int) ≤ j := by omega
      have q1 : (j : Int) < n := by omega
      have hkb2 : kk ≤ 8000000 := by omega
      have IH := Lib.hid (ih ks[j] (List.getElem_mem hjk))
      have e0 : ((kk : Int) != (kk : Int)) = false := by simp
      have e1 : (((kk : Int) + 1) != ((kk : Int) + 1)) = false := by simp
      clear hnext hX hK hxs hel hmk hok r hg hr
      go_upto_region 10 with (fail)
      have M1 := Lib.hid (show Calls Tryd.prog 97 #[.slice ks[j].da ks[j].ds.length ks[j].dc, .int .i64 ((kk : Int) + 1 + 1)] wr (HdN wr (kk + 2 + ks[j].ds.length)) by
        rw [show (kk : Int) + 1 + 1 = ((kk + 2 : Nat) : Int) by omega]
        exact laws_heldN ks[j].ds wr _ _ (kk + 2) _ rfl KD.out (by have := MN.out; omega))
      clear e0 e1
      go_wp2_with fail
      refine M1.out.mono ?_
      rintro e w2 ⟨rfl, g2⟩
      have d3 := ((bcell g2).1 b _ hb).trans c3
      have G2 := Lib.hid (HG.out.trans g2)
      have K2 := Lib.hid (gSl.grow coLen coGr KK.out g2)
      obtain ⟨k6, hk6⟩ : ∃ k6, k6 = kk + 2 + ks[j].ds.length := ⟨_, rfl⟩
      rw [← hk6] at K2 ⊢
      have K6 := Lib.hid hk6
      have hp : ¬ ((k6 : Nat) : Int) < 0 := by omega
      have IH2 := Lib.hid (IH.out w2 ks[j].a ks[j].cap k6 _ rfl K2.out (by omega) (by have := MN.out; omega))
      clear c0 c1 c2 c3 g2 hk6 M1
      go_wp2_with fail
      refine IH2.out.mono ?_
      rintro e w4 ⟨rfl, g4⟩
      have G4 := Lib.hid (G2.out.trans g4)
      have QQ2 := Lib.hid (QQ.out.trans (by rw [← K6.out]))
      generalize (mkc ks[j].ks k6).2 = q at *
      have hp2 : ¬ ((q : Nat) : Int) < 0 := by omega
      clear d3 g4 IH2
      go_wp2_with fail
      go_roundw
      case rel => exact ⟨j + 1, by omega, by go_num, by rw [QQ2.out], G4.out⟩
      case measure => simp [intOf]; omega
    · obtain rfl : j = n := by omega
      go_wp2_with fail
      go_ret
      have hn := HN.out
      exact ⟨by rw [← hn, List.take_length]; rfl, HG.out⟩

theorem laws_heldKS (ks : List LK) : HdK ks := heldK_of ks fun t _ => by
  refine LK.ind (P := fun t => HdK t.ks) (fun k v da dc ds a c ks ih => ?_) t
  exact heldK_of ks ih

/-- The marks of a core term that is held by the law: all but those of its root. -/
def LK.mkr (u : LK) (k : Nat) : LK := .mk u.k u.v u.da u.dc (mkN u.ds k) u.a u.cap (mkc u.ks (k + u.ds.length)).1
set_option maxRecDepth 100000 in
theorem laws_markK (u : LK) (B : Nat) (w : World) (k : Nat) (h : u.New B w) (h1 : 1 ≤ k) (h2 : k + u.mcn ≤ 8000000) :
    Calls Tryd.prog 20 #[u.val, .int .i64 k] w fun e w' => e = .returned (.int .i64 ((mkc u.ks (k + u.ds.length)).2 : Nat)) ∧ (u.mkr k).New B w' ∧ Chg w w' (fun x => x ∈ u.bl) := by
  have g0 := (Gw.refl w).alloc (u.obj 42)
  have BX := Lib.hid (BoxK.new w u 42)
  have G0 := Lib.hid (Chg.of_gw g0 (fun x => x ∈ u.bl))
  have MN := Lib.hid (mcn_eq u)
  have HB := Lib.hid (show w.heap.size ∉ u.bl from fun hm => by have := (h.2.2 _ hm).2.lt; omega)
  have HU := Lib.hid (gNew.grow coGr h g0)
  obtain ⟨n1, n2, n3, n4⟩ := LK.new_parts HU.out
  have N1 := Lib.hid n1
  have N2 := Lib.hid n2
  have N3 := Lib.hid n3
  have N4 := Lib.hid n4
  clear h n1 n2 n3 n4
  go_enter Tryd.func20, Tryd.ntmps20
  go_upto_region 1 with (fail)
  generalize w.alloc (.cells #[.int .i64 u.k, .int .i64 u.v, .slice u.da u.ds.length u.dc, .slice u.a u.ks.length u.cap] 42) = w1 at *
  obtain ⟨p0, p1, p2, p3⟩ := BX.out.c
  go_wp2_with fail
  refine (laws_markN u.ds B w1 u.da u.dc k N1.out (by have := MN.out; omega)).mono ?_
  rintro e w2 ⟨rfl, hn2, hc2⟩
  have hlt1 := BX.out.lt
  have BX2 := Lib.hid (BX.out.same (hc2.2.2.2.2 _ hlt1 (fun hm => HB.out (N3.out _ hm))))
  have M2 := Lib.hid (gNewSl.same (by decide) coLen coFr N2.out fun y hy => hc2.2.2.2.2 y (N2.out.2.2 y hy).2.lt (N4.out y hy).2)
  have C2 := Lib.hid (G0.out.trans (hc2.mono fun y hy => N3.out y hy) (fun _ _ h => h))
  have NN2 := Lib.hid hn2
  have SZ := Lib.hid hc2.2.2.2.1
  clear p0 p1 p2 p3 hn2 hc2 hlt1
  obtain ⟨p0, p1, p2, p3⟩ := BX2.out.c
  obtain ⟨k6, hk6⟩ : ∃ k6, k6 = k + u.ds.length := ⟨_, rfl⟩
  have K6 := Lib.hid hk6
  rw [← hk6]
  clear hk6
  go_wp2_with fail
  refine (laws_markKS u.ks B w2 u.a u.cap k6 M2.out (by have := K6.out; omega) (by have := K6.out; have := MN.out; omega)).mono ?_
  rintro e w3 ⟨rfl, hn3, hc3⟩
  have C3 := Lib.hid (C2.out.trans (hc3.mono fun y hy => (N4.out y hy).1) (fun _ _ h => h))
  have hsame : nbl nB u.da (mkN u.ds k) = nbl nB u.da u.ds := nbl_nB _ _ _ (mkN_len _ _)
  have hd3 : numNew B w3 u.da u.dc (mkN u.ds k) := gNewSl.same (by decide) nLen nFr NN2.out fun y hy => hc3.2.2.2.2 y (Nat.lt_of_lt_of_le (N1.out.2.2 y (hsame ▸ hy)).2.lt SZ.out) (fun hm => (N4.out y hm).2 (hsame ▸ hy))
  have hbl : (u.mkr k).bl = u.bl := by
    rw [LK.bl_eq, LK.bl_eq u]
    show nbl nB u.da (mkN u.ds k) ++ nbl LK.bl u.a (mkc u.ks (k + u.ds.length)).1 = _
    rw [hsame, nbl_mkc]
  have FIN := Lib.hid (show (u.mkr k).New B w3 from ⟨(LK.ok_iff _).2 ⟨⟨HU.out.1.kin, HU.out.1.vin, hd3.1⟩, by show coSl w3 u.a u.cap (mkc u.ks (k + u.ds.length)).1; rw [← K6.out]; exact hn3.1⟩, by rw [hbl]; exact HU.out.2.1, fun y hy => by
    rw [hbl, LK.bl_eq] at hy
    rcases List.mem_append.1 hy with hy | hy
    · exact hd3.2.2 y (hsame ▸ hy)
    · exact hn3.2.2 y (by rw [nbl_mkc]; exact hy)⟩)
  clear p0 p1 p2 p3 hn3 hc3 hsame hd3 hbl
  go_wp2_with fail
  go_ret
  exact ⟨by rw [← K6.out]; rfl, FIN.out, C3.out⟩

set_option maxRecDepth 100000 in
theorem laws_heldK (u : LK) (w : World) (k : Nat) (h : (u.mkr k).Ok w) (h1 : 1 ≤ k) (h2 : k + u.mcn ≤ 8000000) :
    Calls Tryd.prog 96 #[u.val, .int .i64 k] w (HdN w (mkc u.ks (k + u.ds.length)).2) := by
  have g0 := (Gw.refl w).alloc (u.obj 42)
  have BX := Lib.hid (BoxK.new w u 42)
  have MN := Lib.hid (mcn_eq u)
  have D0 := Lib.hid (show numSl _ u.da u.dc (mkN u.ds k) from h.dat.grow g0)
  have K0 := Lib.hid (show coSl _ u.a u.cap (mkc u.ks (k + u.ds.length)).1 from gSl.grow coLen coGr h.kids g0)
  have G0 := Lib.hid g0
  clear h g0
  go_enter Tryd.func96, Tryd.ntmps96
  go_upto_region 1 with (fail)
  generalize w.alloc (.cells #[.int .i64 u.k, .int .i64 u.v, .slice u.da u.ds.length u.dc, .slice u.a u.ks.length u.cap] 42) = w1 at *
  obtain ⟨p0, p1, p2, p3⟩ := BX.out.c
  go_wp2_with fail
  refine (laws_heldN u.ds w1 u.da u.dc k _ rfl D0.out (by have := MN.out; omega)).mono ?_
  rintro e w2 ⟨rfl, g2⟩
  have BX2 := Lib.hid (BX.out.grow g2)
  have G2 := Lib.hid (G0.out.trans g2)
  have K2 := Lib.hid (gSl.grow coLen coGr K0.out g2)
  clear p0 p1 p2 p3 g2
  obtain ⟨p0, p1, p2, p3⟩ := BX2.out.c
  obtain ⟨k6, hk6⟩ : ∃ k6, k6 = k + u.ds.length := ⟨_, rfl⟩
  rw [← hk6] at K2 ⊢
  have K6 := Lib.hid hk6
  have hp : ¬ ((k6 : Nat) : Int) < 0 := by omega
  clear hk6
  go_wp2_with fail
  refine (laws_heldKS u.ks w2 u.a u.cap k6 _ rfl K2.out (by have := K6.out; omega) (by have := K6.out; have := MN.out; omega)).mono ?_
  rintro e w3 ⟨rfl, g3⟩
  have G3 := Lib.hid (G2.out.trans g3)
  have QQ := Lib.hid (show (mkc u.ks (k + u.ds.length)).2 = (mkc u.ks k6).2 by rw [← K6.out])
  generalize (mkc u.ks k6).2 = q at *
  have hp2 : ¬ ((q : Nat) : Int) < 0 := by omega
  clear p0 p1 p2 p3 g3
  go_wp2_with fail
  go_ret
  exact ⟨by rw [QQ.out]; rfl, G3.out⟩

end Go.Proofs.YtkpbiifikkbaeaaDoor.Con

namespace Go.Proofs.YtkpbiifikkbaeaaDoor.Con
open Go.RowKit
set_option linter.unusedVariables false

def Co.mc : Co → Nat
  | .mk _ _ ds ks => 2 + ds.length + mcl ks
where mcl : List Co → Nat
  | [] => 0
  | t :: ts => t.mc + mcl ts
theorem mcn_co (u : LK) : u.mcn = u.co.mc := by
  refine LK.ind (P := fun u => u.mcn = u.co.mc) (fun k v da dc ds a c ks ih => ?_) u
  have key : ∀ ts : List LK, (∀ t ∈ ts, t.mcn = t.co.mc) → mcs ts = Co.mc.mcl (ts.map LK.co) := by
    intro ts
    induction ts with
    | nil => intro _; rw [mcs_nil]; rfl
    | cons t ts iht =>
      intro h
      rw [mcs_cons, List.map_cons, Co.mc.mcl, h t (by simp), iht (fun x hx => h x (by simp [hx]))]
  rw [mcn_eq, LK.co_eq, Co.mc]
  show 2 + ds.length + mcs ks = 2 + ds.length + Co.mc.mcl (ks.map LK.co)
  rw [key ks ih]
theorem mcn_sz (u : LK) : u.mcn ≤ 2 + 2 * u.sz := by
  refine LK.ind (P := fun u => u.mcn ≤ 2 + 2 * u.sz) (fun k v da dc ds a c ks ih => ?_) u
  have key : ∀ ts : List LK, (∀ t ∈ ts, t.mcn ≤ 2 + 2 * t.sz) → mcs ts ≤ 2 * LK.sz.szl ts := by
    intro ts
    induction ts with
    | nil => intro _; rw [mcs_nil]; omega
    | cons t ts iht =>
      intro h
      rw [mcs_cons, LK.sz.szl]
      have h1 := h t (by simp)
      have h2 := iht (fun x hx => h x (by simp [hx]))
      omega
  have h1 := key ks ih
  rw [mcn_eq, LK.sz]
  show 2 + ds.length + mcs ks ≤ 2 + 2 * (ds.length + LK.sz.szl ks)
  omega
/-- Marks of what lies like a small core term. -/
theorem mcn_like {u t : LK} (h : u.co = t.co) (hz : t.sz ≤ 1048576) : 1 + u.mcn ≤ 8000000 := by
  have := mcn_sz t
  rw [mcn_co, h, ← mcn_co]
  omega
theorem new_chg {B : Nat} {w w' : World} {u : LK} {S : Nat → Prop} (h : u.New B w) (hc : Chg w w' S) (hS : ∀ b ∈ u.bl, ¬ S b) : u.New B w' :=
  gNew.same coFr h fun y hy => hc.2.2.2.2 y (h.2.2 y hy).2.lt (hS y hy)

end Go.Proofs.YtkpbiifikkbaeaaDoor.Con

namespace Go.Proofs.YtkpbiifikkbaeaaDoor.Con
open Go.RowKit
set_option linter.unusedVariables false

mutual
theorem all_mc : ∀ (t : Co), t.all headC = true → t.mc ≤ 6 * t.nn
  | .mk k v ds ks, h => by
    rw [Co.all, Bool.and_eq_true] at h
    have h1 := (headC_sm h.1).2.1
    have h2 := alls_mc ks h.2
    rw [Co.mc, Co.nn]
    omega
theorem alls_mc : ∀ (ts : List Co), Co.all.alls headC ts = true → Co.mc.mcl ts ≤ 6 * Co.nn.nns ts
  | [], _ => by rw [Co.mc.mcl, Co.nn.nns]; omega
  | t :: ts, h => by
    rw [Co.all.alls, Bool.and_eq_true] at h
    have h1 := all_mc t h.1
    have h2 := alls_mc ts h.2
    rw [Co.mc.mcl, Co.nn.nns]
    omega
end
theorem ok_mc {t : Co} (h : okC t = true) : t.mc ≤ 2400 := by
  have g := okC_good h
  have := all_mc t g.1
  have := g.2.2
  omega
theorem mcn_lik4 {u t : LK} (h : u.co = t.co) (hz : t.sz ≤ 1048576) : 1 + u.mcn ≤ 4000000 := by
  have := mcn_sz t
  rw [mcn_co, h, ← mcn_co]
  omega
theorem mk_top (u : LK) (k : Nat) : (mkc u.ks (k + u.ds.length)).2 + 2 = k + u.mcn := by
  rw [(mkc_len u.ks _).1, mcn_eq]
  omega

end Go.Proofs.YtkpbiifikkbaeaaDoor.Con
