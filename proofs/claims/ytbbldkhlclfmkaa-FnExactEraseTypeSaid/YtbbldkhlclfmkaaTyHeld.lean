/-
  Contracts of the laws' markTypeS, markType, heldTypeS and heldType: what was marked is held. Condition: the type lies in blocks of its own and is not too large.
-/
import Derived.Test.YtbbldkhlclfmkaaTyMk
import Derived.LoopTactic
import Derived.StillTailTactics
namespace Go.Proofs.Ytbbldkhlclfmkaa.Con
open Go.RowKit
set_option linter.unusedVariables false

theorem held_at (ks : List LT) (k j : Nat) (hlt : j < ks.length) : ∃ kk, (mkl (ks.take j) k).2 = kk ∧ k ≤ kk ∧ kk + 2 * (1 + cntl ks[j].ks) ≤ k + 2 * cntl ks ∧
    (∀ hl : j < (mkl ks k).1.length, (mkl ks k).1[j] = LT.mk kk (str (mtx (kk + 1))) ks[j].a ks[j].cap (mkl ks[j].ks (kk + 2)).1) ∧ (mkl (ks.take (j + 1)) k).2 = (mkl ks[j].ks (kk + 2)).2 := by
  have hdrop : ks.drop j = ks[j] :: ks.drop (j + 1) := List.drop_eq_getElem_cons hlt
  have hlen := mkl_len (ks.take j) k
  have e2 : cntl ks = cntl (ks.take j) + cntl (ks.drop j) := by rw [← cntl_append, List.take_append_drop]
  have hcn := cnt_eq ks[j]
  refine ⟨_, rfl, by omega, ?_, fun hl => ?_, ?_⟩
  · rw [hlen.1, e2, hdrop, cntl_cons]; omega
  · have e3 : (mkl ks k).1 = (mkl (ks.take j) k).1 ++ (mkl (ks.drop j) (mkl (ks.take j) k).2).1 := by
      have := mkl_append (ks.take j) (ks.drop j) k
      rw [List.take_append_drop] at this
      rw [this]
    have e4 : (mkl (ks.take j) k).1.length = j := by rw [hlen.2, List.length_take]; omega
    have e5 : (mkl ks k).1[j]? = some (ks[j].mkd (mkl (ks.take j) k).2).1 := by
      rw [e3, List.getElem?_append_right (by omega), e4, Nat.sub_self, hdrop, mkl_cons]; rfl
    rw [List.getElem?_eq_getElem hl] at e5
    rw [Option.some.inj e5, mkd_eq]
  · rw [List.take_succ_eq_append_getElem hlt, mkl_append, mkl_cons, mkl_nil, mkd_eq]

def HdPost (w : World) (q : Nat) (e : Ending) (w' : World) : Prop := e = .returned (.int .i64 (q : Nat)) ∧ Gw w w'

def HdS (ks : List LT) : Prop := ∀ (w : World) (a : Option Addr) (cap k n : Nat), ks.length = n → slOk w a cap (mkl ks k).1 → 1 ≤ k → k + 2 * cntl ks ≤ 8000000 → Calls Try.prog 47 #[.slice a n cap, .int .i64 k] w (HdPost w (mkl ks k).2)

set_option maxRecDepth 100000 in
theorem heldS_of (ks : List LT) (ih : ∀ t ∈ ks, HdS t.ks) : HdS ks := by
  intro w a cap k n hn h h1 h2
  have hlen : (mkl ks k).1.length = n := (mkl_len ks k).2.trans hn
  have hl : n ≤ 9223372036854775807 := hlen ▸ Nat.le_trans h.1 h.2.1
  have hr := h.2.2
  have HLEN := Lib.hid hlen
  have HN := Lib.hid hn
  clear h hlen hn
  go_enter Try.func47, Try.ntmps47
  go_wp2_with fail
  go_loopw [1, 5] (fun kv i wr => ∃ j : Nat, j ≤ n ∧ i = .int .i64 j ∧ kv = .int .i64 ((mkl (ks.take j) k).2 : Nat) ∧ Gw w wr) (fun _ i _ => n - (intOf i).toNat)
  case atStart => exact ⟨0, by omega, rfl, by simp [mkl_nil], Gw.refl _⟩
  case round =>
    obtain ⟨j, hj, rfl, rfl, hg⟩ := hrel
    by_cases hlt : j < n
    · have hn := HN.out
      have hlen := HLEN.out
      obtain ⟨kk, hK, hk1, hkb, hat, hnext⟩ := held_at ks k j (by omega)
      rw [hK]
      have HNX := Lib.hid hnext
      obtain ⟨b, o, rfl, r⟩ := hr.resolve_left (fun e => by rw [e] at hlen; simp at hlen; omega)
      have hget := rowOk_get (r.grow hg) j (by omega)
      rw [hat (by omega)] at hget
      obtain ⟨c0, c1, c2, hk⟩ := hget
      replace c0 : wr.cell? ⟨b, o + j * 3, none⟩ = some (.int .i64 kk) := c0
      replace c1 : wr.cell? ⟨b, o + j * 3 + 1, none⟩ = some (.string (str (mtx (kk + 1)))) := c1
      replace c2 : wr.cell? ⟨b, o + j * 3 + 2, none⟩ = some (.slice (ks[j]'(by omega)).a (mkl (ks[j]'(by omega)).ks (kk + 2)).1.length (ks[j]'(by omega)).cap) := c2
      have hml := (mkl_len (ks[j]'(by omega)).ks (kk + 2)).2
      rw [hml] at c2
      have hkid : slOk wr (ks[j]'(by omega)).a (ks[j]'(by omega)).cap (mkl (ks[j]'(by omega)).ks (kk + 2)).1 := hk.kids
      have HKID := Lib.hid hkid
      have hb := cell_lt c0
      have hT := List.getElem_mem (l := ks) (n := j) (by omega)
      have HT := Lib.hid hT
      generalize hte : ks[j]'(by omega) = t at *
      clear hte
      clear hnext hat hK hr hn hlen hk hml hkid r hT
      go_wp2_with fail
      rw [show ((kk : Int) + 1) = ((kk + 1 : Nat) : Int) from by omega]
      go_region_held3 (fun W => W.cell? ⟨b, o + j * 3 + 1, none⟩ = some (.string (str (mtx (kk + 1)))))
        (first | exact c1 | exact (k2 _ _ hb).trans c1)
        (first
          | (go_at_call 87; refine (markText (kk + 1) (by omega) (by omega) _).mono ?_; rintro e w2 ⟨rfl, hg2⟩; have k2 : ∀ b o, b < wr.heap.size → w2.cell? ⟨b, o, none⟩ = wr.cell? ⟨b, o, none⟩ := fun b o h => (bcell hg2).1 b o h))
      have d2 : w2.cell? ⟨b, o + j * 3 + 2, none⟩ = some (.slice t.a t.ks.length t.cap) := (k2 _ _ hb).trans c2
      have hg2' : Gw wr w2 := ((Gw.refl wr).drew).trans hg2
      have hkid2 := HKID.out.grow hg2'
      have HK2 := Lib.hid hkid2
      have hg3 := hg.trans hg2'
      clear c0 c1 c2 k2 hkid2
      go_wp2_with fail
      rw [show ((kk : Int) + 1 + 1) = ((kk + 2 : Nat) : Int) from by omega]
      refine (ih t HT.out _ _ _ (kk + 2) _ rfl HK2.out (by omega) (by omega)).mono ?_
      rintro e w4 ⟨rfl, hg4⟩
      generalize hq : (mkl t.ks (kk + 2)).2 = q at *
      go_wp2_with fail
      go_roundw
      case rel => exact ⟨j + 1, by omega, by go_num, by rw [HNX.out], hg3.trans hg4⟩
      case measure => simp [intOf]; omega
    · obtain rfl : j = n := by omega
      go_wp2_with fail
      go_ret
      have hn := HN.out
      exact ⟨by rw [← hn, List.take_length]; rfl, hg⟩

theorem laws_heldS (ks : List LT) : HdS ks := heldS_of ks fun t _ => by
  refine LT.ind (P := fun t => HdS t.ks) (fun k n a c ks ih => ?_) t
  exact heldS_of ks ih

/-- Of a type whose kids are marked from k on. -/
theorem laws_held (t : LT) (w : World) (k : Nat) (h : slOk w t.a t.cap (mkl t.ks k).1) (h1 : 1 ≤ k) (h2 : k + 2 * cntl t.ks ≤ 8000000) :
    Calls Try.prog 17 #[t.val, .int .i64 k] w (HdPost w (mkl t.ks k).2) := by
  have g1 : Gw w (w.alloc (.cells #[.int .i64 t.k, .string t.n, .slice t.a t.ks.length t.cap] 29)) := (Gw.refl w).alloc _
  have key := laws_heldS t.ks _ t.a t.cap k _ rfl (h.grow g1) h1 h2
  have HG1 := Lib.hid g1
  clear h g1
  go_enter Try.func17, Try.ntmps17
  go_wp2_with fail
  refine key.mono ?_
  rintro e w1 ⟨rfl, hg⟩
  clear key
  generalize (mkl t.ks k).2 = q at *
  go_wp2_with fail
  go_ret
  exact ⟨rfl, HG1.out.trans hg⟩

end Go.Proofs.Ytbbldkhlclfmkaa.Con
