/-
  Contract of the model's l02Known: a type names only declared data. No condition but that both lie in memory.
-/
import Derived.Test.YtkfplnnncfkjfaaDoorDaIx
import Derived.Test.YtkfplnnncfkjfaaDoorTySpec
namespace Go.Proofs.YtkfplnnncfkjfaaDoor.Con
open Go.RowKit
set_option linter.unusedVariables false

/-- All names of data, as far as the model looks, are among the names. -/
def Ty.known (ns : List ByteArray) : Ty → Bool
  | .mk k n ks => if k = 2 then ns.any (fun x => x.toList == n.toList) else kn ks
where kn : List Ty → Bool
  | [] => true
  | t :: ts => t.known ns && kn ts
theorem known_data {ns : List ByteArray} {t : LT} (h : t.k = 2) {r : Int} (hr : IsIx t.n ns r) : t.ty.known ns = decide (0 ≤ r) := by
  rw [LT.ty_eq, Ty.known, if_pos h]
  rcases hr with ⟨j, rfl, h1, _⟩ | ⟨rfl, h1⟩
  · have : (ns.any fun x => x.toList == t.n.toList) = true := List.any_eq_true.2 ⟨t.n, List.mem_of_getElem? h1, by simp⟩
    rw [this]; simp
  · have : (ns.any fun x => x.toList == t.n.toList) = false := List.any_eq_false.2 fun x hx => by
      obtain ⟨i, hi, rfl⟩ := List.mem_iff_getElem.1 hx
      have : ¬ ns[i] = t.n := fun e => h1 i (by rw [List.getElem?_eq_getElem hi, e])
      rw [toList_ne this]; simp
    rw [this]; simp
theorem known_other {ns : List ByteArray} {t : LT} (h : ¬ t.k = 2) : t.ty.known ns = t.ks.all fun u => u.ty.known ns := by
  rw [LT.ty_eq, Ty.known, if_neg h]
  induction t.ks with
  | nil => rfl
  | cons u us ih => simp only [List.map_cons, Ty.known.kn, List.all_cons, ih]

theorem known_of (ds : List LD) (t : LT) (ih : ∀ u ∈ t.ks, ∀ (w : World) (a : Option Addr) (cap : Nat), dsOk w a cap ds → u.Ok w → Calls Tryd.prog 107 #[.slice a ds.length cap, u.val] w (BoolGw (u.ty.known (ds.map LN.n)) w))
    (w : World) (a : Option Addr) (cap : Nat) (hd : dsOk w a cap ds) (h : t.Ok w) : Calls Tryd.prog 107 #[.slice a ds.length cap, t.val] w (BoolGw (t.ty.known (ds.map LN.n)) w) := by
  have g1 : Gw w (w.alloc (.cells #[.int .i64 t.k, .string t.n, .slice t.a t.ks.length t.cap] 47)) := (Gw.refl w).alloc _
  by_cases h2 : t.k = 2
  · have g2 : Gw w (w.alloc (.cells #[.int .i64 2, .string t.n, .slice t.a t.ks.length t.cap] 47)) := (Gw.refl w).alloc _
    have key := spec_named ds _ a cap t.n (dsOk.grow hd g2)
    show Calls Tryd.prog 107 #[.slice a ds.length cap, .agg #[.int .i64 t.k, .string t.n, .slice t.a t.ks.length t.cap]] w (BoolGw (t.ty.known (ds.map LN.n)) w)
    rw [h2]
    have KEY := Lib.hid key
    have G1 := Lib.hid g2
    have H2 := Lib.hid h2
    clear key g1 g2 hd h h2
    go_enter Tryd.func107, Tryd.ntmps107
    go_wp2_with fail
    refine KEY.out.mono ?_
    rintro e w1 ⟨r, rfl, hr, hg⟩
    have hkn := known_data H2.out hr
    have HK := Lib.hid hkn
    clear hr hkn
    go_wp2_with fail
    go_ret
    exact ⟨by rw [HK.out]; rfl, G1.out.trans hg⟩
  · have hko := known_other (ns := ds.map LN.n) h2
    have HKO := Lib.hid hko
    have hd2 : (t.k == 2) = false := by simpa using h2
    have hl : t.ks.length ≤ 9223372036854775807 := Nat.le_trans h.kids.1 h.kids.2.1
    have hr1 := h.kids.2.2
    have b0 := heap_alloc_new w (.cells #[.int .i64 t.k, .string t.n, .slice t.a t.ks.length t.cap] 47)
    have HB0 := Lib.hid b0
    have G1 := Lib.hid g1
    have HD := Lib.hid hd
    clear hko b0 g1 h hd
    go_enter Tryd.func107, Tryd.ntmps107
    go_wp2_with fail
    generalize w.alloc (.cells #[.int .i64 t.k, .string t.n, .slice t.a t.ks.length t.cap] 47) = w1 at *
    go_loopw [5] (fun i wr => ∃ j : Nat, j ≤ t.ks.length ∧ i = .int .i64 j ∧ Gw w1 wr ∧ ∀ i (hx : i < t.ks.length), i < j → t.ks[i].ty.known (ds.map LN.n) = true) (fun i _ => t.ks.length - (intOf i).toNat)
    case atStart => exact ⟨0, by omega, rfl, Gw.refl _, fun i _ h => absurd h (by omega)⟩
    case round =>
      obtain ⟨j, hj, rfl, hg, hall⟩ := hrel
      have HALL := Lib.hid hall
      have B0 : wr.heap[w.heap.size]? = some (.cells #[.int .i64 t.k, .string t.n, .slice t.a t.ks.length t.cap] 47 (0, 0)) := (hg.block _ (Array.getElem?_eq_some_iff.1 HB0.out).1).trans HB0.out
      have x2 : wr.cell? ⟨w.heap.size, 2, none⟩ = some (.slice t.a t.ks.length t.cap) := cell_of_row _ _ 2 _ _ _ B0
      have HG := Lib.hid (G1.out.trans hg)
      have HG1 := Lib.hid hg
      clear B0 hall
      by_cases hlt : j < t.ks.length
      · obtain ⟨b1, o1, e1, r1⟩ := hr1.resolve_left (fun e => by rw [e] at hlt; simp at hlt)
        rw [e1] at x2
        obtain ⟨c0, c1, c2, hk⟩ := rowOk_get (r1.grow HG.out) j hlt
        have q0 : (0 : Int) ≤ j := by omega
        have q1 : (j : Int) < t.ks.length := by omega
        have key := ih t.ks[j] (List.getElem_mem hlt) wr a cap (dsOk.grow HD.out HG.out) hk
        have KEY := Lib.hid key
        clear hr1 e1 r1 hk key
        cases hb : t.ks[j].ty.known (ds.map LN.n) with
        | false =>
          have HB := Lib.hid hb
          rw [hb] at KEY
          clear hb
          go_wp2_with fail
          refine KEY.out.mono ?_
          rintro e w4 ⟨rfl, hg4⟩
          clear c0 c1 c2 x2
          go_wp2_with fail
          go_ret
          refine ⟨?_, HG.out.trans hg4⟩
          rw [HKO.out]
          have : (t.ks.all fun u => u.ty.known (ds.map LN.n)) = false := List.all_eq_false.2 ⟨_, List.getElem_mem hlt, by rw [HB.out]; simp⟩
          rw [this]; rfl
        | true =>
          have HB := Lib.hid hb
          rw [hb] at KEY
          clear hb
          go_wp2_with fail
          refine KEY.out.mono ?_
          rintro e w4 ⟨rfl, hg4⟩
          have HG4 := Lib.hid (HG1.out.trans hg4)
          clear c0 c1 c2 x2
          go_wp2_with fail
          go_roundw
          case rel =>
            refine ⟨j + 1, by omega, by go_num, HG4.out, fun i hx hi => ?_⟩
            by_cases e : i = j
            · subst e; exact HB.out
            · exact HALL.out i hx (by omega)
          case measure => simp [intOf]; omega
      · obtain rfl : j = t.ks.length := by omega
        go_wp2_with fail
        go_ret
        refine ⟨?_, HG.out⟩
        rw [HKO.out]
        have : (t.ks.all fun u => u.ty.known (ds.map LN.n)) = true := List.all_eq_true.2 fun u hu => by
          obtain ⟨i, hi, rfl⟩ := List.mem_iff_getElem.1 hu
          exact HALL.out i hi hi
        rw [this]; rfl

theorem spec_known (ds : List LD) (t : LT) : ∀ (w : World) (a : Option Addr) (cap : Nat), dsOk w a cap ds → t.Ok w → Calls Tryd.prog 107 #[.slice a ds.length cap, t.val] w (BoolGw (t.ty.known (ds.map LN.n)) w) := by
  refine LT.ind (P := fun t => ∀ (w : World) (a : Option Addr) (cap : Nat), dsOk w a cap ds → t.Ok w → Calls Tryd.prog 107 #[.slice a ds.length cap, t.val] w (BoolGw (t.ty.known (ds.map LN.n)) w)) (fun k n a0 c ks ih => ?_) t
  exact known_of ds (.mk k n a0 c ks) ih

end Go.Proofs.YtkfplnnncfkjfaaDoor.Con
