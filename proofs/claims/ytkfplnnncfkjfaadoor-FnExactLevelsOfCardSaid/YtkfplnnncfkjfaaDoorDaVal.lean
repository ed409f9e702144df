/-
  When declarations are valid together, as functions on declarations without addresses; the model's l02Cons. No condition but that all lies in memory.
-/
import Derived.Test.YtkfplnnncfkjfaaDoorDaKn
import Derived.Test.YtkfplnnncfkjfaaDoorDaTo
import Derived.Test.YtkfplnnncfkjfaaDoorTyNodes
namespace Go.Proofs.YtkfplnnncfkjfaaDoor.Con
open Go.RowKit
set_option linter.unusedVariables false

abbrev CD := ByteArray × List Ty
abbrev DD := ByteArray × List CD

def hasB (l : List ByteArray) (n : ByteArray) : Bool := l.any fun x => x.toList == n.toList
theorem hasB_iff {l : List ByteArray} {n : ByteArray} : hasB l n = true ↔ n ∈ l := by
  unfold hasB
  rw [List.any_eq_true]
  constructor
  · rintro ⟨x, hx, h⟩
    by_cases e : x = n
    · exact e ▸ hx
    · rw [toList_ne e] at h; cases h
  · exact fun h => ⟨n, h, by simp⟩
theorem hasB_false {l : List ByteArray} {n : ByteArray} : hasB l n = false ↔ n ∉ l := by
  rw [← hasB_iff]; cases hasB l n <;> simp

def fB (ns : List ByteArray) (t : Ty) : Bool := validB t && t.known ns
def fsB (ns : List ByteArray) (fs : List Ty) : Bool := decide (fs.length ≤ 3) && fs.all (fB ns)
def cB (ns : List ByteArray) (c : CD) : Bool := upperB c.1 && fsB ns c.2
def okCs (ns : List ByteArray) : List CD → List ByteArray → Option (List ByteArray)
  | [], s => some s
  | c :: cs, s => if cB ns c && !hasB s c.1 then okCs ns cs (s ++ [c.1]) else none
def hB (dn : List ByteArray) (d : DD) : Bool := dataB d.1 && !hasB dn d.1 && decide (1 ≤ d.2.length) && decide (d.2.length ≤ 4)
def okDs (ns : List ByteArray) : List DD → List ByteArray → List ByteArray → Bool
  | [], _, _ => true
  | d :: ds, dn, s => hB dn d && match okCs ns d.2 s with | none => false | some s' => okDs ns ds (dn ++ [d.1]) s'
def datasB (D : List DD) : Bool := decide (D.length ≤ 4) && okDs (D.map Prod.fst) D [] []

theorem okCs_yes {ns : List ByteArray} {c : CD} {cs : List CD} {s : List ByteArray} (h1 : cB ns c = true) (h2 : hasB s c.1 = false) : okCs ns (c :: cs) s = okCs ns cs (s ++ [c.1]) := by simp [okCs, h1, h2]
theorem okCs_no1 {ns : List ByteArray} {c : CD} {cs : List CD} {s : List ByteArray} (h1 : cB ns c = false) : okCs ns (c :: cs) s = none := by simp [okCs, h1]
theorem okCs_no2 {ns : List ByteArray} {c : CD} {cs : List CD} {s : List ByteArray} (h2 : hasB s c.1 = true) : okCs ns (c :: cs) s = none := by simp [okCs, h2]

theorem fst_dty (ds : List LD) : (ds.map dty).map Prod.fst = ds.map LN.n := by rw [List.map_map]; rfl
theorem upper_of_data {n : ByteArray} (h : dataB n = true) : upperB n = true := by unfold dataB at h; simp at h; exact h.1

theorem fsB_len {ns : List ByteArray} {fs : List Ty} (h : ¬ fs.length ≤ 3) : fsB ns fs = false := by unfold fsB; simp [h]
theorem fsB_bad {ns : List ByteArray} {ks : List LT} {j : Nat} (hj : j < ks.length) (h : fB ns ks[j].ty = false) : fsB ns (ks.map LT.ty) = false := by
  unfold fsB
  have : ((ks.map LT.ty).all (fB ns)) = false := List.all_eq_false.2 ⟨_, List.mem_map.2 ⟨_, List.getElem_mem hj, rfl⟩, by rw [h]; simp⟩
  rw [this]; simp
theorem fsB_all {ns : List ByteArray} {ks : List LT} (hl : ks.length ≤ 3) (h : ∀ i (hi : i < ks.length), i < ks.length → fB ns ks[i].ty = true) : fsB ns (ks.map LT.ty) = true := by
  unfold fsB
  have : ((ks.map LT.ty).all (fB ns)) = true := List.all_eq_true.2 fun u hu => by
    obtain ⟨t, ht, rfl⟩ := List.mem_map.1 hu
    obtain ⟨i, hi, rfl⟩ := List.mem_iff_getElem.1 ht
    exact h i hi hi
  rw [this]; simp [hl]
theorem cB_up {ns : List ByteArray} {c : CD} (h : upperB c.1 = false) : cB ns c = false := by unfold cB; rw [h]; rfl
theorem cB_eq {ns : List ByteArray} {c : CD} {b : Bool} (h : upperB c.1 = true) (h2 : fsB ns c.2 = b) : cB ns c = b := by unfold cB; rw [h, h2]; rfl

set_option maxHeartbeats 1000000 in
theorem spec_cons (ds : List LD) (c : LC) (w : World) (a : Option Addr) (cap : Nat) (hd : dsOk w a cap ds) (h : cOk w c) : Calls Tryd.prog 88 #[.slice a ds.length cap, c.val] w (BoolGw (cB (ds.map LN.n) (cty c)) w) := by
  have hnm : c.n.size ≤ 9223372036854775807 := h.1
  have hl : c.xs.length ≤ 9223372036854775807 := Nat.le_trans h.2.1 h.2.2.1
  have hr1 := h.2.2.2
  have g1 : Gw w (w.alloc (.cells #[.string c.n, .slice c.a c.xs.length c.cap] 131)) := (Gw.refl w).alloc _
  have b0 := heap_alloc_new w (.cells #[.string c.n, .slice c.a c.xs.length c.cap] 131)
  have HB0 := Lib.hid b0
  have G1 := Lib.hid g1
  have HD := Lib.hid hd
  clear b0 g1 h hd
  cases hu : upperB c.n with
  | false =>
    have HU := Lib.hid hu
    have key := spec_upper c.n hnm (w.alloc (.cells #[.string c.n, .slice c.a c.xs.length c.cap] 131))
    rw [hu] at key
    have KEY := Lib.hid key
    clear hu key hr1
    go_enter Tryd.func88, Tryd.ntmps88
    go_wp2_with fail
    refine KEY.out.mono ?_
    rintro e w1 ⟨rfl, hg⟩
    go_wp2_with fail
    go_ret
    exact ⟨ret_b (by rw [cB_up (c := cty c) HU.out]), G1.out.trans hg⟩
  | true =>
    have HU := Lib.hid hu
    have key := spec_upper c.n hnm (w.alloc (.cells #[.string c.n, .slice c.a c.xs.length c.cap] 131))
    rw [hu] at key
    have KEY := Lib.hid key
    clear hu key
    go_enter Tryd.func88, Tryd.ntmps88
    go_wp2_with fail
    refine KEY.out.mono ?_
    rintro e w1 ⟨rfl, hg⟩
    have B1 : w1.heap[w.heap.size]? = some (.cells #[.string c.n, .slice c.a c.xs.length c.cap] 131 (0, 0)) := (hg.block _ (Array.getElem?_eq_some_iff.1 HB0.out).1).trans HB0.out
    have x1 : w1.cell? ⟨w.heap.size, 1, none⟩ = some (.slice c.a c.xs.length c.cap) := cell_of_row _ _ 1 _ _ _ B1
    have BB := Lib.hid B1
    have G2 := Lib.hid (G1.out.trans hg)
    clear B1 hg
    by_cases h3 : c.xs.length ≤ 3
    · have HL := Lib.hid h3
      go_wp2_with fail
      clear x1
      go_loopw [5] (fun i wr => ∃ j : Nat, j ≤ c.xs.length ∧ i = .int .i64 j ∧ Gw w1 wr ∧ ∀ i (hx : i < c.xs.length), i < j → fB (ds.map LN.n) c.xs[i].ty = true) (fun i _ => c.xs.length - (intOf i).toNat)
      case atStart => exact ⟨0, by omega, rfl, Gw.refl _, fun i _ h => absurd h (by omega)⟩
      case round =>
        obtain ⟨j, hj, rfl, hg, hall⟩ := hrel
        have HALL := Lib.hid hall
        have B0 : wr.heap[w.heap.size]? = some (.cells #[.string c.n, .slice c.a c.xs.length c.cap] 131 (0, 0)) := (hg.block _ (Array.getElem?_eq_some_iff.1 BB.out).1).trans BB.out
        have x2 : wr.cell? ⟨w.heap.size, 1, none⟩ = some (.slice c.a c.xs.length c.cap) := cell_of_row _ _ 1 _ _ _ B0
        have HG := Lib.hid (G2.out.trans hg)
        have HG1 := Lib.hid hg
        have HB := Lib.hid B0
        clear B0 hall
        by_cases hlt : j < c.xs.length
        · obtain ⟨b1, o1, e1, r1⟩ := hr1.resolve_left (fun e => by rw [e] at hlt; simp at hlt)
          rw [e1] at x2
          have HR := Lib.hid r1
          have E1 := Lib.hid e1
          obtain ⟨c0, c1, c2, hk⟩ := rowOk_get (r1.grow HG.out) j hlt
          have q0 : (0 : Int) ≤ j := by omega
          have q1 : (j : Int) < c.xs.length := by omega
          have key := spec_valid c.xs[j] wr hk
          cases hb : validB c.xs[j].ty with
          | false =>
            rw [hb] at key
            have KEY := Lib.hid key
            have HV := Lib.hid hb
            clear hr1 r1 e1 hk key hb
            go_wp2_with fail
            refine KEY.out.mono ?_
            rintro e w4 ⟨rfl, hg4⟩
            clear c0 c1 c2 x2
            go_wp2_with fail
            go_ret
            exact ⟨ret_b (cB_eq (c := cty c) HU.out (fsB_bad hlt (by unfold fB; rw [HV.out]; rfl))).symm, HG.out.trans hg4⟩
          | true =>
            rw [hb] at key
            have KEY := Lib.hid key
            have HV := Lib.hid hb
            clear hr1 r1 e1 hk key hb
            go_wp2_with fail
            refine KEY.out.mono ?_
            rintro e w4 ⟨rfl, hg4⟩
            clear c0 c1 c2 x2
            have G4 := Lib.hid (HG.out.trans hg4)
            have G41 := Lib.hid (HG1.out.trans hg4)
            obtain ⟨c0, c1, c2, hk⟩ := rowOk_get (HR.out.grow G4.out) j hlt
            have B4 : w4.heap[w.heap.size]? = some (.cells #[.string c.n, .slice c.a c.xs.length c.cap] 131 (0, 0)) := (hg4.block _ (Array.getElem?_eq_some_iff.1 HB.out).1).trans HB.out
            have x2 : w4.cell? ⟨w.heap.size, 1, none⟩ = some (.slice c.a c.xs.length c.cap) := cell_of_row _ _ 1 _ _ _ B4
            rw [E1.out] at x2
            have key := spec_known ds c.xs[j] w4 a cap (dsOk.grow HD.out G4.out) hk
            clear B4 hg4
            cases hb : c.xs[j].ty.known (ds.map LN.n) with
            | false =>
              rw [hb] at key
              have KEY := Lib.hid key
              have HV := Lib.hid hb
              clear hk key hb
              go_wp2_with fail
              refine KEY.out.mono ?_
              rintro e w5 ⟨rfl, hg5⟩
              clear c0 c1 c2 x2
              go_wp2_with fail
              go_ret
              exact ⟨ret_b (cB_eq (c := cty c) HU.out (fsB_bad hlt (by unfold fB; rw [HV.out]; simp))).symm, G4.out.trans hg5⟩
            | true =>
              rw [hb] at key
              have KEY := Lib.hid key
              have HK := Lib.hid hb
              clear hk key hb
              go_wp2_with fail
              refine KEY.out.mono ?_
              rintro e w5 ⟨rfl, hg5⟩
              clear c0 c1 c2 x2
              go_wp2_with fail
              go_roundw
              case rel =>
                refine ⟨j + 1, by omega, by go_num, G41.out.trans hg5, fun i hx hi => ?_⟩
                by_cases e : i = j
                · subst e; unfold fB; rw [HV.out, HK.out]; rfl
                · exact HALL.out i hx (by omega)
              case measure => simp [intOf]; omega
        · obtain rfl : j = c.xs.length := by omega
          clear hr1
          go_wp2_with fail
          go_ret
          exact ⟨ret_b (cB_eq (c := cty c) HU.out (fsB_all HL.out HALL.out)).symm, HG.out⟩
    · have HL := Lib.hid h3
      go_wp2_with fail
      go_ret
      exact ⟨ret_b (cB_eq (c := cty c) HU.out (fsB_len (by simpa [cty] using HL.out))).symm, G2.out⟩

end Go.Proofs.YtkfplnnncfkjfaaDoor.Con
