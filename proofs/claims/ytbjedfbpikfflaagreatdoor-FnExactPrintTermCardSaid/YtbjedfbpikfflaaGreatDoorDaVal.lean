/-
  When declarations are valid together, as functions on declarations without addresses; the model's l02Cons. No condition but that all lies in memory.
-/
import Derived.Test.YtbjedfbpikfflaaGreatDoorDaKn
import Derived.Test.YtbjedfbpikfflaaGreatDoorDaTo
import Derived.Test.YtbjedfbpikfflaaGreatDoorTyNodes
namespace Go.Proofs.YtbjedfbpikfflaaGreatDoor.Con
open Go.RowKit
set_option linter.unusedVariables false

abbrev CD := ByteArray × List Ty
abbrev DD := ByteArray × List CD

def hasB (l : List ByteArray) (n : ByteArray) : Bool := l.any fun x => x.toList == n.toList
theorem hasB_iff {l : List ByteArray} {n : ByteArray} : hasB l n = true ↔ n ∈ l := by
  unfold hasB
  rw [List.any_eq_true]
  constructor
  · rintro ⟨x, hx, h⟩
    by_cases e : x = n
    · exact e ▸ hx
    · rw [toList_ne e] at h; cases h
  · exact fun h => ⟨n, h, by simp⟩
theorem hasB_false {l : List ByteArray} {n : ByteArray} : hasB l n = false ↔ n ∉ l := by
  rw [← hasB_iff]; cases hasB l n <;> simp

def fB (ns : List ByteArray) (t : Ty) : Bool := validB t && t.known ns
def fsB (ns : List ByteArray) (fs : List Ty) : Bool := decide (fs.length ≤ 3) && fs.all (fB ns)
def cB (ns : List ByteArray) (c : CD) : Bool := upperB c.1 && fsB ns c.2
def okCs (ns : List ByteArray) : List CD → List ByteArray → Option (List ByteArray)
  | [], s => some s
  | c :: cs, s => if cB ns c && !hasB s c.1 then okCs ns cs (s ++ [c.1]) else none
def hB (dn : List ByteArray) (d : DD) : Bool := dataB d.1 && !hasB dn d.1 && decide (1 ≤ d.2.length) && decide (d.2.length ≤ 4)
def okDs (ns : List ByteArray) : List DD → List ByteArray → List ByteArray → Bool
  | [], _, _ => true
  | d :: ds, dn, s => hB dn d && match okCs ns d.2 s with | none => false | some s' => okDs ns ds (dn ++ [d.1]) s'
def datasB (D : List DD) : Bool := decide (D.length ≤ 4) && okDs (D.map Prod.fst) D [] []

theorem okCs_yes {ns : List ByteArray} {c : CD} {cs : List CD} {s : List ByteArray} (h1 : cB ns c = true) (h2 : hasB s c.1 = false) : okCs ns (c :: cs) s = okCs ns cs (s ++ [c.1]) := by simp [okCs, h1, h2]
theorem okCs_no1 {ns : List ByteArray} {c : CD} {cs : List CD} {s : List ByteArray} (h1 : cB ns c = false) : okCs ns (c :: cs) s = none := by simp [okCs, h1]
theorem okCs_no2 {ns : List ByteArray} {c : CD} {cs : List CD} {s : List ByteArray} (h2 : hasB s c.1 = true) : okCs ns (c :: cs) s = none := by simp [okCs, h2]

theorem fst_dty (ds : List LD) : (ds.map dty).map Prod.fst = ds.map LN.n := by rw [List.map_map]; rfl
theorem upper_of_data {n : ByteArray} (h : dataB n = true) : upperB n = true := by unfold dataB at h; simp at h; exact h.1

theorem fsB_len {ns : List ByteArray} {fs : List Ty} (h : ¬ fs.length ≤ 3) : fsB ns fs = false := by unfold fsB; simp [h]
theorem fsB_bad {ns : List ByteArray} {ks : List LT} {j : Nat} (hj : j < ks.length) (h : fB ns ks[j].ty = false) : fsB ns (ks.map LT.ty) = false := by
  unfold fsB
  have : ((ks.map LT.ty).all (fB ns)) = false := List.all_eq_false.2 ⟨_, List.mem_map.2 ⟨_, List.getElem_mem hj, rfl⟩, by rw [h]; simp⟩
  rw [this]; simp
theorem fsB_all {ns : List ByteArray} {ks : List LT} (hl : ks.length ≤ 3) (h : ∀ i (hi : i < ks.length), i < ks.length → fB ns ks[i].ty = true) : fsB ns (ks.map LT.ty) = true := by
  unfold fsB
  have : ((ks.map LT.ty).all (fB ns)) = true := List.all_eq_true.2 fun u hu => by
    obtain ⟨t, ht, rfl⟩ := List.mem_map.1 hu
    obtain ⟨i, hi, rfl⟩ := List.mem_iff_getElem.1 ht
    exact h i hi hi
  rw [this]; simp [hl]
theorem cB_up {ns : List ByteArray} {c : CD} (h : upperB c.1 = false) : cB ns c = false := by unfold cB; rw [h]; rfl
theorem cB_eq {ns : List ByteArray} {c : CD} {b : Bool} (h : upperB c.1 = true) (h2 : fsB ns c.2 = b) : cB ns c = b := by unfold cB; rw [h, h2]; rfl

end Go.Proofs.YtbjedfbpikfflaaGreatDoor.Con
