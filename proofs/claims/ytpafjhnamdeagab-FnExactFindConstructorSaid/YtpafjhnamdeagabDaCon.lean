/-
  Contracts of FindConstructor, of the model and of the program. No condition but that the declarations lie in memory.
-/
import Derived.Test.YtpafjhnamdeagabDaLaw
import Derived.BigQuiet
import Derived.Deep.Cut
namespace Go.Proofs.Ytpafjhnamdeagab.Con
open Go.RowKit
set_option linter.unusedVariables false

def nmsC (d : DD) : List ByteArray := d.2.map Prod.fst
def FoundC (D : List DD) (nm : ByteArray) (i k : Nat) : Prop := ∃ d, D[i]? = some d ∧ (nmsC d)[k]? = some nm ∧ (∀ x, x < k → (nmsC d)[x]? ≠ some nm) ∧ ∀ y, y < i → ∀ d', D[y]? = some d' → nm ∉ nmsC d'
def NoneC (D : List DD) (nm : ByteArray) : Prop := ∀ d ∈ D, nm ∉ nmsC d

theorem FoundC.uniq {D : List DD} {nm : ByteArray} {i k i' k' : Nat} (h : FoundC D nm i k) (g : FoundC D nm i' k') : i = i' ∧ k = k' := by
  obtain ⟨d, h1, h2, h3, h4⟩ := h
  obtain ⟨d', g1, g2, g3, g4⟩ := g
  rcases Nat.lt_trichotomy i i' with hl | rfl | hl
  · exact absurd (List.mem_of_getElem? h2) (g4 i hl d h1)
  · rw [h1] at g1
    injection g1 with g1
    subst g1
    rcases Nat.lt_trichotomy k k' with hl | rfl | hl
    · exact absurd h2 (g3 k hl)
    · exact ⟨rfl, rfl⟩
    · exact absurd g2 (h3 k' hl)
  · exact absurd (List.mem_of_getElem? g2) (h4 i' hl d' g1)
theorem FoundC.some {D : List DD} {nm : ByteArray} {i k : Nat} (h : FoundC D nm i k) : ¬ NoneC D nm := fun hn => by
  obtain ⟨d, h1, h2, _⟩ := h
  exact hn d (List.mem_of_getElem? h1) (List.mem_of_getElem? h2)

theorem nmsC_dty (d : LD) : nmsC (dty d) = d.xs.map LN.n := by unfold nmsC dty; rw [List.map_map]; rfl
theorem foundC_of {ds : List LD} {nm : ByteArray} {j k : Nat} (hj : j < ds.length) (hk : k < ds[j].xs.length) (h : ds[j].xs[k].n = nm) (hb : ∀ x (hx : x < ds[j].xs.length), x < k → ds[j].xs[x].n ≠ nm)
    (ha : ∀ y (hy : y < ds.length), y < j → nm ∉ ds[y].xs.map LN.n) : FoundC (ds.map dty) nm j k := by
  refine ⟨dty ds[j], by rw [List.getElem?_map, List.getElem?_eq_getElem hj]; rfl, ?_, fun x hx => ?_, fun y hy d' hd => ?_⟩
  · rw [nmsC_dty, List.getElem?_map, List.getElem?_eq_getElem hk]; simp [h]
  · rw [nmsC_dty, List.getElem?_map, List.getElem?_eq_getElem (by omega)]
    simpa using hb x (by omega) hx
  · rw [List.getElem?_map, List.getElem?_eq_getElem (by omega : y < ds.length)] at hd
    simp at hd
    rw [← hd, nmsC_dty]
    exact ha y (by omega) hy
theorem noneC_of {ds : List LD} {nm : ByteArray} (ha : ∀ y (hy : y < ds.length), y < ds.length → nm ∉ ds[y].xs.map LN.n) : NoneC (ds.map dty) nm := fun d hd => by
  obtain ⟨u, hu, rfl⟩ := List.mem_map.1 hd
  obtain ⟨i, hi, rfl⟩ := List.mem_iff_getElem.1 hu
  rw [nmsC_dty]
  exact ha i hi hi
theorem not_names {d : LD} {nm : ByteArray} (h : ∀ x (hx : x < d.xs.length), x < d.xs.length → d.xs[x].n ≠ nm) : nm ∉ d.xs.map LN.n := fun hm => by
  obtain ⟨c, hc, e⟩ := List.mem_map.1 hm
  obtain ⟨x, hx, rfl⟩ := List.mem_iff_getElem.1 hc
  exact h x hx hx e

def ConGw (D : List DD) (nm : ByteArray) (w : World) (e : Ending) (w' : World) : Prop := Gw w w' ∧ ((∃ i k : Nat, e = .returned (.tuple #[.int .i64 i, .int .i64 k]) ∧ FoundC D nm i k ∧ i ≤ maxLen ∧ k ≤ maxLen) ∨ (e = .returned (.tuple #[.int .i64 (-1), .int .i64 (-1)]) ∧ NoneC D nm))

set_option maxHeartbeats 1000000 in
set_option maxRecDepth 100000 in
theorem spec_con (ds : List LD) (nm : ByteArray) (w : World) (a : Option Addr) (cap : Nat) (h : dsOk w a cap ds) : Calls Try.prog 21 #[.slice a ds.length cap, .string nm] w (ConGw (ds.map dty) nm w) := by
  have hl : ds.length ≤ 9223372036854775807 := Nat.le_trans h.1 h.2.1
  have hrow := Lib.hid h.2.2
  clear h
  go_enter Try.func21, Try.ntmps21
  go_wp2_with fail
  go_loopw [6] (fun i wr => ∃ j : Nat, j ≤ ds.length ∧ i = .int .i64 j ∧ Gw w wr ∧ ∀ y (hy : y < ds.length), y < j → nm ∉ ds[y].xs.map LN.n) (fun i _ => ds.length - (intOf i).toNat)
  case atStart => exact ⟨0, by omega, rfl, Gw.refl _, fun y _ h => absurd h (by omega)⟩
  case round =>
    obtain ⟨j, hj, rfl, hg, hall⟩ := hrel
    have HALL := Lib.hid hall
    obtain ⟨wo, rfl⟩ : ∃ wo : World, wo = wr := ⟨_, rfl⟩
    have G := Lib.hid hg
    clear hall hg
    by_cases hlt : j < ds.length
    · obtain ⟨b, o, ea, hr⟩ := hrow.out.resolve_left (fun e => by subst e; simp at hlt)
      subst ea
      have HR := Lib.hid hr
      have q0 : (0 : Int) ≤ j := by omega
      have q1 : (j : Int) < ds.length := by omega
      obtain ⟨d, hd⟩ : ∃ d, d = ds[j] := ⟨_, rfl⟩
      have EQD := Lib.hid hd
      have hdw : dOk w ds[j] := (hr j hlt).2.2
      rw [← hd] at hdw
      have hll : d.xs.length ≤ 9223372036854775807 := Nat.le_trans hdw.2.1 hdw.2.2.1
      have HDW := Lib.hid hdw
      clear hr hd hdw
      go_wp2_with fail
      go_loopw [7] (fun i wr => ∃ k : Nat, k ≤ d.xs.length ∧ i = .int .i64 k ∧ Gw w wr ∧ ∀ x (hx : x < d.xs.length), x < k → d.xs[x].n ≠ nm) (fun i _ => d.xs.length - (intOf i).toNat)
      case atStart => exact ⟨0, by omega, rfl, G.out, fun y _ h => absurd h (by omega)⟩
      case round =>
        obtain ⟨k, hk, rfl, hg, hall2⟩ := hrel
        have HALL2 := Lib.hid hall2
        have G2 := Lib.hid hg
        obtain ⟨c0, c1, _⟩ := (HR.out.grow hg (fun _ h => h.grow hg)) j hlt
        rw [← EQD.out] at c0 c1
        clear hall2
        by_cases hkl : k < d.xs.length
        · obtain ⟨b2, o2, ea2, hr2⟩ := HDW.out.2.2.2.resolve_left (fun e => by rw [e] at hkl; simp at hkl)
          obtain ⟨f0, f1, _⟩ := (hr2.grow hg (fun _ h => h.grow hg)) k hkl
          rw [ea2] at c1
          have p0 : (0 : Int) ≤ k := by omega
          have p1 : (k : Int) < d.xs.length := by omega
          clear hg ea2 hr2
          by_cases he : d.xs[k].n = nm
          · have hdd : (d.xs[k].n.toList == nm.toList) = true := by rw [he]; simp
            have HF := Lib.hid (show FoundC (ds.map dty) nm j k from foundC_of hlt (by rw [← EQD.out]; exact hkl) (by simp only [← EQD.out]; exact he) (by simp only [← EQD.out]; exact HALL2.out) HALL.out)
            clear he
            go_wp2_with (go_quiet (fail))
            refine bodyPost_ret (v := .tuple #[.int .i64 j, .int .i64 k]) (by simp [results, Try.results21, go_sem]) rfl ⟨?_, .inl ⟨j, k, rfl, HF.out, by unfold maxLen; omega, by unfold maxLen; omega⟩⟩
            first | exact G2.out.drewN _ | exact (G2.out.drewN _).drewN _ | exact G2.out
          · have hdd := toList_ne he
            have HE := Lib.hid he
            clear he
            go_wp2_with (go_quiet (fail))
            go_roundw
            case rel =>
              refine ⟨k + 1, by omega, by go_num, (by first | exact G2.out.drewN _ | exact (G2.out.drewN _).drewN _ | exact G2.out), fun x hx hi => ?_⟩
              by_cases e : x = k
              · subst e; exact HE.out
              · exact HALL2.out x hx (by omega)
            case measure => simp [intOf]; omega
        · obtain rfl : k = d.xs.length := by omega
          have HN := Lib.hid (not_names HALL2.out)
          clear hg
          go_wp2_with (go_quiet (fail))
          go_roundw
          case rel =>
            refine ⟨j + 1, by omega, by go_num, (by first | exact G2.out.drewN _ | exact (G2.out.drewN _).drewN _ | exact G2.out), fun y hy hi => ?_⟩
            by_cases e : y = j
            · subst e; rw [← EQD.out]; exact HN.out
            · exact HALL.out y hy (by omega)
          case measure => simp [intOf]; omega
    · obtain rfl : j = ds.length := by omega
      go_wp2_with fail
      refine bodyPost_ret (v := .tuple #[.int .i64 (-1), .int .i64 (-1)]) (by simp [results, Try.results21, go_sem]) rfl ⟨G.out, .inr ⟨rfl, noneC_of HALL.out⟩⟩

/-- What FindConstructor answers. -/
def ConR (D : List DD) (nm : ByteArray) (r t : Int) (ok : Bool) : Prop := (datasB D = true ∧ ok = true ∧ ∃ i k : Nat, r = i ∧ t = k ∧ FoundC D nm i k) ∨ ((datasB D = false ∨ NoneC D nm) ∧ r = 0 ∧ t = 0 ∧ ok = false)
theorem ConR.uniq {D : List DD} {nm : ByteArray} {r t s u : Int} {p q : Bool} (h : ConR D nm r t p) (k : ConR D nm s u q) : r = s ∧ t = u ∧ p = q := by
  rcases h with ⟨h0, rfl, i, x, rfl, rfl, hf⟩ | ⟨h0, rfl, rfl, rfl⟩ <;> rcases k with ⟨k0, rfl, i', x', rfl, rfl, hf'⟩ | ⟨k0, rfl, rfl, rfl⟩
  · obtain ⟨rfl, rfl⟩ := hf.uniq hf'
    exact ⟨rfl, rfl, rfl⟩
  · rcases k0 with k0 | k0
    · rw [h0] at k0; cases k0
    · exact absurd k0 hf.some
  · rcases h0 with h0 | h0
    · rw [h0] at k0; cases k0
    · exact absurd h0 hf'.some
  · exact ⟨rfl, rfl, rfl⟩
def ConPost (D : List DD) (nm : ByteArray) (w : World) (e : Ending) (w' : World) : Prop := ∃ r t ok, e = .returned (.tuple #[.int .i64 r, .int .i64 t, .bool ok]) ∧ ConR D nm r t ok ∧ Gw w w'

theorem spec_fc (ds : List LD) (nm : ByteArray) (w : World) (a : Option Addr) (cap : Nat) (h : dsOk w a cap ds) : Calls Try.prog 11 #[.slice a ds.length cap, .string nm] w (ConPost (ds.map dty) nm w) := by
  have key := spec_ok ds w a cap h
  have HD := Lib.hid h
  clear h
  cases hb : datasB (ds.map dty) with
  | false =>
    rw [hb] at key
    have KEY := Lib.hid key
    have HF := Lib.hid (show ConR (ds.map dty) nm 0 0 false from .inr ⟨.inl hb, rfl, rfl, rfl⟩)
    clear key hb
    go_enter Try.func11, Try.ntmps11
    go_wp2_with fail
    refine KEY.out.mono ?_
    rintro e w2 ⟨rfl, g⟩
    go_wp2_with fail
    refine bodyPost_ret (v := .tuple #[.int .i64 0, .int .i64 0, .bool false]) (by simp [results, Try.results11, go_sem]) rfl ⟨_, _, _, rfl, HF.out, g⟩
  | true =>
    rw [hb] at key
    have KEY := Lib.hid key
    have HB := Lib.hid hb
    clear key hb
    go_enter Try.func11, Try.ntmps11
    go_wp2_with fail
    refine KEY.out.mono ?_
    rintro e w2 ⟨rfl, g2⟩
    have HD2 := Lib.hid (dsOk.grow HD.out g2)
    have G2 := Lib.hid g2
    clear g2
    go_wp2_with fail
    refine (spec_con ds nm w2 a cap HD2.out).mono ?_
    rintro e w3 ⟨g3, ⟨i, k, rfl, hf, hi, hk⟩ | ⟨rfl, hn⟩⟩
    · have HF := Lib.hid hf
      have hd0 : decide ((i : Int) < 0) = false := decide_eq_false (by omega)
      clear hf
      go_wp2_with fail
      refine bodyPost_ret (v := .tuple #[.int .i64 i, .int .i64 k, .bool true]) (by simp [results, Try.results11, go_sem]) rfl ⟨_, _, _, rfl, .inl ⟨HB.out, rfl, i, k, rfl, rfl, HF.out⟩, G2.out.trans g3⟩
    · have HN := Lib.hid hn
      clear hn
      go_wp2_with fail
      refine bodyPost_ret (v := .tuple #[.int .i64 0, .int .i64 0, .bool false]) (by simp [results, Try.results11, go_sem]) rfl ⟨_, _, _, rfl, .inr ⟨.inr HN.out, rfl, rfl, rfl⟩, G2.out.trans g3⟩

end Go.Proofs.Ytpafjhnamdeagab.Con
