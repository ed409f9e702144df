/-
  Contracts of the program's constructorPlace and FindConstructor. No condition but that the declarations lie in memory.
-/
import Derived.Test.YtpafjhnamdeagabDaCon
namespace Go.Proofs.Ytpafjhnamdeagab.Con
open Go.RowKit
set_option linter.unusedVariables false

/-- What constructorPlace answers. -/
def PlR (D : List DD) (nm : ByteArray) (r t : Int) (ok : Bool) : Prop := (ok = true ∧ ∃ i k : Nat, r = i ∧ t = k ∧ FoundC D nm i k ∧ i ≤ maxLen ∧ k ≤ maxLen) ∨ (NoneC D nm ∧ r = 0 ∧ t = 0 ∧ ok = false)
def PlPost (D : List DD) (nm : ByteArray) (w : World) (e : Ending) (w' : World) : Prop := ∃ r t ok, e = .returned (.tuple #[.int .i64 r, .int .i64 t, .bool ok]) ∧ PlR D nm r t ok ∧ Gw w w'

set_option maxHeartbeats 1000000 in
set_option maxRecDepth 100000 in
theorem impl_place (ds : List LD) (nm : ByteArray) (w : World) (a : Option Addr) (cap : Nat) (h : dsOk w a cap ds) : Calls Try.prog 24 #[.slice a ds.length cap, .string nm] w (PlPost (ds.map dty) nm w) := by
  have hl : ds.length ≤ 9223372036854775807 := Nat.le_trans h.1 h.2.1
  have hrow := Lib.hid h.2.2
  clear h
  go_enter Try.func24, Try.ntmps24
  go_wp2_with fail
  go_loopw [13] (fun i wr => ∃ j : Nat, j ≤ ds.length ∧ i = .int .i64 j ∧ Gw w wr ∧ ∀ y (hy : y < ds.length), y < j → nm ∉ ds[y].xs.map LN.n) (fun i _ => ds.length - (intOf i).toNat)
  case atStart => exact ⟨0, by omega, rfl, Gw.refl _, fun y _ h => absurd h (by omega)⟩
  case round =>
    obtain ⟨j, hj, rfl, hg, hall⟩ := hrel
    have HALL := Lib.hid hall
    obtain ⟨wo, rfl⟩ : ∃ wo : World, wo = wr := ⟨_, rfl⟩
    have G := Lib.hid hg
    clear hall hg
    by_cases hlt : j < ds.length
    · obtain ⟨b, o, ea, hr⟩ := hrow.out.resolve_left (fun e => by subst e; simp at hlt)
      subst ea
      obtain ⟨c0, c1, _⟩ := (hr.grow G.out (fun _ h => h.grow G.out)) j hlt
      have q0 : (0 : Int) ≤ j := by omega
      have q1 : (j : Int) < ds.length := by omega
      obtain ⟨d, hd⟩ : ∃ d, d = ds[j] := ⟨_, rfl⟩
      have EQD := Lib.hid hd
      have hdw : dOk w ds[j] := (hr j hlt).2.2
      rw [← hd] at hdw c0 c1
      have hll : d.xs.length ≤ 9223372036854775807 := Nat.le_trans hdw.2.1 hdw.2.2.1
      have HDW := Lib.hid hdw
      obtain ⟨da, hda⟩ : ∃ da, da = d.a := ⟨_, rfl⟩
      rw [← hda] at c1
      have EDA := Lib.hid hda
      have G1 := Lib.hid (G.out.alloc (.cells #[.string d.n, .slice da d.xs.length d.cap] 53))
      clear hr hd hdw hda
      go_wp2_with fail
      clear c0 c1
      go_loopw [21] (fun i wr => ∃ k : Nat, k ≤ d.xs.length ∧ i = .int .i64 k ∧ Gw w wr ∧ ∀ x (hx : x < d.xs.length), x < k → d.xs[x].n ≠ nm) (fun i _ => d.xs.length - (intOf i).toNat)
      case atStart => exact ⟨0, by omega, rfl, G1.out, fun y _ h => absurd h (by omega)⟩
      case round =>
        obtain ⟨k, hk, rfl, hg, hall2⟩ := hrel
        have HALL2 := Lib.hid hall2
        have G2 := Lib.hid hg
        clear hall2
        by_cases hkl : k < d.xs.length
        · obtain ⟨b2, o2, ea2, hr2⟩ := HDW.out.2.2.2.resolve_left (fun e => by rw [e] at hkl; simp at hkl)
          obtain ⟨f0, f1, _⟩ := (hr2.grow hg (fun _ h => h.grow hg)) k hkl
          have p0 : (0 : Int) ≤ k := by omega
          have p1 : (k : Int) < d.xs.length := by omega
          have G3 := Lib.hid (hg.alloc (.cells #[.string d.xs[k].n, .slice d.xs[k].a d.xs[k].xs.length d.xs[k].cap] 64))
          obtain rfl : da = some ⟨b2, o2, none⟩ := EDA.out.trans ea2
          clear hg hr2 ea2
          by_cases he : d.xs[k].n = nm
          · have hdd : (d.xs[k].n.toList == nm.toList) = true := by rw [he]; simp
            have HF := Lib.hid (show FoundC (ds.map dty) nm j k from foundC_of hlt (by rw [← EQD.out]; exact hkl) (by simp only [← EQD.out]; exact he) (by simp only [← EQD.out]; exact HALL2.out) HALL.out)
            clear he
            go_wp2_with (go_quiet (fail))
            refine bodyPost_ret (v := .tuple #[.int .i64 j, .int .i64 k, .bool true]) (by simp [results, Try.results24, go_sem]) rfl ⟨_, _, _, rfl, .inl ⟨rfl, j, k, rfl, rfl, HF.out, by unfold maxLen; omega, by unfold maxLen; omega⟩, ?_⟩
            first | exact G3.out | exact G3.out.drewN _
          · have hdd := toList_ne he
            have HE := Lib.hid he
            clear he
            go_wp2_with (go_quiet (fail))
            go_roundw
            case rel =>
              refine ⟨k + 1, by omega, by go_num, (by first | exact G3.out | exact G3.out.drewN _), fun x hx hi => ?_⟩
              by_cases e : x = k
              · subst e; exact HE.out
              · exact HALL2.out x hx (by omega)
            case measure => simp [intOf]; omega
        · obtain rfl : k = d.xs.length := by omega
          have HN := Lib.hid (not_names HALL2.out)
          clear hg
          go_wp2_with (go_quiet (fail))
          go_roundw
          case rel =>
            refine ⟨j + 1, by omega, by go_num, (by first | exact G2.out | exact G2.out.drewN _), fun y hy hi => ?_⟩
            by_cases e : y = j
            · subst e; rw [← EQD.out]; exact HN.out
            · exact HALL.out y hy (by omega)
          case measure => simp [intOf]; omega
    · obtain rfl : j = ds.length := by omega
      go_wp2_with fail
      refine bodyPost_ret (v := .tuple #[.int .i64 0, .int .i64 0, .bool false]) (by simp [results, Try.results24, go_sem]) rfl ⟨_, _, _, rfl, .inr ⟨noneC_of HALL.out, rfl, rfl, rfl⟩, G.out⟩

theorem impl_fc (ds : List LD) (nm : ByteArray) (w : World) (a : Option Addr) (cap : Nat) (h : dsOk w a cap ds) : Calls Try.prog 13 #[.slice a ds.length cap, .string nm] w (ConPost (ds.map dty) nm w) := by
  have key := impl_ok ds w a cap h
  have HD := Lib.hid h
  clear h
  cases hb : datasB (ds.map dty) with
  | false =>
    rw [hb] at key
    have KEY := Lib.hid key
    have HF := Lib.hid (show ConR (ds.map dty) nm 0 0 false from .inr ⟨.inl hb, rfl, rfl, rfl⟩)
    clear key hb
    go_enter Try.func13, Try.ntmps13
    go_wp2_with fail
    refine KEY.out.mono ?_
    rintro e w2 ⟨rfl, g⟩
    go_wp2_with fail
    refine bodyPost_ret (v := .tuple #[.int .i64 0, .int .i64 0, .bool false]) (by simp [results, Try.results13, go_sem]) rfl ⟨_, _, _, rfl, HF.out, g⟩
  | true =>
    rw [hb] at key
    have KEY := Lib.hid key
    have HB := Lib.hid hb
    clear key hb
    go_enter Try.func13, Try.ntmps13
    go_wp2_with fail
    refine KEY.out.mono ?_
    rintro e w2 ⟨rfl, g2⟩
    have HD2 := Lib.hid (dsOk.grow HD.out g2)
    have G2 := Lib.hid g2
    clear g2
    go_wp2_with fail
    refine (impl_place ds nm w2 a cap HD2.out).mono ?_
    rintro e w3 ⟨r, t, ok, rfl, hr, g3⟩
    have HR : ConR (ds.map dty) nm r t ok := by
      rcases hr with ⟨h1, i, k, h2, h3, h4, _⟩ | ⟨h1, h2, h3, h4⟩
      · exact .inl ⟨HB.out, h1, i, k, h2, h3, h4⟩
      · exact .inr ⟨.inr h1, h2, h3, h4⟩
    have HR := Lib.hid HR
    clear hr
    go_wp2_with fail
    refine bodyPost_ret (v := .tuple #[.int .i64 r, .int .i64 t, .bool ok]) (by simp [results, Try.results13, go_sem]) rfl ⟨_, _, _, rfl, HR.out, G2.out.trans g3⟩

end Go.Proofs.Ytpafjhnamdeagab.Con
