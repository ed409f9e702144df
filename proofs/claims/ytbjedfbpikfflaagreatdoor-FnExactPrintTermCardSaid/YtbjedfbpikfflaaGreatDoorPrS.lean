/-
  The model's printing of terms: l04Level, l04Names, l04List, l04Bare, l04Print. Condition: the term is valid (Tm.ok) and has at most 160 nodes.
-/
import Derived.Test.YtbjedfbpikfflaaGreatDoorPr
import Derived.Test.YtbjedfbpikfflaaGreatDoorTmNds
import Derived.Test.YtbjedfbpikfflaaGreatDoorDecS
import Derived.Deep.RegionHeld3
import Derived.Deep.Cut
namespace Go.Proofs.YtbjedfbpikfflaaGreatDoor.Con
open Go.RowKit
set_option linter.unusedVariables false

/-- A term lies at an address. -/
def AtM (w : World) (b o : Nat) (u : LM) : Prop := (∀ j v, (tmE u)[j]? = some v → w.cell? ⟨b, o + j, none⟩ = some v) ∧ u.Ok w
theorem AtM.grow {w w' : World} {b o : Nat} {u : LM} (h : AtM w b o u) (g : Gw w w') : AtM w' b o u :=
  ⟨fun j v hv => (g.cell (h.1 j v hv) (cell_lt (h.1 j v hv))), h.2.grow g⟩
theorem AtM.c {w : World} {b o : Nat} {u : LM} (h : AtM w b o u) : w.cell? ⟨b, o, none⟩ = some (.int .i64 u.k) ∧ w.cell? ⟨b, o + 1, none⟩ = some (.int .i64 u.m) ∧ w.cell? ⟨b, o + 2, none⟩ = some (.string u.n) ∧
    w.cell? ⟨b, o + 3, none⟩ = some (.int .i64 u.t.k) ∧ w.cell? ⟨b, o + 4, none⟩ = some (.string u.t.n) ∧ w.cell? ⟨b, o + 5, none⟩ = some (.slice u.t.a u.t.ks.length u.t.cap) ∧
    w.cell? ⟨b, o + 6, none⟩ = some (.slice u.na u.ns.length u.nc) ∧ w.cell? ⟨b, o + 7, none⟩ = some (.slice u.a u.ks.length u.cap) :=
  ⟨h.1 0 _ rfl, h.1 1 _ rfl, h.1 2 _ rfl, h.1 3 _ rfl, h.1 4 _ rfl, h.1 5 _ rfl, h.1 6 _ rfl, h.1 7 _ rfl⟩
theorem AtM.lt {w : World} {b o : Nat} {u : LM} (h : AtM w b o u) : b < w.heap.size := cell_lt (h.1 0 _ rfl)
theorem row_at {w : World} {ks : List LM} {b o : Nat} (h : gRow 8 tmE LM.Ok w ks b o) (i : Nat) (hi : i < ks.length) : AtM w b (o + i * 8) ks[i] := ⟨fun j v hv => (h i hi).1 j v hv, (h i hi).2⟩

theorem spec_level (k m : Int) (b o : Nat) (w : World) (c0 : w.cell? ⟨b, o, none⟩ = some (.int .i64 k)) (c1 : w.cell? ⟨b, o + 1, none⟩ = some (.int .i64 m)) :
    Calls Tryz.prog 25 #[.pointer (some ⟨b, o, none⟩)] w fun e w' => e = .returned (.int .i64 (lvM k m)) ∧ w = w' := by
  by_cases h3 : k = 3
  · subst h3
    by_cases h5 : m = 5
    · subst h5
      go_enter Tryz.func25, Tryz.ntmps25
      go_wp2_with fail
      go_ret
      exact ⟨rfl, rfl⟩
    by_cases h6 : m = 6
    · subst h6
      go_enter Tryz.func25, Tryz.ntmps25
      go_wp2_with fail
      go_ret
      exact ⟨rfl, rfl⟩
    by_cases h1 : m = 1
    · subst h1
      go_enter Tryz.func25, Tryz.ntmps25
      go_wp2_with fail
      go_ret
      exact ⟨rfl, rfl⟩
    by_cases h2 : m = 2
    · subst h2
      go_enter Tryz.func25, Tryz.ntmps25
      go_wp2_with fail
      go_ret
      exact ⟨rfl, rfl⟩
    have F := Lib.hid (show lvM 3 m = 3 from by unfold lvM; rw [if_neg (by omega), if_pos rfl, if_neg (by omega), if_neg (by omega)])
    have b5 : (m == 5) = false := by simpa using h5
    have b6 : (m == 6) = false := by simpa using h6
    have b1 : (m == 1) = false := by simpa using h1
    have b2 : (m == 2) = false := by simpa using h2
    clear h5 h6 h1 h2
    go_enter Tryz.func25, Tryz.ntmps25
    go_wp2_with fail
    go_ret
    exact ⟨by rw [F.out]; rfl, rfl⟩
  by_cases h4 : k = 4
  · subst h4
    go_enter Tryz.func25, Tryz.ntmps25
    go_wp2_with fail
    go_ret
    exact ⟨rfl, rfl⟩
  by_cases h7 : k = 7
  · subst h7
    go_enter Tryz.func25, Tryz.ntmps25
    go_wp2_with fail
    go_ret
    exact ⟨rfl, rfl⟩
  by_cases h11 : k = 11
  · subst h11
    go_enter Tryz.func25, Tryz.ntmps25
    go_wp2_with fail
    go_ret
    exact ⟨rfl, rfl⟩
  by_cases h5 : k = 5
  · subst h5
    go_enter Tryz.func25, Tryz.ntmps25
    go_wp2_with fail
    go_ret
    exact ⟨rfl, rfl⟩
  have F := Lib.hid (show lvM k m = 5 from by unfold lvM; rw [if_neg (by omega), if_neg h3, if_neg h5])
  have b3 : (k == 3) = false := by simpa using h3
  have b4 : (k == 4) = false := by simpa using h4
  have b5 : (k == 5) = false := by simpa using h5
  have b7 : (k == 7) = false := by simpa using h7
  have b11 : (k == 11) = false := by simpa using h11
  clear h3 h4 h5 h7 h11
  go_enter Tryz.func25, Tryz.ntmps25
  go_wp2_with fail
  go_ret
  exact ⟨by rw [F.out]; rfl, rfl⟩

theorem joinP_snoc (sep : List UInt8) (xs : List (List UInt8)) (x : List UInt8) : joinP sep (xs ++ [x]) = if xs = [] then x else joinP sep xs ++ (sep ++ x) := by
  cases xs with
  | nil => simp [joinP]
  | cons y r => rw [if_neg (by simp), List.cons_append]; simp [joinP]
theorem joinP_pos (sep : List UInt8) (xs : List (List UInt8)) (h0 : xs ≠ []) (h : ∀ x ∈ xs, 1 ≤ x.length) : 1 ≤ (joinP sep xs).length := by
  cases xs with
  | nil => exact absurd rfl h0
  | cons y r => have := h y (by simp); simp [joinP]; omega
theorem lens_le (n : Nat) : ∀ (xs : List (List UInt8)), (∀ x ∈ xs, x.length ≤ n) → lens xs ≤ (n + 2) * xs.length
  | [], _ => by simp [lens]
  | x :: r, h => by
    have h1 := h x (by simp)
    have h2 := lens_le n r fun y hy => h y (by simp [hy])
    simp only [lens, List.map_cons, List.sum_cons, List.length_cons, Nat.mul_succ] at h2 ⊢
    omega
/-- The texts up to a place, joined, as Go's string. -/
def jnS (sep : List UInt8) (ls : List (List UInt8)) (k : Nat) : ByteArray := str (joinP sep (ls.take k))
theorem jnS_zero (sep : List UInt8) (ls : List (List UInt8)) : jnS sep ls 0 = ⟨#[]⟩ := rfl
theorem jnS_one (sep : List UInt8) (ls : List (List UInt8)) (h : 0 < ls.length) : jnS sep ls 1 = str (ls.getD 0 []) := by
  unfold jnS
  rw [List.take_succ_eq_append_getElem h, joinP_snoc, if_pos (by simp), List.getD, List.getElem?_eq_getElem h]
  rfl
theorem jnS_succ (sep : List UInt8) (ls : List (List UInt8)) (k : Nat) (hk : 0 < k) (h : k < ls.length) : jnS sep ls (k + 1) = jnS sep ls k ++ str sep ++ str (ls.getD k []) := by
  unfold jnS
  rw [List.take_succ_eq_append_getElem h, joinP_snoc, if_neg (fun e => by have := congrArg List.length e; rw [List.length_take, List.length_nil] at this; omega), str_add, str_add, List.append_assoc, List.getD, List.getElem?_eq_getElem h]
  rfl
theorem jnS_size (sep : List UInt8) (hs : sep.length = 2) (ls : List (List UInt8)) (n k : Nat) (h : ∀ x ∈ ls, x.length ≤ n) (hk : k ≤ ls.length) : (jnS sep ls k).size ≤ (n + 2) * k := by
  unfold jnS
  rw [str_size]
  have h1 := join_len sep hs (ls.take k)
  have h2 := lens_le n (ls.take k) fun x hx => h x (List.mem_of_mem_take hx)
  rw [List.length_take, Nat.min_eq_left hk] at h2
  exact Nat.le_trans h1 h2
theorem jnS_pos (sep : List UInt8) (ls : List (List UInt8)) (h0 : ls ≠ []) (h : ∀ x ∈ ls, 1 ≤ x.length) : 1 ≤ (jnS sep ls ls.length).size := by
  unfold jnS
  rw [str_size, List.take_length]
  exact joinP_pos sep ls h0 h
theorem jnS_br (ls : List (List UInt8)) (h0 : ls ≠ []) : (⟨#[91]⟩ : ByteArray) ++ jnS [44, 32] ls ls.length ++ ⟨#[93]⟩ = str (brP ls) := by
  unfold brP jnS
  rw [if_neg h0, List.take_length, ← str_add, ← str_add]
theorem str_data (s : ByteArray) : str s.data.toList = s := by apply ByteArray.ext; simp
theorem getD_str (xs : List ByteArray) (k : Nat) (h : k < xs.length) : str ((xs.map (·.data.toList)).getD k []) = xs[k] := by
  rw [List.getD, List.getElem?_eq_getElem (by simpa using h), List.getElem_map]
  exact str_data _
theorem getD_len {ls : List (List UInt8)} {P : Nat → Prop} (h : ∀ x ∈ ls, P x.length) (k : Nat) (hk : k < ls.length) : P (ls.getD k []).length := by
  rw [List.getD, List.getElem?_eq_getElem hk]
  exact h _ (List.getElem_mem hk)
theorem strSl_get {w : World} {xs : List ByteArray} {b o : Nat} (h : gRow 1 sE sOk w xs b o) (i : Nat) (hi : i < xs.length) : w.cell? ⟨b, o + i, none⟩ = some (.string xs[i]) := by
  have := (h i hi).1 0 _ rfl
  simpa using this

set_option maxHeartbeats 1000000 in
theorem spec_names_row (b o cap : Nat) (ls : List (List UInt8)) (hl0 : ls ≠ []) (hlb : ∀ x ∈ ls, x.length ≤ 400) (hlp : ∀ x ∈ ls, 1 ≤ x.length) (hn : ls.length ≤ 100) (w : World) (hr : ∀ k, k < ls.length → w.cell? ⟨b, o + k, none⟩ = some (.string (str (ls.getD k [])))) :
    Calls Tryz.prog 40 #[.slice (some ⟨b, o, none⟩) ls.length cap] w fun e w' => e = .returned (.string (str (brP ls))) ∧ w = w' := by
  have HSZ := Lib.hid fun k (hk : k ≤ ls.length) => jnS_size [44, 32] rfl ls 400 k hlb hk
  have HPOS := Lib.hid (jnS_pos [44, 32] ls hl0 hlp)
  have HBR := Lib.hid (jnS_br ls hl0)
  have HR := Lib.hid hr
  have HLB := Lib.hid fun k => getD_len (P := fun n => n ≤ 400) hlb k
  have HL1 := Lib.hid (jnS_one [44, 32] ls)
  have HLS := Lib.hid (jnS_succ [44, 32] ls)
  have hpos : 0 < ls.length := by cases ls with | nil => exact absurd rfl hl0 | cons => simp
  clear hr hlb hlp hl0
  generalize hN : ls.length = N at *
  have HN := Lib.hid hN
  clear hN
  go_enter Tryz.func40, Tryz.ntmps40
  go_wp2_with fail
  go_loop [3, 4] (fun s i => ∃ (k : Nat) (S : ByteArray), k ≤ N ∧ i = .int .i64 k ∧ s = .string S ∧ S = jnS [44, 32] ls k) (fun _ i => N - (intOf i).toNat)
  case atStart => exact ⟨0, _, by omega, rfl, rfl, rfl⟩
  case round =>
    obtain ⟨k, S, hk, rfl, rfl, hS⟩ := hrel
    have hsz := HSZ.out k hk
    rw [← hS] at hsz
    have hsz2 : S.size ≤ 50000 := by omega
    clear hsz
    by_cases hlt : k < N
    · have hc := HR.out k hlt
      have x2 := HLB.out k hlt
      have hc0 : k = 0 → w.cell? ⟨b, o, none⟩ = some (.string (str (ls.getD k []))) := fun h => by subst h; exact hc
      rw [← str_size] at x2
      have HSS := Lib.hid hS
      have G1 := Lib.hid (HLS.out k)
      clear hS
      by_cases h0 : k = 0
      · subst h0
        obtain rfl : S = ⟨#[]⟩ := HSS.out
        replace hc0 := hc0 rfl
        clear hc
        have F := Lib.hid (show (⟨#[]⟩ : ByteArray) ++ str (ls.getD 0 []) = jnS [44, 32] ls 1 from by rw [HL1.out hlt]; exact str_add [] _)
        generalize str (ls.getD 0 []) = X at *
        go_wp2_with fail
        go_round
        case rel => exact ⟨1, _, by omega, rfl, rfl, by first | exact F.out | (rw [← F.out]; simp)⟩
        case measure => simp [intOf]; omega
      · have F := Lib.hid (show S ++ ⟨#[44, 32]⟩ ++ str (ls.getD k []) = jnS [44, 32] ls (k + 1) from by rw [HLS.out k (by omega) hlt, ← HSS.out])
        have hk0 : 0 < k := by omega
        clear h0 hc0
        generalize str (ls.getD k []) = X at *
        go_wp2_with fail
        go_round
        case rel => exact ⟨k + 1, _, by omega, by go_num, rfl, F.out⟩
        case measure => simp [intOf]; omega
    · obtain rfl : k = N := by omega
      have hp := HPOS.out
      rw [← hS] at hp
      have he := empty_no S (by omega)
      have F := Lib.hid (show (⟨#[91]⟩ : ByteArray) ++ S ++ ⟨#[93]⟩ = str (brP ls) from by rw [hS]; exact HBR.out)
      clear hS
      go_wp2_with fail
      go_ret
      exact ⟨by rw [F.out]; rfl, rfl⟩

theorem spec_names (a : Option Addr) (cap : Nat) (xs : List ByteArray) (hs : ∀ s ∈ xs, 1 ≤ s.size ∧ s.size ≤ 400) (hn : xs.length ≤ 100) (w : World) (hsl : strSl w a cap xs) :
    Calls Tryz.prog 40 #[.slice a xs.length cap] w fun e w' => e = .returned (.string (str (brP (xs.map (·.data.toList))))) ∧ w = w' := by
  by_cases hx : xs = []
  · subst hx
    go_enter Tryz.func40, Tryz.ntmps40
    go_wp2_with fail
    go_loop [3, 4] (fun s i => s = .string ⟨#[]⟩ ∧ i = .int .i64 0) (fun _ _ => 0)
    case atStart => exact ⟨rfl, rfl⟩
    case round =>
      obtain ⟨rfl, rfl⟩ := hrel
      go_wp2_with fail
      go_ret
      exact ⟨rfl, rfl⟩
  obtain ⟨b, o, rfl, hr⟩ := hsl.2.2.resolve_left hx
  have hlen : (xs.map (·.data.toList)).length = xs.length := by simp
  have := spec_names_row b o cap (xs.map (·.data.toList)) (fun h => hx (by simpa using h))
    (fun x hx => by
      obtain ⟨s, hs2, rfl⟩ := List.mem_map.1 hx
      have := hs s hs2
      rw [data_len]; omega)
    (fun x hx => by
      obtain ⟨s, hs2, rfl⟩ := List.mem_map.1 hx
      have := hs s hs2
      rw [data_len]; omega) (by omega) w (fun k hk => by rw [getD_str xs k (by omega)]; exact strSl_get hr k (by omega))
  rw [hlen] at this
  exact this

end Go.Proofs.YtbjedfbpikfflaaGreatDoor.Con
