/-
  The model's printing of terms: constructors, matches, and all kinds together (l04List, l04Bare, l04Print, PrintTerm). Condition: that of the model's ValidTerm alone.
  The model's PrintTerm. Condition: that the term lies in memory.
-/
import Derived.Test.YtbjedfbpikfflaaGreatDoorPrB
namespace Go.Proofs.YtbjedfbpikfflaaGreatDoor.Con
open Go.RowKit
set_option linter.unusedVariables false

theorem txt_pos {t : Tm} {c : Bool} (h : t.ok c = true) : 1 ≤ t.txt.length := by
  have hc := ok_cases h
  rw [tm_txt]
  obtain ⟨k, m, n, ty, ns, ks⟩ := t
  simp only [Tm.k, Tm.m, Tm.n, Tm.t, Tm.ns, Tm.ks] at hc
  show 1 ≤ (formP k m n ty ns (ks.map fun u => (lvM u.k u.m, u.txt))).length
  rcases hc with ⟨rfl, rfl, hn⟩ | ⟨rfl, rfl, hm⟩ | ⟨rfl, _, _, x, y, rfl, hx, hy⟩ | ⟨rfl, hn, _, x, rfl, hx⟩ | ⟨rfl, x, y, rfl, hx, hy⟩ | ⟨rfl, x, rfl, hx⟩ | ⟨rfl, hn, x, y, rfl, hx, hy⟩ | ⟨rfl, hn, hl, hx⟩ | ⟨rfl, x, r, rfl, hx, h1, h2, hr⟩ | ⟨rfl, hn, h2, hs, x, rfl, hx⟩ | ⟨rfl, x, y, z, rfl, hx, hy, hz⟩
  · have := low_size hn
    rw [form_var, data_len]; omega
  · have := (decV_len (m := m) hm).1
    rw [form_num]
    unfold numP
    split
    · simp
    · exact this
  · rw [List.map_cons, List.map_cons, List.map_nil, form_op]; simp only [List.length_append, List.length_cons, List.length_nil]; omega
  · rw [List.map_cons, List.map_nil, form_lam]; simp only [List.length_append, List.length_cons, List.length_nil]; omega
  · rw [List.map_cons, List.map_cons, List.map_nil, form_app]; simp only [List.length_append, List.length_cons, List.length_nil]; omega
  · rw [List.map_cons, List.map_nil, form_box]; simp only [List.length_append, List.length_cons, List.length_nil]; omega
  · rw [List.map_cons, List.map_cons, List.map_nil, form_let]; simp only [List.length_append, List.length_cons, List.length_nil]; omega
  · have := upp_size hn
    rw [form_con]; simp only [List.length_append]; rw [data_len]; omega
  · rw [List.map_cons, form_match]; simp only [List.length_append, List.length_cons, List.length_nil]; omega
  · rw [List.map_cons, List.map_nil, form_case]; simp only [List.length_append, List.length_cons, List.length_nil]; omega
  · rw [List.map_cons, List.map_cons, List.map_cons, List.map_nil, form_if]; simp only [List.length_append, List.length_cons, List.length_nil]; omega

/-- What is known of the kids that are printed. -/
def KidP (u : LM) : Prop := PrK u ∧ u.tm.ok false = true ∧ u.tm.nn ≤ 160
theorem KidP.len {u : LM} (h : KidP u) : u.tm.txt.length ≤ 64000 := by have := txt_len u.tm false h.2.1; have := h.2.2; omega

set_option maxHeartbeats 1000000 in
theorem spec_list_row (ks : List LM) (b o cap : Nat) (h0 : ks ≠ []) (hp : ∀ u ∈ ks, KidP u) (hn : ks.length ≤ 5) (w : World) (hr : gRow 8 tmE LM.Ok w ks b o) :
    Calls Tryz.prog 39 #[.slice (some ⟨b, o, none⟩) ks.length cap] w (StrP (brP (ks.map fun u => u.tm.txt)) 400000 w) := by
  generalize hls : (ks.map fun u => u.tm.txt) = ls
  have hll : ls.length = ks.length := by rw [← hls]; simp
  have hl0 : ls ≠ [] := fun h => h0 (by rw [← hls] at h; simpa using h)
  have hlb : ∀ x ∈ ls, x.length ≤ 64000 := fun x hx => by
    rw [← hls] at hx
    obtain ⟨u, hu, rfl⟩ := List.mem_map.1 hx
    exact (hp u hu).len
  have hlp : ∀ x ∈ ls, 1 ≤ x.length := fun x hx => by
    rw [← hls] at hx
    obtain ⟨u, hu, rfl⟩ := List.mem_map.1 hx
    exact txt_pos (hp u hu).2.1
  have HSZ := Lib.hid fun k (hk : k ≤ ks.length) => jnS_size [44, 32] rfl ls 64000 k hlb (by omega)
  have HPOS := Lib.hid (jnS_pos [44, 32] ls hl0 hlp)
  have HBR := Lib.hid (jnS_br ls hl0)
  have HL1 := Lib.hid (jnS_one [44, 32] ls (by cases ls with | nil => exact absurd rfl hl0 | cons => simp))
  have HLS := Lib.hid (jnS_succ [44, 32] ls)
  have HLL := Lib.hid hll
  have HKID := Lib.hid fun k (hk : k < ks.length) (W : World) (g : Gw w W) => show Calls Tryz.prog 13 #[.pointer (some ⟨b, o + k * 8, none⟩), .int .i64 0] W (StrP (ls.getD k []) 64002 W) from by
    have he : ls.getD k [] = ks[k].tm.txt := by rw [← hls, List.getD, List.getElem?_eq_getElem (by simpa using hk), List.getElem_map]; rfl
    have hu := hp _ (List.getElem_mem hk)
    rw [he]
    exact hu.1.at0 b (o + k * 8) W hu.2.1 hu.2.2 ((row_at hr k hk).grow g)
  have hpos : 0 < ks.length := by cases ks with | nil => exact absurd rfl h0 | cons => simp
  clear hr hp hlb hlp hl0 h0 hll hls
  generalize ks.length = N at *
  go_enter Tryz.func39, Tryz.ntmps39
  go_wp2_with fail
  go_loopw [3, 4] (fun s i wr => ∃ (k : Nat) (S : ByteArray), k ≤ N ∧ i = .int .i64 k ∧ s = .string S ∧ S = jnS [44, 32] ls k ∧ Gw w wr) (fun _ i _ => N - (intOf i).toNat)
  case atStart => exact ⟨0, _, by omega, rfl, rfl, rfl, Gw.refl _⟩
  case round =>
    obtain ⟨k, S, hk, rfl, rfl, hS, hg⟩ := hrel
    have hsz := HSZ.out k hk
    rw [← hS] at hsz
    have hsz2 : S.size ≤ 330000 := by omega
    clear hsz
    by_cases hlt : k < N
    · have HSS := Lib.hid hS
      have hcall := HKID.out k hlt _ hg
      clear hS
      by_cases hk0 : k = 0
      · subst hk0
        obtain rfl : S = ⟨#[]⟩ := HSS.out
        have HG := Lib.hid hg
        rw [Nat.zero_mul, Nat.add_zero] at hcall
        clear hg
        go_wp2_with fail
        refine hcall.mono ?_
        rintro e w1 ⟨X, hX, zX, rfl, g1⟩
        have F := Lib.hid (show (⟨#[]⟩ : ByteArray) ++ X = jnS [44, 32] ls 1 from by rw [HL1.out, hX]; exact str_add [] _)
        have HX := Lib.hid hX
        clear hX
        go_wp2_with fail
        go_roundw
        case rel => exact ⟨1, _, by omega, rfl, rfl, by first | exact F.out | (rw [← F.out]; simp), HG.out.trans g1⟩
        case measure => simp [intOf]; omega
      · have hk1 : 0 < k := by omega
        have HG := Lib.hid hg
        clear hk0 hg
        go_wp2_with fail
        refine hcall.mono ?_
        rintro e w1 ⟨X, hX, zX, rfl, g1⟩
        have F := Lib.hid (show S ++ ⟨#[44, 32]⟩ ++ X = jnS [44, 32] ls (k + 1) from by rw [HLS.out k hk1 (by rw [HLL.out]; exact hlt), ← HSS.out, hX])
        have HX := Lib.hid hX
        clear hX
        go_wp2_with fail
        go_roundw
        case rel => exact ⟨k + 1, _, by omega, by go_num, rfl, F.out, HG.out.trans g1⟩
        case measure => simp [intOf]; omega
    · obtain rfl : k = N := by omega
      have hp := HPOS.out
      rw [HLL.out, ← hS] at hp
      have he := empty_no S (by omega)
      have F := Lib.hid (show (⟨#[91]⟩ : ByteArray) ++ S ++ ⟨#[93]⟩ = str (brP ls) from by rw [hS]; have := HBR.out; rw [HLL.out] at this; exact this)
      have HG := Lib.hid hg
      clear hS hg
      go_wp2_with fail
      go_ret
      exact ⟨_, rfl, by rw [← F.out, ByteArray.size_append, ByteArray.size_append]; show 1 + S.size + 1 ≤ 400000; omega, by rw [F.out]; rfl, HG.out⟩

set_option maxRecDepth 100000 in
theorem bare_var (u : LM) (hk : u.k = 1) (b o : Nat) (w : World) (hA : AtM w b o u) : Calls Tryz.prog 26 #[.pointer (some ⟨b, o, none⟩)] w (StrGw u.n.data.toList w) := by
  obtain ⟨c0, c1, c2, c3, c4, c5, c6, c7⟩ := hA.c
  rw [hk] at c0
  clear hk hA c1 c3 c4 c5 c6 c7
  go_enter Tryz.func26, Tryz.ntmps26
  go_wp2_with fail
  go_ret
  exact ⟨ret_str (str_data _).symm, Gw.refl _⟩

set_option maxRecDepth 100000 in
theorem bare_num (u : LM) (hk : u.k = 2) (h1 : -2147483648 ≤ u.m) (h2 : u.m ≤ 2147483647) (b o : Nat) (w : World) (hA : AtM w b o u) : Calls Tryz.prog 26 #[.pointer (some ⟨b, o, none⟩)] w (StrGw (numP u.m) w) := by
  obtain ⟨c0, c1, c2, c3, c4, c5, c6, c7⟩ := hA.c
  rw [hk] at c0
  have hl := (decV_len (m := u.m) ⟨h1, h2⟩).2
  have hz : (str (decV u.m)).size ≤ 11 := by rw [str_size]; exact hl
  by_cases hn : u.m < 0
  · have F := Lib.hid (show numP u.m = [40] ++ decV u.m ++ [41] from by unfold numP; rw [if_pos hn])
    clear hk hA c2 c3 c4 c5 c6 c7 hl
    go_enter Tryz.func26, Tryz.ntmps26
    go_wp2_with fail
    refine (spec_decimal u.m (by omega) (by omega) _).mono ?_
    rintro e w1 ⟨rfl, g1⟩
    generalize hS : (⟨(decV u.m).toArray⟩ : ByteArray) = S
    have hz2 : S.size ≤ 11 := by rw [← hS]; exact hz
    have HS := Lib.hid hS
    clear hS hz
    go_wp2_with fail
    go_ret
    refine ⟨ret_st ?_, g1⟩
    rw [F.out, ← HS.out, ← str_add, ← str_add]
  · have F := Lib.hid (show numP u.m = decV u.m from by unfold numP; rw [if_neg hn])
    clear hk hA c2 c3 c4 c5 c6 c7 hl
    go_enter Tryz.func26, Tryz.ntmps26
    go_wp2_with fail
    refine (spec_decimal u.m (by omega) (by omega) _).mono ?_
    rintro e w1 ⟨rfl, g1⟩
    go_wp2_with fail
    go_ret
    exact ⟨ret_st (by rw [F.out]), g1⟩

set_option maxRecDepth 100000 in
theorem bare_box (u x : LM) (hk : u.k = 6) (hks : u.ks = [x]) (px : PrK x) (ox : x.tm.ok false = true) (nx : x.tm.nn ≤ 160) (T : List UInt8) (hT : T = [33] ++ wrP 5 (lvM x.k x.m) x.tm.txt) (b o : Nat) (w : World) (hA : AtM w b o u) :
    Calls Tryz.prog 26 #[.pointer (some ⟨b, o, none⟩)] w (StrGw T w) := by
  obtain ⟨b', o', ha, hr⟩ := kids_row hA.2 (by rw [hks]; simp)
  obtain ⟨c0, c1, c2, c3, c4, c5, c6, c7⟩ := hA.c
  rw [hk] at c0
  rw [hks, ha] at c7
  rw [hks] at hr
  have ax : AtM w b' o' x := by have := row_at hr 0 (by simp); simpa using this
  have HT := Lib.hid hT
  clear hr ha hks hk hA c1 c2 c3 c4 c5 c6 hT
  go_enter Tryz.func26, Tryz.ntmps26
  go_wp2_with fail
  refine (px.at 5 b' o' _ ox nx (by omega) (by omega) ax).mono ?_
  rintro e w1 ⟨S, hS, zS, rfl, g1⟩
  have HS := Lib.hid hS
  clear hS
  go_wp2_with fail
  go_ret
  refine ⟨ret_st ?_, g1⟩
  rw [HT.out, HS.out, ← str_add]

set_option maxRecDepth 100000 in
set_option maxHeartbeats 1000000 in
theorem bare_con (u : LM) (hk : u.k = 8) (h0 : u.ks ≠ []) (hn : u.ks.length ≤ 5) (hnm : u.n.size ≤ 12) (hp : ∀ x ∈ u.ks, KidP x) (T : List UInt8) (hT : T = u.n.data.toList ++ brP (u.ks.map fun x => x.tm.txt)) (b o : Nat) (w : World) (hA : AtM w b o u) :
    Calls Tryz.prog 26 #[.pointer (some ⟨b, o, none⟩)] w (StrGw T w) := by
  obtain ⟨b', o', ha, hr⟩ := kids_row hA.2 h0
  have hB : b < w.heap.size := hA.lt
  obtain ⟨c0, c1, c2, c3, c4, c5, c6, c7⟩ := hA.c
  rw [hk] at c0
  rw [ha] at c7
  have HT := Lib.hid hT
  have HP := Lib.hid hp
  have HR := Lib.hid (hr.grow tmLen tmGr (Gw.refl w).drew)
  clear hr ha hk hA c1 c3 c4 c5 c6 hT hp
  go_enter Tryz.func26, Tryz.ntmps26
  go_wp2_with fail
  go_region_held3 (fun W => W.cell? ⟨b, o + 7, none⟩ = some (.slice (some ⟨b', o', none⟩) u.ks.length u.cap) ∧ W.cell? ⟨b, o + 2, none⟩ = some (.string u.n))
    (first | exact ⟨c7, c2⟩ | exact ⟨(k1 _ _ hB).trans c7, (k1 _ _ hB).trans c2⟩)
    (first
      | (go_at_call 39; (with_reducible refine (spec_list_row u.ks b' o' u.cap h0 HP.out hn _ HR.out).mono ?_); rintro e w1 ⟨S1, hS1, z1, rfl, g1⟩; have HS1 := Lib.hid hS1; clear hS1; have k1 : ∀ b o, b < w.heap.size → w1.cell? ⟨b, o, none⟩ = w.cell? ⟨b, o, none⟩ := fun b o h => (bcell g1).1 b o h; have hq1 : ¬ (9223372036854775807 < u.n.size + S1.size) := (by omega)))
  go_wp2_with fail
  go_ret
  refine ⟨ret_st ?_, (Gw.refl w).drew.trans g1⟩
  rw [HT.out, HS1.out, ← str_add, str_data]

set_option maxRecDepth 100000 in
theorem bare_con0 (u : LM) (hk : u.k = 8) (h0 : u.ks = []) (hnm : u.n.size ≤ 12) (b o : Nat) (w : World) (hA : AtM w b o u) :
    Calls Tryz.prog 26 #[.pointer (some ⟨b, o, none⟩)] w (StrGw u.n.data.toList w) := by
  have hB : b < w.heap.size := hA.lt
  have key : ∀ W : World, Calls Tryz.prog 39 #[.slice u.a 0 u.cap] W fun e w' => e = .returned (.string ⟨#[]⟩) ∧ W = w' := fun W => by
    go_enter Tryz.func39, Tryz.ntmps39
    go_wp2_with fail
    go_loop [3, 4] (fun s i => s = .string ⟨#[]⟩ ∧ i = .int .i64 0) (fun _ _ => 0)
    case atStart => exact ⟨rfl, rfl⟩
    case round =>
      obtain ⟨rfl, rfl⟩ := hrel
      go_wp2_with fail
      go_ret
      exact ⟨rfl, rfl⟩
  obtain ⟨c0, c1, c2, c3, c4, c5, c6, c7⟩ := hA.c
  rw [hk] at c0
  rw [h0] at c7
  have HK := Lib.hid key
  clear hk hA c1 c3 c4 c5 c6 key h0
  go_enter Tryz.func26, Tryz.ntmps26
  go_wp2_with fail
  go_quiet ((go_at_call 39; exact Calls.quiet_of_same ((HK.out _).mono fun e w' ⟨h1, h2⟩ => ⟨h1, h2.symm⟩)))
  all_goals
    go_wp2_with fail
    go_ret
    exact ⟨ret_st (by rw [str_data]; apply ByteArray.ext; simp), (Gw.refl w).drewN _⟩

/-- A case that is printed: its one kid, its names. -/
def CaseP (c y : LM) : Prop := c.ks = [y] ∧ KidP y ∧ c.n.size ≤ 12 ∧ c.ns.length ≤ 3 ∧ (∀ s ∈ c.ns, 1 ≤ s.size ∧ s.size ≤ 12)
def caseT (c y : LM) : List UInt8 := c.n.data.toList ++ brP (c.ns.map (·.data.toList)) ++ [32, 45, 62, 32] ++ y.tm.txt
theorem brn_len {xs : List ByteArray} (h : xs.length ≤ 3) (hs : ∀ s ∈ xs, 1 ≤ s.size ∧ s.size ≤ 12) : (brP (xs.map (·.data.toList))).length ≤ 44 := by
  have h1 := br_len (xs.map (·.data.toList))
  have h2 := lens_le 12 (xs.map (·.data.toList)) fun x hx => by
    obtain ⟨s, hs2, rfl⟩ := List.mem_map.1 hx
    rw [data_len]; exact (hs s hs2).2
  simp only [List.length_map] at h2
  omega
theorem CaseP.len {c y : LM} (h : CaseP c y) : (caseT c y).length ≤ 64100 := by
  have h1 := h.2.1.len
  have h2 := brn_len h.2.2.2.1 h.2.2.2.2
  have h3 := h.2.2.1
  have h4 := data_len c.n
  unfold caseT
  simp only [List.length_append, List.length_cons, List.length_nil]
  omega
theorem spec_namesP (a : Option Addr) (cap : Nat) (xs : List ByteArray) (h : xs.length ≤ 3) (hs : ∀ s ∈ xs, 1 ≤ s.size ∧ s.size ≤ 12) (w : World) (hsl : strSl w a cap xs) :
    Calls Tryz.prog 40 #[.slice a xs.length cap] w (StrP (brP (xs.map (·.data.toList))) 44 w) :=
  (spec_names a cap xs (fun s hh => ⟨(hs s hh).1, by have := (hs s hh).2; omega⟩) (by omega) w hsl).mono fun e w' ⟨he, hw⟩ => ⟨_, rfl, by rw [str_size]; exact brn_len h hs, he, hw ▸ Gw.refl _⟩

theorem ba_assoc (a b c : ByteArray) : a ++ b ++ c = a ++ (b ++ c) := by apply ByteArray.ext; simp
theorem ba_nil (a : ByteArray) : a ++ ⟨#[]⟩ = a := by apply ByteArray.ext; simp
theorem row_at? {w : World} {ks : List LM} {b o : Nat} (h : gRow 8 tmE LM.Ok w ks b o) (i : Nat) (u : LM) (hi : ks[i]? = some u) : AtM w b (o + i * 8) u := by
  obtain ⟨h1, rfl⟩ := List.getElem?_eq_some_iff.1 hi
  exact row_at h i h1

set_option maxRecDepth 100000 in
set_option maxHeartbeats 4000000 in
theorem bare_match (u x : LM) (N : Nat) (C Y : Nat → LM) (hk : u.k = 9) (hlen : u.ks.length = N + 1) (h0 : u.ks[0]? = some x) (hC : ∀ i, i < N → u.ks[i + 1]? = some (C i)) (hx : KidP x) (hc : ∀ i, i < N → CaseP (C i) (Y i)) (hn : N ≤ 4) (ls : List (List UInt8)) (hll : ls.length = N) (hls : ∀ i, i < N → ls.getD i [] = caseT (C i) (Y i)) (T : List UInt8)
    (hT : T = [109, 97, 116, 99, 104, 32] ++ x.tm.txt ++ [32, 123, 32] ++ joinP [59, 32] ls ++ [32, 125]) (b o : Nat) (w : World) (hA : AtM w b o u) :
    Calls Tryz.prog 26 #[.pointer (some ⟨b, o, none⟩)] w (StrGw T w) := by
  obtain ⟨b', o', ha, hr⟩ := kids_row hA.2 (fun h => by rw [h] at hlen; simp at hlen)
  have hB : b < w.heap.size := hA.lt
  obtain ⟨c0, c1, c2, c3, c4, c5, c6, c7⟩ := hA.c
  rw [hk] at c0
  rw [hlen, ha] at c7
  have ax : AtM w b' o' x := by have := row_at? hr 0 x h0; simpa using this
  have hlb : ∀ y ∈ ls, y.length ≤ 64100 := fun y hy => by
    obtain ⟨i, hi, rfl⟩ := List.mem_iff_getElem.1 hy
    have h1 := hls i (by omega)
    rw [List.getD, List.getElem?_eq_getElem hi] at h1
    have h2 : ls[i] = caseT (C i) (Y i) := h1
    rw [h2]; exact (hc i (by omega)).len
  have HSZ := Lib.hid fun k (hk : k ≤ N) => jnS_size [59, 32] rfl ls 64100 k hlb (by omega)
  have HL1 := Lib.hid (jnS_one [59, 32] ls)
  have HLS := Lib.hid (jnS_succ [59, 32] ls)
  have HLL := Lib.hid hll
  have HAT := Lib.hid fun i (hi : i < N) (W : World) (g : Gw w W) => show AtM W b' (o' + (i + 1) * 8) (C i) from (row_at? hr (i + 1) _ (hC i hi)).grow g
  have HC7 := Lib.hid fun (W : World) (g : Gw w W) => show W.cell? ⟨b, o + 7, none⟩ = some (.slice (some ⟨b', o', none⟩) (N + 1) u.cap) from ((bcell g).1 _ _ hB).trans c7
  have HC := Lib.hid hc
  have HX := Lib.hid hls
  have HT := Lib.hid hT
  have px := hx.1
  have ox := hx.2.1
  have nx := hx.2.2
  clear hr ha hk hA c1 c2 c3 c4 c5 c6 hT hlb hls hll hlen hx hc h0 hC
  go_enter Tryz.func26, Tryz.ntmps26
  go_wp2_with fail
  refine (px.at0 b' o' _ ox nx ax).mono ?_
  rintro e w1 ⟨S0, hS0, z0, rfl, g0⟩
  have hP : ∃ P : ByteArray, P = (⟨#[109, 97, 116, 99, 104, 32]⟩ : ByteArray) ++ S0 ++ ⟨#[32, 123, 32]⟩ ∧ P.size ≤ 64011 := ⟨_, rfl, by rw [ByteArray.size_append, ByteArray.size_append]; show 6 + S0.size + 3 ≤ _; omega⟩
  obtain ⟨P, hP, zP⟩ := hP
  have HS0 := Lib.hid hS0
  have G0 := Lib.hid g0
  have HP := Lib.hid hP
  clear hS0 hP g0 ax px ox nx c7 c0
  go_wp2_with fail
  rw [← HP.out]
  go_loopw [5, 6] (fun s i wr => ∃ (j : Nat) (S : ByteArray), 1 ≤ j ∧ j ≤ N + 1 ∧ i = .int .i64 j ∧ s = .string S ∧ S = P ++ jnS [59, 32] ls (j - 1) ∧ Gw w wr) (fun _ i _ => N + 1 - (intOf i).toNat)
  case atStart => exact ⟨1, _, by omega, by omega, rfl, rfl, by rw [jnS_zero]; apply ByteArray.ext; simp, G0.out⟩
  case round =>
    rename_i wr _ _ _
    obtain ⟨j, S, hj1, hj, rfl, rfl, hS, hg⟩ := hrel
    have hsz := HSZ.out (j - 1) (by omega)
    have hsz2 : S.size ≤ 330000 := by rw [hS, ByteArray.size_append]; omega
    clear hsz
    have c7 := HC7.out _ hg
    by_cases hlt : j < N + 1
    · have hAC := HAT.out (j - 1) (by omega) _ hg
      rw [show j - 1 + 1 = j from by omega] at hAC
      obtain ⟨hy1, hy2, hy3, hy4, hy5⟩ := HC.out (j - 1) (by omega)
      obtain ⟨bc, oc, hca, hcr⟩ := kids_row hAC.2 (by rw [hy1]; simp)
      have hBC : b' < wr.heap.size := hAC.lt
      have hBW : b < wr.heap.size := Nat.lt_of_lt_of_le hB hg.size
      obtain ⟨_, _, d2, _, _, _, d6, d7⟩ := hAC.c
      have dsl := hAC.2.nms.grow (Gw.refl wr).drew
      rw [hy1] at d7 hcr
      rw [hca] at d7
      have ay : AtM wr bc oc (Y (j - 1)) := by have := row_at hcr 0 (by simp); simpa using this
      have HF : Hid (∀ S1 S2 : ByteArray, S1 = str (brP ((C (j - 1)).ns.map (·.data.toList))) → S2 = str (Y (j - 1)).tm.txt → str (ls.getD (j - 1) []) = (C (j - 1)).n ++ S1 ++ ⟨#[32, 45, 62, 32]⟩ ++ S2) := Lib.hid fun S1 S2 e1 e2 => by
        rw [HX.out _ (by omega), e1, e2]
        unfold caseT
        rw [← str_add, ← str_add, ← str_add, str_data]
      generalize Y (j - 1) = y at *
      generalize C (j - 1) = c at *
      have HSS := Lib.hid hS
      have HG := Lib.hid hg
      have py := hy2.1
      have oy := hy2.2.1
      have ny := hy2.2.2
      have hj7 : ((j : Int) < (N : Int) + 1) := by omega
      have HD := Lib.hid dsl
      clear hAC hy1 hy2 hca hcr hS hg dsl
      by_cases hj2 : 1 < j
      · have hi0 : (0 : Int) ≤ (j : Int) := by omega
        go_upto_region 29 with (fail)
        go_region_held3 (fun W => W.cell? ⟨b, o + 7, none⟩ = some (.slice (some ⟨b', o', none⟩) (N + 1) u.cap) ∧ W.cell? ⟨b', o' + j * 8 + 2, none⟩ = some (.string c.n) ∧ W.cell? ⟨b', o' + j * 8 + 4 + 2, none⟩ = some (.slice c.na c.ns.length c.nc) ∧ W.cell? ⟨b', o' + j * 8 + 7, none⟩ = some (.slice (some ⟨bc, oc, none⟩) 1 c.cap))
          (first | exact ⟨c7, d2, d6, d7⟩ | exact ⟨(k1 _ _ hBW).trans c7, (k1 _ _ hBC).trans d2, (k1 _ _ hBC).trans d6, (k1 _ _ hBC).trans d7⟩ | exact ⟨(k2 _ _ hBW).trans c7, (k2 _ _ hBC).trans d2, (k2 _ _ hBC).trans d6, (k2 _ _ hBC).trans d7⟩)
          (first
            | (go_at_call 40; (with_reducible refine (spec_namesP c.na c.nc c.ns hy4 hy5 _ HD.out).mono ?_); rintro e w2 ⟨S1, hS1, z1, rfl, g1⟩; have HS1 := Lib.hid hS1; clear hS1; have k1 : ∀ b o, b < wr.heap.size → w2.cell? ⟨b, o, none⟩ = wr.cell? ⟨b, o, none⟩ := fun b o h => (bcell g1).1 b o h; have hq10 : ¬ (9223372036854775807 < c.n.size + S1.size) := (by omega); have hq11 : ¬ (9223372036854775807 < c.n.size + S1.size + 4) := (by omega))
            | (go_at_call 13; (with_reducible refine (py.at0 bc oc _ oy ny (ay.drew.grow g1)).mono ?_); rintro e w3 ⟨S2, hS2, z2, rfl, g2⟩; have HS2 := Lib.hid hS2; clear hS2; have k2 : ∀ b o, b < wr.heap.size → w3.cell? ⟨b, o, none⟩ = wr.cell? ⟨b, o, none⟩ := fun b o h => ((bcell g2).1 b o (Nat.lt_of_lt_of_le h g1.size)).trans (k1 b o h); have hq20 : ¬ (9223372036854775807 < c.n.size + S1.size + 4 + S2.size) := (by omega); have hq21 : ¬ (9223372036854775807 < S.size + 2 + (c.n.size + S1.size + 4 + S2.size)) := (by omega)))
        have F := Lib.hid (show S ++ ⟨#[59, 32]⟩ ++ (c.n ++ S1 ++ ⟨#[32, 45, 62, 32]⟩ ++ S2) = P ++ jnS [59, 32] ls (j + 1 - 1) from by
          have h1 := HLS.out (j - 1) (by omega) (by rw [HLL.out]; omega)
          rw [show j + 1 - 1 = j - 1 + 1 from by omega, h1, ← HF.out S1 S2 HS1.out HS2.out, HSS.out, ba_assoc, ba_assoc, ba_assoc])
        go_wp2_with fail
        go_roundw
        case rel => exact ⟨j + 1, _, by omega, by omega, by go_num, rfl, F.out, (HG.out.trans ((Gw.refl wr).drew.trans g1)).trans g2⟩
        case measure => simp [intOf]; omega
      · have hj3 : j ≤ 1 := by omega
        have hi0 : (0 : Int) ≤ (j : Int) := by omega
        go_upto_region 29 with (fail)
        go_region_held3 (fun W => W.cell? ⟨b, o + 7, none⟩ = some (.slice (some ⟨b', o', none⟩) (N + 1) u.cap) ∧ W.cell? ⟨b', o' + j * 8 + 2, none⟩ = some (.string c.n) ∧ W.cell? ⟨b', o' + j * 8 + 4 + 2, none⟩ = some (.slice c.na c.ns.length c.nc) ∧ W.cell? ⟨b', o' + j * 8 + 7, none⟩ = some (.slice (some ⟨bc, oc, none⟩) 1 c.cap))
          (first | exact ⟨c7, d2, d6, d7⟩ | exact ⟨(k1 _ _ hBW).trans c7, (k1 _ _ hBC).trans d2, (k1 _ _ hBC).trans d6, (k1 _ _ hBC).trans d7⟩ | exact ⟨(k2 _ _ hBW).trans c7, (k2 _ _ hBC).trans d2, (k2 _ _ hBC).trans d6, (k2 _ _ hBC).trans d7⟩)
          (first
            | (go_at_call 40; (with_reducible refine (spec_namesP c.na c.nc c.ns hy4 hy5 _ HD.out).mono ?_); rintro e w2 ⟨S1, hS1, z1, rfl, g1⟩; have HS1 := Lib.hid hS1; clear hS1; have k1 : ∀ b o, b < wr.heap.size → w2.cell? ⟨b, o, none⟩ = wr.cell? ⟨b, o, none⟩ := fun b o h => (bcell g1).1 b o h; have hq10 : ¬ (9223372036854775807 < c.n.size + S1.size) := (by omega); have hq11 : ¬ (9223372036854775807 < c.n.size + S1.size + 4) := (by omega))
            | (go_at_call 13; (with_reducible refine (py.at0 bc oc _ oy ny (ay.drew.grow g1)).mono ?_); rintro e w3 ⟨S2, hS2, z2, rfl, g2⟩; have HS2 := Lib.hid hS2; clear hS2; have k2 : ∀ b o, b < wr.heap.size → w3.cell? ⟨b, o, none⟩ = wr.cell? ⟨b, o, none⟩ := fun b o h => ((bcell g2).1 b o (Nat.lt_of_lt_of_le h g1.size)).trans (k1 b o h); have hq20 : ¬ (9223372036854775807 < c.n.size + S1.size + 4 + S2.size) := (by omega); have hq21 : ¬ (9223372036854775807 < S.size + (c.n.size + S1.size + 4 + S2.size)) := (by omega)))
        have F := Lib.hid (show S ++ (c.n ++ S1 ++ ⟨#[32, 45, 62, 32]⟩ ++ S2) = P ++ jnS [59, 32] ls (j + 1 - 1) from by
          have h1 := HL1.out (by rw [HLL.out]; omega)
          have h2 := HF.out S1 S2 HS1.out HS2.out
          rw [show j - 1 = 0 from by omega] at h2
          have h3 := HSS.out
          rw [show j - 1 = 0 from by omega, jnS_zero] at h3
          rw [show j + 1 - 1 = 1 from by omega, h1, h2, h3, ba_nil])
        go_wp2_with fail
        go_roundw
        case rel => exact ⟨j + 1, _, by omega, by omega, by go_num, rfl, F.out, (HG.out.trans ((Gw.refl wr).drew.trans g1)).trans g2⟩
        case measure => simp [intOf]; omega
    · obtain rfl : j = N + 1 := by omega
      have HSS := Lib.hid hS
      have HG := Lib.hid hg
      clear hS hg
      go_wp2_with fail
      go_ret
      refine ⟨ret_st ?_, HG.out⟩
      rw [HSS.out, HP.out, HS0.out, HT.out, ← str_add, ← str_add, ← str_add, ← str_add, show N + 1 - 1 = ls.length from by rw [HLL.out]; omega]
      unfold jnS
      rw [List.take_length]

end Go.Proofs.YtbjedfbpikfflaaGreatDoor.Con

namespace Go.Proofs.YtbjedfbpikfflaaGreatDoor.Con
open Go.RowKit
set_option linter.unusedVariables false

theorem lm_txt (u : LM) : u.tm.txt = formP u.k u.m u.n u.t.ty u.ns (u.ks.map fun v => (lvM v.k v.m, v.tm.txt)) := by
  rw [tm_txt, LM.tm_k, LM.tm_m, LM.tm_n, LM.tm_t, LM.tm_ns, LM.tm_ks, List.map_map]
  congr 1
  apply List.map_congr_left
  intro v _
  simp [LM.tm_k, LM.tm_m]
theorem kid_nn {u v : LM} (hv : v ∈ u.ks) : v.tm.nn < u.tm.nn := by
  rw [nn_eq u.tm]
  have : v.tm ∈ u.tm.ks := by rw [LM.tm_ks]; exact List.mem_map_of_mem hv
  obtain ⟨i, hi, he⟩ := List.mem_iff_getElem.1 this
  have h1 := nns_take u.tm.ks i hi
  have h2 := nns_take_le u.tm.ks (i + 1)
  rw [he] at h1
  omega

set_option maxRecDepth 100000 in
theorem print_of (u : LM) (hb : ∀ b o w, AtM w b o u → Calls Tryz.prog 26 #[.pointer (some ⟨b, o, none⟩)] w (StrGw u.tm.txt w)) (hok : u.tm.ok false = true) (hnn : u.tm.nn ≤ 160) (L : Int) (h1 : -1 ≤ L) (h2 : L ≤ 8) (b o : Nat) (w : World) (hA : AtM w b o u) :
    Calls Tryz.prog 13 #[.pointer (some ⟨b, o, none⟩), .int .i64 L] w (StrGw (wrP L (lvM u.k u.m) u.tm.txt) w) := by
  obtain ⟨c0, c1, _⟩ := hA.c
  have key := spec_level u.k u.m b o w c0 c1
  have hl := txt_len u.tm false hok
  have hz : (str u.tm.txt).size ≤ 64000 := by rw [str_size]; omega
  have hbb := hb b o w hA
  by_cases hlt : lvM u.k u.m < L
  · have F := Lib.hid (show wrP L (lvM u.k u.m) u.tm.txt = [40] ++ u.tm.txt ++ [41] from by unfold wrP; rw [if_pos hlt]; rfl)
    generalize lvM u.k u.m = lv at *
    clear hl c0 c1 hA hb
    go_enter Tryz.func13, Tryz.ntmps13
    go_wp2_with (go_at_call 25; refine key.mono ?_; rintro e w' ⟨rfl, rfl⟩)
    refine hbb.mono ?_
    rintro e w1 ⟨rfl, g1⟩
    generalize hS : str u.tm.txt = S at *
    have HS := Lib.hid hS
    clear hS
    go_wp2_with fail
    go_ret
    refine ⟨ret_st ?_, g1⟩
    rw [F.out, ← HS.out, ← str_add, ← str_add]
  · have F := Lib.hid (show wrP L (lvM u.k u.m) u.tm.txt = u.tm.txt from by unfold wrP; rw [if_neg hlt])
    generalize lvM u.k u.m = lv at *
    clear hl c0 c1 hA hb
    go_enter Tryz.func13, Tryz.ntmps13
    go_wp2_with (go_at_call 25; refine key.mono ?_; rintro e w' ⟨rfl, rfl⟩)
    refine hbb.mono ?_
    rintro e w1 ⟨rfl, g1⟩
    go_wp2_with fail
    go_ret
    exact ⟨ret_st (by rw [F.out]), g1⟩

theorem map1 {us : List LM} {x : Tm} (h : us.map LM.tm = [x]) : ∃ v, us = [v] ∧ v.tm = x := by
  match us, h with
  | [v], h => exact ⟨v, rfl, by simpa using h⟩
theorem map2 {us : List LM} {x y : Tm} (h : us.map LM.tm = [x, y]) : ∃ v z, us = [v, z] ∧ v.tm = x ∧ z.tm = y := by
  match us, h with
  | [v, z], h => simp at h; exact ⟨v, z, rfl, h.1, h.2⟩
theorem map3 {us : List LM} {x y z : Tm} (h : us.map LM.tm = [x, y, z]) : ∃ a b c, us = [a, b, c] ∧ a.tm = x ∧ b.tm = y ∧ c.tm = z := by
  match us, h with
  | [a, b, c], h => simp at h; exact ⟨a, b, c, rfl, h.1, h.2.1, h.2.2⟩

theorem bare_all (u : LM) (ih : ∀ v ∈ u.ks, PrK v ∧ ∀ x ∈ v.ks, PrK x) (hok : u.tm.ok false = true) (hnn : u.tm.nn ≤ 160) (b o : Nat) (w : World) (hA : AtM w b o u) :
    Calls Tryz.prog 26 #[.pointer (some ⟨b, o, none⟩)] w (StrGw u.tm.txt w) := by
  have hc := ok_cases hok
  have hkn : ∀ v ∈ u.ks, v.tm.nn ≤ 160 := fun v hv => by have := kid_nn hv; omega
  have ht := lm_txt u
  rw [LM.tm_k, LM.tm_m, LM.tm_n, LM.tm_t, LM.tm_ns, LM.tm_ks] at hc
  rcases hc with ⟨hk, he, hn⟩ | ⟨hk, he, h1, h2⟩ | ⟨hk, h1, h2, x, y, he, hx, hy⟩ | ⟨hk, hn, hv, x, he, hx⟩ | ⟨hk, x, y, he, hx, hy⟩ | ⟨hk, x, he, hx⟩ | ⟨hk, hn, x, y, he, hx, hy⟩ | ⟨hk, hn, hl, hx⟩ | ⟨hk, x, r, he, hx, h1, h2, hr⟩ | ⟨hk, hn, h2, hs, x, he, hx⟩ | ⟨hk, x, y, z, he, hx, hy, hz⟩
  · rw [ht, hk, form_var]
    exact bare_var u hk b o w hA
  · rw [ht, hk, form_num]
    exact bare_num u hk h1 h2 b o w hA
  · obtain ⟨v, z, hks, rfl, rfl⟩ := map2 he
    have h3 : u.tm.txt = wrP (lftP u.m) (lvM v.k v.m) v.tm.txt ++ [32] ++ (opTextV u.m).data.toList ++ [32] ++ wrP (lvM 3 u.m + 1) (lvM z.k z.m) z.tm.txt := by rw [ht, hk, hks]; rfl
    have pv := (ih v (by rw [hks]; simp)).1
    have pz := (ih z (by rw [hks]; simp)).1
    have nv := hkn v (by rw [hks]; simp)
    have nz := hkn z (by rw [hks]; simp)
    have hl : lvM 3 u.m = 1 ∨ lvM 3 u.m = 2 ∨ lvM 3 u.m = 3 := by unfold lvM; rw [if_neg (by omega), if_pos rfl]; (repeat' split) <;> simp
    rcases hl with hl | hl | hl
    · exact bare_op1 u v z hk hks hl pv hx nv pz hy nz _ (by rw [h3]; unfold lftP; rw [hl]; rfl) b o w hA
    · exact bare_op2 u v z hk hks hl pv hx nv pz hy nz _ (by rw [h3]; unfold lftP; rw [hl]; rfl) b o w hA
    · exact bare_op3 u v z hk hks hl pv hx nv pz hy nz _ (by rw [h3]; unfold lftP; rw [hl]; rfl) b o w hA
  · obtain ⟨v, hks, rfl⟩ := map1 he
    exact bare_lam u v hk hks (low_size hn).2 (ih v (by rw [hks]; simp)).1 hx (hkn v (by rw [hks]; simp)) _ (by rw [ht, hk, hks]; rfl) b o w hA
  · obtain ⟨v, z, hks, rfl, rfl⟩ := map2 he
    exact bare_app u v z hk hks (ih v (by rw [hks]; simp)).1 hx (hkn v (by rw [hks]; simp)) (ih z (by rw [hks]; simp)).1 hy (hkn z (by rw [hks]; simp)) _ (by rw [ht, hk, hks]; rfl) b o w hA
  · obtain ⟨v, hks, rfl⟩ := map1 he
    exact bare_box u v hk hks (ih v (by rw [hks]; simp)).1 hx (hkn v (by rw [hks]; simp)) _ (by rw [ht, hk, hks]; rfl) b o w hA
  · obtain ⟨v, z, hks, rfl, rfl⟩ := map2 he
    exact bare_let u v z hk hks (low_size hn).2 (ih v (by rw [hks]; simp)).1 hx (hkn v (by rw [hks]; simp)) (ih z (by rw [hks]; simp)).1 hy (hkn z (by rw [hks]; simp)) _ (by rw [ht, hk, hks]; rfl) b o w hA
  · by_cases h0 : u.ks = []
    · rw [ht, hk, h0, form_con]
      have := bare_con0 u hk h0 (upp_size hn).2 b o w hA
      simpa [brP] using this
    · refine bare_con u hk h0 (by simp at hl; omega) (upp_size hn).2 (fun v hv => ⟨(ih v hv).1, hx v.tm (List.mem_map_of_mem hv), hkn v hv⟩) _ ?_ b o w hA
      rw [ht, hk, form_con, List.map_map]
      rfl
  · obtain ⟨v, us, hks⟩ : ∃ v us, u.ks = v :: us := by
      cases hh : u.ks with
      | nil => rw [hh] at he; cases he
      | cons v us => exact ⟨v, us, rfl⟩
    rw [hks, List.map_cons] at he
    injection he with he1 he2
    subst he1 he2
    have hlen : us.length ≤ 4 := by simpa using h2
    have hcase : ∀ i (hi : i < us.length), ∃ y, us[i].ks = [y] ∧ KidP y ∧ us[i].n.size ≤ 12 ∧ us[i].ns.length ≤ 3 ∧ (∀ s ∈ us[i].ns, 1 ≤ s.size ∧ s.size ≤ 12) ∧ us[i].tm.txt = caseT us[i] y := fun i hi => by
      have hm : us[i] ∈ us := List.getElem_mem hi
      have hmu : us[i] ∈ u.ks := by rw [hks]; exact List.mem_cons_of_mem _ hm
      have ho := hr _ (List.mem_map_of_mem hm)
      have h10 : us[i].k = 10 := by
        rw [ok_eq, Bool.and_eq_true] at ho
        have := ho.1
        rw [LM.tm_k] at this
        simpa using this
      have hcc := ok_cases ho
      rw [LM.tm_k, h10] at hcc
      rcases hcc with ⟨h, _⟩ | ⟨h, _⟩ | ⟨h, _⟩ | ⟨h, _⟩ | ⟨h, _⟩ | ⟨h, _⟩ | ⟨h, _⟩ | ⟨h, _⟩ | ⟨h, _⟩ | ⟨_, hn, hq, hs, x, hxe, hxo⟩ | ⟨h, _⟩
      all_goals first | exact absurd h (by decide) | skip
      rw [LM.tm_ks] at hxe
      rw [LM.tm_n] at hn
      rw [LM.tm_ns] at hq hs
      obtain ⟨y, hy, rfl⟩ := map1 hxe
      refine ⟨y, hy, ⟨(ih _ hmu).2 y (by rw [hy]; simp), hxo, ?_⟩, (upp_size hn).2, hq, fun s hs2 => low_size (hs s hs2), ?_⟩
      · have h1 := kid_nn hmu
        have h2 := kid_nn (u := us[i]) (v := y) (by rw [hy]; simp)
        omega
      · rw [lm_txt, h10, hy]
        rfl
    obtain ⟨Y, hY⟩ : ∃ Y : Nat → LM, ∀ i (hi : i < us.length), us[i].ks = [Y i] ∧ KidP (Y i) ∧ us[i].n.size ≤ 12 ∧ us[i].ns.length ≤ 3 ∧ (∀ s ∈ us[i].ns, 1 ≤ s.size ∧ s.size ≤ 12) ∧ us[i].tm.txt = caseT us[i] (Y i) := by
      refine ⟨fun i => if hi : i < us.length then (hcase i hi).choose else default, fun i hi => ?_⟩
      simp only [hi, dif_pos]
      exact (hcase i hi).choose_spec
    have hg : ∀ i (hi : i < us.length), us.getD i default = us[i] := fun i hi => by rw [List.getD, List.getElem?_eq_getElem hi]; rfl
    refine bare_match u v us.length (fun i => us.getD i default) Y hk (by rw [hks]; simp) (by rw [hks]; rfl) (fun i hi => by rw [hks]; show (v :: us)[i + 1]? = some (us.getD i default); rw [hg i hi, List.getElem?_cons_succ, List.getElem?_eq_getElem hi]) ⟨(ih v (by rw [hks]; simp)).1, hx, hkn v (by rw [hks]; simp)⟩
      (fun i hi => by
        show CaseP (us.getD i default) (Y i)
        rw [hg i hi]
        obtain ⟨a1, a2, a3, a4, a5, _⟩ := hY i hi
        exact ⟨a1, a2, a3, a4, a5⟩) hlen (us.map fun u => u.tm.txt) (by simp) (fun i hi => by
        show _ = caseT (us.getD i default) (Y i)
        rw [hg i hi, ← (hY i hi).2.2.2.2.2, List.getD, List.getElem?_eq_getElem (by simpa using hi), List.getElem_map]
        rfl) _ ?_ b o w hA
    rw [ht, hk, hks, List.map_cons, form_match, List.map_map]
    rfl
  · exfalso
    rw [ok_eq, Bool.and_eq_true, LM.tm_k, hk] at hok
    exact absurd hok.1 (by decide)
  · obtain ⟨v, z, q, hks, rfl, rfl, rfl⟩ := map3 he
    exact bare_if u v z q hk hks (ih v (by rw [hks]; simp)).1 hx (hkn v (by rw [hks]; simp)) (ih z (by rw [hks]; simp)).1 hy (hkn z (by rw [hks]; simp)) (ih q (by rw [hks]; simp)).1 hz (hkn q (by rw [hks]; simp)) _ (by rw [ht, hk, hks]; rfl) b o w hA

theorem prK_all (u : LM) : PrK u ∧ ∀ v ∈ u.ks, PrK v := by
  refine LM.ind (P := fun u => PrK u ∧ ∀ v ∈ u.ks, PrK v) (fun k m n t na nc ns a c ks ih => ⟨?_, fun v hv => (ih v hv).1⟩) u
  intro L b o w hok hnn h1 h2 hA
  exact print_of _ (fun b o w hA => bare_all (.mk k m n t na nc ns a c ks) ih hok hnn b o w hA) hok hnn L h1 h2 b o w hA

/-- PrintTerm: the canonical text of a valid term; no text for an invalid one, or where it is too long. -/
def printV (t : Tm) : List UInt8 := if okT t = true ∧ t.txt.length ≤ 20000 then t.txt else []

theorem AtM.of_box {W : World} {b : Nat} {u : LM} (h : BoxM W b u) (hu : u.Ok W) : AtM W b 0 u := by
  obtain ⟨p0, p1, p2, p3, p4, p5, p6, p7⟩ := h.c
  refine ⟨fun j v hv => ?_, hu⟩
  rw [Nat.zero_add]
  match j with
  | 0 => exact p0.trans hv
  | 1 => exact p1.trans hv
  | 2 => exact p2.trans hv
  | 3 => exact p3.trans hv
  | 4 => exact p4.trans hv
  | 5 => exact p5.trans hv
  | 6 => exact p6.trans hv
  | 7 => exact p7.trans hv
  | n + 8 => simp [tmE] at hv

set_option maxHeartbeats 1000000 in
theorem spec_print (u : LM) (w : World) (h : u.Ok w) : Calls Tryz.prog 5 #[u.val] w (StrGw (printV u.tm) w) := by
  have g1 : Gw w (w.alloc (.cells #[.int .i64 u.k, .int .i64 u.m, .string u.n, .int .i64 u.t.k, .string u.t.n, .slice u.t.a u.t.ks.length u.t.cap, .slice u.na u.ns.length u.nc, .slice u.a u.ks.length u.cap] 36)) := (Gw.refl w).alloc _
  have key := spec_validTm u _ (h.grow g1)
  have hB := BoxM.new w u 36
  obtain ⟨p0, p1, p2, p3, p4, p5, p6, p7⟩ := hB.c
  cases hv : okT u.tm with
  | false =>
    rw [hv] at key
    have F := Lib.hid (show printV u.tm = [] from by unfold printV; rw [hv]; rfl)
    clear hv
    go_enter Tryz.func5, Tryz.ntmps5
    go_wp2_with fail
    refine key.mono ?_
    rintro e w1 ⟨rfl, hg⟩
    go_wp2_with fail
    go_ret
    exact ⟨ret_st (by rw [F.out]), g1.trans hg⟩
  | true =>
    rw [hv] at key
    have hgd : goodM u.tm false 24 160 := of_decide_eq_true hv
    have hl := txt_len u.tm false hgd.1
    have HK := Lib.hid fun (W : World) (g : Gw (w.alloc (.cells #[.int .i64 u.k, .int .i64 u.m, .string u.n, .int .i64 u.t.k, .string u.t.n, .slice u.t.a u.t.ks.length u.t.cap, .slice u.na u.ns.length u.nc, .slice u.a u.ks.length u.cap] 36)) W) =>
      (prK_all u).1.at0 w.heap.size 0 W hgd.1 hgd.2.2 ((AtM.of_box hB (h.grow g1)).grow g)
    have hlen : u.tm.txt.length ≤ 64000 := by have := hgd.2.2; omega
    have F1 := Lib.hid fun (hle : u.tm.txt.length ≤ 20000) => show printV u.tm = u.tm.txt from by unfold printV; rw [if_pos ⟨hv, hle⟩]
    have F2 := Lib.hid fun (hle : ¬ u.tm.txt.length ≤ 20000) => show printV u.tm = [] from by unfold printV; rw [if_neg (fun h => hle h.2)]
    clear hv hgd hl
    go_enter Tryz.func5, Tryz.ntmps5
    go_wp2_with fail
    refine key.mono ?_
    rintro e w1 ⟨rfl, hg⟩
    go_wp2_with fail
    refine (HK.out _ hg).mono ?_
    rintro e w2 ⟨S, hS, zS, rfl, g2⟩
    have hSl : S.size = u.tm.txt.length := by rw [hS, str_size]
    have HS := Lib.hid hS
    clear hS
    by_cases hle : S.size ≤ 20000
    · have F := Lib.hid (F1.out (by omega))
      clear hSl
      go_wp2_with fail
      go_ret
      exact ⟨ret_st (by rw [F.out]; exact HS.out), (g1.trans hg).trans g2⟩
    · have F := Lib.hid (F2.out (by omega))
      clear hSl
      go_wp2_with fail
      go_ret
      exact ⟨ret_st (by rw [F.out]), (g1.trans hg).trans g2⟩

end Go.Proofs.YtbjedfbpikfflaaGreatDoor.Con
