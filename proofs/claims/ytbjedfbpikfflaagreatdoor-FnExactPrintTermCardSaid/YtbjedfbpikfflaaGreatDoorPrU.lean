/-
  The program's PrintTerm. Condition: that the term lies in memory, and that the program's three tables read as its text lays them.
-/
import Derived.Test.YtbjedfbpikfflaaGreatDoorPrT
import Derived.Test.YtbjedfbpikfflaaGreatDoorTmSize
namespace Go.Proofs.YtbjedfbpikfflaaGreatDoor.Con
open Go.RowKit
set_option linter.unusedVariables false

theorem row_tail {w : World} {x : LM} {r : List LM} {b o : Nat} (h : gRow 8 tmE LM.Ok w (x :: r) b o) : gRow 8 tmE LM.Ok w r b (o + 8) := fun i hi => by
  obtain ⟨h1, h2⟩ := h (i + 1) (by simp; exact hi)
  refine ⟨fun j v hv => ?_, h2⟩
  have := h1 j v hv
  rw [show o + (i + 1) * 8 + j = o + 8 + i * 8 + j from by omega] at this
  exact this

set_option maxRecDepth 100000 in
set_option maxHeartbeats 1000000 in
theorem mth_match (u x : LM) (r : List LM) (hks : u.ks = x :: r) (hr1 : 1 ≤ r.length) (hr4 : r.length ≤ 4) (px : TermK x) (ox : x.tm.ok false = true) (nx : x.tm.nn ≤ 160) (hp : ∀ v ∈ r, TermK v ∧ v.tm.ok true = true ∧ v.tm.nn ≤ 160)
    (T : List UInt8) (hT : T = [109, 97, 116, 99, 104, 32] ++ x.tm.txt ++ [32, 123, 32] ++ joinP [59, 32] (r.map fun v => v.tm.txt) ++ [32, 125]) (w0 : World) (b : Nat) (L : List UInt8) (w : World) (hst : St w0 b L w) (hok : u.Ok w0) (ht : TabP w0) (hl : L.length + T.length ≤ 700000) :
    Calls Tryz.prog 51 #[.pointer (some ⟨b, 0, none⟩), u.val] w (StP w0 b (L ++ T) w) := by
  obtain ⟨b', o', ha, hr⟩ := kids_row hok (by rw [hks]; simp)
  have hcap : u.ks.length ≤ u.cap := hok.kids.1
  rw [hks] at hr
  have ax : AtM w0 b' o' x := by have := row_at hr 0 (by simp); simpa using this
  have htl := row_tail hr
  have hlen : u.ks.length = r.length + 1 := by rw [hks]; simp
  rw [hT] at hl
  simp only [List.length_append] at hl
  rw [show ([109, 97, 116, 99, 104, 32] : List UInt8).length = 6 from rfl, show ([32, 123, 32] : List UInt8).length = 3 from rfl, show ([32, 125] : List UInt8).length = 2 from rfl] at hl
  have hb1 : (L ++ (⟨#[109, 97, 116, 99, 104, 32]⟩ : ByteArray).data.toList).length + x.tm.txt.length ≤ 700000 := by
    simp only [List.length_append]
    show L.length + 6 + _ ≤ _
    omega
  have HB1 := Lib.hid hb1
  have HLS := Lib.hid fun (W1 : World) (st : St w0 b (L ++ (⟨#[109, 97, 116, 99, 104, 32]⟩ : ByteArray).data.toList ++ x.tm.txt) W1) (cp : Nat) => impl_list true r (fun h => by rw [h] at hr1; simp at hr1) (by omega) hp b' (o' + 8) cp ⟨#[32, 123, 32]⟩ ⟨#[59, 32]⟩ ⟨#[32, 125]⟩ rfl (by decide) (by decide) w0 htl ht b (L ++ (⟨#[109, 97, 116, 99, 104, 32]⟩ : ByteArray).data.toList ++ x.tm.txt) W1 st
    (by simp only [List.length_append]; show L.length + 6 + x.tm.txt.length + 3 + _ ≤ _; omega)
  have BU := BoxT.new w u
  have k0 := KeptP.of_gw ((Gw.refl w).alloc u.box)
  have st := hst.alloc u.box
  have HT := Lib.hid hT
  have TB := Lib.hid ht
  have HKS := Lib.hid hlen
  have HA := Lib.hid ha
  have Ax := Lib.hid ax
  have hLl : L.length ≤ 700000 := by omega
  rw [hlen] at hcap
  generalize r.length = N at *
  clear hl hT hr ht hok hst hks ha ax hb1 hlen htl hp
  go_enter Tryz.func51, Tryz.ntmps51
  go_upto_region 1 with (fail)
  generalize w.alloc (.cells #[.int .i64 u.k, .int .i64 u.m, .string u.n, .int .i64 u.t.k, .string u.t.n, .slice u.t.a u.t.ks.length u.t.cap, .slice u.na u.ns.length u.nc, .slice u.a u.ks.length u.cap] 36) = W at *
  generalize w.heap.size = bx at *
  have ba := BU
  unfold BoxT at ba
  rw [HA.out, HKS.out] at ba
  have ST := Lib.hid st
  have BA := Lib.hid ba
  clear st ba BU
  go_wp2_with fail
  refine (write1 ⟨#[109, 97, 116, 99, 104, 32]⟩ w0 b L _ ST.out (by show L.length + 6 ≤ _; omega)).mono ?_
  rintro e W1 ⟨rfl, st, k1⟩
  have ba := k1.blk BA.out (by decide)
  have c7 : W1.cell? ⟨bx, 7, none⟩ = some (.slice (some ⟨b', o', none⟩) (N + 1) u.cap) := by rw [Lib.cell_of_heap ba]; rfl
  obtain ⟨d0, d1, d2, d3, d4, d5, d6, d7⟩ := (Ax.out.grow st.2).c
  replace k0 := k0.trans k1
  have ST := Lib.hid st
  have BA := Lib.hid ba
  clear st ba k1
  go_wp2_with fail
  refine (px.zero false w0 b _ _ ox nx ST.out Ax.out.2 TB.out HB1.out).mono ?_
  rintro e W2 ⟨rfl, st, k2⟩
  have ba := k2.blk BA.out (by decide)
  replace k0 := k0.trans k2
  have key := HLS.out W2 st
  clear c7 d0 d1 d2 d3 d4 d5 d6 d7
  have c7 : W2.cell? ⟨bx, 7, none⟩ = some (.slice (some ⟨b', o', none⟩) (N + 1) u.cap) := by rw [Lib.cell_of_heap ba]; rfl
  clear st ba k2
  go_wp2_with fail
  refine (key _).mono ?_
  rintro e W3 ⟨rfl, st, k3⟩
  have ST3 := Lib.hid st
  clear st
  go_wp2_with fail
  go_end0
  refine ⟨rfl, ?_, k0.trans k3⟩
  have := ST3.out
  rw [HT.out]
  simpa [List.append_assoc] using this

set_option maxRecDepth 100000 in
theorem term_of (v : LM) (hno : ∀ (c : Bool) (w0 : World) (b : Nat) (L : List UInt8) (W : World), v.tm.ok c = true → v.tm.nn ≤ 160 → St w0 b L W → v.Ok w0 → TabP w0 → L.length + v.tm.txt.length ≤ 700000 → Calls Tryz.prog 30 #[.pointer (some ⟨b, 0, none⟩), v.val] W (StP w0 b (L ++ v.tm.txt) W)) : TermK v := by
  intro c w0 b L w pl hc hnn hst hok ht hl hp0 hp5
  have h3 : v.k = 3 → 1 ≤ v.m ∧ v.m ≤ 6 := fun hk => by
    have hcc := ok_cases hc
    rw [LM.tm_k, hk, LM.tm_m] at hcc
    rcases hcc with ⟨h, _⟩ | ⟨h, _⟩ | ⟨_, h1, h2, _⟩ | ⟨h, _⟩ | ⟨h, _⟩ | ⟨h, _⟩ | ⟨h, _⟩ | ⟨h, _⟩ | ⟨h, _⟩ | ⟨h, _⟩ | ⟨h, _⟩
    all_goals first | exact absurd h (by decide) | exact ⟨h1, h2⟩
  have BU := BoxT.new w v
  have k0 := KeptP.of_gw ((Gw.refl w).alloc v.box)
  have st := hst.alloc v.box
  have HR := Lib.hid fun (W : World) (g : Gw w0 W) => impl_rank v W (ht.grow g) h3
  have HN := Lib.hid fun (L' : List UInt8) (W : World) (hs : St w0 b L' W) (hl' : L'.length + v.tm.txt.length ≤ 700000) => hno c w0 b L' W hc hnn hs hok ht hl'
  by_cases hge : pl ≤ lvM v.k v.m
  · have F := Lib.hid (show wrP pl (lvM v.k v.m) v.tm.txt = v.tm.txt from by unfold wrP; rw [if_neg (by omega)])
    rw [F.out] at hl
    clear hst hok ht hno h3
    go_enter Tryz.func18, Tryz.ntmps18
    go_upto_region 1 with (fail)
    generalize w.alloc (.cells #[.int .i64 v.k, .int .i64 v.m, .string v.n, .int .i64 v.t.k, .string v.t.n, .slice v.t.a v.t.ks.length v.t.cap, .slice v.na v.ns.length v.nc, .slice v.a v.ks.length v.cap] 36) = W at *
    generalize w.heap.size = bx at *
    obtain ⟨q0, q1, q2, q3, q4, q5, q6, q7⟩ := BU.box.c
    have key := HR.out W st.2
    have ST := Lib.hid st
    have BX := Lib.hid BU
    clear st BU
    generalize lvM v.k v.m = lv at *
    go_wp2_with fail
    refine key.mono ?_
    rintro e W1 ⟨rfl, g1⟩
    have BU := BX.out.kept (KeptP.of_gw g1)
    clear q0 q1 q2 q3 q4 q5 q6 q7 key
    obtain ⟨q0, q1, q2, q3, q4, q5, q6, q7⟩ := BU.box.c
    have key := HN.out L W1 (ST.out.grow g1) hl
    have K1 := Lib.hid (k0.trans (KeptP.of_gw g1))
    clear BU g1
    go_wp2_with fail
    refine key.mono ?_
    rintro e W2 ⟨rfl, st, k2⟩
    have ST2 := Lib.hid st
    clear st
    go_wp2_with fail
    first | go_end0 | refine bodyPost_ret (results_none rfl _ _ _) rfl ?_
    exact ⟨rfl, by rw [F.out]; exact ST2.out, K1.out.trans k2⟩
  · have F := Lib.hid (show wrP pl (lvM v.k v.m) v.tm.txt = [40] ++ v.tm.txt ++ [41] from by unfold wrP; rw [if_pos (by omega)]; rfl)
    rw [F.out] at hl
    simp only [List.length_append] at hl
    rw [show ([40] : List UInt8).length = 1 from rfl, show ([41] : List UInt8).length = 1 from rfl] at hl
    have hb1 := Lib.hid (show (L ++ (⟨#[40]⟩ : ByteArray).data.toList).length + v.tm.txt.length ≤ 700000 from by simp only [List.length_append]; show L.length + 1 + _ ≤ _; omega)
    have hb2 := Lib.hid (show (L ++ (⟨#[40]⟩ : ByteArray).data.toList ++ v.tm.txt).length + (⟨#[41]⟩ : ByteArray).size ≤ 800000 from by simp only [List.length_append]; show L.length + 1 + _ + 1 ≤ _; omega)
    clear hst hok ht hno h3
    go_enter Tryz.func18, Tryz.ntmps18
    go_upto_region 1 with (fail)
    generalize w.alloc (.cells #[.int .i64 v.k, .int .i64 v.m, .string v.n, .int .i64 v.t.k, .string v.t.n, .slice v.t.a v.t.ks.length v.t.cap, .slice v.na v.ns.length v.nc, .slice v.a v.ks.length v.cap] 36) = W at *
    generalize w.heap.size = bx at *
    obtain ⟨q0, q1, q2, q3, q4, q5, q6, q7⟩ := BU.box.c
    have key := HR.out W st.2
    have ST := Lib.hid st
    have BX := Lib.hid BU
    clear st BU
    generalize lvM v.k v.m = lv at *
    go_wp2_with fail
    refine key.mono ?_
    rintro e W1 ⟨rfl, g1⟩
    have BU := BX.out.kept (KeptP.of_gw g1)
    clear q0 q1 q2 q3 q4 q5 q6 q7 key
    have ST1 := Lib.hid (ST.out.grow g1)
    have BX1 := Lib.hid BU
    have K1 := Lib.hid (k0.trans (KeptP.of_gw g1))
    clear BU g1
    go_wp2_with fail
    refine (write1 ⟨#[40]⟩ w0 b L _ ST1.out (by show L.length + 1 ≤ _; omega)).mono ?_
    rintro e W2 ⟨rfl, st, k2⟩
    have BU := BX1.out.kept k2
    obtain ⟨q0, q1, q2, q3, q4, q5, q6, q7⟩ := BU.box.c
    have key := HN.out _ W2 st hb1.out
    have K2 := Lib.hid (K1.out.trans k2)
    clear BU st k2
    go_wp2_with fail
    refine key.mono ?_
    rintro e W3 ⟨rfl, st, k3⟩
    have ST3 := Lib.hid st
    have K3 := Lib.hid (K2.out.trans k3)
    clear st k3 q0 q1 q2 q3 q4 q5 q6 q7 key
    go_wp2_with fail
    refine (write1 ⟨#[41]⟩ w0 b _ _ ST3.out hb2.out).mono ?_
    rintro e W4 ⟨rfl, st, k4⟩
    have ST4 := Lib.hid st
    clear st
    go_wp2_with fail
    go_end0
    refine ⟨rfl, ?_, K3.out.trans k4⟩
    have := ST4.out
    rw [F.out]
    simpa [List.append_assoc] using this

theorem name_small {t : Tm} {c : Bool} (h : t.ok c = true) : t.n.size ≤ 12 := by
  rw [ok_eq, Bool.and_eq_true, Bool.and_eq_true] at h
  obtain ⟨_, hh, _⟩ := h
  unfold headM fldM at hh
  simp only [Bool.and_eq_true] at hh
  have hn := hh.2.1
  unfold nameM at hn
  split at hn
  · exact (low_size hn).2
  · split at hn
    · exact (upp_size hn).2
    · by_cases hz : t.n.size < 1
      · omega
      · rw [empty_no _ hz] at hn; cases hn

theorem node_all (u : LM) (ih : ∀ v ∈ u.ks, TermK v) (c : Bool) (w0 : World) (b : Nat) (L : List UInt8) (W : World) (hok : u.tm.ok c = true) (hnn : u.tm.nn ≤ 160) (hst : St w0 b L W) (hO : u.Ok w0) (ht : TabP w0) (hl : L.length + u.tm.txt.length ≤ 700000) :
    Calls Tryz.prog 30 #[.pointer (some ⟨b, 0, none⟩), u.val] W (StP w0 b (L ++ u.tm.txt) W) := by
  have hc := ok_cases hok
  have hkn : ∀ v ∈ u.ks, v.tm.nn ≤ 160 := fun v hv => by have := kid_nn hv; omega
  have ht1 := lm_txt u
  rw [LM.tm_k, LM.tm_m, LM.tm_n, LM.tm_t, LM.tm_ns, LM.tm_ks] at hc
  have hLl : L.length ≤ 700000 := by omega
  have hsm : u.n.size ≤ 12 := by have := name_small hok; rw [LM.tm_n] at this; exact this
  rcases hc with ⟨hk, he, hn⟩ | ⟨hk, he, h1, h2⟩ | ⟨hk, h1, h2, x, y, he, hx, hy⟩ | ⟨hk, hn, hv, x, he, hx⟩ | ⟨hk, x, y, he, hx, hy⟩ | ⟨hk, x, he, hx⟩ | ⟨hk, hn, x, y, he, hx, hy⟩ | ⟨hk, hn, hq, hx⟩ | ⟨hk, x, r, he, hx, h1, h2, hr⟩ | ⟨hk, hn, h2, hs, x, he, hx⟩ | ⟨hk, x, y, z, he, hx, hy, hz⟩
  · refine node_1 u hk w0 b L _ W hst fun W2 hs2 => ?_
    rw [ht1, hk, form_var]
    exact mth_var u (low_size hn).2 w0 b L W2 hs2 hLl
  · refine node_2 u hk w0 b L _ W hst fun W2 hs2 => ?_
    rw [ht1, hk, form_num]
    exact mth_num u h1 h2 w0 b L W2 hs2 hLl
  · obtain ⟨v, z, hks, rfl, rfl⟩ := map2 he
    refine node_3 u hk w0 b L _ W hst fun W2 hs2 => ?_
    exact mth_op u v z hk h1 h2 hks (ih v (by rw [hks]; simp)) hx (hkn v (by rw [hks]; simp)) (ih z (by rw [hks]; simp)) hy (hkn z (by rw [hks]; simp)) _ (by rw [ht1, hk, hks]; rfl) w0 b L W2 hs2 hO ht hl
  · obtain ⟨v, hks, rfl⟩ := map1 he
    refine node_4 u hk w0 b L _ W hst fun W2 hs2 => ?_
    exact mth_lam u v hks (low_size hn).2 (ih v (by rw [hks]; simp)) hx (hkn v (by rw [hks]; simp)) _ (by rw [ht1, hk, hks]; rfl) w0 b L W2 hs2 hO ht hl
  · obtain ⟨v, z, hks, rfl, rfl⟩ := map2 he
    refine node_5 u hk w0 b L _ W hst fun W2 hs2 => ?_
    exact mth_app u v z hks hsm (ih v (by rw [hks]; simp)) hx (hkn v (by rw [hks]; simp)) (ih z (by rw [hks]; simp)) hy (hkn z (by rw [hks]; simp)) _ (by rw [ht1, hk, hks]; rfl) w0 b L W2 hs2 hO ht hl
  · obtain ⟨v, hks, rfl⟩ := map1 he
    refine node_6 u hk w0 b L _ W hst fun W2 hs2 => ?_
    exact mth_box u v hks hsm (ih v (by rw [hks]; simp)) hx (hkn v (by rw [hks]; simp)) _ (by rw [ht1, hk, hks]; rfl) w0 b L W2 hs2 hO ht hl
  · obtain ⟨v, z, hks, rfl, rfl⟩ := map2 he
    refine node_7 u hk w0 b L _ W hst fun W2 hs2 => ?_
    exact mth_let u v z hks (low_size hn).2 (ih v (by rw [hks]; simp)) hx (hkn v (by rw [hks]; simp)) (ih z (by rw [hks]; simp)) hy (hkn z (by rw [hks]; simp)) _ (by rw [ht1, hk, hks]; rfl) w0 b L W2 hs2 hO ht hl
  · refine node_8 u hk w0 b L _ W hst fun W2 hs2 => ?_
    refine mth_con u (by simp at hq; omega) (upp_size hn).2 (fun v hv => ⟨ih v hv, hx v.tm (List.mem_map_of_mem hv), hkn v hv⟩) _ ?_ w0 b L W2 hs2 hO ht hl
    rw [ht1, hk, form_con, List.map_map]
    rfl
  · obtain ⟨v, us, hks⟩ : ∃ v us, u.ks = v :: us := by
      cases hh : u.ks with
      | nil => rw [hh] at he; cases he
      | cons v us => exact ⟨v, us, rfl⟩
    rw [hks, List.map_cons] at he
    injection he with he1 he2
    subst he1 he2
    refine node_9 u hk w0 b L _ W hst fun W2 hs2 => ?_
    refine mth_match u v us hks (by simpa using h1) (by simpa using h2) (ih v (by rw [hks]; simp)) hx (hkn v (by rw [hks]; simp)) (fun q hq => ⟨ih q (by rw [hks]; simp [hq]), hr q.tm (List.mem_map_of_mem hq), hkn q (by rw [hks]; simp [hq])⟩) _ ?_ w0 b L W2 hs2 hO ht hl
    rw [ht1, hk, hks, List.map_cons, form_match, List.map_map]
    rfl
  · obtain ⟨v, hks, rfl⟩ := map1 he
    refine node_10 u hk w0 b L _ W hst fun W2 hs2 => ?_
    exact mth_case u v hks (upp_size hn).2 h2 (fun s hs3 => low_size (hs s hs3)) (ih v (by rw [hks]; simp)) hx (hkn v (by rw [hks]; simp)) _ (by rw [ht1, hk, hks]; rfl) w0 b L W2 hs2 hO ht hl
  · obtain ⟨v, z, q, hks, rfl, rfl, rfl⟩ := map3 he
    refine node_11 u hk w0 b L _ W hst fun W2 hs2 => ?_
    exact mth_if u v z q hks hsm (ih v (by rw [hks]; simp)) hx (hkn v (by rw [hks]; simp)) (ih z (by rw [hks]; simp)) hy (hkn z (by rw [hks]; simp)) (ih q (by rw [hks]; simp)) hz (hkn q (by rw [hks]; simp)) _ (by rw [ht1, hk, hks]; rfl) w0 b L W2 hs2 hO ht hl

theorem termK_all (u : LM) : TermK u := by
  refine LM.ind (P := TermK) (fun k m n t na nc ns a c ks ih => ?_) u
  exact term_of _ fun c w0 b L W hok hnn hst hO ht hl => node_all (.mk k m n t na nc ns a _ ks) ih c w0 b L W hok hnn hst hO ht hl

theorem impl_result (w0 : World) (b : Nat) (l : List UInt8) (w : World) (hst : St w0 b l w) (h0 : l ≠ []) (hl : l.length ≤ 700000) :
    Calls Tryz.prog 19 #[.pointer (some ⟨b, 0, none⟩)] w fun e w' => e = .returned (.string (str (if l.length ≤ 20000 then l else []))) ∧ Gw w0 w' := by
  have hbl := bcells_len l
  have k1 := lenP w0.heap.size b (Lib.byteCells l) w hst.1 (by omega)
  have k2 := stringP w0.heap.size b l w hst.1 h0 (by omega)
  rw [hbl] at k1
  have G := Lib.hid hst.2
  by_cases hle : l.length ≤ 20000
  · have F := Lib.hid (show (if l.length ≤ 20000 then l else []) = l from if_pos hle)
    clear hst h0 hbl
    generalize l.length = n at *
    go_enter Tryz.func19, Tryz.ntmps19
    go_wp2_with fail
    refine k1.mono ?_
    rintro e w' ⟨rfl, rfl⟩
    go_wp2_with fail
    refine k2.mono ?_
    rintro e w2 ⟨rfl, g2⟩
    go_wp2_with fail
    go_ret
    exact ⟨rfl, Below.trans G.out g2⟩
  · have F := Lib.hid (show (if l.length ≤ 20000 then l else []) = [] from if_neg hle)
    clear hst h0 hbl k2
    generalize l.length = n at *
    go_enter Tryz.func19, Tryz.ntmps19
    go_wp2_with fail
    refine k1.mono ?_
    rintro e w' ⟨rfl, rfl⟩
    go_wp2_with fail
    go_ret
    exact ⟨rfl, G.out⟩

set_option maxHeartbeats 1000000 in
theorem impl_print (u : LM) (w : World) (h : u.Ok w) (hT : Tbl w) (ht : TabP w) : Calls Tryz.prog 7 #[u.val] w (StrGw (printV u.tm) w) := by
  have g1 : Gw w (w.alloc u.box) := (Gw.refl w).alloc _
  have key := impl_validTm u _ (h.grow g1) (hT.grow g1)
  have hB := BoxM.new w u 36
  cases hv : okT u.tm with
  | false =>
    rw [hv] at key
    have F := Lib.hid (show printV u.tm = [] from by unfold printV; rw [hv]; rfl)
    clear hv hT ht h
    go_enter Tryz.func7, Tryz.ntmps7
    go_upto_region 1 with (fail)
    generalize w.alloc (.cells #[.int .i64 u.k, .int .i64 u.m, .string u.n, .int .i64 u.t.k, .string u.t.n, .slice u.t.a u.t.ks.length u.t.cap, .slice u.na u.ns.length u.nc, .slice u.a u.ks.length u.cap] 36) = W at *
    generalize w.heap.size = bx at *
    obtain ⟨p0, p1, p2, p3, p4, p5, p6, p7⟩ := hB.c
    go_wp2_with fail
    refine key.mono ?_
    rintro e w1 ⟨rfl, hg⟩
    go_wp2_with fail
    go_ret
    exact ⟨ret_st (by rw [F.out]), g1.trans hg⟩
  | true =>
    rw [hv] at key
    have hgd : goodM u.tm false 24 160 := of_decide_eq_true hv
    have hl := txt_len u.tm false hgd.1
    have hlen : u.tm.txt.length ≤ 64000 := by have := hgd.2.2; omega
    have hpos := txt_pos hgd.1
    have F := Lib.hid (show printV u.tm = if u.tm.txt.length ≤ 20000 then u.tm.txt else [] from by unfold printV; rw [hv]; simp)
    have HK := Lib.hid fun (W1 : World) (g : Gw w W1) => (termK_all u).zero false W1 W1.heap.size [] (W1.alloc (.cells #[.pointer none, .slice none 0 0] 54)) hgd.1 hgd.2.2 ⟨Lib.fresh_isBuilder 54 5 W1, (Gw.refl W1).alloc _⟩ (h.grow g) (ht.grow g) (by simp; omega)
    have HR := Lib.hid fun (W1 W2 : World) (st : St W1 W1.heap.size u.tm.txt W2) => impl_result W1 W1.heap.size u.tm.txt W2 st (fun h => by rw [h] at hpos; simp at hpos) (by omega)
    clear hv hT ht h hgd hl hpos
    go_enter Tryz.func7, Tryz.ntmps7
    go_upto_region 1 with (fail)
    generalize w.alloc (.cells #[.int .i64 u.k, .int .i64 u.m, .string u.n, .int .i64 u.t.k, .string u.t.n, .slice u.t.a u.t.ks.length u.t.cap, .slice u.na u.ns.length u.nc, .slice u.a u.ks.length u.cap] 36) = W at *
    generalize w.heap.size = bx at *
    obtain ⟨p0, p1, p2, p3, p4, p5, p6, p7⟩ := hB.c
    go_wp2_with fail
    refine key.mono ?_
    rintro e w1 ⟨rfl, hg⟩
    have hB1 := hB.grow hg
    clear p0 p1 p2 p3 p4 p5 p6 p7
    have hB2 := hB1.grow ((Gw.refl w1).alloc (.cells #[.pointer none, .slice none 0 0] 54))
    have k1 := HK.out w1 (g1.trans hg)
    go_upto_region 4 with (fail)
    generalize w1.alloc (.cells #[.pointer none, .slice none 0 0] 54) = V at *
    obtain ⟨p0, p1, p2, p3, p4, p5, p6, p7⟩ := hB2.c
    go_wp2_with fail
    refine k1.mono ?_
    rintro e w2 ⟨rfl, st, k2⟩
    rw [List.nil_append] at st
    have k3 := HR.out w1 w2 st
    go_wp2_with fail
    refine k3.mono ?_
    rintro e w3 ⟨rfl, g3⟩
    have G3 := Lib.hid ((g1.trans hg).trans g3)
    clear g3 k1 k2 k3 st
    go_wp2_with fail
    all_goals
      go_ret
      exact ⟨ret_st (by rw [F.out]; first | rw [if_pos (by assumption)] | rw [if_neg (by assumption)]), G3.out⟩

end Go.Proofs.YtbjedfbpikfflaaGreatDoor.Con
