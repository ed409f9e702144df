/-
  Contract of the program's inhabitedFields. Condition: the fields are valid and known.
-/
import Derived.Test.YtdlbhjkkgiaidaaDaInh
namespace Go.Proofs.Ytdlbhjkkgiaidaa.Con
open Go.RowKit
set_option linter.unusedVariables false

theorem min_exists (Q : Nat → Prop) (h : ∃ d, Q d) : ∃ d, Q d ∧ ∀ e, Q e → d ≤ e := by
  obtain ⟨d, hd⟩ := h
  induction d using Nat.strongRecOn with
  | ind d ih =>
    by_cases h : ∃ e, e < d ∧ Q e
    · obtain ⟨e, he, hq⟩ := h
      exact ih e he hq
    · exact ⟨d, hd, fun e he => Nat.le_of_not_lt fun hl => h ⟨e, hl, he⟩⟩
open Classical in
noncomputable def mu (Q : Nat → Prop) : Nat := if h : ∃ d, Q d then Classical.choose (min_exists Q h) else 0
theorem mu_spec {Q : Nat → Prop} (h : ∃ d, Q d) : Q (mu Q) := by unfold mu; rw [dif_pos h]; exact (Classical.choose_spec (min_exists Q h)).1
theorem mu_le {Q : Nat → Prop} {e : Nat} (h : Q e) : mu Q ≤ e := by unfold mu; rw [dif_pos ⟨e, h⟩]; exact (Classical.choose_spec (min_exists Q ⟨e, h⟩)).2 e h

def TBox (W : World) (b : Nat) (t : LT) : Prop := W.heap[b]? = some (.cells #[.int .i64 t.k, .string t.n, .slice t.a t.ks.length t.cap] 29 (0, 0))
theorem TBox.c {W : World} {b : Nat} {t : LT} (h : TBox W b t) : W.cell? ⟨b, 0, none⟩ = some (.int .i64 t.k) ∧ W.cell? ⟨b, 1, none⟩ = some (.string t.n) ∧ W.cell? ⟨b, 2, none⟩ = some (.slice t.a t.ks.length t.cap) :=
  ⟨cell_of_row _ _ 0 _ _ _ h, cell_of_row _ _ 1 _ _ _ h, cell_of_row _ _ 2 _ _ _ h⟩
theorem TBox.frz {W : World} {b : Nat} {t : LT} (h : TBox W b t) (i : Nat) : W.frozen? ⟨b, i, none⟩ = false := by unfold TBox at h; simp [World.frozen?, h]
theorem TBox.set {W : World} {b : Nat} {t u : LT} (h : TBox W b t) : TBox (((W.setCell ⟨b, 0, none⟩ (.int .i64 u.k)).setCell ⟨b, 1, none⟩ (.string u.n)).setCell ⟨b, 2, none⟩ (.slice u.a u.ks.length u.cap)) b u := by
  unfold TBox at *
  simp [World.setCell, Array.getElem?_modify, h]

/-- The place of a field while its bangs are stripped. -/
def FieldR (w : World) (ns : List ByteArray) (L : List Bool) (F : Nat) (b : Bool) (wr : World) (d : Nat) : Prop := ∃ u : LT, TBox wr F u ∧ u.Ok w ∧ Wk ns d u ∧ u.ty.live ns L = b ∧ Gw w wr

set_option maxHeartbeats 2000000 in
set_option maxRecDepth 100000 in
theorem impl_ifields (ds : List LD) (L : List Bool) (hL : L.length = ds.length) (ks : List LT) (hks : ∀ j (hj : j < ks.length), Wk (ds.map LN.n) 6 ks[j]) (w : World) (a b : Option Addr) (cap g c kc : Nat) (hd : dsOk w a cap ds) (hv : Lv w g L) (h4 : L.length ≤ 4) (h : slOk w b kc ks) :
    Calls Try.prog 83 #[.slice a ds.length cap, .slice (some ⟨g, 0, none⟩) L.length c, .slice b ks.length kc] w (BoolGw (ks.all fun t => t.ty.live (ds.map LN.n) L) w) := by
  have hl : ks.length ≤ 9223372036854775807 := Nat.le_trans h.1 h.2.1
  have hrow := Lib.hid h.2.2
  have HD := Lib.hid hd
  have HV := Lib.hid hv
  have HL := Lib.hid hL
  have HK := Lib.hid hks
  clear hd hv hL hks h
  go_enter Try.func83, Try.ntmps83
  go_wp2_with fail
  go_loopw [11] (fun i wr => ∃ j : Nat, j ≤ ks.length ∧ i = .int .i64 j ∧ Gw w wr ∧ ∀ x (hx : x < ks.length), x < j → ks[x].ty.live (ds.map LN.n) L = true) (fun i _ => ks.length - (intOf i).toNat)
  case atStart => exact ⟨0, by omega, rfl, Gw.refl _, fun x _ h => absurd h (by omega)⟩
  case round =>
    obtain ⟨wo, rfl⟩ : ∃ wo : World, wo = wr := ⟨_, rfl⟩
    obtain ⟨j, hj, rfl, hg, hall⟩ := hrel
    have HALL := Lib.hid hall
    clear hall
    by_cases hlt : j < ks.length
    · obtain ⟨b1, o1, rfl, r1⟩ := hrow.out.resolve_left (fun e => by rw [e] at hlt; simp at hlt)
      obtain ⟨c0, c1, c2, _⟩ := rowOk_get (r1.grow hg) j hlt
      have hok := (rowOk_get r1 j hlt).2.2.2
      have q0 : (0 : Int) ≤ j := by omega
      have q1 : (j : Int) < ks.length := by omega
      have HF := Lib.hid (show FieldR w (ds.map LN.n) L wo.heap.size (ks[j].ty.live (ds.map LN.n) L) (wo.alloc (.cells #[.int .i64 ks[j].k, .string ks[j].n, .slice ks[j].a ks[j].ks.length ks[j].cap] 29)) 6 from ⟨ks[j], heap_alloc_new wo _, hok, HK.out j hlt, rfl, hg.alloc _⟩)
      have SZ := Lib.hid hg.size
      clear r1 hok hg
      go_wp2_with fail
      clear c0 c1 c2
      generalize wo.alloc (.cells #[.int .i64 ks[j].k, .string ks[j].n, .slice ks[j].a ks[j].ks.length ks[j].cap] 29) = w1 at *
      generalize wo.heap.size = F at *
      go_loopw [] (fun wr => ∃ d, FieldR w (ds.map LN.n) L F (ks[j].ty.live (ds.map LN.n) L) wr d) (fun wr => mu (FieldR w (ds.map LN.n) L F (ks[j].ty.live (ds.map LN.n) L) wr))
      case atStart => exact ⟨6, HF.out⟩
      case round =>
        have hmu := mu_spec hrel
        obtain ⟨m, hm⟩ : ∃ m, m = mu (FieldR w (ds.map LN.n) L F (ks[j].ty.live (ds.map LN.n) L) wr) := ⟨_, rfl⟩
        rw [← hm] at hmu
        have HMU := Lib.hid hm
        clear hrel hm
        obtain ⟨u, htb, hu, hwk, hlv, hg⟩ := hmu
        obtain ⟨d, rfl⟩ := hwk.pos
        obtain ⟨p0, p1, p2⟩ := htb.c
        have HTB := Lib.hid htb
        have HLV := Lib.hid hlv
        have G := Lib.hid hg
        clear hlv
        by_cases hk4 : u.k = 4
        · obtain ⟨v, hkv, hwv, hlive⟩ := hwk.bang hk4
          obtain ⟨b2, o2, ha, hr⟩ := hu.kids.2.2.resolve_left (by rw [hkv]; simp)
          have hge := rowOk_get (hr.grow hg) 0 (by rw [hkv]; simp)
          have hov := (rowOk_get hr 0 (by rw [hkv]; simp)).2.2.2
          have e0 : u.ks[0]'(by rw [hkv]; simp) = v := by simp [hkv]
          have hlen : u.ks.length = 1 := by rw [hkv]; rfl
          rw [e0] at hge hov
          simp only [Nat.zero_mul, Nat.add_zero] at hge
          obtain ⟨c0, c1, c2, _⟩ := hge
          have hf := htb.frz
          rw [ha, hlen] at p2
          rw [hk4] at p0
          have HNEW := Lib.hid (show FieldR w (ds.map LN.n) L F (ks[j].ty.live (ds.map LN.n) L) (((wr.setCell ⟨F, 0, none⟩ (.int .i64 v.k)).setCell ⟨F, 1, none⟩ (.string v.n)).setCell ⟨F, 2, none⟩ (.slice v.a v.ks.length v.cap)) d from
            ⟨v, htb.set, hov, hwv, by rw [← hlive]; exact HLV.out, ((Below.setCell hg SZ.out _).setCell SZ.out _).setCell SZ.out _⟩)
          clear ha hlen hkv hwv hlive hr e0 hov hk4 hu hwk htb hg
          go_wp2_with fail
          go_roundw
          case rel => exact ⟨d, HNEW.out⟩
          case measure =>
            have := mu_le HNEW.out
            rw [← HMU.out]
            omega
        · have hd4 : (u.k == 4) = false := by simpa using hk4
          have HVR := Lib.hid (HV.out.grow hg)
          have HDR := Lib.hid (dsOk.grow HD.out hg)
          by_cases h2 : u.k = 2
          · have HN := Lib.hid (hwk.data h2)
            have HLK := Lib.hid (show lk (ds.map LN.n) L u.n = ks[j].ty.live (ds.map LN.n) L by rw [← HLV.out, LT.live_eq, if_pos h2])
            rw [h2] at p0
            clear hk4 hu htb hg hwk h2 hd4
            go_wp2_with fail
            refine (impl_dataIndex ds wr a cap u.n HDR.out).mono ?_
            rintro e w2 ⟨r, rfl, hr, g2⟩
            obtain ⟨x, rfl, hx, hix⟩ := ix_known hr HN.out
            have hlk := lk_ix _ _ _ hix (by rw [HL.out, List.length_map])
            rw [HLK.out] at hlk
            have hc := (HVR.out.grow g2).cell hlk
            rw [List.length_map, ← HL.out] at hx
            have t0 : (0 : Int) ≤ x := by omega
            have t1 : (x : Int) < L.length := by omega
            have G2 := Lib.hid (G.out.trans g2)
            clear hr hix hlk p0 p1 p2 g2
            cases hb : ks[j].ty.live (ds.map LN.n) L with
            | false =>
              rw [hb] at hc
              have HE := Lib.hid (show (ks.all fun t => t.ty.live (ds.map LN.n) L) = false from List.all_eq_false.2 ⟨_, List.getElem_mem hlt, by rw [hb]; simp⟩)
              clear hb
              go_wp2_with fail
              go_ret
              exact ⟨ret_b HE.out.symm, G2.out⟩
            | true =>
              rw [hb] at hc
              have HE := Lib.hid hb
              clear hb
              go_wp2_with fail
              go_roundw
              case rel =>
                refine ⟨j + 1, by omega, by go_num, G2.out, fun y hy hi => ?_⟩
                by_cases e : y = j
                · subst e; exact HE.out
                · exact HALL.out y hy (by omega)
              case measure => simp [intOf]; omega
          · have hd2 : (u.k == 2) = false := by simpa using h2
            have HE := Lib.hid (show ks[j].ty.live (ds.map LN.n) L = true by rw [← HLV.out, LT.live_eq, if_neg h2, if_neg hk4])
            clear hk4 hu htb hg hwk h2
            go_wp2_with fail
            go_roundw
            case rel =>
              refine ⟨j + 1, by omega, by go_num, G.out, fun y hy hi => ?_⟩
              by_cases e : y = j
              · subst e; exact HE.out
              · exact HALL.out y hy (by omega)
            case measure => simp [intOf]; omega
    · obtain rfl : j = ks.length := by omega
      have HA := Lib.hid (show (ks.all fun t => t.ty.live (ds.map LN.n) L) = true from List.all_eq_true.2 fun u hu => by
        obtain ⟨x, hx, rfl⟩ := List.mem_iff_getElem.1 hu
        exact HALL.out x hx hx)
      go_wp2_with fail
      go_ret
      exact ⟨ret_b HA.out.symm, hg⟩

theorem all_live (ns : List ByteArray) (L : List Bool) (cc : LC) : (cc.xs.all fun t => t.ty.live ns L) = cLive ns L (cty cc) := by
  unfold cLive cty; rw [List.all_map]; rfl

/-- What the closure reads: two places and what they name. -/
def Caps (w : World) (q1 q2 : Nat) (ds : List LD) (a : Option Addr) (cap g n : Nat) (L : List Bool) : Prop :=
  w.cell? ⟨q1, 0, none⟩ = some (.slice a ds.length cap) ∧ w.cell? ⟨q2, 0, none⟩ = some (.slice (some ⟨g, 0, none⟩) n n) ∧ dsOk w a cap ds ∧ Lv w g L ∧ L.length = n ∧ n = ds.length ∧ n ≤ 4
theorem Caps.grow {w w' : World} {q1 q2 : Nat} {ds : List LD} {a : Option Addr} {cap g n : Nat} {L : List Bool} (h : Caps w q1 q2 ds a cap g n L) (k : Gw w w') : Caps w' q1 q2 ds a cap g n L :=
  ⟨k.cell h.1 (cell_lt h.1), k.cell h.2.1 (cell_lt h.2.1), dsOk.grow h.2.2.1 k, h.2.2.2.1.grow k, h.2.2.2.2⟩

theorem impl_inh1 (ds : List LD) (L : List Bool) (cc : LC) (hcb : cB (ds.map LN.n) (cty cc) = true) (w : World) (q1 q2 : Nat) (a : Option Addr) (cap g n : Nat) (hC : Caps w q1 q2 ds a cap g n L) (h : cOk w cc) :
    Calls Try.prog 82 #[cc.val, .pointer (some ⟨q1, 0, none⟩), .pointer (some ⟨q2, 0, none⟩)] w (BoolGw (cLive (ds.map LN.n) L (cty cc)) w) := by
  have g1 : Gw w (w.alloc (.cells #[.string cc.n, .slice cc.a cc.xs.length cc.cap] 66)) := (Gw.refl w).alloc _
  have CB := Lib.hid (show CBox (w.alloc (.cells #[.string cc.n, .slice cc.a cc.xs.length cc.cap] 66)) w.heap.size cc from heap_alloc_new w _)
  have CA := Lib.hid (hC.grow g1)
  have HC := Lib.hid (h.grow g1)
  have G1 := Lib.hid g1
  have HCB := Lib.hid hcb
  clear g1 h hcb hC
  go_enter Try.func82, Try.ntmps82
  go_upto_region 1 with (fail)
  generalize w.alloc (.cells #[.string cc.n, .slice cc.a cc.xs.length cc.cap] 66) = w1 at *
  obtain ⟨k1, k2, k3, k4, k5, k6, k7⟩ := CA.out
  obtain ⟨p0, p1⟩ := CB.out.c
  have key := impl_ifields ds L (k5.trans k6) cc.xs (fun j hj => Wk.of (cB_field HCB.out hj)) w1 a cc.a cap g n cc.cap k3 k4 (by omega) HC.out.2
  rw [k5, all_live] at key
  have KEY := Lib.hid key
  clear key k3 k4 k5 k6
  go_wp2_with fail
  refine KEY.out.mono ?_
  rintro e w2 ⟨rfl, g2⟩
  clear k1 k2 p0 p1
  go_wp2_with fail
  go_ret
  exact ⟨rfl, G1.out.trans g2⟩

def AnyGw (b : Bool) (w : World) (e : Ending) (w' : World) : Prop := ∃ r : Int, e = .returned (.int .i64 r) ∧ decide (0 ≤ r) = b ∧ Gw w w'

set_option maxHeartbeats 1000000 in
theorem impl_inhIx (ds : List LD) (L : List Bool) (cs : List LC) (hcb : ∀ k (hk : k < cs.length), cB (ds.map LN.n) (cty cs[k]) = true) (w : World) (q1 q2 : Nat) (a b : Option Addr) (cap g n c : Nat) (hC : Caps w q1 q2 ds a cap g n L) (h : csOk w b c cs) :
    Calls Try.prog 106 #[.slice b cs.length c, .func (.func 82) #[] #[.pointer (some ⟨q1, 0, none⟩), .pointer (some ⟨q2, 0, none⟩)]] w (AnyGw (cs.any fun c => cLive (ds.map LN.n) L (cty c)) w) := by
  have hl : cs.length ≤ 9223372036854775807 := Nat.le_trans h.1 h.2.1
  have hrow := Lib.hid h.2.2
  have CA := Lib.hid hC
  have HCB := Lib.hid hcb
  clear h hC hcb
  go_enter Try.func106, Try.ntmps106
  go_wp2_with fail
  go_loopw [8] (fun i wr => ∃ j : Nat, j ≤ cs.length ∧ i = .int .i64 j ∧ (∀ x (hx : x < cs.length), x < j → cLive (ds.map LN.n) L (cty cs[x]) = false) ∧ Gw w wr) (fun i _ => cs.length - (intOf i).toNat)
  case atStart => exact ⟨0, by omega, rfl, fun x _ h => absurd h (by omega), Gw.refl _⟩
  case round =>
    obtain ⟨j, hj, rfl, hall, hg⟩ := hrel
    have HALL := Lib.hid hall
    have G := Lib.hid hg
    clear hall
    by_cases hlt : j < cs.length
    · obtain ⟨b1, o1, rfl, r1⟩ := hrow.out.resolve_left (fun e => by subst e; simp at hlt)
      obtain ⟨c0, c1, hk⟩ := (r1.grow hg (fun _ h => h.grow hg)) j hlt
      have q0 : (0 : Int) ≤ j := by omega
      have q1 : (j : Int) < cs.length := by omega
      have key := impl_inh1 ds L cs[j] (HCB.out j hlt) wr _ _ a cap g n (CA.out.grow hg) hk
      clear r1 hk hg
      cases hb : cLive (ds.map LN.n) L (cty cs[j]) with
      | true =>
        rw [hb] at key
        have KEY := Lib.hid key
        have HE := Lib.hid (show (cs.any fun c => cLive (ds.map LN.n) L (cty c)) = true from List.any_eq_true.2 ⟨_, List.getElem_mem hlt, hb⟩)
        clear key hb
        go_wp2_with fail
        refine KEY.out.mono ?_
        rintro e w1 ⟨rfl, g1⟩
        clear c0 c1
        go_wp2_with fail
        go_ret
        exact ⟨j, rfl, by rw [HE.out]; simp, G.out.trans g1⟩
      | false =>
        rw [hb] at key
        have KEY := Lib.hid key
        have HE := Lib.hid hb
        clear key hb
        go_wp2_with fail
        refine KEY.out.mono ?_
        rintro e w1 ⟨rfl, g1⟩
        clear c0 c1
        go_wp2_with fail
        go_roundw
        case rel =>
          refine ⟨j + 1, by omega, by go_num, fun x hx hi => ?_, G.out.trans g1⟩
          by_cases e : x = j
          · subst e; exact HE.out
          · exact HALL.out x hx (by omega)
        case measure => simp [intOf]; omega
    · obtain rfl : j = cs.length := by omega
      have HE := Lib.hid (show (cs.any fun c => cLive (ds.map LN.n) L (cty c)) = false from List.any_eq_false.2 fun u hu => by
        obtain ⟨x, hx, rfl⟩ := List.mem_iff_getElem.1 hu
        rw [HALL.out x hx hx]; simp)
      go_wp2_with fail
      go_ret
      exact ⟨-1, rfl, by rw [HE.out]; rfl, hg⟩

theorem impl_inhAny (ds : List LD) (L : List Bool) (cs : List LC) (hcb : ∀ k (hk : k < cs.length), cB (ds.map LN.n) (cty cs[k]) = true) (w : World) (q1 q2 : Nat) (a b : Option Addr) (cap g n c : Nat) (hC : Caps w q1 q2 ds a cap g n L) (h : csOk w b c cs) :
    Calls Try.prog 81 #[.slice b cs.length c, .func (.func 82) #[] #[.pointer (some ⟨q1, 0, none⟩), .pointer (some ⟨q2, 0, none⟩)]] w (BoolGw (cs.any fun c => cLive (ds.map LN.n) L (cty c)) w) := by
  have KEY := Lib.hid (impl_inhIx ds L cs hcb w q1 q2 a b cap g n c hC h)
  clear h hC hcb
  go_enter Try.func81, Try.ntmps81
  go_wp2_with fail
  refine KEY.out.mono ?_
  rintro e w1 ⟨r, rfl, hr, g1⟩
  have HR := Lib.hid hr
  clear hr
  go_wp2_with fail
  go_ret
  exact ⟨ret_b (by rw [← HR.out]), g1⟩

end Go.Proofs.Ytdlbhjkkgiaidaa.Con
