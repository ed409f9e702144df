/-
  Contract of the program's copyCore: a core term in new memory. Condition: the core term lies in memory.
-/
import Derived.Test.YtfbgkbgoooepmaaDoorCoHs
namespace Go.Proofs.YtfbgkbgoooepmaaDoor.Con
open Go.RowKit
set_option linter.unusedVariables false

theorem own_form {e : TypeId} {B k n : Nat} {w : World} {v : Value} {xs : List Value} (h : w.ownsRow B e k v n xs) : ∃ a cap, v = .slice a n cap := by
  rcases h.2 with ⟨rfl, h0⟩ | ⟨g, cap, _, rfl, _⟩
  · exact ⟨none, 0, by rw [h0]⟩
  · exact ⟨_, cap, rfl⟩
theorem zero_at {w : World} {T : Nat} (h : w.heap[T]? = some (.cells #[.int .i64 0, .int .i64 0, .slice none 0 0, .slice none 0 0] 30 (0, 0))) :
    w.cell? ⟨T, 0, none⟩ = some (.int .i64 0) ∧ w.cell? ⟨T, 1, none⟩ = some (.int .i64 0) ∧ w.cell? ⟨T, 2, none⟩ = some (.slice none 0 0) ∧ w.cell? ⟨T, 3, none⟩ = some (.slice none 0 0) ∧
    w.frozen? ⟨T, 0, none⟩ = false ∧ w.frozen? ⟨T, 1, none⟩ = false ∧ w.frozen? ⟨T, 2, none⟩ = false ∧ w.frozen? ⟨T, 3, none⟩ = false :=
  ⟨cell_of_row _ _ 0 _ _ _ h, cell_of_row _ _ 1 _ _ _ h, cell_of_row _ _ 2 _ _ _ h, cell_of_row _ _ 3 _ _ _ h, by simp [World.frozen?, h], by simp [World.frozen?, h], by simp [World.frozen?, h], by simp [World.frozen?, h]⟩
/-- What the two clones are when the node has been written. -/
def CpR (w1 F : World) (T C : Nat) (da ka : Option Addr) (dc kc : Nat) (u : LK) : Prop :=
  numNew w1.heap.size F da dc u.ds ∧ (∀ y ∈ nbl nB da u.ds, y ≠ T ∧ y < C) ∧ F.ownsRow C 30 4 (.slice ka u.ks.length kc) u.ks.length (u.ks.flatMap coE) ∧ (∀ g, (Value.slice ka u.ks.length kc).ownBlock = some g → g ≠ T) ∧ w1.heap.size ≤ C
theorem cp_fin' {w1 w2 w3 F : World} {T C : Nat} {da ka : Option Addr} {dc kc : Nat} {u : LK} (g3 : Gw w2 w3) (hd : numNew w1.heap.size w2 da dc u.ds) (hk : w3.ownsRow C 30 4 (.slice ka u.ks.length kc) u.ks.length (u.ks.flatMap coE))
    (hfar : ∀ y, y < w3.heap.size → y ≠ T → F.heap[y]? = w3.heap[y]?) (hTd : ∀ y ∈ nbl nB da u.ds, y ≠ T) (hTk : ∀ g, (Value.slice ka u.ks.length kc).ownBlock = some g → g ≠ T) (hC : w2.heap.size ≤ C) (h12 : w1.heap.size ≤ w2.heap.size) : CpR w1 F T C da ka dc kc u := by
  refine ⟨gNewSl.same (by decide) nLen nFr (gNewSl.grow nLen nGr hd g3) fun y hy => hfar y (Nat.lt_of_lt_of_le (hd.2.2 y hy).2.lt g3.size) (hTd y hy), fun y hy => ⟨hTd y hy, Nat.lt_of_lt_of_le (hd.2.2 y hy).2.lt hC⟩, ⟨hk.1, ?_⟩, hTk, Nat.le_trans h12 hC⟩
  rcases hk.2 with h | ⟨g, cap, cur, e, hb, hg, hr⟩
  · exact .inl h
  · refine .inr ⟨g, cap, cur, e, hb, ?_, hr⟩
    rw [hfar g (Array.getElem?_eq_some_iff.1 hg).1 (hTk g (by rw [e]; rfl))]
    exact hg
theorem cp_fin {w1 w2 w3 F : World} {T : Nat} {da ka : Option Addr} {dc kc : Nat} {u : LK} (g3 : Gw w2 w3) (hd : numNew w1.heap.size w2 da dc u.ds) (hk : w3.ownsRow w2.heap.size 30 4 (.slice ka u.ks.length kc) u.ks.length (u.ks.flatMap coE))
    (hfar : ∀ y, y < w3.heap.size → y ≠ T → F.heap[y]? = w3.heap[y]?) (hTd : ∀ y ∈ nbl nB da u.ds, y ≠ T) (hTk : ∀ g, (Value.slice ka u.ks.length kc).ownBlock = some g → g ≠ T) (h12 : w1.heap.size ≤ w2.heap.size) : CpR w1 F T w2.heap.size da ka dc kc u :=
  cp_fin' g3 hd hk hfar hTd hTk (Nat.le_refl _) h12

def KCp (u : LK) : Prop := ∀ (w : World) (b o : Nat), coAt w b o u → u.co.all headC = true → Calls Tryd.prog 107 #[.pointer (some ⟨b, o, none⟩)] w (NwP w u.co)

set_option maxRecDepth 100000 in
set_option maxHeartbeats 4000000 in
theorem cp_of (u : LK) (ih : ∀ t ∈ u.ks, KCp t) : KCp u := by
  intro w b o h hok
  have hH := head_of hok
  obtain ⟨s1, s2, s3, s4⟩ := headC_sm hH
  have HOK := Lib.hid hok
  have A := Lib.hid h
  have hll := h.2.kl
  have gR := (Gw.refl w).alloc (.cells #[.int .i64 0, .int .i64 0, .slice none 0 0, .slice none 0 0] 30)
  have hR := heap_alloc_new w (.cells #[.int .i64 0, .int .i64 0, .slice none 0 0, .slice none 0 0] 30)
  have A1 := Lib.hid (h.grow gR)
  have GR := Lib.hid gR
  have HR := Lib.hid hR
  have LD := Lib.hid (show u.ds.length ≤ 1000000 by omega)
  have LK9 := Lib.hid (show u.ks.length ≤ 1000000 by omega)
  have DB := Lib.hid (numSl.bd h.2.dat)
  clear h hok hH gR hR
  go_enter Tryd.func107, Tryd.ntmps107
  go_upto_region 1 with (fail)
  generalize w.alloc (.cells #[.int .i64 0, .int .i64 0, .slice none 0 0, .slice none 0 0] 30) = w1 at *
  obtain ⟨p0, p1, p2, p3⟩ := A1.out.c
  have lA := A1.out.lt
  have HR1 := Lib.hid (Array.getElem?_eq_some_iff.1 HR.out).1
  go_cut [3] from 3 to 23 (fun t3 wx => ∃ (T : Nat) (da ka : Option Addr) (dc kc C : Nat), t3 = .pointer (some ⟨T, 0, none⟩) ∧ w1.heap.size ≤ T ∧ wx.heap[T]? = some (.cells #[.int .i64 u.k, .int .i64 u.v, .slice da u.ds.length dc, .slice ka u.ks.length kc] 30 (0, 0)) ∧ CpR w1 wx T C da ka dc kc u ∧ Gw w1 wx)
  case first =>
    refine wp_region_held_drew (S := fun W => W.cell? ⟨b, o, none⟩ = some (.int .i64 u.k) ∧ W.cell? ⟨b, o + 1, none⟩ = some (.int .i64 u.v) ∧ W.cell? ⟨b, o + 2, none⟩ = some (.slice u.da u.ds.length u.dc) ∧ W.cell? ⟨b, o + 3, none⟩ = some (.slice u.a u.ks.length u.cap)) (by kernel_rfl) ?_ (fun hHeld => ?_)
    · exact ⟨p0, p1, p2, p3⟩
    refine wpAnyH_take (i := 0) (oi := { dst := some 5, op := _, type := _, pos := _, after := _, guard := _ }) (v := .pointer (some ⟨b, o, none⟩)) rfl (by kernel_rfl) (by kernel_rfl) (by kernel_rfl) (fun _ _ _ h => h) (Or.inl ⟨by rfl, ?_⟩) (by assumption) ?_
    · intro w hSw; obtain ⟨p0, p1, p2, p3⟩ := hSw; go_simp
    try simp only [Act.put, List.setIfInBounds_toArray, List.set_cons_zero, List.set_cons_succ]
    refine wpAnyH_take (i := 1) (oi := { dst := some 6, op := _, type := _, pos := _, after := _, guard := _ }) (v := .pointer (some ⟨b, o, none⟩)) rfl (by kernel_rfl) (by kernel_rfl) (by kernel_rfl) (fun _ _ _ h => h) (Or.inl ⟨by rfl, ?_⟩) (by assumption) ?_
    · intro w hSw; obtain ⟨p0, p1, p2, p3⟩ := hSw; go_simp
    try simp only [Act.put, List.setIfInBounds_toArray, List.set_cons_zero, List.set_cons_succ]
    refine wpAnyH_take (i := 2) (oi := { dst := some 7, op := _, type := _, pos := _, after := _, guard := _ }) (v := .pointer (some ⟨b, o, none⟩)) rfl (by kernel_rfl) (by kernel_rfl) (by kernel_rfl) (fun _ _ _ h => h) (Or.inl ⟨by rfl, ?_⟩) (by assumption) ?_
    · intro w hSw; obtain ⟨p0, p1, p2, p3⟩ := hSw; go_simp
    try simp only [Act.put, List.setIfInBounds_toArray, List.set_cons_zero, List.set_cons_succ]
    refine wpAnyH_take (i := 3) (oi := { dst := some 8, op := _, type := _, pos := _, after := _, guard := _ }) (v := .int .i64 u.k) rfl (by kernel_rfl) (by kernel_rfl) (by kernel_rfl) (fun _ _ _ h => h) (Or.inl ⟨by rfl, ?_⟩) (by assumption) ?_
    · intro w hSw; obtain ⟨p0, p1, p2, p3⟩ := hSw; go_simp
    try simp only [Act.put, List.setIfInBounds_toArray, List.set_cons_zero, List.set_cons_succ]
    refine wpAnyH_take (i := 4) (oi := { dst := some 9, op := _, type := _, pos := _, after := _, guard := _ }) (v := .pointer (some ⟨b, o, none⟩)) rfl (by kernel_rfl) (by kernel_rfl) (by kernel_rfl) (fun _ _ _ h => h) (Or.inl ⟨by rfl, ?_⟩) (by assumption) ?_
    · intro w hSw; obtain ⟨p0, p1, p2, p3⟩ := hSw; go_simp
    try simp only [Act.put, List.setIfInBounds_toArray, List.set_cons_zero, List.set_cons_succ]
    refine wpAnyH_take (i := 5) (oi := { dst := some 10, op := _, type := _, pos := _, after := _, guard := _ }) (v := .pointer (some ⟨b, o, none⟩)) rfl (by kernel_rfl) (by kernel_rfl) (by kernel_rfl) (fun _ _ _ h => h) (Or.inl ⟨by rfl, ?_⟩) (by assumption) ?_
    · intro w hSw; obtain ⟨p0, p1, p2, p3⟩ := hSw; go_simp
    try simp only [Act.put, List.setIfInBounds_toArray, List.set_cons_zero, List.set_cons_succ]
    refine wpAnyH_take (i := 6) (oi := { dst := some 11, op := _, type := _, pos := _, after := _, guard := _ }) (v := .pointer (some ⟨b, o + 1, none⟩)) rfl (by kernel_rfl) (by kernel_rfl) (by kernel_rfl) (fun _ _ _ h => h) (Or.inl ⟨by rfl, ?_⟩) (by assumption) ?_
    · intro w hSw; obtain ⟨p0, p1, p2, p3⟩ := hSw; go_simp
    try simp only [Act.put, List.setIfInBounds_toArray, List.set_cons_zero, List.set_cons_succ]
    refine wpAnyH_take (i := 7) (oi := { dst := some 12, op := _, type := _, pos := _, after := _, guard := _ }) (v := .int .i64 u.v) rfl (by kernel_rfl) (by kernel_rfl) (by kernel_rfl) (fun _ _ _ h => h) (Or.inl ⟨by rfl, ?_⟩) (by assumption) ?_
    · intro w hSw; obtain ⟨p0, p1, p2, p3⟩ := hSw; go_simp
    try simp only [Act.put, List.setIfInBounds_toArray, List.set_cons_zero, List.set_cons_succ]
    refine wpAnyH_take (i := 8) (oi := { dst := some 13, op := _, type := _, pos := _, after := _, guard := _ }) (v := .pointer (some ⟨b, o, none⟩)) rfl (by kernel_rfl) (by kernel_rfl) (by kernel_rfl) (fun _ _ _ h => h) (Or.inl ⟨by rfl, ?_⟩) (by assumption) ?_
    · intro w hSw; obtain ⟨p0, p1, p2, p3⟩ := hSw; go_simp
    try simp only [Act.put, List.setIfInBounds_toArray, List.set_cons_zero, List.set_cons_succ]
    refine wpAnyH_take (i := 9) (oi := { dst := some 14, op := _, type := _, pos := _, after := _, guard := _ }) (v := .pointer (some ⟨b, o, none⟩)) rfl (by kernel_rfl) (by kernel_rfl) (by kernel_rfl) (fun _ _ _ h => h) (Or.inl ⟨by rfl, ?_⟩) (by assumption) ?_
    · intro w hSw; obtain ⟨p0, p1, p2, p3⟩ := hSw; go_simp
    try simp only [Act.put, List.setIfInBounds_toArray, List.set_cons_zero, List.set_cons_succ]
    refine wpAnyH_take (i := 10) (oi := { dst := some 15, op := _, type := _, pos := _, after := _, guard := _ }) (v := .pointer (some ⟨b, o + 2, none⟩)) rfl (by kernel_rfl) (by kernel_rfl) (by kernel_rfl) (fun _ _ _ h => h) (Or.inl ⟨by rfl, ?_⟩) (by assumption) ?_
    · intro w hSw; obtain ⟨p0, p1, p2, p3⟩ := hSw; go_simp
    try simp only [Act.put, List.setIfInBounds_toArray, List.set_cons_zero, List.set_cons_succ]
    refine wpAnyH_take (i := 11) (oi := { dst := some 16, op := _, type := _, pos := _, after := _, guard := _ }) (v := .slice u.da u.ds.length u.dc) rfl (by kernel_rfl) (by kernel_rfl) (by kernel_rfl) (fun _ _ _ h => h) (Or.inl ⟨by rfl, ?_⟩) (by assumption) ?_
    · intro w hSw; obtain ⟨p0, p1, p2, p3⟩ := hSw; go_simp
    try simp only [Act.put, List.setIfInBounds_toArray, List.set_cons_zero, List.set_cons_succ]
    refine wpAnyH_take (i := 13) (oi := { dst := some 18, op := _, type := _, pos := _, after := _, guard := _ }) (v := .pointer (some ⟨b, o, none⟩)) rfl (by kernel_rfl) (by kernel_rfl) (by kernel_rfl) (fun _ _ _ h => h) (Or.inl ⟨by rfl, ?_⟩) (by assumption) ?_
    · intro w hSw; obtain ⟨p0, p1, p2, p3⟩ := hSw; go_simp
    try simp only [Act.put, List.setIfInBounds_toArray, List.set_cons_zero, List.set_cons_succ]
    refine wpAnyH_take (i := 14) (oi := { dst := some 19, op := _, type := _, pos := _, after := _, guard := _ }) (v := .pointer (some ⟨b, o, none⟩)) rfl (by kernel_rfl) (by kernel_rfl) (by kernel_rfl) (fun _ _ _ h => h) (Or.inl ⟨by rfl, ?_⟩) (by assumption) ?_
    · intro w hSw; obtain ⟨p0, p1, p2, p3⟩ := hSw; go_simp
    try simp only [Act.put, List.setIfInBounds_toArray, List.set_cons_zero, List.set_cons_succ]
    refine wpAnyH_take (i := 15) (oi := { dst := some 20, op := _, type := _, pos := _, after := _, guard := _ }) (v := .pointer (some ⟨b, o + 3, none⟩)) rfl (by kernel_rfl) (by kernel_rfl) (by kernel_rfl) (fun _ _ _ h => h) (Or.inl ⟨by rfl, ?_⟩) (by assumption) ?_
    · intro w hSw; obtain ⟨p0, p1, p2, p3⟩ := hSw; go_simp
    try simp only [Act.put, List.setIfInBounds_toArray, List.set_cons_zero, List.set_cons_succ]
    refine wpAnyH_take (i := 16) (oi := { dst := some 21, op := _, type := _, pos := _, after := _, guard := _ }) (v := .slice u.a u.ks.length u.cap) rfl (by kernel_rfl) (by kernel_rfl) (by kernel_rfl) (fun _ _ _ h => h) (Or.inl ⟨by rfl, ?_⟩) (by assumption) ?_
    · intro w hSw; obtain ⟨p0, p1, p2, p3⟩ := hSw; go_simp
    try simp only [Act.put, List.setIfInBounds_toArray, List.set_cons_zero, List.set_cons_succ]
    refine wpAnyH_ready (rs := [12, 19]) (by kernel_rfl) (by simp) ?_
    refine AllReadyH.cons (o := { dst := some 17, op := _, type := _, pos := _, after := _, guard := _ }) rfl (fun K hK => ?_) (AllReadyH.cons (o := { dst := some 3, op := _, type := _, pos := _, after := _, guard := _ }) rfl (fun K hK => ?_) AllReadyH.nil)
    · go_simp
      go_at_call 122
      refine (impl_cloneN u.ds _ u.da u.dc (coAt.grow A1.out (Gw.refl w1).drew).2.dat LD.out).mono ?_
      rintro e w2 ⟨vd, rfl, hvd, g2⟩
      obtain ⟨da, dc, rfl⟩ := IRow.form (L := u.ds) hvd
      have k2 : ∀ b o, b < w1.heap.size → w2.cell? ⟨b, o, none⟩ = w1.cell? ⟨b, o, none⟩ := fun b o h => (bcell g2).1 b o h
      have s2 : w1.heap.size ≤ w2.heap.size := g2.size
      have lb2 : b < w2.heap.size := Nat.lt_of_lt_of_le lA s2
      have hn := (IRow.num hvd DB.out).1
      have HN := Lib.hid hn
      have gg2 : Gw w1 w2 := (Gw.refl w1).drew.trans g2
      clear hvd hn
      go_wp2_with fail
      refine hK.out _ _ ⟨(k2 _ _ lA).trans p0, (k2 _ _ lA).trans p1, (k2 _ _ lA).trans p2, (k2 _ _ lA).trans p3⟩ (fun hHeld => ?_)
      clear hK K
      try simp only [Act.put, List.setIfInBounds_toArray, List.set_cons_zero, List.set_cons_succ]
      refine wpAnyH_ready (rs := [17, 19]) (by kernel_rfl) (by simp) ?_
      refine AllReadyH.cons (o := { dst := some 22, op := _, type := _, pos := _, after := _, guard := _ }) rfl (fun K hK => ?_) (AllReadyH.cons (o := { dst := some 3, op := _, type := _, pos := _, after := _, guard := _ }) rfl (fun K hK => ?_) AllReadyH.nil)
      · go_simp
        go_at_call 123
        refine (impl_cloneK u.ks _ u.a u.cap (coAt.grow A1.out gg2).2.kids LK9.out).mono ?_
        rintro e w3 ⟨vk, rfl, hvk, g3⟩
        obtain ⟨ka, kc, rfl⟩ := own_form hvk
        have HVK := Lib.hid hvk
        have k3 : ∀ b o, b < w1.heap.size → w3.cell? ⟨b, o, none⟩ = w1.cell? ⟨b, o, none⟩ := fun b o h => ((bcell g3).1 b o (Nat.lt_of_lt_of_le h s2)).trans (k2 b o h)
        have s3 : w2.heap.size ≤ w3.heap.size := g3.size
        have lb3 : b < w3.heap.size := Nat.lt_of_lt_of_le lb2 s3
        clear hvk
        go_wp2_with fail
        refine hK.out _ _ ⟨(k3 _ _ lA).trans p0, (k3 _ _ lA).trans p1, (k3 _ _ lA).trans p2, (k3 _ _ lA).trans p3⟩ (fun hHeld => ?_)
        clear hK K
        try simp only [Act.put, List.setIfInBounds_toArray, List.set_cons_zero, List.set_cons_succ]
        refine wpAnyH_take (i := 18) (oi := { dst := some 23, op := _, type := _, pos := _, after := _, guard := _ }) (v := .agg #[.int .i64 u.k, .int .i64 u.v, .slice da u.ds.length dc, .slice ka u.ks.length kc]) rfl (by kernel_rfl) (by kernel_rfl) (by kernel_rfl) (fun _ _ _ h => h) (Or.inl ⟨by rfl, ?_⟩) (by assumption) ?_
        · intro w hSw; obtain ⟨p0, p1, p2, p3⟩ := hSw; go_simp
        try simp only [Act.put, List.setIfInBounds_toArray, List.set_cons_zero, List.set_cons_succ]
        refine wpAnyH_ready (rs := [19]) (by kernel_rfl) (by simp) ?_
        refine AllReadyH.cons (o := { dst := some 3, op := _, type := _, pos := _, after := _, guard := _ }) rfl (fun K hK => ?_) AllReadyH.nil
        go_simp
        refine hK _ _ ⟨(World.cell?_alloc_lt _ _ _ lb3).trans ((k3 _ _ lA).trans p0), (World.cell?_alloc_lt _ _ _ lb3).trans ((k3 _ _ lA).trans p1), (World.cell?_alloc_lt _ _ _ lb3).trans ((k3 _ _ lA).trans p2), (World.cell?_alloc_lt _ _ _ lb3).trans ((k3 _ _ lA).trans p3)⟩ (fun hHeld => ?_)
        clear hK K
        try simp only [Act.put, List.setIfInBounds_toArray, List.set_cons_zero, List.set_cons_succ]
        refine wpAnyH_ready (rs := [20]) (by kernel_rfl) (by simp) ?_
        refine AllReadyH.cons (o := { dst := none, op := _, type := _, pos := _, after := _, guard := _ }) rfl (fun K hK => ?_) AllReadyH.nil
        go_simp
        refine hK _ _ ⟨(World.cell?_alloc_lt _ _ _ lb3).trans ((k3 _ _ lA).trans p0), (World.cell?_alloc_lt _ _ _ lb3).trans ((k3 _ _ lA).trans p1), (World.cell?_alloc_lt _ _ _ lb3).trans ((k3 _ _ lA).trans p2), (World.cell?_alloc_lt _ _ _ lb3).trans ((k3 _ _ lA).trans p3)⟩ (fun hHeld => ?_)
        clear hK K
        try simp only [Act.put, List.setIfInBounds_toArray, List.set_cons_zero, List.set_cons_succ]
        refine wpAnyH_done (by kernel_rfl) ?_ _
        go_wp2_with fail
        go_meet
        case rel =>
          exact ⟨w3.heap.size, da, ka, dc, kc, w2.heap.size, rfl, by omega, heap_alloc_new w3 _, cp_fin (T := w3.heap.size) g3 HN.out HVK.out (fun y hy hne => Below.heap_alloc _ _ _ hy) (fun y hy => by have := (HN.out.2.2 y hy).2.lt; omega) (fun g hg => Nat.ne_of_lt (HVK.out.lt g hg).2) s2, (gg2.trans g3).alloc _⟩
      · go_simp
        refine hK _ _ ⟨(World.cell?_alloc_lt _ _ _ lb2).trans ((k2 _ _ lA).trans p0), (World.cell?_alloc_lt _ _ _ lb2).trans ((k2 _ _ lA).trans p1), (World.cell?_alloc_lt _ _ _ lb2).trans ((k2 _ _ lA).trans p2), (World.cell?_alloc_lt _ _ _ lb2).trans ((k2 _ _ lA).trans p3)⟩ (fun hHeld => ?_)
        clear hK K
        try simp only [Act.put, List.setIfInBounds_toArray, List.set_cons_zero, List.set_cons_succ]
        refine wpAnyH_ready (rs := [17]) (by kernel_rfl) (by simp) ?_
        refine AllReadyH.cons (o := { dst := some 22, op := _, type := _, pos := _, after := _, guard := _ }) rfl (fun K hK => ?_) AllReadyH.nil
        go_simp
        go_at_call 123
        refine (impl_cloneK u.ks _ u.a u.cap (coAt.grow A1.out (gg2.alloc _)).2.kids LK9.out).mono ?_
        rintro e w3 ⟨vk, rfl, hvk, g3⟩
        obtain ⟨ka, kc, rfl⟩ := own_form hvk
        have HVK := Lib.hid hvk
        have k3 : ∀ b o, b < w1.heap.size → w3.cell? ⟨b, o, none⟩ = w1.cell? ⟨b, o, none⟩ := fun b o h => ((bcell g3).1 b o (Nat.lt_of_lt_of_le h (by simp; omega))).trans ((World.cell?_alloc_lt _ _ _ (Nat.lt_of_lt_of_le h s2)).trans (k2 b o h))
        have s3 : w2.heap.size ≤ w3.heap.size := Nat.le_trans (by simp) g3.size
        have lb3 : b < w3.heap.size := Nat.lt_of_lt_of_le lb2 s3
        clear hvk
        go_wp2_with fail
        refine hK.out _ _ ⟨(k3 _ _ lA).trans p0, (k3 _ _ lA).trans p1, (k3 _ _ lA).trans p2, (k3 _ _ lA).trans p3⟩ (fun hHeld => ?_)
        clear hK K
        try simp only [Act.put, List.setIfInBounds_toArray, List.set_cons_zero, List.set_cons_succ]
        refine wpAnyH_take (i := 18) (oi := { dst := some 23, op := _, type := _, pos := _, after := _, guard := _ }) (v := .agg #[.int .i64 u.k, .int .i64 u.v, .slice da u.ds.length dc, .slice ka u.ks.length kc]) rfl (by kernel_rfl) (by kernel_rfl) (by kernel_rfl) (fun _ _ _ h => h) (Or.inl ⟨by rfl, ?_⟩) (by assumption) ?_
        · intro w hSw; obtain ⟨p0, p1, p2, p3⟩ := hSw; go_simp
        try simp only [Act.put, List.setIfInBounds_toArray, List.set_cons_zero, List.set_cons_succ]
        have hTZ : w3.heap[w2.heap.size]? = some (.cells #[.int .i64 0, .int .i64 0, .slice none 0 0, .slice none 0 0] 30 (0, 0)) := (g3.block _ (by simp)).trans (heap_alloc_new w2 _)
        have hneb : b ≠ w2.heap.size := by omega
        have g23 : Gw w2 w3 := ((Gw.refl w2).alloc _).trans g3
        obtain ⟨z0, z1, z2, z3, y0, y1, y2, y3⟩ := zero_at hTZ
        refine wpAnyH_ready (rs := [20]) (by kernel_rfl) (by simp) ?_
        refine AllReadyH.cons (o := { dst := none, op := _, type := _, pos := _, after := _, guard := _ }) rfl (fun K hK => ?_) AllReadyH.nil
        go_simp
        refine hK _ _ ⟨(far4 hneb).trans ((k3 _ _ lA).trans p0), (far4 hneb).trans ((k3 _ _ lA).trans p1), (far4 hneb).trans ((k3 _ _ lA).trans p2), (far4 hneb).trans ((k3 _ _ lA).trans p3)⟩ (fun hHeld => ?_)
        clear hK K
        try simp only [Act.put, List.setIfInBounds_toArray, List.set_cons_zero, List.set_cons_succ]
        refine wpAnyH_done (by kernel_rfl) ?_ _
        go_wp2_with fail
        go_meet
        case rel =>
          exact ⟨w2.heap.size, da, ka, dc, kc, w2.heap.size + 1, rfl, s2, by simp [World.setCell, Array.getElem?_modify, hTZ], cp_fin' (T := w2.heap.size) g23 HN.out (by have h := HVK.out; rwa [World.size_alloc] at h) (fun y hy hne => by rw [Below.heap_setCell _ _ _ _ hne, Below.heap_setCell _ _ _ _ hne, Below.heap_setCell _ _ _ _ hne, Below.heap_setCell _ _ _ _ hne]) (fun y hy => Nat.ne_of_lt (HN.out.2.2 y hy).2.lt) (fun g hg => by have := (HVK.out.lt g hg).1; rw [World.size_alloc] at this; omega) (Nat.le_succ _) s2, (((Below.setCell (gg2.trans g23) s2 _).setCell s2 _).setCell s2 _).setCell s2 _⟩
    · go_simp
      refine hK _ _ ⟨(World.cell?_alloc_lt _ _ _ lA).trans p0, (World.cell?_alloc_lt _ _ _ lA).trans p1, (World.cell?_alloc_lt _ _ _ lA).trans p2, (World.cell?_alloc_lt _ _ _ lA).trans p3⟩ (fun hHeld => ?_)
      clear hK K
      try simp only [Act.put, List.setIfInBounds_toArray, List.set_cons_zero, List.set_cons_succ]
      refine wpAnyH_ready (rs := [12]) (by kernel_rfl) (by simp) ?_
      refine AllReadyH.cons (o := { dst := some 17, op := _, type := _, pos := _, after := _, guard := _ }) rfl (fun K hK => ?_) AllReadyH.nil
      go_simp
      go_at_call 122
      refine (impl_cloneN u.ds _ u.da u.dc (coAt.grow A1.out ((Gw.refl w1).alloc (.cells #[.int .i64 0, .int .i64 0, .slice none 0 0, .slice none 0 0] 30)).drew).2.dat LD.out).mono ?_
      rintro e w2 ⟨vd, rfl, hvd, g2⟩
      obtain ⟨da, dc, rfl⟩ := IRow.form (L := u.ds) hvd
      have k2 : ∀ b o, b < w1.heap.size → w2.cell? ⟨b, o, none⟩ = w1.cell? ⟨b, o, none⟩ := fun b o h => ((bcell g2).1 b o (Nat.lt_of_lt_of_le h (by simp [World.drew]))).trans (World.cell?_alloc_lt _ _ _ h)
      have s2 : w1.heap.size ≤ w2.heap.size := Nat.le_trans (by simp [World.drew]) g2.size
      have lb2 : b < w2.heap.size := Nat.lt_of_lt_of_le lA s2
      have hn := (IRow.num hvd DB.out).1
      have HN := Lib.hid hn
      have gg2 : Gw w1 w2 := ((Gw.refl w1).alloc _).drew.trans g2
      clear hvd hn
      go_wp2_with fail
      refine hK.out _ _ ⟨(k2 _ _ lA).trans p0, (k2 _ _ lA).trans p1, (k2 _ _ lA).trans p2, (k2 _ _ lA).trans p3⟩ (fun hHeld => ?_)
      clear hK K
      try simp only [Act.put, List.setIfInBounds_toArray, List.set_cons_zero, List.set_cons_succ]
      refine wpAnyH_ready (rs := [17]) (by kernel_rfl) (by simp) ?_
      refine AllReadyH.cons (o := { dst := some 22, op := _, type := _, pos := _, after := _, guard := _ }) rfl (fun K hK => ?_) AllReadyH.nil
      go_simp
      go_at_call 123
      refine (impl_cloneK u.ks _ u.a u.cap (coAt.grow A1.out gg2).2.kids LK9.out).mono ?_
      rintro e w3 ⟨vk, rfl, hvk, g3⟩
      obtain ⟨ka, kc, rfl⟩ := own_form hvk
      have HVK := Lib.hid hvk
      have k3 : ∀ b o, b < w1.heap.size → w3.cell? ⟨b, o, none⟩ = w1.cell? ⟨b, o, none⟩ := fun b o h => ((bcell g3).1 b o (Nat.lt_of_lt_of_le h s2)).trans (k2 b o h)
      have s3 : w2.heap.size ≤ w3.heap.size := g3.size
      have lb3 : b < w3.heap.size := Nat.lt_of_lt_of_le lb2 s3
      clear hvk
      go_wp2_with fail
      refine hK.out _ _ ⟨(k3 _ _ lA).trans p0, (k3 _ _ lA).trans p1, (k3 _ _ lA).trans p2, (k3 _ _ lA).trans p3⟩ (fun hHeld => ?_)
      clear hK K
      try simp only [Act.put, List.setIfInBounds_toArray, List.set_cons_zero, List.set_cons_succ]
      refine wpAnyH_take (i := 18) (oi := { dst := some 23, op := _, type := _, pos := _, after := _, guard := _ }) (v := .agg #[.int .i64 u.k, .int .i64 u.v, .slice da u.ds.length dc, .slice ka u.ks.length kc]) rfl (by kernel_rfl) (by kernel_rfl) (by kernel_rfl) (fun _ _ _ h => h) (Or.inl ⟨by rfl, ?_⟩) (by assumption) ?_
      · intro w hSw; obtain ⟨p0, p1, p2, p3⟩ := hSw; go_simp
      try simp only [Act.put, List.setIfInBounds_toArray, List.set_cons_zero, List.set_cons_succ]
      have hTZ : w3.heap[w1.heap.size]? = some (.cells #[.int .i64 0, .int .i64 0, .slice none 0 0, .slice none 0 0] 30 (0, 0)) := (g3.block _ (by have h := g2.size; simp [World.drew] at h; omega)).trans ((g2.block _ (by simp [World.drew])).trans (heap_alloc_new w1 _))
      have hneb : b ≠ w1.heap.size := by omega
      have l2 : w1.heap.size < w2.heap.size := by have h := g2.size; simp [World.drew] at h; omega
      obtain ⟨z0, z1, z2, z3, y0, y1, y2, y3⟩ := zero_at hTZ
      refine wpAnyH_ready (rs := [20]) (by kernel_rfl) (by simp) ?_
      refine AllReadyH.cons (o := { dst := none, op := _, type := _, pos := _, after := _, guard := _ }) rfl (fun K hK => ?_) AllReadyH.nil
      go_simp
      refine hK _ _ ⟨(far4 hneb).trans ((k3 _ _ lA).trans p0), (far4 hneb).trans ((k3 _ _ lA).trans p1), (far4 hneb).trans ((k3 _ _ lA).trans p2), (far4 hneb).trans ((k3 _ _ lA).trans p3)⟩ (fun hHeld => ?_)
      clear hK K
      try simp only [Act.put, List.setIfInBounds_toArray, List.set_cons_zero, List.set_cons_succ]
      refine wpAnyH_done (by kernel_rfl) ?_ _
      go_wp2_with fail
      go_meet
      case rel =>
        exact ⟨w1.heap.size, da, ka, dc, kc, w2.heap.size, rfl, Nat.le_refl _, by simp [World.setCell, Array.getElem?_modify, hTZ], cp_fin (T := w1.heap.size) g3 (HN.out.mono (by simp [World.drew])) HVK.out (fun y hy hne => by rw [Below.heap_setCell _ _ _ _ hne, Below.heap_setCell _ _ _ _ hne, Below.heap_setCell _ _ _ _ hne, Below.heap_setCell _ _ _ _ hne]) (fun y hy => by have := (HN.out.2.2 y hy).1; simp [World.drew] at this; omega) (fun g hg => by have := (HVK.out.lt g hg).1; omega) s2, (((Below.setCell (gg2.trans g3) (Nat.le_refl _) _).setCell (Nat.le_refl _) _).setCell (Nat.le_refl _) _).setCell (Nat.le_refl _) _⟩
  case rest =>
    obtain ⟨T, da, ka, dc, kc, C, rfl, hT0, hT, ⟨hD, hDT, hV, hVT, hC1⟩, g1⟩ := hcut
    have HT0 := Lib.hid hT0
    have HVT := Lib.hid hVT
    have HC1 := Lib.hid hC1
    have HDT := Lib.hid hDT
    have HCY := Lib.hid (show kc ≤ maxLen ∧ u.ks.length ≤ kc by
      rcases hV.2 with ⟨e, e0⟩ | ⟨g, cap, cur, e, _, _, h1, h2, _⟩
      · injection e with _ _ e
        subst e
        exact ⟨Nat.zero_le _, by omega⟩
      · injection e with _ _ e
        subst e
        exact ⟨h2, h1⟩)
    have HG0 := Lib.hid (show u.ks.length ≠ 0 → ∃ g, ka = some ⟨g, 0, none⟩ ∧ C ≤ g ∧ gFill 4 coE LK.Ok LK.bl wc g kc [] from fun hn => by
      rcases hV.2 with ⟨e, e0⟩ | ⟨g, cap, cur, e, hb, hg, h1, h2, h3, _⟩
      · exact absurd e0 hn
      · injection e with e1 _ e2
        subst e2
        exact ⟨g, e1, hb, gFill.start _ _ _ ⟨_, _, hg, h3⟩⟩)
    have HRT := Lib.hid (show w.heap.size < T from Nat.lt_of_lt_of_le HR1.out hT0)
    have HKV := Lib.hid A.out.2.kin
    have HTI := Lib.hid hT
    have HDI := Lib.hid hD
    have G1 := Lib.hid g1
    have A2 := Lib.hid (A1.out.grow g1)
    clear hT0 hT hD hDT hV hVT hC1 g1 p0 p1 p2 p3
    obtain ⟨p0, p1, p2, p3⟩ := A2.out.c
    go_wp2_with fail
    clear p0 p1 p2 p3
    go_loopw [29] (fun i wr => ∃ us : List LK, i = .int .i64 us.length ∧ us.length ≤ u.ks.length ∧ us.map LK.co = (u.ks.take us.length).map LK.co ∧ wr.heap[T]? = some (.cells #[.int .i64 u.k, .int .i64 u.v, .slice da u.ds.length dc, .slice ka u.ks.length kc] 30 (0, 0)) ∧ numNew w1.heap.size wr da dc u.ds ∧ (u.ks.length ≠ 0 → ∃ g, ka = some ⟨g, 0, none⟩ ∧ C ≤ g ∧ gFill 4 coE LK.Ok LK.bl wr g kc us) ∧ Gw w1 wr) (fun i _ => u.ks.length - (intOf i).toNat)
    case atStart => exact ⟨[], rfl, Nat.zero_le _, rfl, HTI.out, HDI.out, HG0.out, G1.out⟩
    case round =>
      obtain ⟨us, rfl, hle, hty, hT, hD, hF, hg⟩ := hrel
      have HTY := Lib.hid hty
      have HT := Lib.hid hT
      have HD := Lib.hid hD
      have HG := Lib.hid hg
      have t3 : wr.cell? ⟨T, 3, none⟩ = some (.slice ka u.ks.length kc) := cell_of_row _ _ 3 _ _ _ hT
      by_cases hlt : us.length < u.ks.length
      · obtain ⟨g, rfl, hCg, hfill⟩ := hF (by omega)
        have HF := Lib.hid hfill
        have HCG := Lib.hid hCg
        have A3 := Lib.hid (A1.out.grow hg)
        obtain ⟨p0, p1, p2, p3⟩ := A3.out.c
        obtain ⟨bk, ok, ha, hkid⟩ := coAt.kid A3.out.2.kids us.length hlt
        rw [ha] at p3
        have IH := Lib.hid (ih u.ks[us.length] (List.getElem_mem hlt) wr.drew bk (ok + us.length * 4) (hkid.grow (Gw.refl wr).drew) (all_kid HOK.out us.length hlt))
        have HTL := Lib.hid (show T < wr.heap.size from (Array.getElem?_eq_some_iff.1 hT).1)
        have lB : b < wr.heap.size := cell_lt p3
        have HGT := Lib.hid (show g ≠ T from HVT.out g rfl)
        have HGB := Lib.hid (show b < g by have := HC1.out; omega)
        have hlc : us.length < kc := by have := HCY.out.2; omega
        have q0 : (0 : Int) ≤ us.length := by omega
        have q1' : (us.length : Int) < u.ks.length := by omega
        clear hty hT hD hF hg hfill hCg ha hkid p0 p1 p2
        go_upto_region 5 with (fail)
        refine wp_region_held_drew (S := fun W => W.cell? ⟨T, 3, none⟩ = some (.slice (some ⟨g, 0, none⟩) u.ks.length kc) ∧ W.cell? ⟨b, o + 3, none⟩ = some (.slice (some ⟨bk, ok, none⟩) u.ks.length u.cap)) (by kernel_rfl) ?_ (fun hHeld => ?_)
        · exact ⟨t3, p3⟩
        refine wpAnyH_take (i := 0) (oi := { dst := some 32, op := _, type := _, pos := _, after := _, guard := _ }) (v := .pointer (some ⟨T, 3, none⟩)) rfl (by kernel_rfl) (by kernel_rfl) (by kernel_rfl) (fun _ _ _ h => h) (Or.inl ⟨by rfl, ?_⟩) (by assumption) ?_
        · intro w hSw; obtain ⟨t3, p3⟩ := hSw; go_simp
        try simp only [Act.put, List.setIfInBounds_toArray, List.set_cons_zero, List.set_cons_succ]
        refine wpAnyH_take (i := 1) (oi := { dst := some 33, op := _, type := _, pos := _, after := _, guard := _ }) (v := .slice (some ⟨g, 0, none⟩) u.ks.length kc) rfl (by kernel_rfl) (by kernel_rfl) (by kernel_rfl) (fun _ _ _ h => h) (Or.inl ⟨by rfl, ?_⟩) (by assumption) ?_
        · intro w hSw; obtain ⟨t3, p3⟩ := hSw; go_simp
        try simp only [Act.put, List.setIfInBounds_toArray, List.set_cons_zero, List.set_cons_succ]
        refine wpAnyH_take (i := 2) (oi := { dst := some 34, op := _, type := _, pos := _, after := _, guard := _ }) (v := .int .i64 us.length) rfl (by kernel_rfl) (by kernel_rfl) (by kernel_rfl) (fun _ _ _ h => h) (Or.inl ⟨by rfl, ?_⟩) (by assumption) ?_
        · intro w hSw; obtain ⟨t3, p3⟩ := hSw; go_simp
        try simp only [Act.put, List.setIfInBounds_toArray, List.set_cons_zero, List.set_cons_succ]
        refine wpAnyH_take (i := 3) (oi := { dst := some 35, op := _, type := _, pos := _, after := _, guard := _ }) (v := .pointer (some ⟨b, o, none⟩)) rfl (by kernel_rfl) (by kernel_rfl) (by kernel_rfl) (fun _ _ _ h => h) (Or.inl ⟨by rfl, ?_⟩) (by assumption) ?_
        · intro w hSw; obtain ⟨t3, p3⟩ := hSw; go_simp
        try simp only [Act.put, List.setIfInBounds_toArray, List.set_cons_zero, List.set_cons_succ]
        refine wpAnyH_take (i := 4) (oi := { dst := some 36, op := _, type := _, pos := _, after := _, guard := _ }) (v := .pointer (some ⟨b, o, none⟩)) rfl (by kernel_rfl) (by kernel_rfl) (by kernel_rfl) (fun _ _ _ h => h) (Or.inl ⟨by rfl, ?_⟩) (by assumption) ?_
        · intro w hSw; obtain ⟨t3, p3⟩ := hSw; go_simp
        try simp only [Act.put, List.setIfInBounds_toArray, List.set_cons_zero, List.set_cons_succ]
        refine wpAnyH_take (i := 5) (oi := { dst := some 37, op := _, type := _, pos := _, after := _, guard := _ }) (v := .pointer (some ⟨b, o + 3, none⟩)) rfl (by kernel_rfl) (by kernel_rfl) (by kernel_rfl) (fun _ _ _ h => h) (Or.inl ⟨by rfl, ?_⟩) (by assumption) ?_
        · intro w hSw; obtain ⟨t3, p3⟩ := hSw; go_simp
        try simp only [Act.put, List.setIfInBounds_toArray, List.set_cons_zero, List.set_cons_succ]
        refine wpAnyH_take (i := 6) (oi := { dst := some 38, op := _, type := _, pos := _, after := _, guard := _ }) (v := .slice (some ⟨bk, ok, none⟩) u.ks.length u.cap) rfl (by kernel_rfl) (by kernel_rfl) (by kernel_rfl) (fun _ _ _ h => h) (Or.inl ⟨by rfl, ?_⟩) (by assumption) ?_
        · intro w hSw; obtain ⟨t3, p3⟩ := hSw; go_simp
        try simp only [Act.put, List.setIfInBounds_toArray, List.set_cons_zero, List.set_cons_succ]
        refine wpAnyH_take (i := 7) (oi := { dst := some 39, op := _, type := _, pos := _, after := _, guard := _ }) (v := .int .i64 us.length) rfl (by kernel_rfl) (by kernel_rfl) (by kernel_rfl) (fun _ _ _ h => h) (Or.inl ⟨by rfl, ?_⟩) (by assumption) ?_
        · intro w hSw; obtain ⟨t3, p3⟩ := hSw; go_simp
        try simp only [Act.put, List.setIfInBounds_toArray, List.set_cons_zero, List.set_cons_succ]
        refine wpAnyH_take (i := 8) (oi := { dst := some 40, op := _, type := _, pos := _, after := _, guard := _ }) (v := .pointer (some ⟨bk, ok + us.length * 4, none⟩)) rfl (by kernel_rfl) (by kernel_rfl) (by kernel_rfl) (fun _ _ _ h => h) (Or.inl ⟨by rfl, ?_⟩) (by assumption) ?_
        · intro w hSw; obtain ⟨t3, p3⟩ := hSw; go_simp
        try simp only [Act.put, List.setIfInBounds_toArray, List.set_cons_zero, List.set_cons_succ]
        refine wpAnyH_ready (rs := [9]) (by kernel_rfl) (by simp) ?_
        refine AllReadyH.cons (o := { dst := some 41, op := _, type := _, pos := _, after := _, guard := _ }) rfl (fun K hK => ?_) AllReadyH.nil
        go_simp
        refine IH.out.mono ?_
        rintro e w3 ⟨x, rfl, hx, hnew, hg3⟩
        have HX := Lib.hid hx
        have HN := Lib.hid hnew
        have g3 : Gw wr w3 := gw_drewL hg3
        have t3' := (World.cell?_of_block (a := ⟨T, 3, none⟩) (g3.block _ HTL.out)).trans t3
        have p3' := (World.cell?_of_block (a := ⟨b, o + 3, none⟩) (g3.block _ lB)).trans p3
        refine hK.out _ _ ⟨t3', p3'⟩ (fun hHeld => ?_)
        clear hK K hx hnew hg3
        try simp only [Act.put, List.setIfInBounds_toArray, List.set_cons_zero, List.set_cons_succ]
        refine wpAnyH_take (i := 10) (oi := { dst := some 42, op := _, type := _, pos := _, after := _, guard := _ }) (v := .pointer (some ⟨g, us.length * 4, none⟩)) rfl (by kernel_rfl) (by kernel_rfl) (by kernel_rfl) (fun _ _ _ h => h) (Or.inl ⟨by rfl, ?_⟩) (by assumption) ?_
        · intro w hSw; obtain ⟨t3, p3⟩ := hSw; go_simp
        try simp only [Act.put, List.setIfInBounds_toArray, List.set_cons_zero, List.set_cons_succ]
        have hF1 := HF.out.grow coLen coGr g3
        obtain ⟨v0, x0⟩ := hF1.room hlc 0 (by omega)
        obtain ⟨v1, x1⟩ := hF1.room hlc 1 (by omega)
        obtain ⟨v2, x2⟩ := hF1.room hlc 2 (by omega)
        obtain ⟨v3, x3⟩ := hF1.room hlc 3 (by omega)
        rw [Nat.add_zero] at x0
        have y0 := hF1.free (us.length * 4)
        have y1 := hF1.free (us.length * 4 + 1)
        have y2 := hF1.free (us.length * 4 + 2)
        have y3 := hF1.free (us.length * 4 + 3)
        have HF1 := Lib.hid hF1
        clear hF1
        refine wpAnyH_ready (rs := [11]) (by kernel_rfl) (by simp) ?_
        refine AllReadyH.cons (o := { dst := none, op := _, type := _, pos := _, after := _, guard := _ }) rfl (fun K hK => ?_) AllReadyH.nil
        go_simp
        refine hK _ _ ⟨(far4 (fun e => HGT.out e.symm)).trans t3', (far4 (fun e => by have := HGB.out; omega)).trans p3'⟩ (fun hHeld => ?_)
        clear hK K
        try simp only [Act.put, List.setIfInBounds_toArray, List.set_cons_zero, List.set_cons_succ]
        refine wpAnyH_done (by kernel_rfl) ?_ _
        go_wp2_with fail
        go_roundw
        case rel =>
          have hl1 : us.length + 1 = (us ++ [x]).length := by simp
          have hwg : w1.heap.size ≤ g := Nat.le_trans HC1.out HCG.out
          have hfar : ∀ y, y ≠ g → ∀ a c d e : Value, ((((w3.setCell ⟨g, us.length * 4, none⟩ a).setCell ⟨g, us.length * 4 + 1, none⟩ c).setCell ⟨g, us.length * 4 + 2, none⟩ d).setCell ⟨g, us.length * 4 + 3, none⟩ e).heap[y]? = w3.heap[y]? := fun y hy a c d e => by
            rw [Below.heap_setCell _ _ _ _ hy, Below.heap_setCell _ _ _ _ hy, Below.heap_setCell _ _ _ _ hy, Below.heap_setCell _ _ _ _ hy]
          refine ⟨us ++ [x], by rw [← hl1]; go_num, by simp; omega, ?_, ?_, ?_, fun _ => ⟨g, rfl, HCG.out, ?_⟩, ?_⟩
          · rw [← hl1, List.take_succ_eq_append_getElem hlt, List.map_append, List.map_append, HTY.out]; simp [HX.out]
          · exact (hfar T (fun e => HGT.out e.symm) _ _ _ _).trans ((g3.block _ HTL.out).trans HT.out)
          · exact gNewSl.same (by decide) nLen nFr (gNewSl.grow nLen nGr HD.out g3) fun y hy => hfar y (by have := (HDT.out y hy).2; have := HCG.out; omega) _ _ _ _
          · exact HF1.out.put coLen coFr hlc HN.out (fun b hb => ((HF.out.2.2.2.2 b hb).2).lt) HF.out.lt
          · exact (((Below.setCell (HG.out.trans g3) hwg _).setCell hwg _).setCell hwg _).setCell hwg _
        case measure => simp [intOf]; omega
      · have hall : us.length = u.ks.length := by omega
        obtain ⟨Bk, hBk, hK⟩ : ∃ Bk, C ≤ Bk ∧ coNew Bk wr ka kc us := by
          by_cases hn : u.ks.length = 0
          · obtain rfl : us = [] := List.eq_nil_of_length_eq_zero (by omega)
            exact ⟨C, Nat.le_refl _, ⟨Nat.zero_le _, HCY.out.1, .inl rfl⟩, by simp [nbl], fun b hb => by simp [nbl] at hb⟩
          · obtain ⟨g, rfl, hCg, hf⟩ := hF hn
            exact ⟨g, hCg, hf.done (cap := kc) (B := g) (by have := HCY.out.2; omega) HCY.out.1 (Nat.le_refl _)⟩
        have hR0 : wr.heap[w.heap.size]? = some (.cells #[.int .i64 0, .int .i64 0, .slice none 0 0, .slice none 0 0] 30 (0, 0)) := (hg.block _ HR1.out).trans HR.out
        obtain ⟨r0, r1, r2, r3, rf0, rf1, rf2, rf3⟩ := zero_at hR0
        have t0 : wr.cell? ⟨T, 0, none⟩ = some (.int .i64 u.k) := cell_of_row _ _ 0 _ _ _ hT
        have t1 : wr.cell? ⟨T, 1, none⟩ = some (.int .i64 u.v) := cell_of_row _ _ 1 _ _ _ hT
        have t2 : wr.cell? ⟨T, 2, none⟩ = some (.slice da u.ds.length dc) := cell_of_row _ _ 2 _ _ _ hT
        have ncore := sh_fin (wr := wr) (u := u) (V := u.v) (da := da) (va := ka) (dc := dc) (vc := kc) (R := w.heap.size) (Bk := Bk) (us := us) HKV.out (by unfold cin64; omega) (hD.mono HR1.out) (fun y hy => Nat.lt_of_lt_of_le (HDT.out y hy).2 hBk) hK (by have := HR1.out; have := HC1.out; omega)
        have HALL := Lib.hid hall
        have NC := Lib.hid ncore
        have q1' : ¬ ((us.length : Int) < u.ks.length) := by omega
        rw [← hall] at t3
        rw [← hall]
        clear hall hT hD hF hg hK hR0 hle hty ncore hlt
        go_wp2_with fail
        refine bodyPost_ret (v := (LK.mk u.k u.v da dc u.ds ka kc us).val) (by simp [results, Tryd.results107, go_sem, r0, r1, r2, r3]; exact ⟨rfl, rfl, ⟨rfl, rfl, rfl⟩, rfl, rfl, rfl⟩) rfl ⟨_, rfl, ?_, (NC.out _ _ _ _).mono (Nat.le_succ _), ?_⟩
        · rw [LK.co_eq]; show Co.mk u.k u.v u.ds (us.map LK.co) = _; rw [HTY.out, HALL.out, List.take_of_length_le (Nat.le_refl _)]; exact (LK.co_eq u).symm
        · exact (((Below.setCell (Below.trans GR.out (Below.mono HG.out (Nat.le_of_lt HR1.out))) (Nat.le_refl _) _).setCell (Nat.le_refl _) _).setCell (Nat.le_refl _) _).setCell (Nat.le_refl _) _

theorem cp_all (u : LK) : KCp u := by
  refine LK.ind (P := KCp) (fun k v da dc ds a c ks ih => ?_) u
  exact cp_of (.mk k v da dc ds a c ks) ih

end Go.Proofs.YtfbgkbgoooepmaaDoor.Con
