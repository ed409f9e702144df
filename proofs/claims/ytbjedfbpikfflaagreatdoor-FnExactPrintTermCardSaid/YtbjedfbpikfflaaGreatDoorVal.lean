/-
  Plain facts on reading a decimal form: 'RV l n ok' says what ReadDecimal answers at the bytes l. No program in it, no condition.
-/
import Derived.Test.YtbjedfbpikfflaaGreatDoorDec
import Derived.Lib.ParseIntB
import Derived.PlainAid
namespace Go.Proofs.YtbjedfbpikfflaaGreatDoor.Con
open Go.PlainAid (bt)

def in32 (n : Int) : Prop := -2147483648 ≤ n ∧ n ≤ 2147483647
/-- What is answered at the bytes l: the number with this decimal form and true; 0 and false if there is none. -/
def RV (l : List UInt8) (n : Int) (ok : Bool) : Prop := (ok = true ∧ in32 n ∧ decV n = l) ∨ (ok = false ∧ n = 0 ∧ ∀ m, in32 m → decV m ≠ l)

def isD (c : UInt8) : Prop := 48 ≤ c.toNat ∧ c.toNat ≤ 57
def valA (a : Nat) (l : List UInt8) : Nat := l.foldl (fun n c => n * 10 + (c.toNat - 48)) a
theorem valA_nil (a : Nat) : valA a [] = a := rfl
theorem valA_cons (a : Nat) (c : UInt8) (l : List UInt8) : valA a (c :: l) = valA (a * 10 + (c.toNat - 48)) l := by
  unfold valA
  rw [List.foldl_cons]
theorem valA_snoc (a : Nat) (l : List UInt8) (c : UInt8) : valA a (l ++ [c]) = valA a l * 10 + (c.toNat - 48) := by
  unfold valA
  rw [List.foldl_append]
  rfl
theorem valA_ge : ∀ (l : List UInt8) (a : Nat), a ≤ valA a l
  | [], a => Nat.le_refl _
  | c :: l, a => by
    rw [valA_cons]
    exact Nat.le_trans (by omega) (valA_ge l _)

theorem decN_dig (a : Nat) : ∀ c ∈ decN a, isD c := by
  induction a using Nat.strongRecOn with
  | _ a ih =>
    by_cases h : a < 10
    · rw [decN_small h]
      intro c hc
      simp only [List.mem_singleton] at hc
      subst hc
      unfold isD
      rw [dig_toNat a h]
      omega
    · rw [decN_big (by omega)]
      intro c hc
      rcases List.mem_append.1 hc with hc | hc
      · exact ih _ (by omega) c hc
      · simp only [List.mem_singleton] at hc
        subst hc
        unfold isD
        rw [dig_toNat _ (Nat.mod_lt _ (by omega))]
        omega
theorem decN_val (a : Nat) : valA 0 (decN a) = a := by
  induction a using Nat.strongRecOn with
  | _ a ih =>
    by_cases h : a < 10
    · rw [decN_small h, valA_cons, valA_nil, dig_toNat a h]
      omega
    · rw [decN_big (by omega), valA_snoc, ih _ (by omega), dig_toNat _ (Nat.mod_lt _ (by omega))]
      omega
theorem decN_ne (a : Nat) : decN a ≠ [] := by
  unfold decN
  split
  · simp
  · intro h
    have := congrArg List.length h
    rw [List.length_reverse, revN_pos (by assumption)] at this
    simp at this
theorem decN_len10 {a : Nat} (h : a < 10000000000) : (decN a).length ≤ 10 := by
  unfold decN
  split
  · simp
  · rw [List.length_reverse]; exact revN_len 10 a (by simpa using h)
theorem decV_len {m : Int} (h : in32 m) : 1 ≤ (decV m).length ∧ (decV m).length ≤ 11 := by
  obtain ⟨_, _⟩ := h
  have h1 := decN_len10 (a := m.natAbs) (by omega)
  have h2 : (decN m.natAbs).length ≠ 0 := fun e => decN_ne _ (List.length_eq_zero_iff.1 e)
  unfold decV
  split
  · simp; omega
  · omega

theorem parseM_ok : ∀ (l : List UInt8) (a : Nat), (∀ c ∈ l, isD c) → valA a l ≤ 4294967295 → Lib.parseUintM 4294967295 a l = .ok (valA a l)
  | [], a, _, _ => rfl
  | c :: l, a, h, hv => by
    have hc : 48 ≤ c.toNat ∧ c.toNat ≤ 57 := h c (by simp)
    rw [valA_cons] at hv ⊢
    have := valA_ge l (a * 10 + (c.toNat - 48))
    unfold Lib.parseUintM
    rw [if_pos hc, if_neg (by omega), if_neg (by omega)]
    exact parseM_ok l _ (fun x hx => h x (by simp [hx])) hv
theorem parseM_le : ∀ (l : List UInt8) (a u : Nat), a ≤ 4294967295 → Lib.parseUintM 4294967295 a l = .ok u → u ≤ 4294967295
  | [], a, u, ha, h => by
    simp only [Lib.parseUintM] at h
    injection h with h
    omega
  | c :: l, a, u, ha, h => by
    unfold Lib.parseUintM at h
    split at h
    · split at h
      · cases h
      · split at h
        · cases h
        · exact parseM_le l _ u (by omega) h
    · cases h

theorem parse_decV {m : Int} (h : in32 m) : Lib.parseIntB 32 (decV m) = .ok m := by
  obtain ⟨h1, h2⟩ := h
  have hp : Lib.parseUintB 32 (decN m.natAbs) = .ok m.natAbs := by
    unfold Lib.parseUintB
    rw [if_neg (decN_ne _)]
    have := parseM_ok (decN m.natAbs) 0 (decN_dig _) (by rw [decN_val]; omega)
    rw [decN_val] at this
    exact this
  unfold decV
  by_cases hn : m < 0
  · rw [if_pos hn]
    unfold Lib.parseIntB
    simp only [show (45 : UInt8).toNat = 45 from rfl, or_true, if_true, hp, not_true, false_and, if_false, true_and]
    rw [if_neg (by omega)]
    congr 1
    omega
  · rw [if_neg hn]
    obtain ⟨c, r, e⟩ : ∃ c r, decN m.natAbs = c :: r := by
      cases e : decN m.natAbs with
      | nil => exact absurd e (decN_ne _)
      | cons c r => exact ⟨c, r, rfl⟩
    have hc : 48 ≤ c.toNat ∧ c.toNat ≤ 57 := decN_dig m.natAbs c (by rw [e]; simp)
    rw [e] at hp ⊢
    unfold Lib.parseIntB
    have h43 : ¬ c.toNat = 43 := by omega
    have h45 : ¬ c.toNat = 45 := by omega
    simp only [h43, h45, or_self, if_false, hp, not_false_eq_true, true_and, false_and]
    rw [if_neg (by omega)]
    congr 1
    omega
theorem parse_in {l : List UInt8} {v : Int} (h : Lib.parseIntB 32 l = .ok v) : in32 v := by
  unfold in32
  cases l with
  | nil => cases h
  | cons c r =>
    unfold Lib.parseIntB at h
    rcases hq : Lib.parseUintB 32 (if c.toNat = 43 ∨ c.toNat = 45 then r else c :: r) with u | _ | _
    · simp only [hq] at h
      by_cases hn : c.toNat = 45
      · simp only [hn, not_true, false_and, if_false, true_and, if_true] at h
        split at h
        · cases h
        · injection h with h
          omega
      · simp only [hn, not_false_eq_true, true_and, false_and, if_false] at h
        split at h
        · cases h
        · injection h with h
          omega
    · simp only [hq] at h; cases h
    · simp only [hq] at h; cases h

theorem decV_inj {n m : Int} (hn : in32 n) (hm : in32 m) (h : decV n = decV m) : n = m := by
  have a := parse_decV hn
  rw [h, parse_decV hm] at a
  injection a with a
  exact a.symm
theorem RV_one {l : List UInt8} {n m : Int} {a b : Bool} (h : RV l n a) (g : RV l m b) : n = m ∧ a = b := by
  rcases h with ⟨rfl, hn, he⟩ | ⟨rfl, rfl, h⟩ <;> rcases g with ⟨rfl, hm, ge⟩ | ⟨rfl, rfl, g⟩
  · exact ⟨decV_inj hn hm (he.trans ge.symm), rfl⟩
  · exact absurd he (g n hn)
  · exact absurd ge (h m hm)
  · exact ⟨rfl, rfl⟩
theorem RV_ok {l : List UInt8} {v : Int} (h : Lib.parseIntB 32 l = .ok v) (e : decV v = l) : RV l v true := Or.inl ⟨rfl, parse_in h, e⟩
theorem RV_other {l : List UInt8} {v : Int} (h : Lib.parseIntB 32 l = .ok v) (e : decV v ≠ l) : RV l 0 false := Or.inr ⟨rfl, rfl, fun m hm hd => by
  have a := parse_decV hm
  rw [hd, h] at a
  injection a with a
  subst a
  exact e hd⟩
theorem RV_none {l : List UInt8} (h : ∀ v, Lib.parseIntB 32 l ≠ .ok v) : RV l 0 false := Or.inr ⟨rfl, rfl, fun m hm hd => h m (by rw [← hd]; exact parse_decV hm)⟩

/-- What is read, of the numbers from lo to hi. -/
def RB (lo hi : Int) (l : List UInt8) (n : Int) (ok : Bool) : Prop := (ok = true ∧ (lo ≤ n ∧ n ≤ hi) ∧ decV n = l) ∨ (ok = false ∧ n = 0 ∧ ∀ m, lo ≤ m → m ≤ hi → decV m ≠ l)
theorem RB.rv {l : List UInt8} {n : Int} {ok : Bool} (h : RB (-2147483648) 2147483647 l n ok) : RV l n ok := by
  rcases h with ⟨a, b, c⟩ | ⟨a, b, c⟩
  · exact .inl ⟨a, b, c⟩
  · exact .inr ⟨a, b, fun m hm => c m hm.1 hm.2⟩

theorem parseM64_ok : ∀ (l : List UInt8) (a : Nat), (∀ c ∈ l, isD c) → valA a l ≤ 4294967295 → Lib.parseUintM 18446744073709551615 a l = .ok (valA a l)
  | [], a, _, _ => rfl
  | c :: l, a, h, hv => by
    have hc : 48 ≤ c.toNat ∧ c.toNat ≤ 57 := h c (by simp)
    rw [valA_cons] at hv ⊢
    have := valA_ge l (a * 10 + (c.toNat - 48))
    unfold Lib.parseUintM
    rw [if_pos hc, if_neg (by omega), if_neg (by omega)]
    exact parseM64_ok l _ (fun x hx => h x (by simp [hx])) hv

theorem parse64_decV {m : Int} (h1 : -4294967295 ≤ m) (h2 : m ≤ 4294967295) : Lib.parseIntB 64 (decV m) = .ok m := by
  have hp : Lib.parseUintB 64 (decN m.natAbs) = .ok m.natAbs := by
    unfold Lib.parseUintB
    rw [if_neg (decN_ne _)]
    have := parseM64_ok (decN m.natAbs) 0 (decN_dig _) (by rw [decN_val]; omega)
    rw [decN_val] at this
    exact this
  unfold decV
  by_cases hn : m < 0
  · rw [if_pos hn]
    unfold Lib.parseIntB
    simp only [show (45 : UInt8).toNat = 45 from rfl, or_true, if_true, hp, not_true, false_and, if_false, true_and]
    rw [if_neg (by omega)]
    congr 1
    omega
  · rw [if_neg hn]
    obtain ⟨c, r, e⟩ : ∃ c r, decN m.natAbs = c :: r := by
      cases e : decN m.natAbs with
      | nil => exact absurd e (decN_ne _)
      | cons c r => exact ⟨c, r, rfl⟩
    have hc : 48 ≤ c.toNat ∧ c.toNat ≤ 57 := decN_dig m.natAbs c (by rw [e]; simp)
    rw [e] at hp ⊢
    unfold Lib.parseIntB
    have h43 : ¬ c.toNat = 43 := by omega
    have h45 : ¬ c.toNat = 45 := by omega
    simp only [h43, h45, or_self, if_false, hp, not_false_eq_true, true_and, false_and]
    rw [if_neg (by omega)]
    congr 1
    omega
theorem parse64_in {l : List UInt8} {v : Int} (h : Lib.parseIntB 64 l = .ok v) : -9223372036854775808 ≤ v ∧ v ≤ 9223372036854775807 := by
  cases l with
  | nil => cases h
  | cons c r =>
    unfold Lib.parseIntB at h
    rcases hq : Lib.parseUintB 64 (if c.toNat = 43 ∨ c.toNat = 45 then r else c :: r) with u | _ | _
    · simp only [hq] at h
      by_cases hn : c.toNat = 45
      · simp only [hn, not_true, false_and, if_false, true_and, if_true] at h
        split at h
        · cases h
        · injection h with h
          omega
      · simp only [hn, not_false_eq_true, true_and, false_and, if_false] at h
        split at h
        · cases h
        · injection h with h
          omega
    · simp only [hq] at h; cases h
    · simp only [hq] at h; cases h

theorem RB_ok {lo hi : Int} {l : List UInt8} {v : Int} (h0 : lo ≤ v) (h1 : v ≤ hi) (e : decV v = l) : RB lo hi l v true := Or.inl ⟨rfl, ⟨h0, h1⟩, e⟩
theorem RB_other {lo hi : Int} (b1 : -4294967295 ≤ lo) (b2 : hi ≤ 4294967295) {l : List UInt8} {v : Int} (h : Lib.parseIntB 64 l = .ok v) (e : v < lo ∨ hi < v ∨ decV v ≠ l) : RB lo hi l 0 false := Or.inr ⟨rfl, rfl, fun m h1 h2 hd => by
  have a := parse64_decV (m := m) (by omega) (by omega)
  rw [hd, h] at a
  injection a with a
  subst a
  rcases e with e | e | e
  · omega
  · omega
  · exact e hd⟩
theorem RB_none {lo hi : Int} (b1 : -4294967295 ≤ lo) (b2 : hi ≤ 4294967295) {l : List UInt8} (h : ∀ v, Lib.parseIntB 64 l ≠ .ok v) : RB lo hi l 0 false :=
  Or.inr ⟨rfl, rfl, fun m h1 h2 hd => h m (by rw [← hd]; exact parse64_decV (by omega) (by omega))⟩
/-- A number and a truth value are returned, as RB says. -/
def ReadsB (lo hi : Int) (l : List UInt8) (e : Ending) : Prop := ∃ n ok, RB lo hi l n ok ∧ e = .returned (.tuple #[.int .i64 n, .bool ok])
theorem ReadsB.mk {lo hi : Int} {l : List UInt8} {n : Int} {ok : Bool} (h : RB lo hi l n ok) : ReadsB lo hi l (.returned (.tuple #[.int .i64 n, .bool ok])) := ⟨n, ok, h, rfl⟩

theorem bt_data (s : ByteArray) (k : Nat) (h : k < s.data.toList.length) : bt s k = ((s.data.toList[k]'h).toNat : Int) := by
  have hs : k < s.size := by rw [Array.length_toList] at h; exact h
  unfold bt
  rw [dif_pos hs]
  simp only [Array.getElem_toList]
  rfl

end Go.Proofs.YtbjedfbpikfflaaGreatDoor.Con
