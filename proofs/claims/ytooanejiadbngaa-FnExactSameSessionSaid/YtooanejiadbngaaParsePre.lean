/- Plain lemmas on reading a number back. -/
import Derived.Test.YtooanejiadbngaaFmtPre
namespace Go.Proofs.Ytooanejiadbngaa
open Go.RowKit Go.Lib

/-- What a list of digits is worth. -/
def nval (l : List UInt8) : Nat := l.foldl (fun a c => a * 10 + (c.toNat - 48)) 0
theorem nval_snoc (l : List UInt8) (c : UInt8) : nval (l ++ [c]) = nval l * 10 + (c.toNat - 48) := by simp [nval]
theorem nval_step (t : ByteArray) (k : Nat) (h : k < t.size) : nval (t.data.toList.take (k + 1)) = nval (t.data.toList.take k) * 10 + (t[k].toNat - 48) := by
  rw [take_snoc t k h, nval_snoc]
theorem nval_mono : ∀ (l : List UInt8) (a : Nat), a ≤ l.foldl (fun a c => a * 10 + (c.toNat - 48)) a
  | [], a => Nat.le_refl a
  | c :: l, a => by
    have := nval_mono l (a * 10 + (c.toNat - 48))
    simp only [List.foldl_cons]
    omega
theorem nval_le (l : List UInt8) (k : Nat) : nval (l.take k) ≤ nval l := by
  have h : nval l = (l.drop k).foldl (fun a c => a * 10 + (c.toNat - 48)) (nval (l.take k)) := by
    conv => lhs; rw [← List.take_append_drop k l]
    simp only [nval, List.foldl_append]
  rw [h]
  exact nval_mono _ _

theorem ofNat_toNat (d : Nat) (h : d < 10) : (UInt8.ofNat (48 + d)).toNat = 48 + d := by
  rw [UInt8.toNat_ofNat']; omega
theorem nval_decDigits : ∀ u, nval (decDigits u) = u := by
  intro u
  induction u using Nat.strongRecOn with
  | ind u ih =>
    by_cases h : u < 10
    · rw [decDigits_small h]
      show 0 * 10 + ((UInt8.ofNat (48 + u)).toNat - 48) = u
      rw [ofNat_toNat u h]; omega
    · rw [decDigits_big h, nval_snoc, ih (u / 10) (by omega), ofNat_toNat _ (by omega)]
      omega
theorem decDigits_digits : ∀ u, (decDigits u).all isDig = true := by
  intro u
  induction u using Nat.strongRecOn with
  | ind u ih =>
    by_cases h : u < 10
    · rw [decDigits_small h]
      simp [isDig]; omega
    · rw [decDigits_big h, List.all_append, ih (u / 10) (by omega)]
      simp [isDig]; omega
theorem decDigits_ne (u : Nat) : decDigits u ≠ [] := by
  by_cases h : u < 10
  · rw [decDigits_small h]; simp
  · rw [decDigits_big h]; simp
theorem digB_decDigits (u : Nat) : digB (decDigits u) = true := by
  unfold digB
  rw [decDigits_digits u]
  have := decDigits_ne u
  cases hx : decDigits u with
  | nil => exact absurd hx this
  | cons a t => rfl
theorem decDigits_len19 (u : Nat) (h : u ≤ 9223372036854775808) : (decDigits u).length ≤ 19 := by
  rw [decDigits_length]
  rcases Nat.lt_or_ge 19 (nDigits u) with hx | hx
  · have h1 := nDigits_unique
    exfalso
    have h2 : ∀ (k u : Nat), u < 10 ^ k → 0 < k → nDigits u ≤ k := by
      intro k
      induction k with
      | zero => intro u h h0; omega
      | succ k ih =>
        intro u hu _
        by_cases hs : u < 10
        · rw [nDigits_small hs]; omega
        · rw [nDigits_big hs]
          have hk : 0 < k := by
            rcases Nat.eq_zero_or_pos k with rfl | h
            · simp at hu; omega
            · exact h
          have := ih (u / 10) (by rw [Nat.pow_succ] at hu; omega) hk
          omega
    have := h2 19 u (by omega) (by omega)
    omega
  · exact hx
theorem decDigits_head (u : Nat) (c : UInt8) (r : List UInt8) (h : decDigits u = c :: r) : 48 ≤ c.toNat ∧ c.toNat ≤ 57 := by
  have hd := decDigits_digits u
  rw [h] at hd
  simp only [List.all_cons, Bool.and_eq_true] at hd
  exact (isDig_iff c).1 hd.1

/-- In int's range. -/
def InInt (v : Int) : Prop := -9223372036854775808 ≤ v ∧ v ≤ 9223372036854775807
theorem itoa_inj {a b : Int} (h : itoa a = itoa b) : a = b := by
  rcases Int.lt_or_le a 0 with ha | ha <;> rcases Int.lt_or_le b 0 with hb | hb
  · obtain ⟨m, rfl⟩ : ∃ m : Nat, a = -(m : Int) := ⟨a.natAbs, by omega⟩
    obtain ⟨n, rfl⟩ : ∃ n : Nat, b = -(n : Int) := ⟨b.natAbs, by omega⟩
    rw [itoa_neg m (by omega), itoa_neg n (by omega)] at h
    injection h with _ h
    have := congrArg nval h
    rw [nval_decDigits, nval_decDigits] at this
    omega
  · obtain ⟨m, rfl⟩ : ∃ m : Nat, a = -(m : Int) := ⟨a.natAbs, by omega⟩
    obtain ⟨n, rfl⟩ := Int.eq_ofNat_of_zero_le hb
    rw [itoa_neg m (by omega), itoa_nat] at h
    have := decDigits_head n _ _ h.symm
    simp at this
  · obtain ⟨m, rfl⟩ := Int.eq_ofNat_of_zero_le ha
    obtain ⟨n, rfl⟩ : ∃ n : Nat, b = -(n : Int) := ⟨b.natAbs, by omega⟩
    rw [itoa_neg n (by omega), itoa_nat] at h
    have := decDigits_head m _ _ h
    simp at this
  · obtain ⟨m, rfl⟩ := Int.eq_ofNat_of_zero_le ha
    obtain ⟨n, rfl⟩ := Int.eq_ofNat_of_zero_le hb
    rw [itoa_nat, itoa_nat] at h
    have := congrArg nval h
    rw [nval_decDigits, nval_decDigits] at this
    omega
theorem fmtB_inj {a b : Int} (h : fmtB a = fmtB b) : a = b := by
  apply itoa_inj
  unfold fmtB at h
  injection h with h
  simpa using congrArg Array.toList h

/-- The number whose text s is. -/
def IsNum (s : ByteArray) (v : Int) : Prop := InInt v ∧ fmtB v = s
def NoNum (s : ByteArray) : Prop := ∀ v, InInt v → fmtB v ≠ s

/-- t is s without its sign; neg tells whether it has one. -/
def Cut (neg : Bool) (s t : ByteArray) : Prop := if neg = true then s.data.toList = 45 :: t.data.toList else (t = s ∧ ∀ r, s.data.toList ≠ 45 :: r)
/-- What follows where s is a number's text. -/
theorem cut_num {neg : Bool} {s t : ByteArray} {v : Int} (hc : Cut neg s t) (hv : InInt v) (h : fmtB v = s) :
    digB t.data.toList = true ∧ t.size ≤ 19 ∧ v = (if neg = true then -(nval t.data.toList : Int) else nval t.data.toList) ∧ nval t.data.toList ≤ 9223372036854775808 ∧ (neg = false → nval t.data.toList ≤ 9223372036854775807) := by
  have hi : itoa v = s.data.toList := by rw [← h]; rfl
  unfold InInt at hv
  have hsz : t.size = t.data.toList.length := rfl
  cases neg with
  | true =>
    have hs : s.data.toList = 45 :: t.data.toList := hc
    rw [hs] at hi
    rcases Int.lt_or_le v 0 with hn | hn
    · obtain ⟨m, rfl⟩ : ∃ m : Nat, v = -(m : Int) := ⟨v.natAbs, by omega⟩
      rw [itoa_neg m (by omega)] at hi
      injection hi with _ hi
      rw [hsz, ← hi, nval_decDigits, digB_decDigits]
      exact ⟨rfl, decDigits_len19 m (by omega), rfl, by omega, fun h => by cases h⟩
    · obtain ⟨m, rfl⟩ := Int.eq_ofNat_of_zero_le hn
      rw [itoa_nat] at hi
      have := decDigits_head m _ _ hi
      simp at this
  | false =>
    obtain ⟨rfl, hne⟩ : t = s ∧ ∀ r, s.data.toList ≠ 45 :: r := hc
    rcases Int.lt_or_le v 0 with hn | hn
    · obtain ⟨m, rfl⟩ : ∃ m : Nat, v = -(m : Int) := ⟨v.natAbs, by omega⟩
      rw [itoa_neg m (by omega)] at hi
      exact absurd hi.symm (hne _)
    · obtain ⟨m, rfl⟩ := Int.eq_ofNat_of_zero_le hn
      rw [itoa_nat] at hi
      rw [hsz, ← hi, nval_decDigits, digB_decDigits]
      exact ⟨rfl, decDigits_len19 m (by omega), rfl, by omega, fun _ => by omega⟩

/-- How ParseInt ends. -/
def ParseEnd (s : ByteArray) (e : Ending) : Prop :=
  (∃ v, IsNum s v ∧ e = .returned (.tuple #[.int .i64 v, .bool true])) ∨ (NoNum s ∧ e = .returned (.tuple #[.int .i64 0, .bool false]))
theorem ParseEnd.yes {s : ByteArray} {e : Ending} {v : Int} (h : ParseEnd s e) (hv : IsNum s v) : e = .returned (.tuple #[.int .i64 v, .bool true]) := by
  rcases h with ⟨u, hu, rfl⟩ | ⟨hn, _⟩
  · rw [fmtB_inj (hu.2.trans hv.2.symm)]
  · exact absurd hv.2 (hn v hv.1)
theorem ParseEnd.no {s : ByteArray} {e : Ending} (h : ParseEnd s e) (hv : NoNum s) : e = .returned (.tuple #[.int .i64 0, .bool false]) := by
  rcases h with ⟨u, hu, rfl⟩ | ⟨_, rfl⟩
  · exact absurd hu.2 (hv u hu.1)
  · rfl
theorem no_digits {neg : Bool} {s t : ByteArray} (hc : Cut neg s t) (h : digB t.data.toList = false) : NoNum s := fun v hv he => by
  have := (cut_num hc hv he).1
  rw [h] at this; cases this
theorem no_long {neg : Bool} {s t : ByteArray} (hc : Cut neg s t) (h : 19 < t.size) : NoNum s := fun v hv he => by
  have := (cut_num hc hv he).2.1
  omega
theorem no_great {neg : Bool} {s t : ByteArray} (hc : Cut neg s t) (k : Nat) (h : 9223372036854775808 < nval (t.data.toList.take k)) : NoNum s := fun v hv he => by
  have h1 := (cut_num hc hv he).2.2.2.1
  have h2 := nval_le t.data.toList k
  omega
theorem no_edge {s t : ByteArray} (hc : Cut false s t) (h : nval t.data.toList = 9223372036854775808) : NoNum s := fun v hv he => by
  have h1 := (cut_num hc hv he).2.2.2.2 rfl
  omega
theorem no_other {neg : Bool} {s t : ByteArray} (hc : Cut neg s t) (h : fmtB (if neg = true then -(nval t.data.toList : Int) else nval t.data.toList) ≠ s) : NoNum s := fun v hv he => by
  rw [← (cut_num hc hv he).2.2.1] at h
  exact h he
theorem dig_at {t : ByteArray} (h : digB t.data.toList = true) (k : Nat) (hk : k < t.size) : 48 ≤ t[k].toNat ∧ t[k].toNat ≤ 57 := by
  unfold digB at h
  rw [Bool.and_eq_true] at h
  have := List.all_eq_true.1 h.1 (t[k]) (by rw [← bytes_get t k hk]; exact List.getElem_mem _)
  exact (isDig_iff _).1 this

theorem edge_div (d : Int) (h1 : d ≤ 9) (h0 : 0 ≤ d) : (-9223372036854775808 + d).tdiv 10 = -((9223372036854775808 - d) / 10) := by
  rw [show (-9223372036854775808 + d) = -(9223372036854775808 - d) from by omega, Int.neg_tdiv, Int.tdiv_eq_ediv_of_nonneg (by omega)]
theorem ov_yes (a d : Int) (h1 : d ≤ 9) (h0 : 0 ≤ d) (h : -a < (-9223372036854775808 + d).tdiv 10) : 9223372036854775808 < a * 10 + d := by
  rw [edge_div d h1 h0] at h; omega
theorem ov_no (a d : Int) (h1 : d ≤ 9) (h0 : 0 ≤ d) (h : ¬ -a < (-9223372036854775808 + d).tdiv 10) : a * 10 + d ≤ 9223372036854775808 := by
  rw [edge_div d h1 h0] at h; omega
end Go.Proofs.Ytooanejiadbngaa
