/- Merged texts: Pre FmtPre ParsePre Mem MemI Chars SpecChars SpecRead Split Cfg Width SpecWidth SpecPadW CelW FindB Lay Layout SpecMax Grow TextIn. -/
import Derived.WalkKit
import Derived.Lib.Hide
import Derived.Lib.ItoaNum
import Derived.Lib.ItoaLen
import Derived.Test.YtooanejiadbngaaGreatDoorProg
import Derived.Laws.OwnMore
import Derived.Deep.Draws
import Derived.Deep.QuietTactic
import Derived.BigQuiet
import Derived.ProofKit
import Derived.ChangeOld
import Derived.Laws.Rows
import Derived.Laws.Tables
import Derived.Lib.DecodeNEq
import Derived.Lib.AppendStr
import Derived.IntWalk
import Derived.Lib.LastIndexByte
import Derived.Lib.IndexBytes
import Derived.Maps.AppendAt
import Derived.Deep.AppendLies
/- Plain lemmas on bytes and lists, shared by the walks of this seat. -/
namespace Go.Proofs.YtooanejiadbngaaGreatDoor
open Go.RowKit

/-- A decimal digit's byte. -/
def isDig (c : UInt8) : Bool := decide (48 ≤ c.toNat) && decide (c.toNat ≤ 57)
/-- A small letter's byte. -/
def isLow (c : UInt8) : Bool := decide (97 ≤ c.toNat) && decide (c.toNat ≤ 122)
/-- What IsDigits answers. -/
def digB (l : List UInt8) : Bool := l.all isDig && !l.isEmpty

theorem isDig_iff (c : UInt8) : isDig c = true ↔ 48 ≤ c.toNat ∧ c.toNat ≤ 57 := by simp [isDig]
theorem isLow_iff (c : UInt8) : isLow c = true ↔ 97 ≤ c.toNat ∧ c.toNat ≤ 122 := by simp [isLow]

theorem bytes_length (s : ByteArray) : s.data.toList.length = s.size := by rfl
theorem bytes_get (s : ByteArray) (k : Nat) (h : k < s.size) : s.data.toList[k]'h = s[k] := by rfl

theorem take_snoc (s : ByteArray) (k : Nat) (h : k < s.size) : s.data.toList.take (k + 1) = s.data.toList.take k ++ [s[k]] := by
  rw [List.take_succ_eq_append_getElem (by simpa using h)]; rfl

theorem all_snoc (p : UInt8 → Bool) (s : ByteArray) (k : Nat) (h : k < s.size) (ha : (s.data.toList.take k).all p = true) (hp : p s[k] = true) :
    (s.data.toList.take (k + 1)).all p = true := by
  rw [take_snoc s k h, List.all_append, ha]; simp [hp]

theorem all_whole (p : UInt8 → Bool) (s : ByteArray) (k : Nat) (h : ¬ k < s.size) (ha : (s.data.toList.take k).all p = true) : s.data.toList.all p = true := by
  rw [List.take_of_length_le (by rw [bytes_length]; omega)] at ha; exact ha

theorem digB_no (s : ByteArray) (k : Nat) (h : k < s.size) (hp : isDig s[k] = false) : digB s.data.toList = false := by
  unfold digB
  rw [Bool.and_eq_false_iff]; left
  rw [List.all_eq_false]
  exact ⟨s[k], by rw [← bytes_get s k h]; exact List.getElem_mem _, by simp [hp]⟩

theorem digB_yes (s : ByteArray) (h : s.data.toList.all isDig = true) : digB s.data.toList = decide (0 < s.size) := by
  unfold digB; rw [h]
  have e : s.data.toList.isEmpty = decide (s.size = 0) := by
    rw [← bytes_length]; cases s.data.toList <;> simp
  rw [e]; by_cases hz : s.size = 0
  · simp [hz]
  · have : 0 < s.size := by omega
    simp [hz]; omega

theorem digB_yes2 (s : ByteArray) (h : s.data.toList.all isDig = true) : digB s.data.toList = !s.data.toList.isEmpty := by
  unfold digB; rw [h]; rfl

theorem not_dig (c : UInt8) (h : (c.toNat : Int) < 48 ∨ 57 < (c.toNat : Int)) : isDig c = false := by
  cases hx : isDig c with
  | false => rfl
  | true => rw [isDig_iff] at hx; omega

theorem yes_dig (c : UInt8) (h : 48 ≤ (c.toNat : Int)) (h2 : (c.toNat : Int) ≤ 57) : isDig c = true := by
  rw [isDig_iff]; omega

/-- A beginning of a name: a letter first, then letters and digits. -/
def namePre : List UInt8 → Bool
  | [] => true
  | c :: t => isLow c && t.all fun c => isLow c || isDig c
/-- What IsName answers. -/
def nameB (l : List UInt8) : Bool := namePre l && (decide (1 ≤ l.length) && decide (l.length ≤ 8))

theorem namePre_snoc (l : List UInt8) (c : UInt8) : namePre (l ++ [c]) = (namePre l && (isLow c || (!l.isEmpty && isDig c))) := by
  cases l with
  | nil => simp [namePre]
  | cons a t => simp [namePre, Bool.and_assoc]
theorem namePre_take (l : List UInt8) (k : Nat) (h : namePre (l.take k) = false) : namePre l = false := by
  cases l with
  | nil => simp [namePre] at h
  | cons a t =>
    cases k with
    | zero => simp [namePre] at h
    | succ k =>
      simp only [List.take_succ_cons, namePre] at h ⊢
      cases ha : isLow a with
      | false => simp
      | true =>
        rw [ha] at h
        simp only [Bool.true_and] at h ⊢
        rw [List.all_eq_false] at h ⊢
        obtain ⟨x, hx, hp⟩ := h
        exact ⟨x, List.mem_of_mem_take hx, hp⟩
theorem name_step (s : ByteArray) (k : Nat) (h : k < s.size) :
    namePre (s.data.toList.take (k + 1)) = (namePre (s.data.toList.take k) && (isLow s[k] || (decide (k ≠ 0) && isDig s[k]))) := by
  rw [take_snoc s k h, namePre_snoc]
  congr 2
  have e : (!(s.data.toList.take k).isEmpty) = decide (k ≠ 0) := by
    have hl : (s.data.toList.take k).length = k := by rw [List.length_take, bytes_length]; omega
    cases hx : s.data.toList.take k with
    | nil => rw [hx] at hl; simp at hl; simp [← hl]
    | cons a t => rw [hx] at hl; simp at hl; simp; omega
  rw [e]
theorem name_yes (s : ByteArray) (k : Nat) (h : k < s.size) (hp : namePre (s.data.toList.take k) = true) (hc : isLow s[k] = true ∨ (k ≠ 0 ∧ isDig s[k] = true)) :
    namePre (s.data.toList.take (k + 1)) = true := by
  rw [name_step s k h, hp]
  rcases hc with hc | ⟨h0, hc⟩
  · rw [hc]; rfl
  · rw [hc, decide_eq_true h0]; simp
theorem name_no (s : ByteArray) (k : Nat) (h : k < s.size) (h1 : isLow s[k] = false) (h2 : k = 0 ∨ isDig s[k] = false) : nameB s.data.toList = false := by
  have e : namePre (s.data.toList.take (k + 1)) = false := by
    rw [name_step s k h, h1]
    rcases h2 with h2 | h2
    · rw [decide_eq_false (by omega)]; simp
    · rw [h2]; simp
  unfold nameB
  rw [namePre_take _ (k + 1) e]
  rfl
theorem name_whole (s : ByteArray) (k : Nat) (h : ¬ k < s.size) (hp : namePre (s.data.toList.take k) = true) :
    nameB s.data.toList = (decide (1 ≤ s.size) && decide (s.size ≤ 8)) := by
  rw [List.take_of_length_le (by rw [bytes_length]; omega)] at hp
  unfold nameB
  rw [hp, bytes_length]; rfl
theorem not_low (c : UInt8) (h : (c.toNat : Int) < 97 ∨ 122 < (c.toNat : Int)) : isLow c = false := by
  cases hx : isLow c with
  | false => rfl
  | true => rw [isLow_iff] at hx; omega
theorem yes_low (c : UInt8) (h : 97 ≤ (c.toNat : Int)) (h2 : (c.toNat : Int) ≤ 122) : isLow c = true := by
  rw [isLow_iff]; omega

theorem ret_bool {a b : Bool} (h : a = b) : Ending.returned (.bool a) = .returned (.bool b) := by rw [h]
theorem ret_string {a b : ByteArray} (h : a = b) : Ending.returned (.string a) = .returned (.string b) := by rw [h]
theorem ret_int {k : IntKind} {a b : Int} (h : a = b) : Ending.returned (.int k a) = .returned (.int k b) := by rw [h]
theorem byte_cons (b : UInt8) (acc : List UInt8) : ByteArray.mk [b].toArray ++ ByteArray.mk acc.toArray = ByteArray.mk (b :: acc).toArray := by
  rw [ByteArray.mk_append_mk]; rfl
end Go.Proofs.YtooanejiadbngaaGreatDoor

/- Plain lemmas on decimal texts. -/
namespace Go.Proofs.YtooanejiadbngaaGreatDoor
open Go.RowKit Go.Lib

/-- What FormatInt gives. -/
def fmtB (n : Int) : ByteArray := ⟨(itoa n).toArray⟩
theorem decDigits_small {u : Nat} (h : u < 10) : decDigits u = [UInt8.ofNat (48 + u)] := decDigits_one h
theorem decDigits_big {u : Nat} (h : ¬ u < 10) : decDigits u = decDigits (u / 10) ++ [UInt8.ofNat (48 + u % 10)] := by rw [decDigits, dif_neg h]
theorem itoa_neg (m : Nat) (h : 0 < m) : itoa (-(m : Int)) = 45 :: decDigits m := by
  unfold itoa
  rw [if_pos (by omega)]
  congr 2
  omega
theorem itoa_nat (m : Nat) : itoa (m : Int) = decDigits m := by
  unfold itoa
  rw [if_neg (by omega)]
  congr 1
theorem fmtB_neg_small (m : Nat) (h0 : 0 < m) (h : m < 10) : fmtB (-(m : Int)) = ByteArray.mk [45, UInt8.ofNat (48 + m)].toArray := by
  unfold fmtB; rw [itoa_neg m h0, decDigits_small h]
theorem fmtB_neg_big (m : Nat) (h : ¬ m < 10) : fmtB (-(m : Int)) = fmtB (-((m / 10 : Nat) : Int)) ++ ByteArray.mk [UInt8.ofNat (48 + m % 10)].toArray := by
  unfold fmtB
  rw [itoa_neg m (by omega), itoa_neg (m / 10) (by omega), decDigits_big h, ByteArray.mk_append_mk]
  rfl
theorem fmtB_size (n : Int) (h0 : -9223372036854775808 ≤ n) (h1 : n ≤ 9223372036854775807) : (fmtB n).size ≤ 21 := by
  have := itoa_length_le n h0 h1
  exact this
theorem bytes_same {x y : ByteArray} (h : x.toList = y.toList) : x = y := by
  rw [ByteArray.toList_eq, ByteArray.toList_eq] at h
  exact ByteArray.ext (Array.ext' h)
theorem sne_no {x y : ByteArray} (h : x = y) : (!x.toList == y.toList) = false := by subst h; simp
theorem sne_yes {x y : ByteArray} (h : x ≠ y) : (!x.toList == y.toList) = true := by
  have : x.toList ≠ y.toList := fun e => h (bytes_same e)
  simp [this]
end Go.Proofs.YtooanejiadbngaaGreatDoor

/- Plain lemmas on reading a number back. -/
namespace Go.Proofs.YtooanejiadbngaaGreatDoor
open Go.RowKit Go.Lib

/-- What a list of digits is worth. -/
def nval (l : List UInt8) : Nat := l.foldl (fun a c => a * 10 + (c.toNat - 48)) 0
theorem nval_snoc (l : List UInt8) (c : UInt8) : nval (l ++ [c]) = nval l * 10 + (c.toNat - 48) := by simp [nval]
theorem nval_step (t : ByteArray) (k : Nat) (h : k < t.size) : nval (t.data.toList.take (k + 1)) = nval (t.data.toList.take k) * 10 + (t[k].toNat - 48) := by
  rw [take_snoc t k h, nval_snoc]
theorem nval_mono : ∀ (l : List UInt8) (a : Nat), a ≤ l.foldl (fun a c => a * 10 + (c.toNat - 48)) a
  | [], a => Nat.le_refl a
  | c :: l, a => by
    have := nval_mono l (a * 10 + (c.toNat - 48))
    simp only [List.foldl_cons]
    omega
theorem nval_le (l : List UInt8) (k : Nat) : nval (l.take k) ≤ nval l := by
  have h : nval l = (l.drop k).foldl (fun a c => a * 10 + (c.toNat - 48)) (nval (l.take k)) := by
    conv => lhs; rw [← List.take_append_drop k l]
    simp only [nval, List.foldl_append]
  rw [h]
  exact nval_mono _ _

theorem ofNat_toNat (d : Nat) (h : d < 10) : (UInt8.ofNat (48 + d)).toNat = 48 + d := by
  rw [UInt8.toNat_ofNat']; omega
theorem nval_decDigits : ∀ u, nval (decDigits u) = u := by
  intro u
  induction u using Nat.strongRecOn with
  | ind u ih =>
    by_cases h : u < 10
    · rw [decDigits_small h]
      show 0 * 10 + ((UInt8.ofNat (48 + u)).toNat - 48) = u
      rw [ofNat_toNat u h]; omega
    · rw [decDigits_big h, nval_snoc, ih (u / 10) (by omega), ofNat_toNat _ (by omega)]
      omega
theorem decDigits_digits : ∀ u, (decDigits u).all isDig = true := by
  intro u
  induction u using Nat.strongRecOn with
  | ind u ih =>
    by_cases h : u < 10
    · rw [decDigits_small h]
      simp [isDig]; omega
    · rw [decDigits_big h, List.all_append, ih (u / 10) (by omega)]
      simp [isDig]; omega
theorem decDigits_ne (u : Nat) : decDigits u ≠ [] := by
  by_cases h : u < 10
  · rw [decDigits_small h]; simp
  · rw [decDigits_big h]; simp
theorem digB_decDigits (u : Nat) : digB (decDigits u) = true := by
  unfold digB
  rw [decDigits_digits u]
  have := decDigits_ne u
  cases hx : decDigits u with
  | nil => exact absurd hx this
  | cons a t => rfl
theorem decDigits_len19 (u : Nat) (h : u ≤ 9223372036854775808) : (decDigits u).length ≤ 19 := by
  rw [decDigits_length]
  rcases Nat.lt_or_ge 19 (nDigits u) with hx | hx
  · have h1 := nDigits_unique
    exfalso
    have h2 : ∀ (k u : Nat), u < 10 ^ k → 0 < k → nDigits u ≤ k := by
      intro k
      induction k with
      | zero => intro u h h0; omega
      | succ k ih =>
        intro u hu _
        by_cases hs : u < 10
        · rw [nDigits_small hs]; omega
        · rw [nDigits_big hs]
          have hk : 0 < k := by
            rcases Nat.eq_zero_or_pos k with rfl | h
            · simp at hu; omega
            · exact h
          have := ih (u / 10) (by rw [Nat.pow_succ] at hu; omega) hk
          omega
    have := h2 19 u (by omega) (by omega)
    omega
  · exact hx
theorem decDigits_head (u : Nat) (c : UInt8) (r : List UInt8) (h : decDigits u = c :: r) : 48 ≤ c.toNat ∧ c.toNat ≤ 57 := by
  have hd := decDigits_digits u
  rw [h] at hd
  simp only [List.all_cons, Bool.and_eq_true] at hd
  exact (isDig_iff c).1 hd.1

/-- In int's range. -/
def InInt (v : Int) : Prop := -9223372036854775808 ≤ v ∧ v ≤ 9223372036854775807
theorem itoa_inj {a b : Int} (h : itoa a = itoa b) : a = b := by
  rcases Int.lt_or_le a 0 with ha | ha <;> rcases Int.lt_or_le b 0 with hb | hb
  · obtain ⟨m, rfl⟩ : ∃ m : Nat, a = -(m : Int) := ⟨a.natAbs, by omega⟩
    obtain ⟨n, rfl⟩ : ∃ n : Nat, b = -(n : Int) := ⟨b.natAbs, by omega⟩
    rw [itoa_neg m (by omega), itoa_neg n (by omega)] at h
    injection h with _ h
    have := congrArg nval h
    rw [nval_decDigits, nval_decDigits] at this
    omega
  · obtain ⟨m, rfl⟩ : ∃ m : Nat, a = -(m : Int) := ⟨a.natAbs, by omega⟩
    obtain ⟨n, rfl⟩ := Int.eq_ofNat_of_zero_le hb
    rw [itoa_neg m (by omega), itoa_nat] at h
    have := decDigits_head n _ _ h.symm
    simp at this
  · obtain ⟨m, rfl⟩ := Int.eq_ofNat_of_zero_le ha
    obtain ⟨n, rfl⟩ : ∃ n : Nat, b = -(n : Int) := ⟨b.natAbs, by omega⟩
    rw [itoa_neg n (by omega), itoa_nat] at h
    have := decDigits_head m _ _ h
    simp at this
  · obtain ⟨m, rfl⟩ := Int.eq_ofNat_of_zero_le ha
    obtain ⟨n, rfl⟩ := Int.eq_ofNat_of_zero_le hb
    rw [itoa_nat, itoa_nat] at h
    have := congrArg nval h
    rw [nval_decDigits, nval_decDigits] at this
    omega
theorem fmtB_inj {a b : Int} (h : fmtB a = fmtB b) : a = b := by
  apply itoa_inj
  unfold fmtB at h
  injection h with h
  simpa using congrArg Array.toList h

/-- The number whose text s is. -/
def IsNum (s : ByteArray) (v : Int) : Prop := InInt v ∧ fmtB v = s
def NoNum (s : ByteArray) : Prop := ∀ v, InInt v → fmtB v ≠ s

/-- t is s without its sign; neg tells whether it has one. -/
def Cut (neg : Bool) (s t : ByteArray) : Prop := if neg = true then s.data.toList = 45 :: t.data.toList else (t = s ∧ ∀ r, s.data.toList ≠ 45 :: r)
/-- What follows where s is a number's text. -/
theorem cut_num {neg : Bool} {s t : ByteArray} {v : Int} (hc : Cut neg s t) (hv : InInt v) (h : fmtB v = s) :
    digB t.data.toList = true ∧ t.size ≤ 19 ∧ v = (if neg = true then -(nval t.data.toList : Int) else nval t.data.toList) ∧ nval t.data.toList ≤ 9223372036854775808 ∧ (neg = false → nval t.data.toList ≤ 9223372036854775807) := by
  have hi : itoa v = s.data.toList := by rw [← h]; rfl
  unfold InInt at hv
  have hsz : t.size = t.data.toList.length := rfl
  cases neg with
  | true =>
    have hs : s.data.toList = 45 :: t.data.toList := hc
    rw [hs] at hi
    rcases Int.lt_or_le v 0 with hn | hn
    · obtain ⟨m, rfl⟩ : ∃ m : Nat, v = -(m : Int) := ⟨v.natAbs, by omega⟩
      rw [itoa_neg m (by omega)] at hi
      injection hi with _ hi
      rw [hsz, ← hi, nval_decDigits, digB_decDigits]
      exact ⟨rfl, decDigits_len19 m (by omega), rfl, by omega, fun h => by cases h⟩
    · obtain ⟨m, rfl⟩ := Int.eq_ofNat_of_zero_le hn
      rw [itoa_nat] at hi
      have := decDigits_head m _ _ hi
      simp at this
  | false =>
    obtain ⟨rfl, hne⟩ : t = s ∧ ∀ r, s.data.toList ≠ 45 :: r := hc
    rcases Int.lt_or_le v 0 with hn | hn
    · obtain ⟨m, rfl⟩ : ∃ m : Nat, v = -(m : Int) := ⟨v.natAbs, by omega⟩
      rw [itoa_neg m (by omega)] at hi
      exact absurd hi.symm (hne _)
    · obtain ⟨m, rfl⟩ := Int.eq_ofNat_of_zero_le hn
      rw [itoa_nat] at hi
      rw [hsz, ← hi, nval_decDigits, digB_decDigits]
      exact ⟨rfl, decDigits_len19 m (by omega), rfl, by omega, fun _ => by omega⟩

/-- How ParseInt ends. -/
def ParseEnd (s : ByteArray) (e : Ending) : Prop :=
  (∃ v, IsNum s v ∧ e = .returned (.tuple #[.int .i64 v, .bool true])) ∨ (NoNum s ∧ e = .returned (.tuple #[.int .i64 0, .bool false]))
theorem ParseEnd.yes {s : ByteArray} {e : Ending} {v : Int} (h : ParseEnd s e) (hv : IsNum s v) : e = .returned (.tuple #[.int .i64 v, .bool true]) := by
  rcases h with ⟨u, hu, rfl⟩ | ⟨hn, _⟩
  · rw [fmtB_inj (hu.2.trans hv.2.symm)]
  · exact absurd hv.2 (hn v hv.1)
theorem ParseEnd.no {s : ByteArray} {e : Ending} (h : ParseEnd s e) (hv : NoNum s) : e = .returned (.tuple #[.int .i64 0, .bool false]) := by
  rcases h with ⟨u, hu, rfl⟩ | ⟨_, rfl⟩
  · exact absurd hu.2 (hv u hu.1)
  · rfl
theorem no_digits {neg : Bool} {s t : ByteArray} (hc : Cut neg s t) (h : digB t.data.toList = false) : NoNum s := fun v hv he => by
  have := (cut_num hc hv he).1
  rw [h] at this; cases this
theorem no_long {neg : Bool} {s t : ByteArray} (hc : Cut neg s t) (h : 19 < t.size) : NoNum s := fun v hv he => by
  have := (cut_num hc hv he).2.1
  omega
theorem no_great {neg : Bool} {s t : ByteArray} (hc : Cut neg s t) (k : Nat) (h : 9223372036854775808 < nval (t.data.toList.take k)) : NoNum s := fun v hv he => by
  have h1 := (cut_num hc hv he).2.2.2.1
  have h2 := nval_le t.data.toList k
  omega
theorem no_edge {s t : ByteArray} (hc : Cut false s t) (h : nval t.data.toList = 9223372036854775808) : NoNum s := fun v hv he => by
  have h1 := (cut_num hc hv he).2.2.2.2 rfl
  omega
theorem no_other {neg : Bool} {s t : ByteArray} (hc : Cut neg s t) (h : fmtB (if neg = true then -(nval t.data.toList : Int) else nval t.data.toList) ≠ s) : NoNum s := fun v hv he => by
  rw [← (cut_num hc hv he).2.2.1] at h
  exact h he
theorem dig_at {t : ByteArray} (h : digB t.data.toList = true) (k : Nat) (hk : k < t.size) : 48 ≤ t[k].toNat ∧ t[k].toNat ≤ 57 := by
  unfold digB at h
  rw [Bool.and_eq_true] at h
  have := List.all_eq_true.1 h.1 (t[k]) (by rw [← bytes_get t k hk]; exact List.getElem_mem _)
  exact (isDig_iff _).1 this

theorem edge_div (d : Int) (h1 : d ≤ 9) (h0 : 0 ≤ d) : (-9223372036854775808 + d).tdiv 10 = -((9223372036854775808 - d) / 10) := by
  rw [show (-9223372036854775808 + d) = -(9223372036854775808 - d) from by omega, Int.neg_tdiv, Int.tdiv_eq_ediv_of_nonneg (by omega)]
theorem ov_yes (a d : Int) (h1 : d ≤ 9) (h0 : 0 ≤ d) (h : -a < (-9223372036854775808 + d).tdiv 10) : 9223372036854775808 < a * 10 + d := by
  rw [edge_div d h1 h0] at h; omega
theorem ov_no (a d : Int) (h1 : d ≤ 9) (h0 : 0 ≤ d) (h : ¬ -a < (-9223372036854775808 + d).tdiv 10) : a * 10 + d ≤ 9223372036854775808 := by
  rw [edge_div d h1 h0] at h; omega
end Go.Proofs.YtooanejiadbngaaGreatDoor

/- Words on memory: a slice that reads as a list of cells; what the law's own helpers do. -/
namespace Go.Proofs.YtooanejiadbngaaGreatDoor
open Go.RowKit
set_option linter.unusedVariables false

/-- The slice value v has the cells xs. -/
def Rd (w : World) (v : Value) (xs : List Value) : Prop :=
  ∃ (A : Option Addr) (c : Nat), v = .slice A xs.length c ∧ (0 < xs.length → ∃ g o, A = some ⟨g, o, none⟩ ∧ g < w.heap.size ∧ ∀ j u, xs[j]? = some u → w.cell? ⟨g, o + j, none⟩ = some u)

theorem Rd.of_own {w : World} {base : Nat} {e : TypeId} {v : Value} {n : Nat} {xs : List Value} (h : w.ownsRow base e 1 v n xs) : Rd w v xs := by
  have hx : xs.length = n := by have := h.1; omega
  rcases h.2 with ⟨rfl, rfl⟩ | ⟨g, cap, cur, rfl, hb, hh, hn, hc, hs, ht⟩
  · exact ⟨none, 0, by rw [hx], fun h0 => by omega⟩
  · refine ⟨some ⟨g, 0, none⟩, cap, by rw [hx], fun _ => ⟨g, 0, rfl, (Array.getElem?_eq_some_iff.1 hh).1, fun j u hu => ?_⟩⟩
    rw [Nat.zero_add]
    by_cases hj : j < n
    · rw [World.ownsRow.cellAt h j (by omega)]; exact hu
    · rw [List.getElem?_eq_none (by omega)] at hu; cases hu

theorem Rd.keep {w w' : World} {v : Value} {xs : List Value} (h : Rd w v xs) (hs : w.heap.size ≤ w'.heap.size) (hk : ∀ p : Addr, p.block < w.heap.size → w'.cell? p = w.cell? p) : Rd w' v xs := by
  obtain ⟨A, c, hv, hc⟩ := h
  refine ⟨A, c, hv, fun h0 => ?_⟩
  obtain ⟨g, o, hA, hg, hcell⟩ := hc h0
  exact ⟨g, o, hA, by omega, fun j u hu => (hk _ hg).trans (hcell j u hu)⟩
theorem Rd.below {w w' : World} {v : Value} {xs : List Value} (h : Rd w v xs) (hb : Below w.heap.size w w') : Rd w' v xs := h.keep hb.size fun _ hp => hb.cell hp
theorem Rd.drewN {w : World} {v : Value} {xs : List Value} (h : Rd w v xs) (n : Nat) : Rd (w.drewN n) v xs := h

theorem own_len {w : World} {base : Nat} {e : TypeId} {v : Value} {n : Nat} {xs : List Value} (h : w.ownsRow base e 1 v n xs) : xs.length = n := by have := h.1; omega
theorem own_below {w w' : World} {base : Nat} {e : TypeId} {size : Nat} {v : Value} {n : Nat} {xs : List Value} (h : w.ownsRow base e size v n xs) (hb : Below w.heap.size w w') : w'.ownsRow base e size v n xs :=
  h.kept (row := none) ⟨hb.os, hb.tape, hb.output, hb.size, fun k hk _ => hb.block k hk⟩ (by cases hv : v.ownBlock <;> simp)
theorem own_base {w : World} {base base' : Nat} {e : TypeId} {size : Nat} {v : Value} {n : Nat} {xs : List Value} (h : w.ownsRow base e size v n xs) (hb : base' ≤ base) : w.ownsRow base' e size v n xs := by
  refine ⟨h.1, ?_⟩
  rcases h.2 with hn | ⟨g, cap, cur, hv, hg, rest⟩
  · exact .inl hn
  · exact .inr ⟨g, cap, cur, hv, by omega, rest⟩
theorem below_drewN {B : Nat} {a w : World} (h : Below B a w) (n : Nat) : Below B a (w.drewN n) := ⟨h.os, h.tape, h.output, h.size, h.block⟩
theorem own_drewN {w : World} {base : Nat} {e : TypeId} {size : Nat} {v : Value} {n : Nat} {xs : List Value} (h : w.ownsRow base e size v n xs) (k : Nat) : (w.drewN k).ownsRow base e size v n xs := h

/-- The cells of a list of texts. -/
def strs (l : List ByteArray) : List Value := l.map Value.string
theorem strs_length (l : List ByteArray) : (strs l).length = l.length := List.length_map _
theorem strs_get (l : List ByteArray) (k : Nat) (h : k < l.length) : (strs l)[k]? = some (.string l[k]) := by simp [strs, h]

theorem list_ne {α : Type} {a b : List α} (k : Nat) (ha : k < a.length) (hb : k < b.length) (h : a[k] ≠ b[k]) : a ≠ b := by
  rintro rfl; exact h rfl
theorem strs_snoc2 (l : List ByteArray) (x : ByteArray) : strs (l ++ [x]) = strs l ++ [.string x] := by simp [strs]
theorem take_snoc_eq {α : Type} {a b : List α} (k : Nat) (ha : k < a.length) (hb : k < b.length) (h : a.take k = b.take k) (he : a[k] = b[k]) : a.take (k + 1) = b.take (k + 1) := by
  rw [List.take_succ_eq_append_getElem ha, List.take_succ_eq_append_getElem hb, h, he]

theorem list_eq_of_take {α : Type} {a b : List α} (k : Nat) (ha : a.length ≤ k) (hb : b.length ≤ k) (h : a.take k = b.take k) : a = b := by
  rw [List.take_of_length_le ha, List.take_of_length_le hb] at h; exact h
theorem bytes_inj {x y : ByteArray} (h : x.toList = y.toList) : x = y := by
  rw [ByteArray.toList_eq, ByteArray.toList_eq] at h
  exact ByteArray.ext (Array.ext' h)
theorem str_ne_no {x y : ByteArray} (h : x = y) : (!x.toList == y.toList) = false := by subst h; simp
theorem str_ne_yes {x y : ByteArray} (h : x ≠ y) : (!x.toList == y.toList) = true := by
  have : x.toList ≠ y.toList := fun e => h (bytes_inj e)
  simp [this]
theorem str_eq_of {x y : ByteArray} (h : (!x.toList == y.toList) = false) : x = y := by
  by_cases he : x = y
  · exact he
  · rw [str_ne_yes he] at h; cases h
theorem str_ne_of {x y : ByteArray} (h : (!x.toList == y.toList) = true) : x ≠ y := by
  intro he; rw [str_ne_no he] at h; cases h

theorem below_of_grown {W w' : World} {base : Nat} {e : TypeId} {size : Nat} {v : Value} {n : Nat} {xs : List Value} (hown : W.ownsRow base e size v n xs) (hg : W.grownBy w' v.ownBlock) (hb : base ≤ W.heap.size) : Below base W w' :=
  (Below.refl base W).grown hg hb fun k hk => (hown.lt k hk).1
theorem own_alloc_block {W : World} {base : Nat} {e : TypeId} {size : Nat} {v : Value} {n : Nat} {xs : List Value} (hown : W.ownsRow base e size v n xs) (o : Obj) : (W.alloc o).ownsRow base e size v n xs := hown.alloc o

/-- 'out = append(out, u)', u of one cell, out the call's own. -/
theorem append_one {P : Program} {ops : Array Oper} {rest : List Oper} {o : Oper} {a : Act} {Q : Exit → Act → World → Prop} (hgd : o.guard = none) (s x : Operand) (t : TypeId)
    (ho : o.op = .call { callee := .builtin .append, args := #[s, x], argTypes := #[t, t] })
    (base : Nat) (e : TypeId) (i : TypeInfo) (z : Value) (bytes : Nat) (ht : P.underlying t = some (.slice e)) (hi : P.info? e = some i) (hz : i.zero = some z)
    (hsize : i.size = 1) (hby : i.bytes = bytes) (hzs : z.cells.size = 1) (v : Value) (n : Nat) (xs : List Value) (hs : a.eval s = v) (W : World) (u : Value)
    (hx : a.eval x = .slice (some ⟨W.heap.size, 0, none⟩) 1 1) (h1 : u.oneCell' = true) (hown : W.ownsRow base e 1 v n xs) (hbytes : (n + 1) * bytes ≤ 140737488355328) (hn : n + 1 ≤ 9223372036854775807) (hbase : base ≤ W.heap.size)
    (h : ∀ v' w', w'.ownsRow base e 1 v' (n + 1) (xs ++ [u]) → Below base W w' → wpList P ops Q rest (a.put o.dst v') w') : wpList P ops Q (o :: rest) a (W.alloc (.cells #[u] e)) := by
  refine wpList_append_own _ hgd s x t ho base e i z 1 bytes ht hi hz hsize hby hzs (by decide) v n xs hs (hown.alloc _) ⟨W.heap.size, 0, none⟩ 1 1 [u] hx rfl ?_ ?_ (by unfold maxLen; omega) hbytes (by simp; omega) ?_
  · intro j y hj
    match j, hj with
    | 0, hj => simp at hj; subst hj; simp [Addr.add]
  · intro y hy
    simp at hy
    subst hy
    exact h1
  · intro v' w' hown' hg _
    refine h v' w' hown' ?_
    exact ((Below.refl base W).alloc hbase _).trans (below_of_grown (hown.alloc _) hg (by simp; omega))

/-- .. and what is written: the row's own block alone. -/
theorem append_one_g {P : Program} {ops : Array Oper} {rest : List Oper} {o : Oper} {a : Act} {Q : Exit → Act → World → Prop} (hgd : o.guard = none) (s x : Operand) (t : TypeId)
    (ho : o.op = .call { callee := .builtin .append, args := #[s, x], argTypes := #[t, t] })
    (base : Nat) (e : TypeId) (i : TypeInfo) (z : Value) (bytes : Nat) (ht : P.underlying t = some (.slice e)) (hi : P.info? e = some i) (hz : i.zero = some z)
    (hsize : i.size = 1) (hby : i.bytes = bytes) (hzs : z.cells.size = 1) (v : Value) (n : Nat) (xs : List Value) (hs : a.eval s = v) (W : World) (u : Value)
    (hx : a.eval x = .slice (some ⟨W.heap.size, 0, none⟩) 1 1) (h1 : u.oneCell' = true) (hown : W.ownsRow base e 1 v n xs) (hbytes : (n + 1) * bytes ≤ 140737488355328) (hn : n + 1 ≤ 9223372036854775807) (hbase : base ≤ W.heap.size)
    (h : ∀ v' w', w'.ownsRow base e 1 v' (n + 1) (xs ++ [u]) → (W.alloc (.cells #[u] e)).grownBy w' v.ownBlock → wpList P ops Q rest (a.put o.dst v') w') : wpList P ops Q (o :: rest) a (W.alloc (.cells #[u] e)) := by
  refine wpList_append_own _ hgd s x t ho base e i z 1 bytes ht hi hz hsize hby hzs (by decide) v n xs hs (hown.alloc _) ⟨W.heap.size, 0, none⟩ 1 1 [u] hx rfl ?_ ?_ (by unfold maxLen; omega) hbytes (by simp; omega) ?_
  · intro j y hj
    match j, hj with
    | 0, hj => simp at hj; subst hj; simp [Addr.add]
  · intro y hy
    simp at hy
    subst hy
    exact h1
  · intro v' w' hown' hg _
    exact h v' w' hown' hg

/-- A slice of texts that came in: it reads as xs; each text fits. -/
def IsStrs (w : World) (A : Option Addr) (len cap : Nat) (xs : List ByteArray) : Prop :=
  xs.length = len ∧ len ≤ cap ∧ cap ≤ maxLen ∧ Rd w (.slice A len cap) (strs xs) ∧ ∀ x ∈ xs, x.size ≤ maxLen

theorem open_strs {H : Type} {enc : TypeId × Value → H} {P : Program} {w : World} {base : Nat} {spare : Nat → Bool} {held : Bool} {t e : TypeId} {A : Option Addr} {len cap : Nat} {d : DataW H} {ps : List MemPlace}
    (ht : P.underlying t = some (.slice e)) (he : P.underlying e = some .string) (hc : P.cellsOf e = 1) (h : DataW.Trod enc P w base spare held t (.slice A len cap) d ps) : ∃ xs, IsStrs w A len cap xs := by
  obtain ⟨fuel, hf⟩ := h
  rcases _root_.Go.ChangeShapes.open_strings ht he hc hf with ⟨hcs, _⟩ | ⟨a, l, c, ss, hcs, _, hl, hm, hz, _, hcell, hws⟩
  · simp [Value.cells] at hcs
    obtain ⟨rfl, rfl, rfl⟩ := hcs
    exact ⟨[], rfl, Nat.le_refl _, by unfold maxLen; omega, ⟨none, 0, rfl, fun h0 => by simp [strs] at h0⟩, fun x hx => by cases hx⟩
  · simp [Value.cells] at hcs
    obtain ⟨rfl, rfl, rfl⟩ := hcs
    have hsl : len ≤ ss.length := by rw [hz]; split <;> omega
    have htl : (ss.take len).length = len := by rw [List.length_take]; omega
    refine ⟨ss.take len, htl, hl, hm, ⟨some a, cap, by rw [strs_length, htl], fun h0 => ?_⟩, fun x hx => hws x (List.mem_of_mem_take hx)⟩
    rw [strs_length, htl] at h0
    have hc0 := hcell 0 (by omega)
    obtain ⟨b, off, spot⟩ := a
    have hspot : spot = none := by simpa [Addr.add] using World.cell?_spot hc0
    subst hspot
    refine ⟨b, off, rfl, by simpa [Addr.add] using World.block_lt_of_cell? w _ hc0, fun j u hu => ?_⟩
    have hj : j < len := by
      rcases Nat.lt_or_ge j len with h | h
      · exact h
      · rw [List.getElem?_eq_none (by rw [strs_length, htl]; exact h)] at hu; cases hu
    have hcj := hcell j (by omega)
    have hadd : (⟨b, off, none⟩ : Addr).add j = ⟨b, off + j, none⟩ := by unfold Addr.add; split <;> simp_all
    rw [hadd] at hcj
    rw [hcj, ← hu, strs_get _ j (by omega), List.getElem_take, List.getD_eq_getElem?_getD, List.getElem?_eq_getElem (by omega)]
    rfl
theorem own_ne {w w1 w2 : World} {b0 : Nat} {e : TypeId} {v0 v1 : Value} {n m : Nat} {xs ys : List Value} (h0 : w1.ownsRow b0 e 1 v0 n xs) (h1 : w2.ownsRow w1.heap.size e 1 v1 m ys) : v0.ownBlock = none ∨ v0.ownBlock ≠ v1.ownBlock := by
  cases hv : v0.ownBlock with
  | none => exact .inl rfl
  | some k =>
    refine .inr fun he => ?_
    have a := (h0.lt k hv).2
    have b := (h1.lt k he.symm).1
    omega

theorem below_marked {w W W' : World} {b1 : Nat} {e : TypeId} {v : Value} {n : Nat} {xs : List Value} (h : Below w.heap.size w W) (ho : W.ownsRow b1 e 1 v n xs) (hB : w.heap.size ≤ b1) (hg : W.grownBy W' v.ownBlock) : Below w.heap.size w W' :=
  h.grown hg h.size fun k hk => Nat.le_trans hB (ho.lt k hk).1

/-! ### memory -/
/-- An owned list of texts lies at the head of a block. -/
theorem own_cells {w : World} {base : Nat} {e : TypeId} {v : Value} {n : Nat} {xs : List Value} (h : w.ownsRow base e 1 v n xs) (hn : 0 < n) :
    ∃ g c, v = .slice (some ⟨g, 0, none⟩) n c ∧ base ≤ g ∧ g < w.heap.size ∧ ∀ j u, xs[j]? = some u → w.cell? ⟨g, j, none⟩ = some u := by
  rcases h.2 with ⟨_, rfl⟩ | ⟨g, cap, cur, rfl, hb, hh, hn', hc, hs, ht⟩
  · have := h.1
    simp at this
    omega
  · refine ⟨g, cap, rfl, hb, (Array.getElem?_eq_some_iff.1 hh).1, fun j u hu => ?_⟩
    have hx : xs.length = n := own_len h
    by_cases hj : j < n
    · rw [World.ownsRow.cellAt h j (by omega)]; exact hu
    · rw [List.getElem?_eq_none (by omega)] at hu; cases hu
/-- Block g holds the cells cs. -/
def Blk (W : World) (g : Nat) (T : TypeId) (cs : Array Value) : Prop := W.heap[g]? = some (.cells cs T (0, 0))
theorem Blk.lt {W : World} {g : Nat} {T : TypeId} {cs : Array Value} (h : Blk W g T cs) : g < W.heap.size := (Array.getElem?_eq_some_iff.1 h).1
theorem Blk.below {W W' : World} {A g : Nat} {T : TypeId} {cs : Array Value} (h : Blk W g T cs) (hb : Below A W W') (hg : g < A) : Blk W' g T cs := (hb.block g hg).trans h
theorem Blk.after {W W' : World} {g : Nat} {T : TypeId} {cs : Array Value} (h : Blk W g T cs) (hb : Below W.heap.size W W') : Blk W' g T cs := h.below hb h.lt
theorem Blk.cell {W : World} {g : Nat} {T : TypeId} {cs : Array Value} (h : Blk W g T cs) (j : Nat) : W.cell? ⟨g, j, none⟩ = cs[j]? := cell_of_row W g j cs T (0, 0) h
theorem Blk.free {W : World} {g : Nat} {T : TypeId} {cs : Array Value} (h : Blk W g T cs) (j : Nat) : W.frozen? ⟨g, j, none⟩ = false := by
  unfold Blk at h
  simp [World.frozen?, h]
theorem Blk.set {W : World} {g : Nat} {T : TypeId} {cs : Array Value} (h : Blk W g T cs) (j : Nat) (u : Value) : Blk (W.setCell ⟨g, j, none⟩ u) g T (cs.setIfInBounds j u) := by
  unfold Blk at h ⊢
  simp [World.setCell, Array.getElem?_modify, h]
theorem Blk.new (w : World) (T : TypeId) (cs : Array Value) : Blk (w.alloc (.cells cs T)) w.heap.size T cs := heap_alloc_new w _
theorem Blk.row {W : World} {g : Nat} {T : TypeId} {cs cs' : Array Value} (h : Blk W g T cs) : Blk (W.setRow g cs') g T cs' := setRow_heap W g cs cs' T _ h
theorem Blk.other {W : World} {g g' j : Nat} {u : Value} {T : TypeId} {cs : Array Value} (h : Blk W g T cs) (hne : g' ≠ g) : Blk (W.setCell ⟨g', j, none⟩ u) g T cs := by
  unfold Blk at h ⊢
  simp [World.setCell, Array.getElem?_modify, hne, h]
theorem below_row {B : Nat} {a W : World} {g : Nat} {cs : Array Value} (h : Below B a W) (hg : B ≤ g) : Below B a (W.setRow g cs) := by
  refine ⟨h.os, h.tape, h.output, ?_, fun k hk => ?_⟩
  · have : (W.setRow g cs).heap.size = W.heap.size := by simp [World.setRow]
    rw [this]; exact h.size
  · refine Eq.trans ?_ (h.block k hk)
    have : g ≠ k := by omega
    simp [World.setRow, Array.getElem?_modify, this]
end Go.Proofs.YtooanejiadbngaaGreatDoor

/- Words on slices of integers: what the law's own helpers do with them (eqIntS, markIntS, heldIntS). -/
namespace Go.Proofs.YtooanejiadbngaaGreatDoor
open Go.RowKit

/-- The cells of a list of integers. -/
def ints (l : List Int) : List Value := l.map (Value.int .i64)
theorem ints_length (l : List Int) : (ints l).length = l.length := List.length_map _
theorem ints_get (l : List Int) (k : Nat) (h : k < l.length) : (ints l)[k]? = some (.int .i64 l[k]) := by simp [ints, h]
theorem ints_snoc (l : List Int) (x : Int) : ints (l ++ [x]) = ints l ++ [.int .i64 x] := by simp [ints]
theorem int_ne_of {x y : Int} (h : (x != y) = true) : x ≠ y := by simpa using h
theorem int_eq_of {x y : Int} (h : (x != y) = false) : x = y := by simpa using h

/-- The numbers k, k + 1, .. of n cells. -/
def imarks (k n : Nat) : List Int := (List.range n).map fun j => ((k + j : Nat) : Int)
theorem imarks_length (k n : Nat) : (imarks k n).length = n := by simp [imarks]
theorem imarks_get (k n j : Nat) (h : j < n) : (ints (imarks k n))[j]? = some (.int .i64 ((k + j : Nat) : Int)) := by simp [ints, imarks, h]
/-- j cells marked, the others as they were. -/
def imarked (k j : Nat) (xs : List Value) : List Value := ints (imarks k j) ++ xs.drop j
theorem imarked_zero (k : Nat) (xs : List Value) : imarked k 0 xs = xs := by simp [imarked, imarks, ints]
theorem imarked_all (k : Nat) (xs : List Value) : imarked k xs.length xs = ints (imarks k xs.length) := by simp [imarked]
theorem imarked_step (k j : Nat) (xs : List Value) (h : j < xs.length) : (imarked k j xs).set j (.int .i64 ((k + j : Nat) : Int)) = imarked k (j + 1) xs := by
  unfold imarked
  have hl : (ints (imarks k j)).length = j := by rw [ints_length, imarks_length]
  rw [List.set_append_right _ _ (by omega), hl, Nat.sub_self, List.drop_eq_getElem_cons h, List.set_cons_zero]
  have e : ints (imarks k (j + 1)) = ints (imarks k j) ++ [.int .i64 ((k + j : Nat) : Int)] := by simp [ints, imarks, List.range_succ]
  rw [e]; simp
theorem ionly_trans {a b c : World} {row : Option Nat} (h : a.grownBy b row) (k : b.grownBy c row) : a.grownBy c row :=
  ⟨k.os.trans h.os, k.tape.trans h.tape, k.output.trans h.output, Nat.le_trans h.size k.size, fun i hi hn => (k.block i (Nat.lt_of_lt_of_le hi h.size) hn).trans (h.block i hi hn)⟩

end Go.Proofs.YtooanejiadbngaaGreatDoor

/- Characters: plain arithmetic on the decoder; no walk. -/
namespace Go.Proofs.YtooanejiadbngaaGreatDoor
open Go.RowKit
set_option linter.unusedVariables false

/-- The k-th byte as a number; 0 beyond the end. -/
def by8 (s : ByteArray) (k : Nat) : Nat := (s.get! k).toNat
theorem by8_lt (s : ByteArray) (k : Nat) : by8 s k < 256 := (s.get! k).toNat_lt
theorem get!_lt (s : ByteArray) (k : Nat) (h : k < s.size) : s.get! k = s[k]'h := by
  cases s with
  | mk d => exact getElem!_pos d k h
theorem by8_of (s : ByteArray) (k : Nat) (h : k < s.size) : by8 s k = (s[k]'h).toNat := by unfold by8; rw [get!_lt s k h]

/-- A character's code and length, out of what the decoder of the model gives. -/
def chOf (d : Nat × Nat) : Int × Nat := if d.1 = 65533 ∧ d.2 = 1 then (-1, 1) else ((d.1 : Int), d.2)
/-- The character at index i. -/
def ch (s : ByteArray) (i : Nat) : Int × Nat := chOf (Utf8.decode s i)
/-- The same of a length and four bytes. -/
def chN (n b0 b1 b2 b3 : Nat) : Int × Nat := chOf (Lib.decodeN n b0 b1 b2 b3)
theorem ch_eq (s : ByteArray) (i : Nat) : ch s i = chN (s.size - i) (by8 s i) (by8 s (i + 1)) (by8 s (i + 2)) (by8 s (i + 3)) := by
  unfold ch chN; rw [Lib.decode_at]; rfl

theorem chN_len (n b0 b1 b2 b3 : Nat) (hn : 1 ≤ n) : 1 ≤ (chN n b0 b1 b2 b3).2 ∧ (chN n b0 b1 b2 b3).2 ≤ n ∧ (chN n b0 b1 b2 b3).2 ≤ 4 := by
  unfold chN chOf Lib.decodeN
  repeat' split
  all_goals (simp only; omega)
theorem ch_len (s : ByteArray) (i : Nat) (h : i < s.size) : 1 ≤ (ch s i).2 ∧ i + (ch s i).2 ≤ s.size ∧ (ch s i).2 ≤ 4 := by
  rw [ch_eq]
  have := chN_len (s.size - i) (by8 s i) (by8 s (i + 1)) (by8 s (i + 2)) (by8 s (i + 3)) (by omega)
  omega
set_option maxRecDepth 100000 in
set_option maxHeartbeats 2000000 in
theorem chN_code (n b0 b1 b2 b3 : Nat) : -1 ≤ (chN n b0 b1 b2 b3).1 ∧ (chN n b0 b1 b2 b3).1 ≤ 1114111 := by
  unfold chN chOf Lib.decodeN
  repeat' split
  all_goals (simp only; first | omega | (simp only at *; omega))
theorem ch_code (s : ByteArray) (i : Nat) : -1 ≤ (ch s i).1 ∧ (ch s i).1 ≤ 1114111 := by rw [ch_eq]; exact chN_code ..

/-- What a first byte announces. -/
def needN (b : Nat) : Nat := if b < 128 then 1 else if b < 194 then 0 else if b < 224 then 2 else if b < 240 then 3 else if b < 245 then 4 else 0
def needR (b : Nat) : Nat := if b < 128 then b else if b < 194 then 0 else if b < 224 then b - 192 else if b < 240 then b - 224 else if b < 245 then b - 240 else 0
theorem needN_le (b : Nat) : needN b ≤ 4 := by unfold needN; ((repeat' split) <;> omega)
theorem needR_le (b : Nat) : needR b ≤ 127 := by unfold needR; ((repeat' split) <;> omega)
/-- The continuation bytes of m places from p on, added to r. -/
def foldC (s : ByteArray) : Nat → Nat → Nat → Option Nat
  | 0, _, r => some r
  | m + 1, p, r => if 128 ≤ by8 s p ∧ by8 s p ≤ 191 then foldC s m (p + 1) (64 * r + by8 s p - 128) else none
def leastN (n : Nat) : Nat := if n = 2 then 128 else if n = 3 then 2048 else if n = 4 then 65536 else 0
/-- Is r a code point? -/
def pointB (r : Int) : Bool := decide (0 ≤ r ∧ r ≤ 1114111) && !decide (55296 ≤ r ∧ r ≤ 57343)
theorem pointB_iff (r : Int) : pointB r = true ↔ (0 ≤ r ∧ r ≤ 1114111) ∧ ¬ (55296 ≤ r ∧ r ≤ 57343) := by
  unfold pointB; rw [Bool.and_eq_true, Bool.not_eq_true', decide_eq_true_iff, decide_eq_false_iff_not]
theorem pointB_not (r : Int) : pointB r = false ↔ ¬ ((0 ≤ r ∧ r ≤ 1114111) ∧ ¬ (55296 ≤ r ∧ r ≤ 57343)) := by
  rw [← pointB_iff]; cases pointB r <;> simp

/-- What is answered of the bits that were read. -/
def endC (n : Nat) : Option Nat → Int × Nat
  | none => (-1, 1)
  | some r => if r < leastN n ∨ pointB r = false then (-1, 1) else ((r : Int), n)
def specCh (s : ByteArray) (i : Nat) : Int × Nat :=
  if needN (by8 s i) = 0 ∨ s.size < i + needN (by8 s i) then (-1, 1) else endC (needN (by8 s i)) (foldC s (needN (by8 s i) - 1) (i + 1) (needR (by8 s i)))

theorem chOf_bad : chOf (65533, 1) = (-1, 1) := by unfold chOf; rw [if_pos ⟨rfl, rfl⟩]
theorem chOf_big (r m : Nat) (h : 2 ≤ m) : chOf (r, m) = ((r : Int), m) := by
  unfold chOf; rw [if_neg (by intro h2; have := h2.2; simp only at this; omega)]
theorem chOf_small (r : Nat) (h : r < 128) : chOf (r, 1) = ((r : Int), 1) := by
  unfold chOf; rw [if_neg (by intro h2; have := h2.1; simp only at this; omega)]
theorem endC_some (n r : Nat) : endC n (some r) = if r < leastN n ∨ (1114111 < r ∨ (55296 ≤ r ∧ r ≤ 57343)) then (-1, 1) else ((r : Int), n) := by
  have hp : (pointB (r : Int) = false) = (1114111 < r ∨ (55296 ≤ r ∧ r ≤ 57343)) := by
    rw [pointB_not]; apply propext; omega
  simp only [endC, hp]
theorem leastN2 : leastN 2 = 128 := rfl
theorem leastN3 : leastN 3 = 2048 := rfl
theorem leastN4 : leastN 4 = 65536 := rfl
theorem endC_none (n : Nat) : endC n none = (-1, 1) := rfl

set_option maxRecDepth 100000 in
set_option maxHeartbeats 4000000 in
theorem specCh_eq (s : ByteArray) (i : Nat) (h : i < s.size) : specCh s i = ch s i := by
  rw [ch_eq]
  unfold specCh
  have l0 := by8_lt s i; have l1 := by8_lt s (i + 1); have l2 := by8_lt s (i + 2); have l3 := by8_lt s (i + 3)
  have f1 : ∀ r, foldC s (2 - 1) (i + 1) r = if 128 ≤ by8 s (i + 1) ∧ by8 s (i + 1) ≤ 191 then some (64 * r + by8 s (i + 1) - 128) else none := fun r => rfl
  have f2 : ∀ r, foldC s (3 - 1) (i + 1) r = if 128 ≤ by8 s (i + 1) ∧ by8 s (i + 1) ≤ 191 then (if 128 ≤ by8 s (i + 2) ∧ by8 s (i + 2) ≤ 191 then some (64 * (64 * r + by8 s (i + 1) - 128) + by8 s (i + 2) - 128) else none) else none := fun r => rfl
  have f3 : ∀ r, foldC s (4 - 1) (i + 1) r = if 128 ≤ by8 s (i + 1) ∧ by8 s (i + 1) ≤ 191 then (if 128 ≤ by8 s (i + 2) ∧ by8 s (i + 2) ≤ 191 then (if 128 ≤ by8 s (i + 3) ∧ by8 s (i + 3) ≤ 191 then some (64 * (64 * (64 * r + by8 s (i + 1) - 128) + by8 s (i + 2) - 128) + by8 s (i + 3) - 128) else none) else none) else none := fun r => rfl
  have f0 : ∀ r, foldC s (1 - 1) (i + 1) r = some r := fun r => rfl
  obtain ⟨n, hn⟩ : ∃ n, n = s.size - i := ⟨_, rfl⟩
  rw [← hn]
  have hsz : s.size = i + n := by omega
  rw [hsz]
  have hn1 : 1 ≤ n := by omega
  clear h hn hsz
  generalize by8 s i = b0 at *
  generalize by8 s (i + 1) = b1 at *
  generalize by8 s (i + 2) = b2 at *
  generalize by8 s (i + 3) = b3 at *
  have c : b0 < 128 ∨ (128 ≤ b0 ∧ b0 < 194) ∨ (194 ≤ b0 ∧ b0 < 224) ∨ (224 ≤ b0 ∧ b0 < 240) ∨ (240 ≤ b0 ∧ b0 < 245) ∨ 245 ≤ b0 := by omega
  unfold chN
  rcases c with c | c | c | c | c | c
  · have e1 : needN b0 = 1 := by unfold needN; rw [if_pos c]
    have e2 : needR b0 = b0 := by unfold needR; rw [if_pos c]
    have e3 : Lib.decodeN n b0 b1 b2 b3 = (b0, 1) := by unfold Lib.decodeN; rw [if_pos c]
    rw [e1, e2, e3, if_neg (by omega), f0, endC_some, chOf_small _ c, if_neg (by simp [leastN]; omega)]
  · have e1 : needN b0 = 0 := by unfold needN; rw [if_neg (by omega), if_pos (by omega)]
    have e3 : Lib.decodeN n b0 b1 b2 b3 = (65533, 1) := by
      unfold Lib.decodeN
      rw [if_neg (by omega), if_neg (c := b0 / 16 = 14 ∧ _) (by omega), if_neg (c := b0 / 8 = 30 ∧ _) (by omega)]
      split
      · rw [if_neg (by omega)]
      · rfl
    rw [e1, e3, if_pos (.inl rfl), chOf_bad]
  · have e1 : needN b0 = 2 := by unfold needN; (repeat' split) <;> omega
    have e2 : needR b0 = b0 - 192 := by unfold needR; (repeat' split) <;> omega
    have e3 : Lib.decodeN n b0 b1 b2 b3 = if 1 < n ∧ b1 / 64 = 2 then (if b0 % 32 * 64 + b1 % 64 ≥ 128 then (b0 % 32 * 64 + b1 % 64, 2) else (65533, 1)) else (65533, 1) := by
      unfold Lib.decodeN
      rw [if_neg (by omega), if_neg (c := b0 / 16 = 14 ∧ _) (by omega), if_neg (c := b0 / 8 = 30 ∧ _) (by omega)]
      by_cases hc : 1 < n ∧ b1 / 64 = 2
      · rw [if_pos ⟨by omega, hc⟩, if_pos hc]
      · rw [if_neg (fun h => hc h.2), if_neg hc]
    rw [e1, e2, e3, f1]
    by_cases hc : 1 < n ∧ b1 / 64 = 2
    · rw [if_pos hc, if_neg (by omega), if_pos (by omega), endC_some, show 64 * (b0 - 192) + b1 - 128 = b0 % 32 * 64 + b1 % 64 by omega, if_pos (c := _ ≥ 128) (by omega), chOf_big _ _ (by omega), if_neg (by rw [leastN2]; omega)]
    · rw [if_neg (c := 1 < n ∧ b1 / 64 = 2) hc, chOf_bad]
      by_cases h1 : (2 = 0 ∨ i + n < i + 2)
      · rw [if_pos h1]
      · rw [if_neg h1, if_neg (by omega), endC_none]
  · have e1 : needN b0 = 3 := by unfold needN; (repeat' split) <;> omega
    have e2 : needR b0 = b0 - 224 := by unfold needR; (repeat' split) <;> omega
    have e3 : Lib.decodeN n b0 b1 b2 b3 = if (1 < n ∧ b1 / 64 = 2) ∧ (2 < n ∧ b2 / 64 = 2) then (if b0 % 16 * 4096 + b1 % 64 * 64 + b2 % 64 ≥ 2048 ∧ (b0 % 16 * 4096 + b1 % 64 * 64 + b2 % 64 < 55296 ∨ (57344 ≤ b0 % 16 * 4096 + b1 % 64 * 64 + b2 % 64 ∧ b0 % 16 * 4096 + b1 % 64 * 64 + b2 % 64 ≤ 1114111)) then (b0 % 16 * 4096 + b1 % 64 * 64 + b2 % 64, 3) else (65533, 1)) else (65533, 1) := by
      unfold Lib.decodeN
      rw [if_neg (by omega), if_neg (c := b0 / 32 = 6 ∧ _) (by omega), if_neg (c := b0 / 8 = 30 ∧ _) (by omega)]
      by_cases hc : (1 < n ∧ b1 / 64 = 2) ∧ (2 < n ∧ b2 / 64 = 2)
      · rw [if_pos ⟨by omega, hc⟩, if_pos hc]
      · rw [if_neg (fun h => hc h.2), if_neg hc]
    rw [e1, e2, e3, f2]
    by_cases hc : (1 < n ∧ b1 / 64 = 2) ∧ (2 < n ∧ b2 / 64 = 2)
    · rw [if_pos hc, if_neg (by omega), if_pos (by omega), if_pos (by omega), endC_some, show 64 * (64 * (b0 - 224) + b1 - 128) + b2 - 128 = b0 % 16 * 4096 + b1 % 64 * 64 + b2 % 64 by omega]
      generalize b0 % 16 * 4096 + b1 % 64 * 64 + b2 % 64 = R
      by_cases hR : R ≥ 2048 ∧ (R < 55296 ∨ (57344 ≤ R ∧ R ≤ 1114111))
      · rw [if_pos hR, chOf_big _ _ (by omega), if_neg (by rw [leastN3]; omega)]
      · rw [if_neg hR, chOf_bad, if_pos (by rw [leastN3]; omega)]
    · rw [if_neg (c := (1 < n ∧ b1 / 64 = 2) ∧ (2 < n ∧ b2 / 64 = 2)) hc, chOf_bad]
      by_cases h1 : (3 = 0 ∨ i + n < i + 3)
      · rw [if_pos h1]
      · rw [if_neg h1]
        by_cases h2 : 128 ≤ b1 ∧ b1 ≤ 191
        · rw [if_pos h2, if_neg (by omega), endC_none]
        · rw [if_neg h2, endC_none]
  · have e1 : needN b0 = 4 := by unfold needN; (repeat' split) <;> omega
    have e2 : needR b0 = b0 - 240 := by unfold needR; (repeat' split) <;> omega
    have e3 : Lib.decodeN n b0 b1 b2 b3 = if (1 < n ∧ b1 / 64 = 2) ∧ (2 < n ∧ b2 / 64 = 2) ∧ (3 < n ∧ b3 / 64 = 2) then (if b0 % 8 * 262144 + b1 % 64 * 4096 + b2 % 64 * 64 + b3 % 64 ≥ 65536 ∧ (b0 % 8 * 262144 + b1 % 64 * 4096 + b2 % 64 * 64 + b3 % 64 < 55296 ∨ (57344 ≤ b0 % 8 * 262144 + b1 % 64 * 4096 + b2 % 64 * 64 + b3 % 64 ∧ b0 % 8 * 262144 + b1 % 64 * 4096 + b2 % 64 * 64 + b3 % 64 ≤ 1114111)) then (b0 % 8 * 262144 + b1 % 64 * 4096 + b2 % 64 * 64 + b3 % 64, 4) else (65533, 1)) else (65533, 1) := by
      unfold Lib.decodeN
      rw [if_neg (by omega), if_neg (c := b0 / 32 = 6 ∧ _) (by omega), if_neg (c := b0 / 16 = 14 ∧ _) (by omega)]
      by_cases hc : (1 < n ∧ b1 / 64 = 2) ∧ (2 < n ∧ b2 / 64 = 2) ∧ (3 < n ∧ b3 / 64 = 2)
      · rw [if_pos ⟨by omega, hc⟩, if_pos hc]
      · rw [if_neg (fun h => hc h.2), if_neg hc]
    rw [e1, e2, e3, f3]
    by_cases hc : (1 < n ∧ b1 / 64 = 2) ∧ (2 < n ∧ b2 / 64 = 2) ∧ (3 < n ∧ b3 / 64 = 2)
    · rw [if_pos hc, if_neg (by omega), if_pos (by omega), if_pos (by omega), if_pos (by omega), endC_some, show 64 * (64 * (64 * (b0 - 240) + b1 - 128) + b2 - 128) + b3 - 128 = b0 % 8 * 262144 + b1 % 64 * 4096 + b2 % 64 * 64 + b3 % 64 by omega]
      generalize b0 % 8 * 262144 + b1 % 64 * 4096 + b2 % 64 * 64 + b3 % 64 = R
      by_cases hR : R ≥ 65536 ∧ (R < 55296 ∨ (57344 ≤ R ∧ R ≤ 1114111))
      · rw [if_pos hR, chOf_big _ _ (by omega), if_neg (by rw [leastN4]; omega)]
      · rw [if_neg hR, chOf_bad, if_pos (by rw [leastN4]; omega)]
    · rw [if_neg (c := (1 < n ∧ b1 / 64 = 2) ∧ (2 < n ∧ b2 / 64 = 2) ∧ (3 < n ∧ b3 / 64 = 2)) hc, chOf_bad]
      by_cases h1 : (4 = 0 ∨ i + n < i + 4)
      · rw [if_pos h1]
      · rw [if_neg h1]
        by_cases h2 : 128 ≤ b1 ∧ b1 ≤ 191
        · rw [if_pos h2]
          by_cases h3 : 128 ≤ b2 ∧ b2 ≤ 191
          · rw [if_pos h3, if_neg (by omega), endC_none]
          · rw [if_neg h3, endC_none]
        · rw [if_neg h2, endC_none]
  · have e1 : needN b0 = 0 := by unfold needN; (repeat' split) <;> omega
    have e3 : Lib.decodeN n b0 b1 b2 b3 = (65533, 1) := by
      unfold Lib.decodeN
      rw [if_neg (by omega), if_neg (c := b0 / 32 = 6 ∧ _) (by omega), if_neg (c := b0 / 16 = 14 ∧ _) (by omega)]
      split
      · rw [if_neg (by omega)]
      · rfl
    rw [e1, e3, if_pos (.inl rfl), chOf_bad]

/-- The codes of the characters from index i on. -/
def runesFrom (s : ByteArray) (i : Nat) : List Int :=
  if h : i < s.size then (ch s i).1 :: runesFrom s (i + (ch s i).2) else []
termination_by s.size - i
decreasing_by have := (ch_len s i h).1; omega
/-- The characters from index i on, as texts. -/
def cutsFrom (s : ByteArray) (i : Nat) : List ByteArray :=
  if h : i < s.size then s.extract i (i + (ch s i).2) :: cutsFrom s (i + (ch s i).2) else []
termination_by s.size - i
decreasing_by have := (ch_len s i h).1; omega
/-- The indices at which the characters from index i on end. -/
def endsFrom (s : ByteArray) (i : Nat) : List Int :=
  if h : i < s.size then ((i + (ch s i).2 : Nat) : Int) :: endsFrom s (i + (ch s i).2) else []
termination_by s.size - i
decreasing_by have := (ch_len s i h).1; omega
def runesB (s : ByteArray) : List Int := runesFrom s 0
def cutsB (s : ByteArray) : List ByteArray := cutsFrom s 0
def endsB (s : ByteArray) : List Int := endsFrom s 0

theorem runesFrom_yes (s : ByteArray) (i : Nat) (h : i < s.size) : runesFrom s i = (ch s i).1 :: runesFrom s (i + (ch s i).2) := by rw [runesFrom, dif_pos h]
theorem runesFrom_no (s : ByteArray) (i : Nat) (h : ¬ i < s.size) : runesFrom s i = [] := by rw [runesFrom, dif_neg h]
theorem cutsFrom_yes (s : ByteArray) (i : Nat) (h : i < s.size) : cutsFrom s i = s.extract i (i + (ch s i).2) :: cutsFrom s (i + (ch s i).2) := by rw [cutsFrom, dif_pos h]
theorem cutsFrom_no (s : ByteArray) (i : Nat) (h : ¬ i < s.size) : cutsFrom s i = [] := by rw [cutsFrom, dif_neg h]
theorem endsFrom_yes (s : ByteArray) (i : Nat) (h : i < s.size) : endsFrom s i = ((i + (ch s i).2 : Nat) : Int) :: endsFrom s (i + (ch s i).2) := by rw [endsFrom, dif_pos h]
theorem endsFrom_no (s : ByteArray) (i : Nat) (h : ¬ i < s.size) : endsFrom s i = [] := by rw [endsFrom, dif_neg h]

/-- out holds the part ahead of index i. -/
theorem runes_step (s : ByteArray) (i : Nat) (out : List Int) (h : i < s.size) (ho : out ++ runesFrom s i = runesB s) : (out ++ [(ch s i).1]) ++ runesFrom s (i + (ch s i).2) = runesB s := by
  rw [← ho, runesFrom_yes s i h]; simp
theorem runes_done (s : ByteArray) (i : Nat) (out : List Int) (h : ¬ i < s.size) (ho : out ++ runesFrom s i = runesB s) : out = runesB s := by
  rw [← ho, runesFrom_no s i h, List.append_nil]
theorem cuts_step (s : ByteArray) (i : Nat) (out : List ByteArray) (h : i < s.size) (ho : out ++ cutsFrom s i = cutsB s) : (out ++ [s.extract i (i + (ch s i).2)]) ++ cutsFrom s (i + (ch s i).2) = cutsB s := by
  rw [← ho, cutsFrom_yes s i h]; simp
theorem cuts_done (s : ByteArray) (i : Nat) (out : List ByteArray) (h : ¬ i < s.size) (ho : out ++ cutsFrom s i = cutsB s) : out = cutsB s := by
  rw [← ho, cutsFrom_no s i h, List.append_nil]
theorem ends_step (s : ByteArray) (i : Nat) (out : List Int) (h : i < s.size) (ho : out ++ endsFrom s i = endsB s) : (out ++ [((i + (ch s i).2 : Nat) : Int)]) ++ endsFrom s (i + (ch s i).2) = endsB s := by
  rw [← ho, endsFrom_yes s i h]; simp
theorem ends_done (s : ByteArray) (i : Nat) (out : List Int) (h : ¬ i < s.size) (ho : out ++ endsFrom s i = endsB s) : out = endsB s := by
  rw [← ho, endsFrom_no s i h, List.append_nil]

theorem runesFrom_length (s : ByteArray) (k i : Nat) (hk : s.size - i ≤ k) : (runesFrom s i).length ≤ s.size - i := by
  induction k generalizing i with
  | zero => rw [runesFrom_no s i (by omega)]; simp
  | succ k ih =>
    by_cases h : i < s.size
    · rw [runesFrom_yes s i h]
      have hl := ch_len s i h
      have := ih (i + (ch s i).2) (by omega)
      simp only [List.length_cons]; omega
    · rw [runesFrom_no s i h]; simp
theorem cutsFrom_length (s : ByteArray) (k i : Nat) (hk : s.size - i ≤ k) : (cutsFrom s i).length = (runesFrom s i).length := by
  induction k generalizing i with
  | zero => rw [runesFrom_no s i (by omega), cutsFrom_no s i (by omega)]; rfl
  | succ k ih =>
    by_cases h : i < s.size
    · rw [runesFrom_yes s i h, cutsFrom_yes s i h]
      have hl := ch_len s i h
      have := ih (i + (ch s i).2) (by omega)
      rw [List.length_cons, List.length_cons, this]
    · rw [runesFrom_no s i h, cutsFrom_no s i h]; rfl
theorem endsFrom_length (s : ByteArray) (k i : Nat) (hk : s.size - i ≤ k) : (endsFrom s i).length = (runesFrom s i).length := by
  induction k generalizing i with
  | zero => rw [runesFrom_no s i (by omega), endsFrom_no s i (by omega)]
  | succ k ih =>
    by_cases h : i < s.size
    · rw [runesFrom_yes s i h, endsFrom_yes s i h]
      have hl := ch_len s i h
      have := ih (i + (ch s i).2) (by omega)
      rw [List.length_cons, List.length_cons, this]
    · rw [runesFrom_no s i h, endsFrom_no s i h]
theorem runesB_length (s : ByteArray) : (runesB s).length ≤ s.size := runesFrom_length s s.size 0 (by omega)
theorem cutsB_length (s : ByteArray) : (cutsB s).length = (runesB s).length := cutsFrom_length s s.size 0 (by omega)
theorem endsB_length (s : ByteArray) : (endsB s).length = (runesB s).length := endsFrom_length s s.size 0 (by omega)
theorem out_length {a b c : List Int} (h : a ++ b = c) : a.length ≤ c.length := by rw [← h]; simp
theorem outs_length {a b c : List ByteArray} (h : a ++ b = c) : a.length ≤ c.length := by rw [← h]; simp
end Go.Proofs.YtooanejiadbngaaGreatDoor

/- The model's decoder gives the character at an index. -/
namespace Go.Proofs.YtooanejiadbngaaGreatDoor
open Go.RowKit
set_option linter.unusedVariables false

/-- Is n from lo to hi? -/
def inB (n lo hi : Int) : Bool := decide (lo ≤ n) && decide (n ≤ hi)
theorem inB_yes {n lo hi : Int} (h : lo ≤ n ∧ n ≤ hi) : inB n lo hi = true := by unfold inB; rw [decide_eq_true h.1, decide_eq_true h.2]; rfl
theorem inB_no {n lo hi : Int} (h : ¬ (lo ≤ n ∧ n ≤ hi)) : inB n lo hi = false := by
  unfold inB; rw [← Bool.decide_and]; exact decide_eq_false h
end Go.Proofs.YtooanejiadbngaaGreatDoor

/- The model's RunesOf, CutRunes, IsText, DecodeAt. -/
namespace Go.Proofs.YtooanejiadbngaaGreatDoor
open Go.RowKit
set_option linter.unusedVariables false

theorem Tryz.infoIntS : (Tryz.prog.info? 3).map (fun i => (i.zero, i.size, i.bytes)) = some (some (.int .i64 0), 1, 8) := by kernel_rfl
theorem Tryz.infoStrS : (Tryz.prog.info? 9).map (fun i => (i.zero, i.size, i.bytes)) = some (some (.string ByteArray.empty), 1, 16) := by kernel_rfl

end Go.Proofs.YtooanejiadbngaaGreatDoor

/- SplitAny: the model's and the program's give the same parts, in new memory. -/
namespace Go.Proofs.YtooanejiadbngaaGreatDoor
open Go.RowKit

/-- The parts that are whole ahead of index i, and where the next one begins. -/
def cutAt (s : ByteArray) (p : UInt8 → Bool) : Nat → List ByteArray × Nat
  | 0 => ([], 0)
  | i + 1 => if p (s.data.toList.getD i 0) then ((cutAt s p i).1 ++ [s.extract (cutAt s p i).2 i], i + 1) else cutAt s p i
/-- What SplitAny gives. -/
def splitB (s : ByteArray) (p : UInt8 → Bool) : List ByteArray := (cutAt s p s.size).1 ++ [s.extract (cutAt s p s.size).2 s.size]
/-- Is c one of the separators? -/
def isSep (by_ : ByteArray) (c : UInt8) : Bool := by_.data.toList.contains c

theorem getD_at (s : ByteArray) (i : Nat) (h : i < s.size) : s.data.toList.getD i 0 = s[i] := by
  rw [List.getD_eq_getElem?_getD, List.getElem?_eq_getElem (by rw [bytes_length]; exact h)]; rfl
theorem cutAt_yes (s : ByteArray) (p : UInt8 → Bool) (i : Nat) (h : i < s.size) (hp : p s[i] = true) : cutAt s p (i + 1) = ((cutAt s p i).1 ++ [s.extract (cutAt s p i).2 i], i + 1) := by
  rw [cutAt, getD_at s i h, if_pos hp]
theorem cutAt_no (s : ByteArray) (p : UInt8 → Bool) (i : Nat) (h : i < s.size) (hp : p s[i] = false) : cutAt s p (i + 1) = cutAt s p i := by
  rw [cutAt, getD_at s i h, if_neg (by rw [hp]; decide)]
theorem cutAt_le (s : ByteArray) (p : UInt8 → Bool) : ∀ i, (cutAt s p i).2 ≤ i ∧ (cutAt s p i).1.length ≤ i
  | 0 => ⟨Nat.le_refl _, Nat.le_refl _⟩
  | i + 1 => by
    have ih := cutAt_le s p i
    rw [cutAt]
    split
    · simp; omega
    · omega
theorem splitB_length (s : ByteArray) (p : UInt8 → Bool) : (splitB s p).length ≤ s.size + 1 := by
  have := (cutAt_le s p s.size).2
  simp [splitB]; omega
theorem sep_of (by_ : ByteArray) (j : Nat) (h : j < by_.size) : isSep by_ by_[j] = true := by
  unfold isSep
  rw [List.contains_iff_mem]
  exact List.getElem_mem (l := by_.data.toList) h
/-- None of the first j separators is c. -/
def noneYet (by_ : ByteArray) (c : UInt8) (j : Nat) : Prop := ∀ t, (h : t < by_.size) → t < j → c ≠ by_[t]
theorem noneYet_zero (by_ : ByteArray) (c : UInt8) : noneYet by_ c 0 := fun _ _ h => absurd h (by omega)
theorem noneYet_succ (by_ : ByteArray) (c : UInt8) (j : Nat) (h : j < by_.size) (hn : noneYet by_ c j) (hc : c ≠ by_[j]) : noneYet by_ c (j + 1) := by
  intro t ht hlt
  by_cases e : t = j
  · subst e; exact hc
  · exact hn t ht (by omega)
theorem noneYet_all (by_ : ByteArray) (c : UInt8) (j : Nat) (h : ¬ j < by_.size) (hn : noneYet by_ c j) : isSep by_ c = false := by
  cases hx : isSep by_ c with
  | false => rfl
  | true =>
    unfold isSep at hx
    rw [List.contains_iff_mem] at hx
    obtain ⟨t, ht, he⟩ := List.mem_iff_getElem.1 hx
    exact absurd he.symm (hn t ht (by rw [bytes_length] at ht; omega))

theorem byte_eq_of {a b : UInt8} (h : (((a.toNat : Nat) : Int) == ((b.toNat : Nat) : Int)) = true) : a = b := by
  have h1 := beq_iff_eq.1 h
  have : a.toNat = b.toNat := by omega
  exact UInt8.toNat_inj.1 this
theorem byte_ne_of {a b : UInt8} (h : (((a.toNat : Nat) : Int) == ((b.toNat : Nat) : Int)) = false) : a ≠ b := by
  rintro rfl; simp at h
theorem strs_snoc (l : List ByteArray) (x : ByteArray) : strs (l ++ [x]) = strs l ++ [.string x] := by simp [strs]
/-- One part more, of what is owned. -/
theorem own_hit {W : World} {base : Nat} {e : TypeId} {v : Value} {s : ByteArray} {p : UInt8 → Bool} {k f : Nat} (hlt : k < s.size) (hp : p s[k] = true) (hf : f = (cutAt s p k).2)
    (h : W.ownsRow base e 1 v ((cutAt s p k).1.length + 1) (strs (cutAt s p k).1 ++ [.string (s.extract f k)])) :
    W.ownsRow base e 1 v (cutAt s p (k + 1)).1.length (strs (cutAt s p (k + 1)).1) ∧ (cutAt s p (k + 1)).2 = k + 1 := by
  rw [cutAt_yes s p k hlt hp]
  refine ⟨?_, rfl⟩
  rw [strs_snoc, ← hf, List.length_append]
  exact h
theorem own_miss {W : World} {base : Nat} {e : TypeId} {v : Value} {s : ByteArray} {p : UInt8 → Bool} {k f : Nat} (hlt : k < s.size) (hp : p s[k] = false) (hf : f = (cutAt s p k).2)
    (h : W.ownsRow base e 1 v (cutAt s p k).1.length (strs (cutAt s p k).1)) :
    W.ownsRow base e 1 v (cutAt s p (k + 1)).1.length (strs (cutAt s p (k + 1)).1) ∧ f = (cutAt s p (k + 1)).2 := by
  rw [cutAt_no s p k hlt hp]
  exact ⟨h, hf⟩
theorem own_end {W : World} {base : Nat} {e : TypeId} {v : Value} {s : ByteArray} {p : UInt8 → Bool} {k f : Nat} (hge : ¬ k < s.size) (hk : k ≤ s.size) (hf : f = (cutAt s p k).2)
    (h : W.ownsRow base e 1 v ((cutAt s p k).1.length + 1) (strs (cutAt s p k).1 ++ [.string (s.extract f s.size)])) : W.ownsRow base e 1 v (splitB s p).length (strs (splitB s p)) := by
  obtain rfl : k = s.size := by omega
  unfold splitB
  rw [strs_snoc, ← hf, List.length_append]
  exact h

theorem Tryz.infoStr : (Tryz.prog.info? 9).map (fun i => (i.zero, i.size, i.bytes)) = some (some (.string ByteArray.empty), 1, 16) := by kernel_rfl

end Go.Proofs.YtooanejiadbngaaGreatDoor

/- Configurations and their texts: plain words. No walk. -/
namespace Go.Proofs.YtooanejiadbngaaGreatDoor
open Go.RowKit Go.Lib
set_option linter.unusedVariables false

/-- A configuration: four numbers and five flags. -/
structure Cfg where
  cmin : Int
  ctab : Int
  cpadding : Int
  cpad : Int
  fr : Bool
  fd : Bool
  fl : Bool
  fe : Bool
  fm : Bool
theorem Cfg.same {a b : Cfg} (h1 : a.cmin = b.cmin) (h2 : a.ctab = b.ctab) (h3 : a.cpadding = b.cpadding) (h4 : a.cpad = b.cpad) (h5 : a.fr = b.fr) (h6 : a.fd = b.fd) (h7 : a.fl = b.fl) (h8 : a.fe = b.fe) (h9 : a.fm = b.fm) : a = b := by
  cases a; cases b; simp_all
def zeroC : Cfg := ⟨0, 0, 0, 0, false, false, false, false, false⟩
/-- The configuration's cells. -/
def cfgV (c : Cfg) : Array Value := #[.int .i64 c.cmin, .int .i64 c.ctab, .int .i64 c.cpadding, .int .i64 c.cpad, .bool c.fr, .bool c.fd, .bool c.fl, .bool c.fe, .bool c.fm]
/-- What IsConfig answers. -/
def validC (c : Cfg) : Bool := inB c.cmin 0 200 && inB c.ctab 1 32 && inB c.cpadding 0 32 && (decide (c.cpad = 9) && !c.fr || inB c.cpad 32 126)
theorem inB_iff (n lo hi : Int) : inB n lo hi = true ↔ lo ≤ n ∧ n ≤ hi := by unfold inB; simp
theorem validC_iff (c : Cfg) : validC c = true ↔ (0 ≤ c.cmin ∧ c.cmin ≤ 200) ∧ (1 ≤ c.ctab ∧ c.ctab ≤ 32) ∧ (0 ≤ c.cpadding ∧ c.cpadding ≤ 32) ∧ ((c.cpad = 9 ∧ c.fr = false) ∨ (32 ≤ c.cpad ∧ c.cpad ≤ 126)) := by
  unfold validC
  simp only [Bool.and_eq_true, Bool.or_eq_true, inB_iff, decide_eq_true_iff, Bool.not_eq_true', and_assoc]

/-- The letters of the flags that are set. -/
def flags5 (a b c d e : Bool) : List UInt8 := (if a then [114] else []) ++ ((if b then [100] else []) ++ ((if c then [108] else []) ++ ((if d then [101] else []) ++ (if e then [109] else []))))
def tail5 (a b c d e : Bool) : List UInt8 := if flags5 a b c d e = [] then [45] else flags5 a b c d e
def flagsL (c : Cfg) : List UInt8 := flags5 c.fr c.fd c.fl c.fe c.fm
def tailL (c : Cfg) : List UInt8 := tail5 c.fr c.fd c.fl c.fe c.fm
def numsL (c : Cfg) : List UInt8 := itoa c.cmin ++ 44 :: (itoa c.ctab ++ 44 :: (itoa c.cpadding ++ 44 :: itoa c.cpad))
def fmtL (c : Cfg) : List UInt8 := numsL c ++ 32 :: tailL c
/-- What FormatConfig answers. -/
def fmtCB (c : Cfg) : ByteArray := if validC c = true then ⟨(fmtL c).toArray⟩ else ⟨#[]⟩
theorem fmtCB_yes {c : Cfg} (h : validC c = true) : fmtCB c = ⟨(fmtL c).toArray⟩ := if_pos h
theorem fmtCB_no {c : Cfg} (h : validC c = false) : fmtCB c = ⟨#[]⟩ := if_neg (by rw [h]; decide)

def hasB (s : ByteArray) (b : UInt8) : Bool := s.data.toList.contains b
theorem tail5_has : ∀ a b c d e, (tail5 a b c d e).contains 114 = a ∧ (tail5 a b c d e).contains 100 = b ∧ (tail5 a b c d e).contains 108 = c ∧ (tail5 a b c d e).contains 101 = d ∧ (tail5 a b c d e).contains 109 = e := by decide
theorem tail5_no : ∀ a b c d e, (tail5 a b c d e).contains 32 = false := by decide
theorem tail_has (c : Cfg) : (tailL c).contains 114 = c.fr ∧ (tailL c).contains 100 = c.fd ∧ (tailL c).contains 108 = c.fl ∧ (tailL c).contains 101 = c.fe ∧ (tailL c).contains 109 = c.fm := tail5_has _ _ _ _ _
theorem tail_no (c : Cfg) : (32 : UInt8) ∉ tailL c := fun h => by
  have := tail5_no c.fr c.fd c.fl c.fe c.fm
  rw [show tail5 c.fr c.fd c.fl c.fe c.fm = tailL c from rfl, List.contains_iff_mem.2 h] at this
  cases this

/-- A number's text that is not negative holds digits alone. -/
theorem itoa_dig (n : Int) (h : 0 ≤ n) (x : UInt8) (hx : x ∈ itoa n) : 48 ≤ x.toNat ∧ x.toNat ≤ 57 := by
  obtain ⟨m, rfl⟩ := Int.eq_ofNat_of_zero_le h
  rw [itoa_nat] at hx
  have := decDigits_digits m
  rw [List.all_eq_true] at this
  exact (isDig_iff x).1 (this x hx)
theorem itoa_not (n : Int) (h : 0 ≤ n) (b : UInt8) (hb : b.toNat < 48) : b ∉ itoa n := fun hx => by
  have := itoa_dig n h b hx; omega
theorem nums_no (c : Cfg) (h : validC c = true) : (32 : UInt8) ∉ numsL c := by
  rw [validC_iff] at h
  have h1 := itoa_not c.cmin (by omega) 32 (by decide)
  have h2 := itoa_not c.ctab (by omega) 32 (by decide)
  have h3 := itoa_not c.cpadding (by omega) 32 (by decide)
  have h4 := itoa_not c.cpad (by omega) 32 (by decide)
  unfold numsL
  simp only [List.mem_append, List.mem_cons]
  intro hx
  rcases hx with hx | hx | hx | hx | hx | hx | hx
  · exact h1 hx
  · exact absurd hx (by decide)
  · exact h2 hx
  · exact absurd hx (by decide)
  · exact h3 hx
  · exact absurd hx (by decide)
  · exact h4 hx
theorem split_first {a b p q : List UInt8} {x : UInt8} (ha : x ∉ a) (hb : x ∉ b) (h : a ++ x :: p = b ++ x :: q) : a = b ∧ p = q := by
  induction a generalizing b with
  | nil =>
    cases b with
    | nil => simp at h; exact ⟨rfl, h⟩
    | cons y t => simp at h; exact absurd (List.mem_cons.2 (.inl h.1)) hb
  | cons y t ih =>
    cases b with
    | nil => simp at h; exact absurd (List.mem_cons.2 (.inl h.1.symm)) ha
    | cons z u =>
      simp only [List.cons_append, List.cons.injEq] at h
      obtain ⟨e1, e2⟩ := ih (fun hx => ha (List.mem_cons_of_mem _ hx)) (fun hx => hb (List.mem_cons_of_mem _ hx)) h.2
      exact ⟨by rw [h.1, e1], e2⟩
theorem nums_inj {c d : Cfg} (hc : validC c = true) (hd : validC d = true) (h : numsL c = numsL d) : c.cmin = d.cmin ∧ c.ctab = d.ctab ∧ c.cpadding = d.cpadding ∧ c.cpad = d.cpad := by
  rw [validC_iff] at hc hd
  unfold numsL at h
  have k : ∀ n : Int, 0 ≤ n → (44 : UInt8) ∉ itoa n := fun n hn => itoa_not n hn 44 (by decide)
  obtain ⟨e1, h⟩ := split_first (k _ (by omega)) (k _ (by omega)) h
  obtain ⟨e2, h⟩ := split_first (k _ (by omega)) (k _ (by omega)) h
  obtain ⟨e3, h⟩ := split_first (k _ (by omega)) (k _ (by omega)) h
  exact ⟨itoa_inj e1, itoa_inj e2, itoa_inj e3, itoa_inj h⟩
/-- A configuration is recovered from its text. -/
theorem fmtCB_inj {c d : Cfg} (hc : validC c = true) (hd : validC d = true) (h : fmtCB c = fmtCB d) : c = d := by
  rw [fmtCB_yes hc, fmtCB_yes hd] at h
  have hl : fmtL c = fmtL d := by
    have := congrArg (fun x : ByteArray => x.data.toList) h
    simpa using this
  obtain ⟨e1, e2⟩ := split_first (nums_no c hc) (nums_no d hd) hl
  obtain ⟨n1, n2, n3, n4⟩ := nums_inj hc hd e1
  have t1 := tail_has c
  have t2 := tail_has d
  rw [e2] at t1
  exact Cfg.same n1 n2 n3 n4 (t1.1.symm.trans t2.1) (t1.2.1.symm.trans t2.2.1) (t1.2.2.1.symm.trans t2.2.2.1) (t1.2.2.2.1.symm.trans t2.2.2.2.1) (t1.2.2.2.2.symm.trans t2.2.2.2.2)
theorem fmtCB_ne {c : Cfg} (hc : validC c = true) : 0 < (fmtCB c).size := by
  rw [fmtCB_yes hc]
  show 0 < (fmtL c).toArray.size
  simp [fmtL]
  omega

/-- What ParseConfig answers of a text. -/
def IsCfg (t : ByteArray) (c : Cfg) : Prop := validC c = true ∧ fmtCB c = t
def NoCfg (t : ByteArray) : Prop := ∀ c, validC c = true → fmtCB c ≠ t
def ParseC (t : ByteArray) (c : Cfg) (ok : Bool) : Prop := (ok = true ∧ IsCfg t c) ∨ (ok = false ∧ c = zeroC ∧ NoCfg t)
theorem ParseC.unique {t : ByteArray} {c d : Cfg} {a b : Bool} (h : ParseC t c a) (k : ParseC t d b) : c = d ∧ a = b := by
  rcases h with ⟨rfl, h1, h2⟩ | ⟨rfl, rfl, h⟩
  · rcases k with ⟨rfl, k1, k2⟩ | ⟨rfl, rfl, k⟩
    · exact ⟨fmtCB_inj h1 k1 (h2.trans k2.symm), rfl⟩
    · exact absurd h2 (k _ h1)
  · rcases k with ⟨rfl, k1, k2⟩ | ⟨rfl, rfl, k⟩
    · exact absurd k2 (h _ k1)
    · exact ⟨rfl, rfl⟩

/-! ### parts between separators -/
theorem by_list (a : List UInt8) (i : Nat) : (⟨a.toArray⟩ : ByteArray).data.toList.getD i 0 = a.getD i 0 := by simp
theorem cutAt_succ (s : ByteArray) (p : UInt8 → Bool) (i : Nat) : cutAt s p (i + 1) = if p (s.data.toList.getD i 0) then ((cutAt s p i).1 ++ [s.extract (cutAt s p i).2 i], i + 1) else cutAt s p i := rfl
/-- No separator ahead of index i: nothing is cut. -/
theorem cut_none (s : ByteArray) (p : UInt8 → Bool) : ∀ i, (∀ j, j < i → p (s.data.toList.getD j 0) = false) → cutAt s p i = ([], 0)
  | 0, _ => rfl
  | i + 1, h => by
    rw [cutAt, if_neg (by rw [h i (by omega)]; decide)]
    exact cut_none s p i fun j hj => h j (by omega)
/-- The first part, a separator, and what follows. -/
theorem cut_after (a b : List UInt8) (c : UInt8) (p : UInt8 → Bool) (ha : ∀ x ∈ a, p x = false) (hc : p c = true) : ∀ j, j ≤ b.length →
    cutAt ⟨(a ++ c :: b).toArray⟩ p (a.length + 1 + j) = (⟨a.toArray⟩ :: (cutAt ⟨b.toArray⟩ p j).1, a.length + 1 + (cutAt ⟨b.toArray⟩ p j).2)
  | 0, _ => by
    have h0 : cutAt ⟨(a ++ c :: b).toArray⟩ p a.length = ([], 0) := cut_none _ p _ fun j hj => by
      rw [by_list, List.getD_eq_getElem?_getD, List.getElem?_append_left hj, List.getElem?_eq_getElem hj]
      exact ha _ (List.getElem_mem hj)
    rw [Nat.add_zero, cutAt_succ, by_list, List.getD_eq_getElem?_getD, List.getElem?_append_right (Nat.le_refl _), Nat.sub_self]
    simp only [List.getElem?_cons_zero, Option.getD_some]
    rw [if_pos hc, h0]
    simp only [cutAt, List.nil_append, Nat.add_zero, Prod.mk.injEq, List.cons.injEq, and_true]
    apply ByteArray.ext
    apply Array.ext'
    simp [ByteArray.data_extract]
  | j + 1, hj => by
    have ih := cut_after a b c p ha hc j (by omega)
    have hle := (cutAt_le ⟨b.toArray⟩ p j).1
    have e : (⟨(a ++ c :: b).toArray⟩ : ByteArray).data.toList.getD (a.length + 1 + j) 0 = (⟨b.toArray⟩ : ByteArray).data.toList.getD j 0 := by
      rw [by_list, by_list, List.getD_eq_getElem?_getD, List.getD_eq_getElem?_getD, List.getElem?_append_right (by omega), show a.length + 1 + j - a.length = j + 1 by omega, List.getElem?_cons_succ]
    rw [show a.length + 1 + (j + 1) = (a.length + 1 + j) + 1 by omega, cutAt_succ, cutAt_succ, e, ih]
    by_cases hp : p ((⟨b.toArray⟩ : ByteArray).data.toList.getD j 0) = true
    · rw [if_pos hp, if_pos hp]
      simp only [List.cons_append, Prod.mk.injEq, List.cons.injEq, true_and]
      refine ⟨?_, by omega⟩
      congr 2
      apply ByteArray.ext
      apply Array.ext'
      simp only [ByteArray.data_extract, Array.toList_extract, List.extract_eq_take_drop, List.drop_append, List.drop_of_length_le (show a.length ≤ a.length + 1 + (cutAt ⟨b.toArray⟩ p j).2 by omega), List.nil_append]
      rw [show a.length + 1 + (cutAt ⟨b.toArray⟩ p j).2 - a.length = (cutAt ⟨b.toArray⟩ p j).2 + 1 by omega, List.drop_succ_cons, show a.length + 1 + j - (a.length + 1 + (cutAt ⟨b.toArray⟩ p j).2) = j - (cutAt ⟨b.toArray⟩ p j).2 by omega]
    · rw [if_neg hp, if_neg hp]
theorem split_cons (a b : List UInt8) (c : UInt8) (p : UInt8 → Bool) (ha : ∀ x ∈ a, p x = false) (hc : p c = true) : splitB ⟨(a ++ c :: b).toArray⟩ p = ⟨a.toArray⟩ :: splitB ⟨b.toArray⟩ p := by
  have h := cut_after a b c p ha hc b.length (Nat.le_refl _)
  have hz : (⟨(a ++ c :: b).toArray⟩ : ByteArray).size = a.length + 1 + b.length := by
    show (a ++ c :: b).toArray.size = _
    simp; omega
  have hz2 : (⟨b.toArray⟩ : ByteArray).size = b.length := by show b.toArray.size = _; simp
  have hle := (cutAt_le ⟨b.toArray⟩ p b.length).1
  unfold splitB
  rw [hz, hz2, h]
  simp only [List.cons_append, List.cons.injEq, true_and]
  congr 2
  apply ByteArray.ext
  apply Array.ext'
  simp only [ByteArray.data_extract, Array.toList_extract, List.extract_eq_take_drop, List.drop_append, List.drop_of_length_le (show a.length ≤ a.length + 1 + (cutAt ⟨b.toArray⟩ p b.length).2 by omega), List.nil_append]
  rw [show a.length + 1 + (cutAt ⟨b.toArray⟩ p b.length).2 - a.length = (cutAt ⟨b.toArray⟩ p b.length).2 + 1 by omega, List.drop_succ_cons, show a.length + 1 + b.length - (a.length + 1 + (cutAt ⟨b.toArray⟩ p b.length).2) = b.length - (cutAt ⟨b.toArray⟩ p b.length).2 by omega]
theorem split_one (a : List UInt8) (p : UInt8 → Bool) (ha : ∀ x ∈ a, p x = false) : splitB ⟨a.toArray⟩ p = [⟨a.toArray⟩] := by
  have hz : (⟨a.toArray⟩ : ByteArray).size = a.length := by show a.toArray.size = _; simp
  unfold splitB
  rw [hz, cut_none _ p _ fun j hj => by
    rw [by_list, List.getD_eq_getElem?_getD, List.getElem?_eq_getElem hj]
    exact ha _ (List.getElem_mem hj)]
  simp only [List.nil_append, List.cons.injEq, and_true]
  apply ByteArray.ext
  apply Array.ext'
  simp [ByteArray.data_extract]
theorem sep_one (c : UInt8) (x : UInt8) : isSep ⟨#[c]⟩ x = decide (x = c) := by
  unfold isSep
  rw [Bool.eq_iff_iff]
  simp
/-- The parts of a configuration's text. -/
theorem split_cfg (d : Cfg) (h : validC d = true) : splitB (fmtCB d) (isSep ⟨#[32]⟩) = [⟨(numsL d).toArray⟩, ⟨(tailL d).toArray⟩] := by
  rw [fmtCB_yes h]
  unfold fmtL
  have h1 := nums_no d h
  have h2 := tail_no d
  rw [split_cons _ _ _ _ (fun x hx => by rw [sep_one]; exact decide_eq_false fun e => h1 (e ▸ hx)) (by rw [sep_one]; decide), split_one _ _ (fun x hx => by rw [sep_one]; exact decide_eq_false fun e => h2 (e ▸ hx))]
theorem split_nums (d : Cfg) (h : validC d = true) : splitB ⟨(numsL d).toArray⟩ (isSep ⟨#[44]⟩) = [fmtB d.cmin, fmtB d.ctab, fmtB d.cpadding, fmtB d.cpad] := by
  rw [validC_iff] at h
  have k : ∀ n : Int, 0 ≤ n → ∀ x ∈ itoa n, isSep ⟨#[44]⟩ x = false := fun n hn x hx => by
    rw [sep_one]; exact decide_eq_false fun e => itoa_not n hn 44 (by decide) (e ▸ hx)
  unfold numsL
  rw [split_cons _ _ _ _ (k _ (by omega)) (by rw [sep_one]; decide), split_cons _ _ _ _ (k _ (by omega)) (by rw [sep_one]; decide), split_cons _ _ _ _ (k _ (by omega)) (by rw [sep_one]; decide), split_one _ _ (k _ (by omega))]
  rfl

/-! ### rounding and filling -/
def roundC (c : Cfg) (n : Int) : Int := if validC c = true ∧ 0 ≤ n ∧ n ≤ 100000 then (if c.cpad = 9 then (n + c.ctab - 1) / c.ctab * c.ctab else n) else 0
def fillN (c : Cfg) (n : Int) : Nat := if c.cpad = 9 then ((n + c.ctab - 1) / c.ctab).toNat else n.toNat
/-- k bytes b. -/
def copies (b : UInt8) (k : Nat) : ByteArray := ⟨(List.replicate k b).toArray⟩
theorem copies_size (b : UInt8) (k : Nat) : (copies b k).size = k := by
  show (List.replicate k b).toArray.size = k
  simp
def fillC (c : Cfg) (n : Int) : ByteArray := if validC c = true ∧ 0 ≤ n ∧ n ≤ 100000 then (if c.cpad = 9 then copies 9 (fillN c n) else copies (UInt8.ofNat c.cpad.toNat) (fillN c n)) else ⟨#[]⟩
theorem round_ok (c : Cfg) (n : Int) (h : validC c = true) (h0 : 0 ≤ n) (h1 : n ≤ 100000) : n ≤ roundC c n ∧ roundC c n < n + c.ctab ∧ (c.cpad = 9 ∨ roundC c n = n) := by
  unfold roundC
  rw [if_pos ⟨h, h0, h1⟩]
  rw [validC_iff] at h
  have ht : 1 ≤ c.ctab := by omega
  by_cases h9 : c.cpad = 9
  · rw [if_pos h9]
    have e1 := Int.ediv_mul_le (n + c.ctab - 1) (show c.ctab ≠ 0 by omega)
    have e2 := Int.lt_ediv_add_one_mul_self (n + c.ctab - 1) (show 0 < c.ctab by omega)
    rw [Int.add_mul, Int.one_mul] at e2
    exact ⟨by omega, by omega, .inl h9⟩
  · rw [if_neg h9]
    exact ⟨by omega, by omega, .inr rfl⟩
theorem fill_ok (c : Cfg) (n : Int) (h : validC c = true) (h0 : 0 ≤ n) (h1 : n ≤ 100000) (h9 : c.cpad ≠ 9) : ((fillC c n).size : Int) = n := by
  unfold fillC
  rw [if_pos ⟨h, h0, h1⟩, if_neg h9, copies_size]
  unfold fillN
  rw [if_neg h9]; omega
def defC : Cfg := ⟨0, 8, 1, 32, false, false, false, false, false⟩
theorem def_valid : validC defC = true := by decide
end Go.Proofs.YtooanejiadbngaaGreatDoor

/- Display widths: plain words. No walk. -/
namespace Go.Proofs.YtooanejiadbngaaGreatDoor
open Go.RowKit
set_option linter.unusedVariables false

/-- Is r in one of the ranges that a list of ends gives? -/
def inAny (r : Int) : List Int → Bool
  | a :: b :: t => inB r a b || inAny r t
  | _ => false
def zeroL : List Int := [0, 31, 127, 159, 768, 879, 1155, 1161, 8203, 8207, 8400, 8447, 65024, 65039, 65279, 65279]
def wideL : List Int := [4352, 4447, 11904, 42191, 44032, 55203, 63744, 64255, 65280, 65376, 65504, 65510, 127744, 128591, 129280, 129535, 131072, 262141]
/-- The display width of a code. -/
def rw1 (r : Int) : Nat := if inAny r zeroL = true then 0 else if inAny r wideL = true then 2 else 1
theorem rw1_le (r : Int) : rw1 r ≤ 2 := by unfold rw1; (repeat' split) <;> omega
theorem inAny_yes (r : Int) (xs : List Int) (j : Nat) (h : j + 1 < xs.length) (hi : inB r xs[j] xs[j + 1] = true) : inAny r (xs.drop j) = true := by
  rw [List.drop_eq_getElem_cons (by omega), List.drop_eq_getElem_cons h, inAny, hi]; rfl
theorem inAny_no (r : Int) (xs : List Int) (j : Nat) (h : j + 1 < xs.length) (hi : inB r xs[j] xs[j + 1] = false) : inAny r (xs.drop j) = inAny r (xs.drop (j + 2)) := by
  rw [List.drop_eq_getElem_cons (by omega), List.drop_eq_getElem_cons h, inAny, hi]; rfl
theorem inAny_end (r : Int) (xs : List Int) (j : Nat) (h : ¬ j + 1 < xs.length) : inAny r (xs.drop j) = false := by
  have hl : (xs.drop j).length ≤ 1 := by rw [List.length_drop]; omega
  match hx : xs.drop j, hl with
  | [], _ => rfl
  | [a], _ => rfl
  | a :: b :: t, hl => simp at hl

/-- The width of a list of codes, and of a text. -/
def widthL (L : List Int) : Nat := (L.map rw1).sum
def textW (s : ByteArray) : Nat := widthL (runesB s)
theorem widthL_take (L : List Int) (k : Nat) (h : k < L.length) : widthL (L.take (k + 1)) = widthL (L.take k) + rw1 L[k] := by
  unfold widthL
  rw [List.take_succ_eq_append_getElem h, List.map_append, List.sum_append]
  simp
theorem widthL_whole (L : List Int) (k : Nat) (h : ¬ k < L.length) : widthL (L.take k) = widthL L := by
  rw [List.take_of_length_le (by omega)]
theorem widthL_le (L : List Int) : widthL L ≤ 2 * L.length := by
  induction L with
  | nil => exact Nat.le_refl _
  | cons a t ih =>
    have := rw1_le a
    simp only [widthL, List.map_cons, List.sum_cons, List.length_cons] at ih ⊢
    omega
theorem widthL_take_le (L : List Int) (k : Nat) : widthL (L.take k) ≤ 2 * L.length := by
  have h := widthL_le (L.take k)
  rw [List.length_take] at h
  omega
theorem textW_le (s : ByteArray) : textW s ≤ 2 * s.size := by
  have := widthL_le (runesB s)
  have := runesB_length s
  unfold textW
  omega

/-- Where the beginning ends that fits, from index i on, where sum columns are filled. -/
def fitFrom (s : ByteArray) (n : Nat) (i sum : Nat) : Nat :=
  if h : i < s.size then (if n < sum + rw1 (ch s i).1 then i else fitFrom s n (i + (ch s i).2) (sum + rw1 (ch s i).1)) else i
termination_by s.size - i
decreasing_by have := (ch_len s i h).1; omega
theorem fit_stop (s : ByteArray) (n i sum : Nat) (h : i < s.size) (hn : n < sum + rw1 (ch s i).1) : fitFrom s n i sum = i := by rw [fitFrom, dif_pos h, if_pos hn]
theorem fit_go (s : ByteArray) (n i sum : Nat) (h : i < s.size) (hn : ¬ n < sum + rw1 (ch s i).1) : fitFrom s n i sum = fitFrom s n (i + (ch s i).2) (sum + rw1 (ch s i).1) := by rw [fitFrom, dif_pos h, if_neg hn]
theorem fit_end (s : ByteArray) (n i sum : Nat) (h : ¬ i < s.size) : fitFrom s n i sum = i := by rw [fitFrom, dif_neg h]
/-- What FitWidth answers. -/
def fitB (s : ByteArray) (n : Int) : ByteArray := if n < 0 then ⟨#[]⟩ else s.extract 0 (fitFrom s n.toNat 0 0)

/-- k spaces. -/
def spaces (k : Nat) : ByteArray := ⟨(List.replicate k (32 : UInt8)).toArray⟩
theorem spaces_size (k : Nat) : (spaces k).size = k := by
  show (List.replicate k (32 : UInt8)).toArray.size = k
  simp
/-- How many spaces are wanted. -/
def roomB (s : ByteArray) (n : Int) : Nat := if 100000 < n ∨ n < 0 then 0 else (n - (textW s : Int)).toNat
theorem roomB_le (s : ByteArray) (n : Int) : roomB s n ≤ 100000 := by unfold roomB; split <;> omega
def padR (s : ByteArray) (n : Int) : ByteArray := s ++ spaces (roomB s n)
def padL (s : ByteArray) (n : Int) : ByteArray := spaces (roomB s n) ++ s
def padC (s : ByteArray) (n : Int) : ByteArray := spaces (roomB s n / 2) ++ s ++ spaces (roomB s n - roomB s n / 2)
end Go.Proofs.YtooanejiadbngaaGreatDoor

/- The model's widths: RuneWidth, TextWidth, FitWidth, and the paddings. -/
namespace Go.Proofs.YtooanejiadbngaaGreatDoor
open Go.RowKit
set_option linter.unusedVariables false

theorem quiet_add_left {P : Program} {f : FuncId} {args : Array Value} {w : World} {a n : Nat} {v : Value}
    (h : Calls P f args (w.drewN (a + n)) fun e w' => e = .returned v ∧ w.drewN (a + n) = w') :
    Calls P f args (w.drewN (a + n)) fun e w'' => e = .returned v ∧ ∃ m, w'' = w.drewN (a + m) :=
  h.mono fun _ _ ⟨he, hm⟩ => ⟨he, n, hm.symm⟩

end Go.Proofs.YtooanejiadbngaaGreatDoor

/- The model's FitWidth and its paddings. -/
namespace Go.Proofs.YtooanejiadbngaaGreatDoor
open Go.RowKit
set_option linter.unusedVariables false

end Go.Proofs.YtooanejiadbngaaGreatDoor

/- The width of a cell's text, with tags and entities: plain words. No walk. -/
namespace Go.Proofs.YtooanejiadbngaaGreatDoor
open Go.RowKit
set_option linter.unusedVariables false

/-- The byte that ends what x begins (0: x begins nothing). -/
def endOf (m : Bool) (x : UInt8) : UInt8 := if m = true then (if x = 60 then 62 else if x = 38 then 59 else 0) else 0
/-- Where b stands first, from k on (the length: nowhere). -/
def findB (s : ByteArray) (b : UInt8) (k : Nat) : Nat := if h : k < s.size then (if s[k] = b then k else findB s b (k + 1)) else k
termination_by s.size - k
theorem findB_hit (s : ByteArray) (b : UInt8) (k : Nat) (h : k < s.size) (hb : s[k] = b) : findB s b k = k := by rw [findB, dif_pos h, if_pos hb]
theorem findB_go (s : ByteArray) (b : UInt8) (k : Nat) (h : k < s.size) (hb : s[k] ≠ b) : findB s b k = findB s b (k + 1) := by rw [findB, dif_pos h, if_neg hb]
theorem findB_end (s : ByteArray) (b : UInt8) (k : Nat) (h : ¬ k < s.size) : findB s b k = k := by rw [findB, dif_neg h]
theorem findB_ge (s : ByteArray) (b : UInt8) (k : Nat) : k ≤ findB s b k := by
  by_cases h : k < s.size
  · by_cases hb : s[k] = b
    · rw [findB_hit s b k h hb]; exact Nat.le_refl _
    · rw [findB_go s b k h hb]
      have := findB_ge s b (k + 1)
      omega
  · rw [findB_end s b k h]; exact Nat.le_refl _
termination_by s.size - k
theorem findB_le (s : ByteArray) (b : UInt8) (k : Nat) (hk : k ≤ s.size) : findB s b k ≤ s.size := by
  by_cases h : k < s.size
  · by_cases hb : s[k] = b
    · rw [findB_hit s b k h hb]; omega
    · rw [findB_go s b k h hb]
      exact findB_le s b (k + 1) (by omega)
  · rw [findB_end s b k h]; exact hk
termination_by s.size - k
theorem findB_at (s : ByteArray) (b : UInt8) (k : Nat) (h : findB s b k < s.size) : ∃ hh : findB s b k < s.size, s[findB s b k] = b := by
  by_cases hk : k < s.size
  · by_cases hb : s[k] = b
    · have e := findB_hit s b k hk hb
      refine ⟨h, ?_⟩
      simp only [e]
      exact hb
    · have e := findB_go s b k hk hb
      have h' := h
      rw [e] at h'
      obtain ⟨hh, he⟩ := findB_at s b (k + 1) h'
      refine ⟨h, ?_⟩
      simp only [e]
      exact he
  · rw [findB_end s b k hk] at h; exact absurd h hk
termination_by s.size - k
/-- Does what begins at i end? -/
def closes (m : Bool) (s : ByteArray) (i : Nat) (h : i < s.size) : Prop := endOf m s[i] ≠ 0 ∧ findB s (endOf m s[i]) (i + 1) < s.size
instance (m : Bool) (s : ByteArray) (i : Nat) (h : i < s.size) : Decidable (closes m s i h) := by unfold closes; infer_instance
/-- The width from index i on. -/
def celW (m : Bool) (s : ByteArray) (i : Nat) : Nat :=
  if h : i < s.size then
    (if closes m s i h then (if endOf m s[i] = 59 then 1 else 0) + celW m s (findB s (endOf m s[i]) (i + 1) + 1)
     else rw1 (ch s i).1 + celW m s (i + (ch s i).2))
  else 0
termination_by s.size - i
decreasing_by
  · have := findB_ge s (endOf m s[i]) (i + 1); omega
  · have := (ch_len s i h).1; omega
theorem celW_end (m : Bool) (s : ByteArray) (i : Nat) (h : ¬ i < s.size) : celW m s i = 0 := by rw [celW, dif_neg h]
theorem celW_skip (m : Bool) (s : ByteArray) (i : Nat) (h : i < s.size) (hc : closes m s i h) : celW m s i = (if endOf m s[i] = 59 then 1 else 0) + celW m s (findB s (endOf m s[i]) (i + 1) + 1) := by rw [celW, dif_pos h, if_pos hc]
theorem celW_char (m : Bool) (s : ByteArray) (i : Nat) (h : i < s.size) (hc : ¬ closes m s i h) : celW m s i = rw1 (ch s i).1 + celW m s (i + (ch s i).2) := by rw [celW, dif_pos h, if_neg hc]
theorem celW_le (m : Bool) (s : ByteArray) (i : Nat) : celW m s i ≤ 2 * (s.size - i) := by
  by_cases h : i < s.size
  · by_cases hc : closes m s i h
    · rw [celW_skip m s i h hc]
      have h1 := findB_ge s (endOf m s[i]) (i + 1)
      have h2 := hc.2
      have ih := celW_le m s (findB s (endOf m s[i]) (i + 1) + 1)
      split <;> omega
    · rw [celW_char m s i h hc]
      have h1 := rw1_le (ch s i).1
      have h2 := ch_len s i h
      have ih := celW_le m s (i + (ch s i).2)
      omega
  · rw [celW_end m s i h]; omega
termination_by s.size - i
decreasing_by
  · have := findB_ge s (endOf m s[i]) (i + 1); omega
  · have := (ch_len s i h).1; omega
/-- What CellWidth answers. -/
def cellWB (c : Cfg) (s : ByteArray) : Int := if validC c = true then (celW c.fm s 0 : Int) else 0
theorem cellWB_no {c : Cfg} (s : ByteArray) (h : validC c = false) : cellWB c s = 0 := if_neg (by rw [h]; decide)
theorem cellWB_yes {c : Cfg} (s : ByteArray) (h : validC c = true) : cellWB c s = (celW c.fm s 0 : Int) := if_pos h
/-- Where Markup is not set, the cell's width is the text's. -/
theorem endOf_off (x : UInt8) : endOf false x = 0 := rfl
theorem endOf_tag : endOf true 60 = 62 := rfl
theorem endOf_ent : endOf true 38 = 59 := rfl
theorem endOf_none (m : Bool) (x : UInt8) (h1 : m = false ∨ (x ≠ 60 ∧ x ≠ 38)) : endOf m x = 0 := by
  unfold endOf
  rcases h1 with rfl | ⟨h1, h2⟩
  · rfl
  · rw [if_neg h1, if_neg h2]
    split <;> rfl
theorem not_closes_none {m : Bool} {s : ByteArray} {i : Nat} {h : i < s.size} (he : endOf m s[i] = 0) : ¬ closes m s i h := fun hc => hc.1 he
end Go.Proofs.YtooanejiadbngaaGreatDoor

/- Where a byte stands: the library's words and mine. No walk. -/
namespace Go.Proofs.YtooanejiadbngaaGreatDoor
open Go.RowKit
set_option linter.unusedVariables false

theorem findB_upto (s : ByteArray) (b : UInt8) (k j : Nat) (hkj : k ≤ j) (hj : j < s.size) (hb : s[j] = b) : findB s b k ≤ j := by
  by_cases hk : s[k]'(by omega) = b
  · rw [findB_hit s b k (by omega) hk]; exact hkj
  · rw [findB_go s b k (by omega) hk]
    have hne : k ≠ j := fun e => hk (by subst e; exact hb)
    exact findB_upto s b (k + 1) j (by omega) hj hb
termination_by j - k
theorem findB_nowhere (s : ByteArray) (b : UInt8) (k : Nat) (hk : k ≤ s.size) (hn : ∀ j (h : j < s.size), k ≤ j → s[j] ≠ b) : findB s b k = s.size := by
  by_cases h : k < s.size
  · rw [findB_go s b k h (hn k h (Nat.le_refl _))]
    exact findB_nowhere s b (k + 1) (by omega) (fun j hj hkj => hn j hj (by omega))
  · rw [findB_end s b k h]; omega
termination_by s.size - k
theorem data_get (s : ByteArray) (j : Nat) (h : j < s.size) : s.data[j]! = s[j] := by
  have h' : j < s.data.size := h
  rw [getElem!_pos s.data j h']; rfl
theorem toNat_eq {x : UInt8} {n : Nat} (hn : n < 256) : ((x.toNat : Int) = (n : Int)) ↔ x = UInt8.ofNat n := by
  constructor
  · intro h
    exact UInt8.toNat_inj.1 (by rw [UInt8.toNat_ofNat']; omega)
  · intro h; subst h; rw [UInt8.toNat_ofNat']; omega
/-- Does the byte stand behind i? -/
theorem last_lt (s : ByteArray) (n : Nat) (hn : n < 256) (i : Nat) (hi : i < s.size) : decide ((i : Int) < Lib.lastIndexByte s (n : Int)) = decide (findB s (UInt8.ofNat n) (i + 1) < s.size) := by
  rw [decide_eq_decide]
  rcases Lib.lastIndexByte_spec s (n : Int) with ⟨e, hno⟩ | ⟨q, hq, e, hc, hno⟩
  · rw [e, findB_nowhere s _ (i + 1) (by omega) (fun j hj _ hb => hno j hj (by rw [data_get s j hj]; exact (toNat_eq hn).2 hb))]
    omega
  · rw [e]
    by_cases hiq : i < q
    · have := findB_upto s (UInt8.ofNat n) (i + 1) q hiq hq (by rw [data_get s q hq] at hc; exact (toNat_eq hn).1 hc)
      omega
    · rw [findB_nowhere s _ (i + 1) (by omega) (fun j hj hij hb => hno j (by omega) hj (by rw [data_get s j hj]; exact (toNat_eq hn).2 hb))]
      omega
theorem drop_byte (s : ByteArray) (k : Nat) (h : k < s.size) : s.data.toList.drop k = s[k] :: s.data.toList.drop (k + 1) := List.drop_eq_getElem_cons (l := s.data.toList) h
theorem index_drop (s : ByteArray) (b : UInt8) (k : Nat) (h : findB s b k < s.size) : Lib.indexByte (s.data.toList.drop k) b = (findB s b k : Int) - (k : Int) := by
  have hk : k < s.size := by have := findB_ge s b k; omega
  rw [drop_byte s k hk, Lib.indexByte]
  by_cases hb : s[k] = b
  · rw [if_pos (by simp [hb]), findB_hit s b k hk hb]; omega
  · have e := findB_go s b k hk hb
    have ih := index_drop s b (k + 1) (by rw [← e]; exact h)
    have hge := findB_ge s b (k + 1)
    rw [if_neg (by simp [hb]), ih, e, if_neg (by simp; omega)]
    omega
termination_by s.size - k
theorem index_from (s : ByteArray) (b : UInt8) (k : Nat) (h : findB s b k < s.size) : Lib.indexByte (s.extract k s.size).data.toList b = (findB s b k : Int) - (k : Int) := by
  rw [Lib.extract_to_end]; exact index_drop s b k h
/-- Where Markup is not set, the cell's width is the text's. -/
theorem celW_text (s : ByteArray) (i : Nat) : celW false s i = widthL (runesFrom s i) := by
  by_cases h : i < s.size
  · rw [celW_char false s i h (not_closes_none (endOf_off _)), runesFrom_yes s i h, celW_text s (i + (ch s i).2)]
    simp [widthL]
  · rw [celW_end false s i h, runesFrom_no s i h]; rfl
termination_by s.size - i
decreasing_by have := (ch_len s i h).1; omega
theorem celW_off (s : ByteArray) : celW false s 0 = textW s := celW_text s 0
/-- What a tag's, an entity's beginning does. -/
theorem celW_tag (s : ByteArray) (i : Nat) (h : i < s.size) (hx : s[i] = 60) (hf : findB s 62 (i + 1) < s.size) : celW true s i = celW true s (findB s 62 (i + 1) + 1) := by
  rw [celW_skip true s i h ⟨by rw [hx, endOf_tag]; decide, by rw [hx, endOf_tag]; exact hf⟩, hx, endOf_tag]
  simp
theorem celW_ent (s : ByteArray) (i : Nat) (h : i < s.size) (hx : s[i] = 38) (hf : findB s 59 (i + 1) < s.size) : celW true s i = 1 + celW true s (findB s 59 (i + 1) + 1) := by
  rw [celW_skip true s i h ⟨by rw [hx, endOf_ent]; decide, by rw [hx, endOf_ent]; exact hf⟩, hx, endOf_ent]
  simp
theorem celW_other (s : ByteArray) (i : Nat) (h : i < s.size) (h1 : s[i] = 60 → ¬ findB s 62 (i + 1) < s.size) (h2 : s[i] = 38 → ¬ findB s 59 (i + 1) < s.size) : celW true s i = rw1 (ch s i).1 + celW true s (i + (ch s i).2) := by
  refine celW_char true s i h ?_
  rintro ⟨hc1, hc2⟩
  by_cases e1 : s[i] = 60
  · rw [e1, endOf_tag] at hc2; exact h1 e1 hc2
  · by_cases e2 : s[i] = 38
    · rw [e2, endOf_ent] at hc2; exact h2 e2 hc2
    · exact hc1 (endOf_none _ _ (.inr ⟨e1, e2⟩))
end Go.Proofs.YtooanejiadbngaaGreatDoor

/- Lines, column widths and layouts of a text: plain words. No walk. -/
namespace Go.Proofs.YtooanejiadbngaaGreatDoor
open Go.RowKit
set_option linter.unusedVariables false

/-- A cell: its text and its width. -/
structure Cel where
  txt : ByteArray
  wid : Int
/-- A line: the cells that a tab ends, the rest, and the byte that ends it (0: none). -/
structure Ln where
  cells : List Cel
  tail : Cel
  fin : Int

/-! ### the splitter -/
def celOf (W : ByteArray → Int) (b : List UInt8) : Cel := ⟨⟨b.toArray⟩, W ⟨b.toArray⟩⟩
/-- What has been put out, are we in escaped text, the cells of the line, the bytes of the cell. -/
structure Sp where
  outs : List Ln
  raw : Bool
  cells : List Cel
  buf : List UInt8
def sp0 : Sp := ⟨[], false, [], []⟩
/-- One byte. -/
def spStep (esc : Bool) (W : ByteArray → Int) (s : Sp) (x : UInt8) : Sp :=
  if (esc && decide (x = 255)) = true then ⟨s.outs, !s.raw, s.cells, s.buf⟩
  else if (!s.raw && decide (x = 9)) = true then ⟨s.outs, s.raw, s.cells ++ [celOf W s.buf], []⟩
  else if (!s.raw && (decide (x = 10) || decide (x = 12))) = true then ⟨s.outs ++ [⟨s.cells, celOf W s.buf, (x.toNat : Int)⟩], s.raw, [], []⟩
  else ⟨s.outs, s.raw, s.cells, s.buf ++ [x]⟩
def spRun (esc : Bool) (W : ByteArray → Int) (s : Sp) (t : List UInt8) : Sp := t.foldl (spStep esc W) s
/-- The lines of a text. -/
def linesOf (esc : Bool) (W : ByteArray → Int) (t : List UInt8) : List Ln :=
  (spRun esc W sp0 t).outs ++ [⟨(spRun esc W sp0 t).cells, celOf W (spRun esc W sp0 t).buf, 0⟩]
theorem spRun_append (esc : Bool) (W : ByteArray → Int) (s : Sp) (a b : List UInt8) : spRun esc W s (a ++ b) = spRun esc W (spRun esc W s a) b := List.foldl_append
theorem spRun_cons (esc : Bool) (W : ByteArray → Int) (s : Sp) (x : UInt8) (t : List UInt8) : spRun esc W s (x :: t) = spRun esc W (spStep esc W s x) t := rfl
/-- What was put out ahead stays ahead. -/
theorem spStep_outs (esc : Bool) (W : ByteArray → Int) (o : List Ln) (raw : Bool) (cs : List Cel) (b : List UInt8) (x : UInt8) :
    spStep esc W ⟨o, raw, cs, b⟩ x = ⟨o ++ (spStep esc W ⟨[], raw, cs, b⟩ x).outs, (spStep esc W ⟨[], raw, cs, b⟩ x).raw, (spStep esc W ⟨[], raw, cs, b⟩ x).cells, (spStep esc W ⟨[], raw, cs, b⟩ x).buf⟩ := by
  unfold spStep
  (repeat' split) <;> simp_all
theorem spRun_outs (esc : Bool) (W : ByteArray → Int) : ∀ (t : List UInt8) (o : List Ln) (raw : Bool) (cs : List Cel) (b : List UInt8),
    spRun esc W ⟨o, raw, cs, b⟩ t = ⟨o ++ (spRun esc W ⟨[], raw, cs, b⟩ t).outs, (spRun esc W ⟨[], raw, cs, b⟩ t).raw, (spRun esc W ⟨[], raw, cs, b⟩ t).cells, (spRun esc W ⟨[], raw, cs, b⟩ t).buf⟩
  | [], o, raw, cs, b => by simp [spRun]
  | x :: t, o, raw, cs, b => by
    rw [spRun_cons, spRun_cons, spStep_outs esc W o raw cs b x]
    obtain ⟨o1, raw1, cs1, b1⟩ := spStep esc W ⟨[], raw, cs, b⟩ x
    simp only
    rw [spRun_outs esc W t (o ++ o1), spRun_outs esc W t o1]
    simp

/-! ### the closed beginning -/
/-- How many bytes the longest closed beginning has (0: none), where the line has cells or not. -/
def lc (esc : Bool) : List UInt8 → Bool → Bool → Nat
  | [], _, _ => 0
  | x :: t, raw, cs =>
    if (esc && decide (x = 255)) = true then (if lc esc t (!raw) cs = 0 then 0 else lc esc t (!raw) cs + 1)
    else if (!raw && decide (x = 9)) = true then (if lc esc t raw true = 0 then 0 else lc esc t raw true + 1)
    else if (!raw && (decide (x = 10) || decide (x = 12))) = true then (if lc esc t raw false = 0 then (if (!cs || decide (x = 12)) = true then 1 else 0) else lc esc t raw false + 1)
    else (if lc esc t raw cs = 0 then 0 else lc esc t raw cs + 1)
/-- The loop's own way of finding it. -/
def lcGo (esc : Bool) : List UInt8 → Bool → Bool → Nat → Nat → Nat
  | [], _, _, _, best => best
  | x :: t, raw, cs, i, best =>
    if (esc && decide (x = 255)) = true then lcGo esc t (!raw) cs (i + 1) best
    else if (!raw && decide (x = 9)) = true then lcGo esc t raw true (i + 1) best
    else if (!raw && (decide (x = 10) || decide (x = 12))) = true then lcGo esc t raw false (i + 1) (if (!cs || decide (x = 12)) = true then i + 1 else best)
    else lcGo esc t raw cs (i + 1) best
theorem lcGo_eq (esc : Bool) : ∀ (t : List UInt8) (raw cs : Bool) (i best : Nat), lcGo esc t raw cs i best = if lc esc t raw cs = 0 then best else i + lc esc t raw cs
  | [], _, _, _, _ => rfl
  | x :: t, raw, cs, i, best => by
    rw [lcGo, lc]
    split
    · rw [lcGo_eq esc t]
      by_cases h : lc esc t (!raw) cs = 0
      · simp [h]
      · simp [h]; omega
    · split
      · rw [lcGo_eq esc t]
        by_cases h : lc esc t raw true = 0
        · simp [h]
        · simp [h]; omega
      · split
        · rw [lcGo_eq esc t]
          by_cases h : lc esc t raw false = 0
          · by_cases k : (!cs || decide (x = 12)) = true
            · simp [h, k]
            · simp [h, k]
          · simp [h]; omega
        · rw [lcGo_eq esc t]
          by_cases h : lc esc t raw cs = 0
          · simp [h]
          · simp [h]; omega
theorem lc_le (esc : Bool) : ∀ (t : List UInt8) (raw cs : Bool), lc esc t raw cs ≤ t.length
  | [], _, _ => Nat.le_refl _
  | x :: t, raw, cs => by
    have h1 := lc_le esc t (!raw) cs
    have h2 := lc_le esc t raw true
    have h3 := lc_le esc t raw false
    have h4 := lc_le esc t raw cs
    rw [lc, List.length_cons]
    (repeat' split) <;> omega
/-- The state that the closed beginning leaves: nothing is open; the last line has no cells or ends with a form feed. -/
def closedAt (o : List Ln) : Prop := ∃ l, o.getLast? = some l ∧ (l.cells = [] ∨ l.fin = 12)
theorem closedAt_append {a b : List Ln} (h : closedAt b) : closedAt (a ++ b) := by
  obtain ⟨l, h1, h2⟩ := h
  refine ⟨l, ?_, h2⟩
  rw [List.getLast?_append, h1]; rfl
theorem lc_run (esc : Bool) (W : ByteArray → Int) : ∀ (t : List UInt8) (raw : Bool) (cs : List Cel) (b : List UInt8), lc esc t raw (!cs.isEmpty) ≠ 0 →
    ∃ o, spRun esc W ⟨[], raw, cs, b⟩ (t.take (lc esc t raw (!cs.isEmpty))) = ⟨o, false, [], []⟩ ∧ closedAt o
  | [], _, _, _, h => absurd rfl h
  | x :: t, raw, cs, b, h => by
    have key : ∀ (s : Sp) (n : Nat), spStep esc W ⟨[], raw, cs, b⟩ x = s → lc esc (x :: t) raw (!cs.isEmpty) = n + 1 → (∃ o, spRun esc W ⟨[], s.raw, s.cells, s.buf⟩ (t.take n) = ⟨o, false, [], []⟩ ∧ closedAt (s.outs ++ o)) →
        ∃ o, spRun esc W ⟨[], raw, cs, b⟩ ((x :: t).take (lc esc (x :: t) raw (!cs.isEmpty))) = ⟨o, false, [], []⟩ ∧ closedAt o := by
      intro s n hs hn ho
      obtain ⟨o, ho, hc⟩ := ho
      rw [hn, List.take_succ_cons, spRun_cons, hs]
      obtain ⟨so, sr, sc, sb⟩ := s
      simp only at ho hc
      rw [spRun_outs, ho]
      exact ⟨so ++ o, rfl, hc⟩
    have more : ∀ (s : Sp) (n : Nat), (∃ o, spRun esc W ⟨[], s.raw, s.cells, s.buf⟩ (t.take n) = ⟨o, false, [], []⟩ ∧ closedAt o) → ∃ o, spRun esc W ⟨[], s.raw, s.cells, s.buf⟩ (t.take n) = ⟨o, false, [], []⟩ ∧ closedAt (s.outs ++ o) :=
      fun s n ⟨o, h1, h2⟩ => ⟨o, h1, closedAt_append h2⟩
    rw [lc] at h
    by_cases h1 : (esc && decide (x = 255)) = true
    · rw [if_pos h1] at h
      have hn : lc esc t (!raw) (!cs.isEmpty) ≠ 0 := fun e => h (by rw [if_pos e])
      exact key ⟨[], !raw, cs, b⟩ (lc esc t (!raw) (!cs.isEmpty)) (by unfold spStep; rw [if_pos h1]) (by rw [lc, if_pos h1, if_neg hn]) (more ⟨[], !raw, cs, b⟩ _ (lc_run esc W t (!raw) cs b hn))
    · rw [if_neg h1] at h
      by_cases h2 : (!raw && decide (x = 9)) = true
      · rw [if_pos h2] at h
        have hn : lc esc t raw true ≠ 0 := fun e => h (by rw [if_pos e])
        have hi : (!(cs ++ [celOf W b]).isEmpty) = true := by simp
        refine key ⟨[], raw, cs ++ [celOf W b], []⟩ (lc esc t raw true) (by unfold spStep; rw [if_neg h1, if_pos h2]) (by rw [lc, if_neg h1, if_pos h2, if_neg hn]) ?_
        have := lc_run esc W t raw (cs ++ [celOf W b]) []
        rw [hi] at this
        exact more ⟨[], raw, cs ++ [celOf W b], []⟩ _ (this hn)
      · rw [if_neg h2] at h
        by_cases h3 : (!raw && (decide (x = 10) || decide (x = 12))) = true
        · rw [if_pos h3] at h
          have hr : raw = false := by cases raw <;> simp_all
          by_cases hn : lc esc t raw false = 0
          · rw [if_pos hn] at h
            have h4 : (!(!cs.isEmpty) || decide (x = 12)) = true := by
              by_cases k : (!(!cs.isEmpty) || decide (x = 12)) = true
              · exact k
              · rw [if_neg k] at h; exact absurd rfl h
            refine key ⟨[⟨cs, celOf W b, (x.toNat : Int)⟩], raw, [], []⟩ 0 (by unfold spStep; rw [if_neg h1, if_neg h2, if_pos h3]; rfl) (by rw [lc, if_neg h1, if_neg h2, if_pos h3, if_pos hn, if_pos h4]) ?_
            subst hr
            refine ⟨[], rfl, ⟨cs, celOf W b, (x.toNat : Int)⟩, rfl, ?_⟩
            cases hcs : cs with
            | nil => exact .inl rfl
            | cons a r =>
              rw [hcs] at h4
              have : x = 12 := by simpa using h4
              exact .inr (by rw [this]; rfl)
          · refine key ⟨[⟨cs, celOf W b, (x.toNat : Int)⟩], raw, [], []⟩ (lc esc t raw false) (by unfold spStep; rw [if_neg h1, if_neg h2, if_pos h3]; rfl) (by rw [lc, if_neg h1, if_neg h2, if_pos h3, if_neg hn]) ?_
            exact more ⟨[⟨cs, celOf W b, (x.toNat : Int)⟩], raw, [], []⟩ _ (lc_run esc W t raw [] [] hn)
        · rw [if_neg h3] at h
          have hn : lc esc t raw (!cs.isEmpty) ≠ 0 := fun e => h (by rw [if_pos e])
          exact key ⟨[], raw, cs, b ++ [x]⟩ (lc esc t raw (!cs.isEmpty)) (by unfold spStep; rw [if_neg h1, if_neg h2, if_neg h3]) (by rw [lc, if_neg h1, if_neg h2, if_neg h3, if_neg hn]) (more ⟨[], raw, cs, b ++ [x]⟩ _ (lc_run esc W t raw cs (b ++ [x]) hn))
/-- Behind the closed beginning nothing is closed; and what follows adds to it. -/
theorem lc_append (esc : Bool) (r : List UInt8) : ∀ (t : List UInt8) (raw cs : Bool), lc esc t raw cs ≠ 0 → lc esc (t ++ r) raw cs = lc esc t raw cs + lc esc (t.drop (lc esc t raw cs) ++ r) false false
  | [], _, _, h => absurd rfl h
  | x :: t, raw, cs, h => by
    have e : lc esc (x :: t ++ r) raw cs = lc esc (x :: (t ++ r)) raw cs := rfl
    have fin : ∀ (raw' cs' : Bool), lc esc t raw' cs' ≠ 0 → lc esc (t ++ r) raw' cs' ≠ 0 ∧ lc esc (t ++ r) raw' cs' + 1 = lc esc t raw' cs' + 1 + lc esc ((x :: t).drop (lc esc t raw' cs' + 1) ++ r) false false := by
      intro raw' cs' hn
      have ih := lc_append esc r t raw' cs' hn
      rw [List.drop_succ_cons, ih]
      exact ⟨by omega, by omega⟩
    rw [e]
    by_cases h1 : (esc && decide (x = 255)) = true
    · have hn : lc esc t (!raw) cs ≠ 0 := fun k => h (by rw [lc, if_pos h1, if_pos k])
      obtain ⟨f1, f2⟩ := fin (!raw) cs hn
      have e1 : lc esc (x :: t) raw cs = lc esc t (!raw) cs + 1 := by rw [lc, if_pos h1, if_neg hn]
      rw [e1, ← f2, lc, if_pos h1, if_neg f1]
    · by_cases h2 : (!raw && decide (x = 9)) = true
      · have hn : lc esc t raw true ≠ 0 := fun k => h (by rw [lc, if_neg h1, if_pos h2, if_pos k])
        obtain ⟨f1, f2⟩ := fin raw true hn
        have e1 : lc esc (x :: t) raw cs = lc esc t raw true + 1 := by rw [lc, if_neg h1, if_pos h2, if_neg hn]
        rw [e1, ← f2, lc, if_neg h1, if_pos h2, if_neg f1]
      · by_cases h3 : (!raw && (decide (x = 10) || decide (x = 12))) = true
        · have hr : raw = false := by cases raw <;> simp_all
          by_cases hn : lc esc t raw false = 0
          · have h4 : (!cs || decide (x = 12)) = true := by
              by_cases k : (!cs || decide (x = 12)) = true
              · exact k
              · exact absurd (by rw [lc, if_neg h1, if_neg h2, if_pos h3, if_pos hn, if_neg k]) h
            have e1 : lc esc (x :: t) raw cs = 1 := by rw [lc, if_neg h1, if_neg h2, if_pos h3, if_pos hn, if_pos h4]
            rw [e1, lc, if_neg h1, if_neg h2, if_pos h3, List.drop_succ_cons, List.drop_zero, hr]
            by_cases k : lc esc (t ++ r) false false = 0
            · rw [if_pos k, if_pos h4, k]
            · rw [if_neg k]; omega
          · obtain ⟨f1, f2⟩ := fin raw false hn
            have e1 : lc esc (x :: t) raw cs = lc esc t raw false + 1 := by rw [lc, if_neg h1, if_neg h2, if_pos h3, if_neg hn]
            rw [e1, ← f2, lc, if_neg h1, if_neg h2, if_pos h3, if_neg f1]
        · have hn : lc esc t raw cs ≠ 0 := fun k => h (by rw [lc, if_neg h1, if_neg h2, if_neg h3, if_pos k])
          obtain ⟨f1, f2⟩ := fin raw cs hn
          have e1 : lc esc (x :: t) raw cs = lc esc t raw cs + 1 := by rw [lc, if_neg h1, if_neg h2, if_neg h3, if_neg hn]
          rw [e1, ← f2, lc, if_neg h1, if_neg h2, if_neg h3, if_neg f1]
theorem lc_rest (esc : Bool) (t : List UInt8) (raw cs : Bool) (h : lc esc t raw cs ≠ 0) : lc esc (t.drop (lc esc t raw cs)) false false = 0 := by
  have := lc_append esc [] t raw cs h
  rw [List.append_nil, List.append_nil] at this
  omega
/-- What a text's closed beginning is, what it leaves is closed nowhere: whether it is 0 or not. -/
theorem lc_rest0 (esc : Bool) (t : List UInt8) : lc esc (t.drop (lc esc t false false)) false false = 0 := by
  by_cases h : lc esc t false false = 0
  · rw [h, List.drop_zero]; exact h
  · exact lc_rest esc t false false h
/-- More text behind it: the closed beginning grows by that of what was held and what came. -/
theorem lc_more (esc : Bool) (t r : List UInt8) : lc esc (t ++ r) false false = lc esc t false false + lc esc (t.drop (lc esc t false false) ++ r) false false := by
  by_cases h : lc esc t false false = 0
  · rw [h, List.drop_zero, Nat.zero_add]
  · exact lc_append esc r t false false h
/-- The lines of a text whose beginning is closed. -/
theorem lines_closed (esc : Bool) (W : ByteArray → Int) (t : List UInt8) (h : lc esc t false false ≠ 0) :
    ∃ o, closedAt o ∧ linesOf esc W (t.take (lc esc t false false)) = o ++ [⟨[], celOf W [], 0⟩] ∧ linesOf esc W t = o ++ linesOf esc W (t.drop (lc esc t false false)) := by
  obtain ⟨o, h1, h2⟩ := lc_run esc W t false [] [] h
  have e : (!([] : List Cel).isEmpty) = false := rfl
  rw [e] at h1
  refine ⟨o, h2, ?_, ?_⟩
  · unfold linesOf sp0
    rw [h1]
  · have h3 : spRun esc W sp0 t = spRun esc W ⟨o, false, [], []⟩ (t.drop (lc esc t false false)) := by
      conv => lhs; rw [← List.take_append_drop (lc esc t false false) t]
      rw [spRun_append]
      unfold sp0
      rw [h1]
    unfold linesOf
    rw [h3, spRun_outs]
    simp [sp0]
end Go.Proofs.YtooanejiadbngaaGreatDoor

/- Column widths and layouts: plain words. No walk. -/
namespace Go.Proofs.YtooanejiadbngaaGreatDoor
open Go.RowKit
set_option linter.unusedVariables false

/-- A width, rounded to the tab stops. -/
def roundI (c : Cfg) (n : Int) : Int := if c.cpad = 9 then (n + c.ctab - 1) / c.ctab * c.ctab else n
/-- The greatest width in column k of the run of lines at the head; 0 if the first one has no such cell. -/
def rmax (k : Nat) : List Ln → Int
  | [] => 0
  | l :: t => match l.cells[k]? with
    | none => 0
    | some x => max x.wid (if l.fin = 12 then 0 else rmax k t)
/-- How many lines that run has. -/
def rlen (k : Nat) : List Ln → Nat
  | [] => 0
  | l :: t => if k < l.cells.length then 1 + (if l.fin = 12 then 0 else rlen k t) else 0
/-- The width of a block whose greatest cell is most. -/
def blockW (c : Cfg) (most : Int) : Int := if 0 < most ∨ c.fd = false then roundI c (max c.cmin (most + c.cpadding)) else 0
/-- The greatest width of the run so far, behind a line. -/
def lnext (lm : Nat → Int) (l : Ln) : Nat → Int := fun k => match l.cells[k]? with
  | none => 0
  | some x => if l.fin = 12 then 0 else max (lm k) x.wid
def rowW1 (c : Cfg) (lm : Nat → Int) (list : List Ln) (n : Nat) : List Int := (List.range n).map fun k => blockW c (max (lm k) (rmax k list))
def widthsGo (c : Cfg) : (Nat → Int) → List Ln → List (List Int)
  | _, [] => []
  | lm, l :: t => rowW1 c lm (l :: t) l.cells.length :: widthsGo c (lnext lm l) t
/-- The widths of all cells, line by line. -/
def widthsL (c : Cfg) (list : List Ln) : List (List Int) := widthsGo c (fun _ => 0) list
theorem widthsGo_length (c : Cfg) : ∀ (list : List Ln) (lm : Nat → Int), (widthsGo c lm list).length = list.length
  | [], _ => rfl
  | l :: t, lm => by simp [widthsGo, widthsGo_length c t]

theorem closedAt_tail {l : Ln} {o : List Ln} (h : closedAt (l :: o)) (ho : o ≠ []) : closedAt o := by
  obtain ⟨x, h1, h2⟩ := h
  refine ⟨x, ?_, h2⟩
  cases o with
  | nil => exact absurd rfl ho
  | cons a r => rw [List.getLast?_cons_cons] at h1; exact h1
theorem closedAt_one {l : Ln} (h : closedAt [l]) : l.cells = [] ∨ l.fin = 12 := by
  obtain ⟨x, h1, h2⟩ := h
  simp at h1
  rw [h1]; exact h2
theorem rmax_closed (k : Nat) (X : List Ln) : ∀ (o : List Ln), closedAt o → rmax k (o ++ X) = rmax k o
  | [], h => by obtain ⟨x, h1, _⟩ := h; cases h1
  | [l], h => by
    rcases closedAt_one h with h1 | h1
    · simp [rmax, h1]
    · simp [rmax, h1]
  | l :: a :: r, h => by
    have ih := rmax_closed k X (a :: r) (closedAt_tail h (by simp))
    rw [List.cons_append, rmax, rmax, ih]
theorem lnext_closed {lm : Nat → Int} {l : Ln} (h : l.cells = [] ∨ l.fin = 12) : lnext lm l = fun _ => 0 := by
  funext k
  unfold lnext
  rcases h with h | h
  · simp [h]
  · split <;> simp [h]
/-- No block goes beyond a closed beginning. -/
theorem widths_closed (c : Cfg) (X : List Ln) : ∀ (o : List Ln) (lm : Nat → Int), closedAt o → widthsGo c lm (o ++ X) = widthsGo c lm o ++ widthsL c X
  | [], _, h => by obtain ⟨x, h1, _⟩ := h; cases h1
  | [l], lm, h => by
    have hr : rowW1 c lm (l :: X) l.cells.length = rowW1 c lm [l] l.cells.length := by
      unfold rowW1
      apply List.map_congr_left
      intro k _
      have := rmax_closed k X [l] h
      rw [List.singleton_append] at this
      rw [this]
    show rowW1 c lm (l :: X) l.cells.length :: widthsGo c (lnext lm l) X = _
    rw [hr, lnext_closed (closedAt_one h)]
    rfl
  | l :: a :: r, lm, h => by
    have ih := widths_closed c X (a :: r) (lnext lm l) (closedAt_tail h (by simp))
    have hr : rowW1 c lm (l :: ((a :: r) ++ X)) l.cells.length = rowW1 c lm (l :: a :: r) l.cells.length := by
      unfold rowW1
      apply List.map_congr_left
      intro k _
      have := rmax_closed k X (l :: a :: r) h
      rw [List.cons_append] at this
      rw [this]
    show rowW1 c lm (l :: ((a :: r) ++ X)) l.cells.length :: widthsGo c (lnext lm l) ((a :: r) ++ X) = _
    rw [hr, ih]
    rfl

/-! ### layouts -/
/-- The bytes that fill n columns. -/
def fillL (c : Cfg) (n : Int) : List UInt8 := if c.cpad = 9 then List.replicate ((n + c.ctab - 1) / c.ctab).toNat 9 else List.replicate n.toNat (UInt8.ofNat c.cpad.toNat)
def layCel (c : Cfg) (x : Cel) (w : Int) : List UInt8 :=
  (if c.fr = true then fillL c (max (w - x.wid) 0) ++ x.txt.data.toList else x.txt.data.toList ++ fillL c (max (w - x.wid) 0)) ++ (if c.fl = true then [124] else [])
def layCels (c : Cfg) : List Cel → List Int → List UInt8
  | x :: xs, w :: ws => layCel c x w ++ layCels c xs ws
  | _, _ => []
/-- One line. -/
def layLn (c : Cfg) (l : Ln) (ws : List Int) : List UInt8 := layCels c l.cells ws ++ (l.tail.txt.data.toList ++ (if l.fin ≠ 0 then [10] else []))
def layZip (c : Cfg) : List Ln → List (List Int) → List UInt8
  | l :: ls, w :: ws => layLn c l w ++ layZip c ls ws
  | _, _ => []
/-- All lines. -/
def layAll (c : Cfg) (list : List Ln) : List UInt8 := layZip c list (widthsL c list)
theorem layZip_append (c : Cfg) : ∀ (a b : List Ln) (u v : List (List Int)), u.length = a.length → layZip c (a ++ b) (u ++ v) = layZip c a u ++ layZip c b v
  | [], b, [], v, _ => rfl
  | [], _, _ :: _, _, h => by cases h
  | _ :: _, _, [], _, h => by cases h
  | l :: a, b, w :: u, v, h => by
    simp only [List.cons_append, layZip, List.append_assoc]
    rw [layZip_append c a b u v (by simpa using h)]
theorem lay_closed (c : Cfg) (o X : List Ln) (h : closedAt o) : layAll c (o ++ X) = layAll c o ++ layAll c X := by
  unfold layAll widthsL
  rw [widths_closed c X o _ h, layZip_append c o X _ _ (widthsGo_length c o _)]
  rfl
theorem layAll_empty (c : Cfg) (W : ByteArray → Int) : layAll c [⟨[], celOf W [], 0⟩] = [] := by
  simp [layAll, widthsL, widthsGo, rowW1, layZip, layLn, layCels, celOf]
/-- The layout of a text, for a measure W of cells. -/
def layoutL (c : Cfg) (W : ByteArray → Int) (t : List UInt8) : List UInt8 := layAll c (linesOf c.fe W t)
theorem layout_nil (c : Cfg) (W : ByteArray → Int) : layoutL c W [] = [] := layAll_empty c W
/-- A text that leaves nothing open. -/
def Done (esc : Bool) (W : ByteArray → Int) (a : List UInt8) : Prop := ∃ o, spRun esc W sp0 a = ⟨o, false, [], []⟩ ∧ closedAt o
theorem done_lc (esc : Bool) (W : ByteArray → Int) (t : List UInt8) (h : lc esc t false false ≠ 0) : Done esc W (t.take (lc esc t false false)) := by
  have := lc_run esc W t false [] [] h
  exact this
theorem layout_done (c : Cfg) (W : ByteArray → Int) (a b : List UInt8) (h : Done c.fe W a) : layoutL c W (a ++ b) = layoutL c W a ++ layoutL c W b := by
  obtain ⟨o, h1, h2⟩ := h
  have e1 : linesOf c.fe W a = o ++ [⟨[], celOf W [], 0⟩] := by unfold linesOf; rw [h1]
  have e2 : linesOf c.fe W (a ++ b) = o ++ linesOf c.fe W b := by
    unfold linesOf
    rw [spRun_append, h1, spRun_outs]
    simp [sp0]
  unfold layoutL
  rw [e1, e2, lay_closed c o _ h2, lay_closed c o _ h2, layAll_empty, List.append_nil]
/-- The layout of a text consists of that of its closed beginning and that of the rest. -/
theorem layout_lc (c : Cfg) (W : ByteArray → Int) (t : List UInt8) : layoutL c W t = layoutL c W (t.take (lc c.fe t false false)) ++ layoutL c W (t.drop (lc c.fe t false false)) := by
  by_cases h : lc c.fe t false false = 0
  · rw [h, List.take_zero, List.drop_zero, layout_nil, List.nil_append]
  · conv => lhs; rw [← List.take_append_drop (lc c.fe t false false) t]
    exact layout_done c W _ _ (done_lc c.fe W t h)

/-! ### the stream -/
/-- What has been passed on and what is held when the text so far is T. -/
def toldL (c : Cfg) (W : ByteArray → Int) (T : List UInt8) : List UInt8 := layoutL c W (T.take (lc c.fe T false false))
def heldL (c : Cfg) (T : List UInt8) : List UInt8 := T.drop (lc c.fe T false false)
/-- One chunk more: what is held, and what is passed on by it. -/
theorem held_more (c : Cfg) (T r : List UInt8) : heldL c (T ++ r) = (heldL c T ++ r).drop (lc c.fe (heldL c T ++ r) false false) := by
  unfold heldL
  rw [lc_more c.fe T r]
  have hle := lc_le c.fe T false false
  rw [← List.drop_drop, List.drop_append_of_le_length hle]
theorem told_more (c : Cfg) (W : ByteArray → Int) (T r : List UInt8) : toldL c W (T ++ r) = toldL c W T ++ layoutL c W ((heldL c T ++ r).take (lc c.fe (heldL c T ++ r) false false)) := by
  unfold toldL
  have hle := lc_le c.fe T false false
  have hm := lc_more c.fe T r
  have e : (T ++ r).take (lc c.fe (T ++ r) false false) = T.take (lc c.fe T false false) ++ (heldL c T ++ r).take (lc c.fe (heldL c T ++ r) false false) := by
    unfold heldL
    rw [hm, List.take_add, List.take_append_of_le_length hle, List.drop_append_of_le_length hle]
  rw [e]
  by_cases h : lc c.fe T false false = 0
  · rw [h, List.take_zero, List.nil_append, layout_nil, List.nil_append]
  · exact layout_done c W _ _ (done_lc c.fe W T h)
/-- All in all it is the layout. -/
theorem told_held (c : Cfg) (W : ByteArray → Int) (T : List UInt8) : toldL c W T ++ layoutL c W (heldL c T) = layoutL c W T := (layout_lc c W T).symm
theorem held_closed (c : Cfg) (T : List UInt8) : lc c.fe (heldL c T) false false = 0 := lc_rest0 c.fe T
theorem held_nil (c : Cfg) : heldL c [] = [] := rfl
theorem told_nil (c : Cfg) (W : ByteArray → Int) : toldL c W [] = [] := layout_nil c W
theorem held_le (c : Cfg) (T : List UInt8) : (heldL c T).length ≤ T.length := by unfold heldL; rw [List.length_drop]; omega
/-- Two chunks and one. -/
theorem lc_a_nl (esc : Bool) : lc esc [97, 10] false false = 2 := by cases esc <;> decide
/-- The bytes that fill n columns, whatever n. -/
def fillW (c : Cfg) (n : Int) : ByteArray := ⟨(fillL c n).toArray⟩
theorem fillW_tab (c : Cfg) (n : Int) (h : c.cpad = 9) : fillW c n = copies 9 ((n + c.ctab - 1) / c.ctab).toNat := by
  unfold fillW fillL copies; rw [if_pos h]
theorem fillW_other (c : Cfg) (n : Int) (h : ¬ c.cpad = 9) : fillW c n = copies (UInt8.ofNat c.cpad.toNat) n.toNat := by
  unfold fillW fillL copies; rw [if_neg h]
theorem fillW_list (c : Cfg) (n : Int) : (fillW c n).data.toList = fillL c n := by unfold fillW; simp
end Go.Proofs.YtooanejiadbngaaGreatDoor

/- The greater of two numbers: the model's. -/
namespace Go.Proofs.YtooanejiadbngaaGreatDoor
open Go.RowKit
set_option linter.unusedVariables false

end Go.Proofs.YtooanejiadbngaaGreatDoor

/- Rows that a call owns: one element more, what is kept, what is apart. Any type of element. No walk. -/
namespace Go.Proofs.YtooanejiadbngaaGreatDoor
open Go.RowKit
set_option linter.unusedVariables false

theorem own_more {W : World} {base : Nat} {e : TypeId} {v : Value} {n m : Nat} {xs ys : List Value} (h : W.ownsRow base e 1 v n xs) (hn : n = m) (hx : xs = ys) : W.ownsRow base e 1 v m ys := by subst hn; subst hx; exact h
/-- A block of another type is not the row's own. -/
theorem own_not_blk {W : World} {base g : Nat} {e T : TypeId} {size : Nat} {v : Value} {n : Nat} {xs : List Value} {cs : Array Value} (h : W.ownsRow base e size v n xs) (hb : Blk W g T cs) (hne : e ≠ T) : ¬ v.ownBlock = some g := by
  intro he
  rcases h.2 with ⟨rfl, _⟩ | ⟨g', cap, cur, rfl, _, hg, _⟩
  · cases he
  · have : g' = g := by simpa [Value.ownBlock] using he
    subst this
    have := hg.symm.trans hb
    simp at this
    exact hne this.2
theorem Blk.grows {W W' : World} {base g : Nat} {e T : TypeId} {size : Nat} {v : Value} {n : Nat} {xs : List Value} {cs : Array Value} (hb : Blk W g T cs) (h : W.ownsRow base e size v n xs) (hne : e ≠ T) (hg : W.grownBy W' v.ownBlock) : Blk W' g T cs :=
  (hg.block g hb.lt (fun he => own_not_blk h hb hne he.symm)).trans hb
theorem own_blk {w : World} {base : Nat} {e : TypeId} {size g n c : Nat} {xs : List Value} (h : w.ownsRow base e size (.slice (some ⟨g, 0, none⟩) n c) n xs) (hc : c = n) : ∃ cs, Blk w g e cs ∧ cs.toList = xs ∧ base ≤ g := by
  subst hc
  rcases h.2 with ⟨h', _⟩ | ⟨g', cap', cur, h', hb, hg, hnc, hcm, hcs, htake⟩
  · simp at h'
  · simp only [Value.slice.injEq, Option.some.injEq, Addr.mk.injEq, and_true, true_and] at h'
    obtain ⟨rfl, rfl⟩ := h'
    refine ⟨cur, hg, ?_, hb⟩
    rw [List.take_of_length_le (by simp [hcs])] at htake
    exact htake
theorem grown_trans {a b c : World} {row : Option Nat} (h : a.grownBy b row) (k : b.grownBy c row) : a.grownBy c row :=
  ⟨k.os.trans h.os, k.tape.trans h.tape, k.output.trans h.output, Nat.le_trans h.size k.size, fun i hi hn => (k.block i (Nat.lt_of_lt_of_le hi h.size) hn).trans (h.block i hi hn)⟩
/-- One element more, of any size. -/
theorem append_el {P : Program} {ops : Array Oper} {rest : List Oper} {o : Oper} {a : Act} {Q : Exit → Act → World → Prop} (hgd : o.guard = none) (s x : Operand) (t : TypeId)
    (ho : o.op = .call { callee := .builtin .append, args := #[s, x], argTypes := #[t, t] })
    (base : Nat) (e : TypeId) (i : TypeInfo) (z : Value) (size bytes : Nat) (ht : P.underlying t = some (.slice e)) (hi : P.info? e = some i) (hz : i.zero = some z)
    (hsize : i.size = size) (hby : i.bytes = bytes) (hzs : z.cells.size = size) (hsz : 0 < size) (v : Value) (n : Nat) (xs : List Value) (hs : a.eval s = v) (W : World) (cs : Array Value)
    (hx : a.eval x = .slice (some ⟨W.heap.size, 0, none⟩) 1 1) (hcs : cs.size = size) (h1 : ∀ u ∈ cs.toList, u.oneCell' = true) (hown : W.ownsRow base e size v n xs) (hbytes : (n + 1) * bytes ≤ 140737488355328) (hn : n + 1 ≤ 9223372036854775807) (hbase : base ≤ W.heap.size)
    (h : ∀ v' w', w'.ownsRow base e size v' (n + 1) (xs ++ cs.toList) → W.grownBy w' v.ownBlock → (v'.ownBlock = v.ownBlock ∨ v'.ownBlock = some (W.heap.size + 1)) → wpList P ops Q rest (a.put o.dst v') w') : wpList P ops Q (o :: rest) a (W.alloc (.cells cs e)) := by
  refine wpList_append_own_at _ hgd s x t ho base e i z size bytes ht hi hz hsize hby hzs hsz v n xs hs (hown.alloc _) ⟨W.heap.size, 0, none⟩ 1 1 cs.toList hx (by simp [hcs]) ?_ h1 (by unfold maxLen; omega) hbytes (by simp; omega) ?_
  · intro j y hj
    rw [show (⟨W.heap.size, 0, none⟩ : Addr).add j = ⟨W.heap.size, j, none⟩ by simp [Addr.add]; intro h; exact h.symm, cell_of_row _ W.heap.size j cs e (0, 0) (heap_alloc_new W _)]
    simpa using hj
  · intro v' w' hown' hg _ hat
    exact h v' w' hown' (grown_trans (World.grownBy_alloc W _ _) hg) (by simpa using hat)

/-- .. where the new block's number is spelled otherwise. -/
theorem append_elH {P : Program} {ops : Array Oper} {rest : List Oper} {o : Oper} {a : Act} {Q : Exit → Act → World → Prop} (hgd : o.guard = none) (s x : Operand) (t : TypeId)
    (ho : o.op = .call { callee := .builtin .append, args := #[s, x], argTypes := #[t, t] })
    (base : Nat) (e : TypeId) (i : TypeInfo) (z : Value) (size bytes : Nat) (ht : P.underlying t = some (.slice e)) (hi : P.info? e = some i) (hz : i.zero = some z)
    (hsize : i.size = size) (hby : i.bytes = bytes) (hzs : z.cells.size = size) (hsz : 0 < size) (v : Value) (n : Nat) (xs : List Value) (hs : a.eval s = v) (W : World) (cs : Array Value)
    (H : Nat) (hH : W.heap.size = H) (hx : a.eval x = .slice (some ⟨H, 0, none⟩) 1 1) (hcs : cs.size = size) (h1 : ∀ u ∈ cs.toList, u.oneCell' = true) (hown : W.ownsRow base e size v n xs) (hbytes : (n + 1) * bytes ≤ 140737488355328) (hn : n + 1 ≤ 9223372036854775807) (hbase : base ≤ W.heap.size)
    (h : ∀ v' w', w'.ownsRow base e size v' (n + 1) (xs ++ cs.toList) → W.grownBy w' v.ownBlock → (v'.ownBlock = v.ownBlock ∨ v'.ownBlock = some (W.heap.size + 1)) → wpList P ops Q rest (a.put o.dst v') w') : wpList P ops Q (o :: rest) a (W.alloc (.cells cs e)) := by
  subst hH
  exact append_el hgd s x t ho base e i z size bytes ht hi hz hsize hby hzs hsz v n xs hs W cs hx hcs h1 hown hbytes hn hbase h
/-- The same, as a step of a region that draws its order (for 'go_region_law'). -/
theorem step_append_el {P : Program} {ops : Array Oper} {o : Oper} {a : Act} {K : Act → World → Prop} {Q : Exit → Act → World → Prop} {E : Prop} (hgd : o.guard = none) (s x : Operand) (t : TypeId)
    (ho : o.op = .call { callee := .builtin .append, args := #[s, x], argTypes := #[t, t] })
    (base : Nat) (e : TypeId) (i : TypeInfo) (z : Value) (size bytes : Nat) (ht : P.underlying t = some (.slice e)) (hi : P.info? e = some i) (hz : i.zero = some z)
    (hsize : i.size = size) (hby : i.bytes = bytes) (hzs : z.cells.size = size) (hsz : 0 < size) (v : Value) (n : Nat) (xs : List Value) (hs : a.eval s = v) (W : World) (cs : Array Value)
    (hx : a.eval x = .slice (some ⟨W.heap.size, 0, none⟩) 1 1) (hcs : cs.size = size) (h1 : ∀ u ∈ cs.toList, u.oneCell' = true) (hown : W.ownsRow base e size v n xs) (hbytes : (n + 1) * bytes ≤ 140737488355328) (hn : n + 1 ≤ 9223372036854775807) (hbase : base ≤ W.heap.size)
    (h : ∀ g cap w', w'.ownsRow base e size (.slice (some ⟨g, 0, none⟩) (n + 1) cap) (n + 1) (xs ++ cs.toList) → W.grownBy w' v.ownBlock → ((Value.slice (some ⟨g, 0, none⟩) (n + 1) cap).ownBlock = v.ownBlock ∨ (Value.slice (some ⟨g, 0, none⟩) (n + 1) cap).ownBlock = some (W.heap.size + 1)) → K (a.put o.dst (.slice (some ⟨g, 0, none⟩) (n + 1) cap)) w') :
    if Region.wanted o (yielded ops a.tmps) = true then Oper.wp P o a (W.alloc (.cells cs e)) K Q else E := by
  refine step_append_lies _ hgd s x t ho base e i z size bytes ht hi hz hsize hby hzs hsz v n xs hs (hown.alloc _) ⟨W.heap.size, 0, none⟩ 1 1 cs.toList hx (by simp [hcs]) ?_ h1 (by decide) (by unfold maxLen; omega) hbytes (by simp; omega) (W.heap.size + 1) (by simp) ?_
  · intro j y hj
    rw [show (⟨W.heap.size, 0, none⟩ : Addr).add j = ⟨W.heap.size, j, none⟩ by simp [Addr.add]; intro h; exact h.symm, cell_of_row _ W.heap.size j cs e (0, 0) (heap_alloc_new W _)]
    simpa using hj
  · intro g cap w' hown' hg hat _
    refine h g cap w' hown' (grown_trans (World.grownBy_alloc W _ _) hg) ?_
    rcases hat with hat | hat
    · exact .inl (by rw [hat]; rfl)
    · exact .inr (by rw [hat]; rfl)
/-! ### blocks of one type stay -/
def Keeps (W W' : World) (e : TypeId) : Prop := ∀ (g : Nat) (cs : Array Value), W.heap[g]? = some (.cells cs e (0, 0)) → W'.heap[g]? = some (.cells cs e (0, 0))
theorem own_keeps {W W' : World} {base : Nat} {e : TypeId} {size : Nat} {v : Value} {n : Nat} {xs : List Value} (h : W.ownsRow base e size v n xs) (hk : Keeps W W' e) : W'.ownsRow base e size v n xs :=
  ⟨h.1, h.2.imp id fun ⟨g, cap, cur, h1, h2, h3, h4⟩ => ⟨g, cap, cur, h1, h2, hk g cur h3, h4⟩⟩
theorem Blk.keeps {W W' : World} {g : Nat} {T : TypeId} {cs : Array Value} (h : Blk W g T cs) (hk : Keeps W W' T) : Blk W' g T cs := hk g cs h
theorem Keeps.trans {W W1 W2 : World} {e : TypeId} (h : Keeps W W1 e) (h' : Keeps W1 W2 e) : Keeps W W2 e := fun g cs hg => h' g cs (h g cs hg)
theorem Keeps.below {W W' : World} (e : TypeId) (h : Below W.heap.size W W') : Keeps W W' e := fun g cs hg => (h.block g (Array.getElem?_eq_some_iff.1 hg).1).trans hg
theorem Keeps.grown {W W' : World} {base : Nat} {e e2 : TypeId} {size : Nat} {v : Value} {n : Nat} {xs : List Value} (h : W.ownsRow base e2 size v n xs) (hne : e2 ≠ e) (hg : W.grownBy W' v.ownBlock) : Keeps W W' e :=
  fun g cs hc => Blk.grows hc h hne hg
theorem grown_set (W : World) (g j : Nat) (u : Value) : W.grownBy (W.setCell ⟨g, j, none⟩ u) (some g) :=
  ⟨rfl, rfl, rfl, by simp [World.setCell], fun k _ hne => Below.heap_setCell _ _ _ _ (fun h => hne (by rw [h]))⟩
theorem grown_row (W : World) (g : Nat) (cs : Array Value) : W.grownBy (W.setRow g cs) (some g) :=
  ⟨rfl, rfl, rfl, by simp [World.setRow], fun k _ hne => by
    have : g ≠ k := fun h => hne (by rw [h])
    simp [World.setRow, Array.getElem?_modify, this]⟩
theorem Keeps.blk {W W' : World} {g : Nat} {T e : TypeId} {cs : Array Value} (hb : Blk W g T cs) (hne : T ≠ e) (hg : W.grownBy W' (some g)) : Keeps W W' e := fun k ck hk =>
  (hg.block k (Array.getElem?_eq_some_iff.1 hk).1 (fun h => by
    injection h with h
    subst h
    have := hb.symm.trans hk
    simp at this
    exact hne this.2)).trans hk
/-- No two of them lie in one block. -/
def Distinct (vs : List Value) : Prop := ∀ (i j : Nat) (u u' : Value), i ≠ j → vs[i]? = some u → vs[j]? = some u' → u.ownBlock = none ∨ u.ownBlock ≠ u'.ownBlock
theorem Distinct.nil : Distinct [] := fun i j u u' _ h _ => by simp at h
theorem Distinct.snoc {vs : List Value} {v : Value} (h : Distinct vs) (hn : ∀ (j : Nat) (u : Value), vs[j]? = some u → u.ownBlock = none ∨ u.ownBlock ≠ v.ownBlock) : Distinct (vs ++ [v]) := by
  have key : ∀ (j : Nat) (x : Value), (vs ++ [v])[j]? = some x → (j < vs.length ∧ vs[j]? = some x) ∨ (j = vs.length ∧ x = v) := by
    intro j x hx
    rcases Nat.lt_trichotomy j vs.length with hj | hj | hj
    · exact .inl ⟨hj, by rw [List.getElem?_append_left hj] at hx; exact hx⟩
    · subst hj; rw [List.getElem?_append_right (Nat.le_refl _)] at hx; simp at hx; exact .inr ⟨rfl, hx.symm⟩
    · rw [List.getElem?_eq_none (by simp; omega)] at hx; cases hx
  intro i j u u' hij hi hj
  rcases key i u hi with ⟨a, hi'⟩ | ⟨a, rfl⟩ <;> rcases key j u' hj with ⟨b, hj'⟩ | ⟨b, rfl⟩
  · exact h i j u u' hij hi' hj'
  · exact hn i u hi'
  · rcases hn j u' hj' with h0 | h0
    · cases hx : u.ownBlock with
      | none => exact .inl rfl
      | some g => exact .inr (by rw [h0]; exact fun h => by cases h)
    · exact .inr (fun e => h0 e.symm)
  · omega
end Go.Proofs.YtooanejiadbngaaGreatDoor

/- Lists of texts that come in: how much they are, their copies. -/
namespace Go.Proofs.YtooanejiadbngaaGreatDoor
open Go.RowKit
set_option linter.unusedVariables false

/-- All the bytes of a list of texts. -/
def tot : List ByteArray → Nat
  | [] => 0
  | x :: r => x.size + tot r
theorem tot_take (xs : List ByteArray) : ∀ k, tot (xs.take k) ≤ tot xs := by
  induction xs with
  | nil => intro k; simp [tot]
  | cons x r ih =>
    intro k
    cases k with
    | zero => simp [tot]
    | succ k => have := ih k; simp only [List.take_succ_cons, tot]; omega
theorem tot_mem (xs : List ByteArray) (x : ByteArray) (h : x ∈ xs) : x.size ≤ tot xs := by
  induction xs with
  | nil => cases h
  | cons y r ih =>
    cases h with
    | head => simp only [tot]; omega
    | tail _ h => have := ih h; simp only [tot]; omega
/-- What szStringS gives. -/
def szGo : List ByteArray → Int → Int
  | [], l => l
  | x :: r, l => if l - x.size < 0 then -1 else szGo r (l - x.size)
def szL (xs : List ByteArray) (left : Int) : Int := if left - xs.length < 0 then -1 else szGo xs (left - xs.length)
theorem szGo_le (xs : List ByteArray) : ∀ l : Int, 0 ≤ szGo xs l → (tot xs : Int) ≤ l := by
  induction xs with
  | nil => intro l h; simpa [szGo, tot] using h
  | cons x r ih =>
    intro l h
    unfold szGo at h
    split at h
    · omega
    · have := ih _ h
      simp only [tot]
      omega
theorem szL_le (xs : List ByteArray) (l : Int) (h : 0 ≤ szL xs l) : (xs.length : Int) ≤ l ∧ (tot xs : Int) ≤ l := by
  unfold szL at h
  split at h
  · omega
  · have := szGo_le xs _ h
    omega

/-- j cells copied, the others as they were. -/
def copied (j : Nat) (xs ys : List Value) : List Value := xs.take j ++ ys.drop j
theorem copied_zero (xs ys : List Value) : copied 0 xs ys = ys := by simp [copied]
theorem copied_all (xs ys : List Value) (h : ys.length = xs.length) : copied xs.length xs ys = xs := by
  unfold copied
  rw [List.take_length, ← h, List.drop_length, List.append_nil]
theorem copied_step (j : Nat) (xs ys : List Value) (h : ys.length = xs.length) (hj : j < xs.length) : (copied j xs ys).set j xs[j] = copied (j + 1) xs ys := by
  unfold copied
  have hl : (xs.take j).length = j := by rw [List.length_take]; omega
  rw [List.set_append_right _ _ (by omega), hl, Nat.sub_self, List.drop_eq_getElem_cons (by omega), List.set_cons_zero, List.take_succ_eq_append_getElem hj, List.append_assoc]
  rfl

end Go.Proofs.YtooanejiadbngaaGreatDoor
