/- Plain lemmas on bytes and lists, shared by the walks of this seat. -/
import Derived.WalkKit
import Derived.Lib.Hide
namespace Go.Proofs.YtionfjofojfaoaaDoor
open Go.RowKit

/-- A decimal digit's byte. -/
def isDig (c : UInt8) : Bool := decide (48 ≤ c.toNat) && decide (c.toNat ≤ 57)
/-- A small letter's byte. -/
def isLow (c : UInt8) : Bool := decide (97 ≤ c.toNat) && decide (c.toNat ≤ 122)
/-- What IsDigits answers. -/
def digB (l : List UInt8) : Bool := l.all isDig && !l.isEmpty

theorem isDig_iff (c : UInt8) : isDig c = true ↔ 48 ≤ c.toNat ∧ c.toNat ≤ 57 := by simp [isDig]
theorem isLow_iff (c : UInt8) : isLow c = true ↔ 97 ≤ c.toNat ∧ c.toNat ≤ 122 := by simp [isLow]

theorem bytes_length (s : ByteArray) : s.data.toList.length = s.size := by rfl
theorem bytes_get (s : ByteArray) (k : Nat) (h : k < s.size) : s.data.toList[k]'h = s[k] := by rfl

theorem take_snoc (s : ByteArray) (k : Nat) (h : k < s.size) : s.data.toList.take (k + 1) = s.data.toList.take k ++ [s[k]] := by
  rw [List.take_succ_eq_append_getElem (by simpa using h)]; rfl

theorem all_snoc (p : UInt8 → Bool) (s : ByteArray) (k : Nat) (h : k < s.size) (ha : (s.data.toList.take k).all p = true) (hp : p s[k] = true) :
    (s.data.toList.take (k + 1)).all p = true := by
  rw [take_snoc s k h, List.all_append, ha]; simp [hp]

theorem all_whole (p : UInt8 → Bool) (s : ByteArray) (k : Nat) (h : ¬ k < s.size) (ha : (s.data.toList.take k).all p = true) : s.data.toList.all p = true := by
  rw [List.take_of_length_le (by rw [bytes_length]; omega)] at ha; exact ha

theorem digB_no (s : ByteArray) (k : Nat) (h : k < s.size) (hp : isDig s[k] = false) : digB s.data.toList = false := by
  unfold digB
  rw [Bool.and_eq_false_iff]; left
  rw [List.all_eq_false]
  exact ⟨s[k], by rw [← bytes_get s k h]; exact List.getElem_mem _, by simp [hp]⟩

theorem digB_yes (s : ByteArray) (h : s.data.toList.all isDig = true) : digB s.data.toList = decide (0 < s.size) := by
  unfold digB; rw [h]
  have e : s.data.toList.isEmpty = decide (s.size = 0) := by
    rw [← bytes_length]; cases s.data.toList <;> simp
  rw [e]; by_cases hz : s.size = 0
  · simp [hz]
  · have : 0 < s.size := by omega
    simp [hz]; omega

theorem digB_yes2 (s : ByteArray) (h : s.data.toList.all isDig = true) : digB s.data.toList = !s.data.toList.isEmpty := by
  unfold digB; rw [h]; rfl

theorem not_dig (c : UInt8) (h : (c.toNat : Int) < 48 ∨ 57 < (c.toNat : Int)) : isDig c = false := by
  cases hx : isDig c with
  | false => rfl
  | true => rw [isDig_iff] at hx; omega

theorem yes_dig (c : UInt8) (h : 48 ≤ (c.toNat : Int)) (h2 : (c.toNat : Int) ≤ 57) : isDig c = true := by
  rw [isDig_iff]; omega

/-- A beginning of a name: a letter first, then letters and digits. -/
def namePre : List UInt8 → Bool
  | [] => true
  | c :: t => isLow c && t.all fun c => isLow c || isDig c
/-- What IsName answers. -/
def nameB (l : List UInt8) : Bool := namePre l && (decide (1 ≤ l.length) && decide (l.length ≤ 8))

theorem namePre_snoc (l : List UInt8) (c : UInt8) : namePre (l ++ [c]) = (namePre l && (isLow c || (!l.isEmpty && isDig c))) := by
  cases l with
  | nil => simp [namePre]
  | cons a t => simp [namePre, Bool.and_assoc]
theorem namePre_take (l : List UInt8) (k : Nat) (h : namePre (l.take k) = false) : namePre l = false := by
  cases l with
  | nil => simp [namePre] at h
  | cons a t =>
    cases k with
    | zero => simp [namePre] at h
    | succ k =>
      simp only [List.take_succ_cons, namePre] at h ⊢
      cases ha : isLow a with
      | false => simp
      | true =>
        rw [ha] at h
        simp only [Bool.true_and] at h ⊢
        rw [List.all_eq_false] at h ⊢
        obtain ⟨x, hx, hp⟩ := h
        exact ⟨x, List.mem_of_mem_take hx, hp⟩
theorem name_step (s : ByteArray) (k : Nat) (h : k < s.size) :
    namePre (s.data.toList.take (k + 1)) = (namePre (s.data.toList.take k) && (isLow s[k] || (decide (k ≠ 0) && isDig s[k]))) := by
  rw [take_snoc s k h, namePre_snoc]
  congr 2
  have e : (!(s.data.toList.take k).isEmpty) = decide (k ≠ 0) := by
    have hl : (s.data.toList.take k).length = k := by rw [List.length_take, bytes_length]; omega
    cases hx : s.data.toList.take k with
    | nil => rw [hx] at hl; simp at hl; simp [← hl]
    | cons a t => rw [hx] at hl; simp at hl; simp; omega
  rw [e]
theorem name_yes (s : ByteArray) (k : Nat) (h : k < s.size) (hp : namePre (s.data.toList.take k) = true) (hc : isLow s[k] = true ∨ (k ≠ 0 ∧ isDig s[k] = true)) :
    namePre (s.data.toList.take (k + 1)) = true := by
  rw [name_step s k h, hp]
  rcases hc with hc | ⟨h0, hc⟩
  · rw [hc]; rfl
  · rw [hc, decide_eq_true h0]; simp
theorem name_no (s : ByteArray) (k : Nat) (h : k < s.size) (h1 : isLow s[k] = false) (h2 : k = 0 ∨ isDig s[k] = false) : nameB s.data.toList = false := by
  have e : namePre (s.data.toList.take (k + 1)) = false := by
    rw [name_step s k h, h1]
    rcases h2 with h2 | h2
    · rw [decide_eq_false (by omega)]; simp
    · rw [h2]; simp
  unfold nameB
  rw [namePre_take _ (k + 1) e]
  rfl
theorem name_whole (s : ByteArray) (k : Nat) (h : ¬ k < s.size) (hp : namePre (s.data.toList.take k) = true) :
    nameB s.data.toList = (decide (1 ≤ s.size) && decide (s.size ≤ 8)) := by
  rw [List.take_of_length_le (by rw [bytes_length]; omega)] at hp
  unfold nameB
  rw [hp, bytes_length]; rfl
theorem not_low (c : UInt8) (h : (c.toNat : Int) < 97 ∨ 122 < (c.toNat : Int)) : isLow c = false := by
  cases hx : isLow c with
  | false => rfl
  | true => rw [isLow_iff] at hx; omega
theorem yes_low (c : UInt8) (h : 97 ≤ (c.toNat : Int)) (h2 : (c.toNat : Int) ≤ 122) : isLow c = true := by
  rw [isLow_iff]; omega

theorem ret_bool {a b : Bool} (h : a = b) : Ending.returned (.bool a) = .returned (.bool b) := by rw [h]
theorem ret_string {a b : ByteArray} (h : a = b) : Ending.returned (.string a) = .returned (.string b) := by rw [h]
theorem ret_int {k : IntKind} {a b : Int} (h : a = b) : Ending.returned (.int k a) = .returned (.int k b) := by rw [h]
theorem byte_cons (b : UInt8) (acc : List UInt8) : ByteArray.mk [b].toArray ++ ByteArray.mk acc.toArray = ByteArray.mk (b :: acc).toArray := by
  rw [ByteArray.mk_append_mk]; rfl
end Go.Proofs.YtionfjofojfaoaaDoor
