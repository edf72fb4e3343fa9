/- SplitAny: the model's and the program's give the same parts, in new memory. -/
import Derived.Test.YtionfjofojfaoaaDoorMem
namespace Go.Proofs.YtionfjofojfaoaaDoor
open Go.RowKit

/-- The parts that are whole ahead of index i, and where the next one begins. -/
def cutAt (s : ByteArray) (p : UInt8 → Bool) : Nat → List ByteArray × Nat
  | 0 => ([], 0)
  | i + 1 => if p (s.data.toList.getD i 0) then ((cutAt s p i).1 ++ [s.extract (cutAt s p i).2 i], i + 1) else cutAt s p i
/-- What SplitAny gives. -/
def splitB (s : ByteArray) (p : UInt8 → Bool) : List ByteArray := (cutAt s p s.size).1 ++ [s.extract (cutAt s p s.size).2 s.size]
/-- Is c one of the separators? -/
def isSep (by_ : ByteArray) (c : UInt8) : Bool := by_.data.toList.contains c

theorem getD_at (s : ByteArray) (i : Nat) (h : i < s.size) : s.data.toList.getD i 0 = s[i] := by
  rw [List.getD_eq_getElem?_getD, List.getElem?_eq_getElem (by rw [bytes_length]; exact h)]; rfl
theorem cutAt_yes (s : ByteArray) (p : UInt8 → Bool) (i : Nat) (h : i < s.size) (hp : p s[i] = true) : cutAt s p (i + 1) = ((cutAt s p i).1 ++ [s.extract (cutAt s p i).2 i], i + 1) := by
  rw [cutAt, getD_at s i h, if_pos hp]
theorem cutAt_no (s : ByteArray) (p : UInt8 → Bool) (i : Nat) (h : i < s.size) (hp : p s[i] = false) : cutAt s p (i + 1) = cutAt s p i := by
  rw [cutAt, getD_at s i h, if_neg (by rw [hp]; decide)]
theorem cutAt_le (s : ByteArray) (p : UInt8 → Bool) : ∀ i, (cutAt s p i).2 ≤ i ∧ (cutAt s p i).1.length ≤ i
  | 0 => ⟨Nat.le_refl _, Nat.le_refl _⟩
  | i + 1 => by
    have ih := cutAt_le s p i
    rw [cutAt]
    split
    · simp; omega
    · omega
theorem splitB_length (s : ByteArray) (p : UInt8 → Bool) : (splitB s p).length ≤ s.size + 1 := by
  have := (cutAt_le s p s.size).2
  simp [splitB]; omega
theorem sep_of (by_ : ByteArray) (j : Nat) (h : j < by_.size) : isSep by_ by_[j] = true := by
  unfold isSep
  rw [List.contains_iff_mem]
  exact List.getElem_mem (l := by_.data.toList) h
/-- None of the first j separators is c. -/
def noneYet (by_ : ByteArray) (c : UInt8) (j : Nat) : Prop := ∀ t, (h : t < by_.size) → t < j → c ≠ by_[t]
theorem noneYet_zero (by_ : ByteArray) (c : UInt8) : noneYet by_ c 0 := fun _ _ h => absurd h (by omega)
theorem noneYet_succ (by_ : ByteArray) (c : UInt8) (j : Nat) (h : j < by_.size) (hn : noneYet by_ c j) (hc : c ≠ by_[j]) : noneYet by_ c (j + 1) := by
  intro t ht hlt
  by_cases e : t = j
  · subst e; exact hc
  · exact hn t ht (by omega)
theorem noneYet_all (by_ : ByteArray) (c : UInt8) (j : Nat) (h : ¬ j < by_.size) (hn : noneYet by_ c j) : isSep by_ c = false := by
  cases hx : isSep by_ c with
  | false => rfl
  | true =>
    unfold isSep at hx
    rw [List.contains_iff_mem] at hx
    obtain ⟨t, ht, he⟩ := List.mem_iff_getElem.1 hx
    exact absurd he.symm (hn t ht (by rw [bytes_length] at ht; omega))

theorem byte_eq_of {a b : UInt8} (h : (((a.toNat : Nat) : Int) == ((b.toNat : Nat) : Int)) = true) : a = b := by
  have h1 := beq_iff_eq.1 h
  have : a.toNat = b.toNat := by omega
  exact UInt8.toNat_inj.1 this
theorem byte_ne_of {a b : UInt8} (h : (((a.toNat : Nat) : Int) == ((b.toNat : Nat) : Int)) = false) : a ≠ b := by
  rintro rfl; simp at h
theorem strs_snoc (l : List ByteArray) (x : ByteArray) : strs (l ++ [x]) = strs l ++ [.string x] := by simp [strs]
/-- One part more, of what is owned. -/
theorem own_hit {W : World} {base : Nat} {e : TypeId} {v : Value} {s : ByteArray} {p : UInt8 → Bool} {k f : Nat} (hlt : k < s.size) (hp : p s[k] = true) (hf : f = (cutAt s p k).2)
    (h : W.ownsRow base e 1 v ((cutAt s p k).1.length + 1) (strs (cutAt s p k).1 ++ [.string (s.extract f k)])) :
    W.ownsRow base e 1 v (cutAt s p (k + 1)).1.length (strs (cutAt s p (k + 1)).1) ∧ (cutAt s p (k + 1)).2 = k + 1 := by
  rw [cutAt_yes s p k hlt hp]
  refine ⟨?_, rfl⟩
  rw [strs_snoc, ← hf, List.length_append]
  exact h
theorem own_miss {W : World} {base : Nat} {e : TypeId} {v : Value} {s : ByteArray} {p : UInt8 → Bool} {k f : Nat} (hlt : k < s.size) (hp : p s[k] = false) (hf : f = (cutAt s p k).2)
    (h : W.ownsRow base e 1 v (cutAt s p k).1.length (strs (cutAt s p k).1)) :
    W.ownsRow base e 1 v (cutAt s p (k + 1)).1.length (strs (cutAt s p (k + 1)).1) ∧ f = (cutAt s p (k + 1)).2 := by
  rw [cutAt_no s p k hlt hp]
  exact ⟨h, hf⟩
theorem own_end {W : World} {base : Nat} {e : TypeId} {v : Value} {s : ByteArray} {p : UInt8 → Bool} {k f : Nat} (hge : ¬ k < s.size) (hk : k ≤ s.size) (hf : f = (cutAt s p k).2)
    (h : W.ownsRow base e 1 v ((cutAt s p k).1.length + 1) (strs (cutAt s p k).1 ++ [.string (s.extract f s.size)])) : W.ownsRow base e 1 v (splitB s p).length (strs (splitB s p)) := by
  obtain rfl : k = s.size := by omega
  unfold splitB
  rw [strs_snoc, ← hf, List.length_append]
  exact h

theorem Tryd.infoStr : (Tryd.prog.info? 9).map (fun i => (i.zero, i.size, i.bytes)) = some (some (.string ByteArray.empty), 1, 16) := by kernel_rfl

end Go.Proofs.YtionfjofojfaoaaDoor
