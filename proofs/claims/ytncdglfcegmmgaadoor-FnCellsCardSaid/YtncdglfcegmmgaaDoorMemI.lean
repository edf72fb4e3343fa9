/- Words on slices of integers: what the law's own helpers do with them (eqIntS, markIntS, heldIntS). -/
import Derived.Test.YtncdglfcegmmgaaDoorMem
namespace Go.Proofs.YtncdglfcegmmgaaDoor
open Go.RowKit

/-- The cells of a list of integers. -/
def ints (l : List Int) : List Value := l.map (Value.int .i64)
theorem ints_length (l : List Int) : (ints l).length = l.length := List.length_map _
theorem ints_get (l : List Int) (k : Nat) (h : k < l.length) : (ints l)[k]? = some (.int .i64 l[k]) := by simp [ints, h]
theorem ints_snoc (l : List Int) (x : Int) : ints (l ++ [x]) = ints l ++ [.int .i64 x] := by simp [ints]
theorem int_ne_of {x y : Int} (h : (x != y) = true) : x ≠ y := by simpa using h
theorem int_eq_of {x y : Int} (h : (x != y) = false) : x = y := by simpa using h

/-- The numbers k, k + 1, .. of n cells. -/
def imarks (k n : Nat) : List Int := (List.range n).map fun j => ((k + j : Nat) : Int)
theorem imarks_length (k n : Nat) : (imarks k n).length = n := by simp [imarks]
theorem imarks_get (k n j : Nat) (h : j < n) : (ints (imarks k n))[j]? = some (.int .i64 ((k + j : Nat) : Int)) := by simp [ints, imarks, h]
/-- j cells marked, the others as they were. -/
def imarked (k j : Nat) (xs : List Value) : List Value := ints (imarks k j) ++ xs.drop j
theorem imarked_zero (k : Nat) (xs : List Value) : imarked k 0 xs = xs := by simp [imarked, imarks, ints]
theorem imarked_all (k : Nat) (xs : List Value) : imarked k xs.length xs = ints (imarks k xs.length) := by simp [imarked]
theorem imarked_step (k j : Nat) (xs : List Value) (h : j < xs.length) : (imarked k j xs).set j (.int .i64 ((k + j : Nat) : Int)) = imarked k (j + 1) xs := by
  unfold imarked
  have hl : (ints (imarks k j)).length = j := by rw [ints_length, imarks_length]
  rw [List.set_append_right _ _ (by omega), hl, Nat.sub_self, List.drop_eq_getElem_cons h, List.set_cons_zero]
  have e : ints (imarks k (j + 1)) = ints (imarks k j) ++ [.int .i64 ((k + j : Nat) : Int)] := by simp [ints, imarks, List.range_succ]
  rw [e]; simp
theorem ionly_trans {a b c : World} {row : Option Nat} (h : a.grownBy b row) (k : b.grownBy c row) : a.grownBy c row :=
  ⟨k.os.trans h.os, k.tape.trans h.tape, k.output.trans h.output, Nat.le_trans h.size k.size, fun i hi hn => (k.block i (Nat.lt_of_lt_of_le hi h.size) hn).trans (h.block i hi hn)⟩

end Go.Proofs.YtncdglfcegmmgaaDoor
