/- Join: the model's and the program's give the same text; the law's helpers szStringS and toStringS. -/
import Derived.Test.YtooanejiadbngaaDoorPad
import Derived.Test.YtooanejiadbngaaDoorMem
import Derived.Test.YtooanejiadbngaaDoorSplit
import Derived.Test.YtooanejiadbngaaDoorTextIn
namespace Go.Proofs.YtooanejiadbngaaDoor
open Go.RowKit

theorem lens_tot (xs : List ByteArray) : Lib.lens (xs.map (·.data.toList)) = tot xs := by
  induction xs with
  | nil => rfl
  | cons x r ih =>
    simp only [Lib.lens, List.map_cons, List.sum_cons, tot] at ih ⊢
    rw [ih]; rfl
theorem joinB_size (xs : List ByteArray) (sep : ByteArray) : (joinB xs sep).size ≤ tot xs + xs.length * sep.size := by
  cases xs with
  | nil => simp [joinB, Lib.join_nil, tot]; rfl
  | cons x r =>
    have h := Lib.join_length x.data.toList (r.map (·.data.toList)) sep.data.toList
    have e : (joinB (x :: r) sep).size = (Lib.join ((x :: r).map (·.data.toList)) sep.data.toList).length := rfl
    rw [e, List.map_cons, h]
    have h2 := lens_tot (x :: r)
    rw [List.map_cons] at h2
    rw [h2, List.length_map, List.length_cons, Nat.add_mul]
    have h3 : sep.data.toList.length = sep.size := rfl
    rw [h3, Nat.mul_comm]
    omega
theorem joinB_nil (sep : ByteArray) : joinB [] sep = ⟨#[]⟩ := rfl
theorem joinB_one (x sep : ByteArray) : joinB [x] sep = x := by
  apply ByteArray.ext; simp [joinB, Lib.join_one]
theorem joinB_snoc (xs : List ByteArray) (x sep : ByteArray) (h : xs ≠ []) : joinB (xs ++ [x]) sep = joinB xs sep ++ sep ++ x := by
  cases xs with
  | nil => exact absurd rfl h
  | cons y r =>
    apply ByteArray.ext
    simp [joinB, Lib.join_cons, Lib.joinTail]

/-- The joined text of the first k. -/
theorem joinB_step (xs : List ByteArray) (sep : ByteArray) (k : Nat) (h : k < xs.length) (h0 : 0 < k) : joinB (xs.take (k + 1)) sep = joinB (xs.take k) sep ++ sep ++ xs[k] := by
  rw [List.take_succ_eq_append_getElem h]
  exact joinB_snoc _ _ _ (by intro e; have := congrArg List.length e; rw [List.length_take] at this; simp only [List.length_nil] at this; omega)
theorem joinB_first (xs : List ByteArray) (sep : ByteArray) (h : 0 < xs.length) : joinB (xs.take 1) sep = xs[0] := by
  rw [show 1 = 0 + 1 from rfl, List.take_succ_eq_append_getElem h]
  exact joinB_one _ _
theorem joinB_bound (xs : List ByteArray) (sep : ByteArray) (k : Nat) (ht : tot xs ≤ 1048576) (hn : xs.length ≤ 1048576) (hs : sep.size ≤ 1048576) : (joinB (xs.take k) sep).size ≤ 1100000000000 := by
  have h1 := joinB_size (xs.take k) sep
  have h2 := tot_take xs k
  have h3 : (xs.take k).length ≤ 1048576 := by rw [List.length_take]; omega
  have h4 : (xs.take k).length * sep.size ≤ 1048576 * 1048576 := Nat.mul_le_mul h3 hs
  omega

theorem implJoinTexts_rd (xs : List ByteArray) (sep : ByteArray) (v : Value) (w : World) (hr : Rd w v (strs xs)) (hcap : ∀ A n c, v = .slice A n c → n ≤ c) (ht : tot xs ≤ 1048576) (hm : xs.length ≤ 1048576) (hs : sep.size ≤ 1048576) :
    Calls Tryd.prog 14 #[.string sep, v] w fun e w' => e = .returned (.string (joinB xs sep)) ∧ Below w.heap.size w w' := by
  obtain ⟨A, c, rfl, hA⟩ := hr
  have hc0 := hcap _ _ _ rfl
  rw [strs_length] at hA hc0
  simp only [strs_length]
  rcases xs with _ | ⟨x, r⟩
  · have hj := Tryd.strings_Join_none A c sep
    have HJ := Lib.hid hj
    clear hj hA hcap
    go_enter Tryd.func14, Tryd.ntmps14
    go_wp2_with (go_at_call 19; refine (HJ.out _).mono ?_; rintro e w' ⟨rfl, rfl⟩)
    go_ret
    exact ⟨rfl, Below.refl _ _⟩
  · obtain ⟨g, o, rfl, hg, hc⟩ := hA (by simp)
    refine impljoinTexts g o c (x :: r) sep w ?_ hg (by omega) hc0 ?_
    · intro j y hj
      exact hc j _ (by simp only [strs, List.getElem?_map, hj]; rfl)
    · have := joinB_bound (x :: r) sep (x :: r).length ht hm hs
      rw [List.take_length] at this
      omega

end Go.Proofs.YtooanejiadbngaaDoor
