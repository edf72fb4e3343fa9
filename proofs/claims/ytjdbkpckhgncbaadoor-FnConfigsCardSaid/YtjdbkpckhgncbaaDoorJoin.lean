/- Join: the model's and the program's give the same text; the law's helpers szStringS and toStringS. -/
import Derived.Test.YtjdbkpckhgncbaaDoorPad
import Derived.Test.YtjdbkpckhgncbaaDoorBA
namespace Go.Proofs.YtjdbkpckhgncbaaDoor
open Go.RowKit

/-- All the bytes of a list of texts. -/
def tot : List ByteArray → Nat
  | [] => 0
  | x :: r => x.size + tot r
theorem tot_take (xs : List ByteArray) : ∀ k, tot (xs.take k) ≤ tot xs := by
  induction xs with
  | nil => intro k; simp [tot]
  | cons x r ih =>
    intro k
    cases k with
    | zero => simp [tot]
    | succ k => have := ih k; simp only [List.take_succ_cons, tot]; omega
theorem tot_mem (xs : List ByteArray) (x : ByteArray) (h : x ∈ xs) : x.size ≤ tot xs := by
  induction xs with
  | nil => cases h
  | cons y r ih =>
    cases h with
    | head => simp only [tot]; omega
    | tail _ h => have := ih h; simp only [tot]; omega
theorem lens_tot (xs : List ByteArray) : Lib.lens (xs.map (·.data.toList)) = tot xs := by
  induction xs with
  | nil => rfl
  | cons x r ih =>
    simp only [Lib.lens, List.map_cons, List.sum_cons, tot] at ih ⊢
    rw [ih]; rfl
theorem joinB_size (xs : List ByteArray) (sep : ByteArray) : (joinB xs sep).size ≤ tot xs + xs.length * sep.size := by
  cases xs with
  | nil => simp [joinB, Lib.join_nil, tot]; rfl
  | cons x r =>
    have h := Lib.join_length x.data.toList (r.map (·.data.toList)) sep.data.toList
    have e : (joinB (x :: r) sep).size = (Lib.join ((x :: r).map (·.data.toList)) sep.data.toList).length := rfl
    rw [e, List.map_cons, h]
    have h2 := lens_tot (x :: r)
    rw [List.map_cons] at h2
    rw [h2, List.length_map, List.length_cons, Nat.add_mul]
    have h3 : sep.data.toList.length = sep.size := rfl
    rw [h3, Nat.mul_comm]
    omega
theorem joinB_nil (sep : ByteArray) : joinB [] sep = ⟨#[]⟩ := rfl
theorem joinB_one (x sep : ByteArray) : joinB [x] sep = x := by
  apply ByteArray.ext; simp [joinB, Lib.join_one]
theorem joinB_snoc (xs : List ByteArray) (x sep : ByteArray) (h : xs ≠ []) : joinB (xs ++ [x]) sep = joinB xs sep ++ sep ++ x := by
  cases xs with
  | nil => exact absurd rfl h
  | cons y r =>
    apply ByteArray.ext
    simp [joinB, Lib.join_cons, Lib.joinTail]

/-- What szStringS gives. -/
def szGo : List ByteArray → Int → Int
  | [], l => l
  | x :: r, l => if l - x.size < 0 then -1 else szGo r (l - x.size)
def szL (xs : List ByteArray) (left : Int) : Int := if left - xs.length < 0 then -1 else szGo xs (left - xs.length)
theorem szGo_le (xs : List ByteArray) : ∀ l : Int, 0 ≤ szGo xs l → (tot xs : Int) ≤ l := by
  induction xs with
  | nil => intro l h; simpa [szGo, tot] using h
  | cons x r ih =>
    intro l h
    unfold szGo at h
    split at h
    · omega
    · have := ih _ h
      simp only [tot]
      omega
theorem szL_le (xs : List ByteArray) (l : Int) (h : 0 ≤ szL xs l) : (xs.length : Int) ≤ l ∧ (tot xs : Int) ≤ l := by
  unfold szL at h
  split at h
  · omega
  · have := szGo_le xs _ h
    omega

/-- j cells copied, the others as they were. -/
def copied (j : Nat) (xs ys : List Value) : List Value := xs.take j ++ ys.drop j
theorem copied_zero (xs ys : List Value) : copied 0 xs ys = ys := by simp [copied]
theorem copied_all (xs ys : List Value) (h : ys.length = xs.length) : copied xs.length xs ys = xs := by
  unfold copied
  rw [List.take_length, ← h, List.drop_length, List.append_nil]
theorem copied_step (j : Nat) (xs ys : List Value) (h : ys.length = xs.length) (hj : j < xs.length) : (copied j xs ys).set j xs[j] = copied (j + 1) xs ys := by
  unfold copied
  have hl : (xs.take j).length = j := by rw [List.length_take]; omega
  rw [List.set_append_right _ _ (by omega), hl, Nat.sub_self, List.drop_eq_getElem_cons (by omega), List.set_cons_zero, List.take_succ_eq_append_getElem hj, List.append_assoc]
  rfl

/-- The joined text of the first k. -/
theorem joinB_step (xs : List ByteArray) (sep : ByteArray) (k : Nat) (h : k < xs.length) (h0 : 0 < k) : joinB (xs.take (k + 1)) sep = joinB (xs.take k) sep ++ sep ++ xs[k] := by
  rw [List.take_succ_eq_append_getElem h]
  exact joinB_snoc _ _ _ (by intro e; have := congrArg List.length e; rw [List.length_take] at this; simp only [List.length_nil] at this; omega)
theorem joinB_first (xs : List ByteArray) (sep : ByteArray) (h : 0 < xs.length) : joinB (xs.take 1) sep = xs[0] := by
  rw [show 1 = 0 + 1 from rfl, List.take_succ_eq_append_getElem h]
  exact joinB_one _ _
theorem joinB_bound (xs : List ByteArray) (sep : ByteArray) (k : Nat) (ht : tot xs ≤ 1048576) (hn : xs.length ≤ 1048576) (hs : sep.size ≤ 1048576) : (joinB (xs.take k) sep).size ≤ 1100000000000 := by
  have h1 := joinB_size (xs.take k) sep
  have h2 := tot_take xs k
  have h3 : (xs.take k).length ≤ 1048576 := by rw [List.length_take]; omega
  have h4 : (xs.take k).length * sep.size ≤ 1048576 * 1048576 := Nat.mul_le_mul h3 hs
  omega

theorem implJoinTexts_rd (xs : List ByteArray) (sep : ByteArray) (v : Value) (w : World) (hr : Rd w v (strs xs)) (hcap : ∀ A n c, v = .slice A n c → n ≤ c) (ht : tot xs ≤ 1048576) (hm : xs.length ≤ 1048576) (hs : sep.size ≤ 1048576) :
    Calls Tryd.prog 68 #[.string sep, v] w fun e w' => e = .returned (.string (joinB xs sep)) ∧ Below w.heap.size w w' := by
  obtain ⟨A, c, rfl, hA⟩ := hr
  have hc0 := hcap _ _ _ rfl
  rw [strs_length] at hA hc0
  simp only [strs_length]
  rcases xs with _ | ⟨x, r⟩
  · have hj := Tryd.strings_Join_none A c sep
    have HJ := Lib.hid hj
    clear hj hA hcap
    go_enter Tryd.func68, Tryd.ntmps68
    go_wp2_with (go_at_call 89; refine (HJ.out _).mono ?_; rintro e w' ⟨rfl, rfl⟩)
    go_ret
    exact ⟨rfl, Below.refl _ _⟩
  · obtain ⟨g, o, rfl, hg, hc⟩ := hA (by simp)
    refine impljoinTexts g o c (x :: r) sep w ?_ hg (by omega) hc0 ?_
    · intro j y hj
      exact hc j _ (by simp only [strs, List.getElem?_map, hj]; rfl)
    · have := joinB_bound (x :: r) sep (x :: r).length ht hm hs
      rw [List.take_length] at this
      omega

theorem implJoin_rd (xs : List ByteArray) (sep : ByteArray) (v : Value) (w : World) (hr : Rd w v (strs xs)) (hcap : ∀ A n c, v = .slice A n c → n ≤ c) (ht : tot xs ≤ 1048576) (hm : xs.length ≤ 1048576) (hs : sep.size ≤ 1048576) :
    Calls Tryd.prog 34 #[v, .string sep] w fun e w' => e = .returned (.string (joinB xs sep)) ∧ Below w.heap.size w w' := by
  have hj := implJoinTexts_rd xs sep v w hr hcap ht hm hs
  have HJ := Lib.hid hj
  clear hj hr hcap ht hm hs
  go_enter Tryd.func34, Tryd.ntmps34
  go_wp2_with (go_at_call 68; refine HJ.out.mono ?_; rintro e w' ⟨rfl, hb⟩)
  go_ret
  exact ⟨rfl, by assumption⟩

end Go.Proofs.YtjdbkpckhgncbaaDoor
