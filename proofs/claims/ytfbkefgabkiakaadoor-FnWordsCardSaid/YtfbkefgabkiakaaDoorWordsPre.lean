/- A text is its parts, joined again. -/
import Derived.Test.YtfbkefgabkiakaaDoorJoin
import Derived.Test.YtfbkefgabkiakaaDoorLines
namespace Go.Proofs.YtfbkefgabkiakaaDoor
open Go.RowKit

theorem bytes_ext {a b : ByteArray} (h : a.data.toList = b.data.toList) : a = b := ByteArray.ext (Array.ext' h)
theorem extract_list (s : ByteArray) (a b : Nat) (h : a ≤ b) : (s.extract a b).data.toList = (s.data.toList.take b).drop a := by
  rw [ByteArray.data_extract, Array.toList_extract, List.extract_eq_take_drop, List.take_drop, Nat.add_sub_cancel' h]
theorem joinB_more (l : List ByteArray) (x y sep : ByteArray) : joinB (l ++ [x ++ y]) sep = joinB (l ++ [x]) sep ++ y := by
  by_cases h : l = []
  · subst h; rw [List.nil_append, List.nil_append, joinB_one, joinB_one]
  · rw [joinB_snoc _ _ _ h, joinB_snoc _ _ _ h]
    apply bytes_ext
    simp
theorem extract_snoc (s : ByteArray) (f i : Nat) (h : i < s.size) (hf : f ≤ i) : s.extract f (i + 1) = s.extract f i ++ ⟨#[s[i]]⟩ := by
  apply bytes_ext
  rw [ByteArray.data_append, Array.toList_append, extract_list _ _ _ (by omega), extract_list _ _ _ hf, take_snoc s i h, List.drop_append_of_le_length (by rw [List.length_take, bytes_length]; omega)]
theorem join_cut (s sep : ByteArray) (p : UInt8 → Bool) (c : UInt8) (hs : sep = ⟨#[c]⟩) (hp : ∀ x, p x = true ↔ x = c) : ∀ i, i ≤ s.size → joinB ((cutAt s p i).1 ++ [s.extract (cutAt s p i).2 i]) sep = s.extract 0 i
  | 0, _ => by
    show joinB [s.extract 0 0] sep = _
    rw [joinB_one]
  | i + 1, hi => by
    have ih := join_cut s sep p c hs hp i (by omega)
    have hf := (cutAt_le s p i).1
    have hlt : i < s.size := by omega
    cases hx : p s[i] with
    | true =>
      rw [cutAt_yes s p i hlt hx]
      have hc := (hp _).1 hx
      rw [joinB_snoc _ _ _ (by simp), ih, extract_snoc s 0 i hlt (by omega), hs, hc]
      apply bytes_ext
      simp
    | false =>
      rw [cutAt_no s p i hlt hx, extract_snoc s _ i hlt hf, joinB_more, ih, extract_snoc s 0 i hlt (by omega)]
theorem extract_all (s : ByteArray) : s.extract 0 s.size = s := by
  apply bytes_ext
  rw [extract_list _ _ _ (Nat.zero_le _), List.drop_zero, List.take_of_length_le (by rw [bytes_length]; exact Nat.le_refl _)]
theorem join_split (s sep : ByteArray) (c : UInt8) (hs : sep = ⟨#[c]⟩) : joinB (splitB s (isSep sep)) sep = s := by
  have h := join_cut s sep (isSep sep) c hs (fun x => by subst hs; simp [isSep]) s.size (Nat.le_refl _)
  rw [extract_all] at h
  exact h
theorem tot_join (xs : List ByteArray) (sep : ByteArray) : tot xs ≤ (joinB xs sep).size := by
  cases xs with
  | nil => simp [tot]
  | cons x r =>
    have h := Lib.join_length x.data.toList (r.map (·.data.toList)) sep.data.toList
    have e : (joinB (x :: r) sep).size = (Lib.join ((x :: r).map (·.data.toList)) sep.data.toList).length := rfl
    have h2 := lens_tot (x :: r)
    rw [List.map_cons] at h2 e
    rw [e, h, h2]
    omega
theorem two_lines : (linesB ⟨#[97, 10, 98, 10]⟩).length = 2 := by
  unfold linesB
  rw [ByteArray.toList_eq]
  rfl
theorem name_x1 : nameB (ByteArray.mk #[120, 49]).data.toList = true := by decide
end Go.Proofs.YtfbkefgabkiakaaDoor
