/- SplitLines: the model's and the program's give the same lines, in new memory. -/
import Derived.Test.YtfbkefgabkiakaaSplit
import Derived.WalkSmall
namespace Go.Proofs.Ytfbkefgabkiakaa
open Go.RowKit

/-- The newline, as a list of separators. -/
def nl : ByteArray := ⟨#[10]⟩
/-- The parts ahead of the last newline; the text behind it. -/
def heads (s : ByteArray) : List ByteArray := (cutAt s (isSep nl) s.size).1
def rest (s : ByteArray) : ByteArray := s.extract (cutAt s (isSep nl) s.size).2 s.size
theorem split_nl (s : ByteArray) : splitB s (isSep nl) = heads s ++ [rest s] := rfl
/-- What SplitLines gives. -/
def linesB (s : ByteArray) : List ByteArray := if (rest s).toList.isEmpty = true then heads s else heads s ++ [rest s]
theorem heads_length (s : ByteArray) : (heads s).length ≤ s.size := (cutAt_le _ _ _).2

/-- The last part is empty: it is left out. -/
theorem pop_own {W : World} {base g cap m : Nat} {e : TypeId} {l : List ByteArray} {x : ByteArray} (hm : m = l.length) (h : W.ownsRow base e 1 (.slice (some ⟨g, 0, none⟩) (m + 1) cap) (m + 1) (strs (l ++ [x]))) :
    W.ownsRow base e 1 (.slice (some ⟨g, 0, none⟩) m cap) m (strs l) := by
  rw [strs_snoc] at h
  exact ownsRow_pop (by rw [strs_length]; omega) h
theorem last_cell {W : World} {base g cap m : Nat} {e : TypeId} {l : List ByteArray} {x : ByteArray} (hm : m = l.length) (h : W.ownsRow base e 1 (.slice (some ⟨g, 0, none⟩) (m + 1) cap) (m + 1) (strs (l ++ [x]))) :
    W.cell? ⟨g, m, none⟩ = some (.string x) := by
  rw [h.cellAt m (by omega), strs_get _ m (by simp; omega)]
  simp [hm]

set_option maxHeartbeats 1000000 in
theorem specSplitLines (s : ByteArray) (w : World) (hs : s.size ≤ 1048576) :
    Calls Try.prog 18 #[.string s] w fun e w' => ∃ v, e = .returned v ∧ w'.ownsRow w.heap.size 9 1 v (linesB s).length (strs (linesB s)) ∧ Below w.heap.size w w' := by
  have hsp := specSplitAny s nl w hs (by decide)
  rw [split_nl] at hsp
  obtain ⟨l, hl⟩ : ∃ l, l = heads s := ⟨_, rfl⟩
  obtain ⟨x, hx⟩ : ∃ x, x = rest s := ⟨_, rfl⟩
  obtain ⟨m, hm⟩ : ∃ m, m = l.length := ⟨_, rfl⟩
  have hm2 : m ≤ 1048576 := by rw [hm, hl]; have := heads_length s; omega
  have hfin : linesB s = if x.toList.isEmpty = true then l else l ++ [x] := by rw [hx, hl]; rfl
  rw [← hl, ← hx, List.length_append, ← hm] at hsp
  have HSP := Lib.hid hsp
  have HM := Lib.hid hm
  have HF := Lib.hid hfin
  clear hsp hm hl hx hfin
  go_enter Try.func18, Try.ntmps18
  go_wp2_with fail
  refine (HSP.out).mono ?_
  rintro e w1 ⟨v, rfl, hown, hbel⟩
  rcases hown.2 with ⟨_, h0⟩ | ⟨g, cap, cur, rfl, _, _, hn, hc, _, _⟩
  · simp at h0
  · have hcell := last_cell HM.out hown
    have hpop := pop_own HM.out hown
    have hmx : cap ≤ 9223372036854775807 := hc
    simp only [List.length_cons, List.length_nil, Nat.zero_add] at hn
    have HO := Lib.hid hown
    have HP := Lib.hid hpop
    clear hown hpop hc
    go_wp2
    · have hx : x.toList.isEmpty = true := by assumption
      go_ret
      exact ⟨_, rfl, by rw [HF.out, if_pos hx, ← HM.out]; exact HP.out, hbel⟩
    · have hx : x.toList.isEmpty = false := by assumption
      go_ret
      exact ⟨_, rfl, by rw [HF.out, if_neg (by rw [hx]; decide), List.length_append, ← HM.out]; exact HO.out, hbel⟩

set_option maxHeartbeats 1000000 in
theorem implSplitLines (s : ByteArray) (w : World) (hs : s.size ≤ 1048576) :
    Calls Try.prog 19 #[.string s] w fun e w' => ∃ v, e = .returned v ∧ w'.ownsRow w.heap.size 9 1 v (linesB s).length (strs (linesB s)) ∧ Below w.heap.size w w' := by
  have hsp := implSplitAny s nl w hs (by decide)
  rw [split_nl] at hsp
  obtain ⟨l, hl⟩ : ∃ l, l = heads s := ⟨_, rfl⟩
  obtain ⟨x, hx⟩ : ∃ x, x = rest s := ⟨_, rfl⟩
  obtain ⟨m, hm⟩ : ∃ m, m = l.length := ⟨_, rfl⟩
  have hm2 : m ≤ 1048576 := by rw [hm, hl]; have := heads_length s; omega
  have hfin : linesB s = if x.toList.isEmpty = true then l else l ++ [x] := by rw [hx, hl]; rfl
  rw [← hl, ← hx, List.length_append, ← hm] at hsp
  have HSP := Lib.hid hsp
  have HM := Lib.hid hm
  have HF := Lib.hid hfin
  clear hsp hm hl hx hfin
  go_enter Try.func19, Try.ntmps19
  go_wp2_with fail
  refine (HSP.out).mono ?_
  rintro e w1 ⟨v, rfl, hown, hbel⟩
  rcases hown.2 with ⟨_, h0⟩ | ⟨g, cap, cur, rfl, _, _, hn, hc, _, _⟩
  · simp at h0
  · have hcell := last_cell HM.out hown
    have hpop := pop_own HM.out hown
    have hmx : cap ≤ 9223372036854775807 := hc
    simp only [List.length_cons, List.length_nil, Nat.zero_add] at hn
    have HO := Lib.hid hown
    have HP := Lib.hid hpop
    clear hown hpop hc
    go_wp2
    · have hx : x.toList.isEmpty = true := by assumption
      go_ret
      exact ⟨_, rfl, by rw [HF.out, if_pos hx, ← HM.out]; exact HP.out, hbel⟩
    · have hx : x.toList.isEmpty = false := by assumption
      go_ret
      exact ⟨_, rfl, by rw [HF.out, if_neg (by rw [hx]; decide), List.length_append, ← HM.out]; exact HO.out, hbel⟩

end Go.Proofs.Ytfbkefgabkiakaa
