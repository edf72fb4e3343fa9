/- A text is recovered from its lines where escapes are not set; each cell bears its width: plain words. No walk. -/
import Derived.Test.YtncdglfcegmmgaaDoorSplitR
import Derived.Test.YtncdglfcegmmgaaDoorSpecJoinL
namespace Go.Proofs.YtncdglfcegmmgaaDoor
open Go.RowKit
set_option linter.unusedVariables false

theorem allBytes_append (a b : List Ln) : allBytes (a ++ b) = allBytes a ++ allBytes b := by simp [allBytes]
theorem celBytes_append (a b : List Cel) : celBytes (a ++ b) = celBytes a ++ celBytes b := by simp [celBytes]
def spBytes (st : Sp) : List UInt8 := allBytes st.outs ++ (celBytes st.cells ++ st.buf)
theorem fin_byte (x : UInt8) (h : x = 10 ∨ x = 12) : finBytes ((x.toNat : Nat) : Int) = [x] := by
  rcases h with rfl | rfl <;> rfl
theorem spStep_bytes (Wf : ByteArray → Int) (st : Sp) (x : UInt8) (hr : st.raw = false) : spBytes (spStep false Wf st x) = spBytes st ++ [x] ∧ (spStep false Wf st x).raw = false := by
  obtain ⟨o, raw, cs, b⟩ := st
  simp only at hr
  subst hr
  unfold spStep
  simp only [Bool.false_and, Bool.not_false, Bool.true_and, decide_eq_true_eq]
  rw [if_neg (by decide)]
  by_cases h9 : x = 9
  · rw [if_pos h9]
    refine ⟨?_, rfl⟩
    subst h9
    simp only [spBytes, celBytes_append]
    simp [celBytes, celOf]
  · rw [if_neg h9]
    by_cases hx : (decide (x = 10) || decide (x = 12)) = true
    · rw [if_pos hx]
      refine ⟨?_, rfl⟩
      have hx' : x = 10 ∨ x = 12 := by simpa using hx
      simp only [spBytes, allBytes_append]
      simp only [allBytes, List.flatMap_cons, List.flatMap_nil, lnBytes, fin_byte x hx', celOf, List.append_nil]
      simp [celBytes]
    · rw [if_neg hx]
      exact ⟨by simp [spBytes], rfl⟩
theorem spRun_bytes (Wf : ByteArray → Int) : ∀ (t : List UInt8) (st : Sp), st.raw = false → spBytes (spRun false Wf st t) = spBytes st ++ t
  | [], st, _ => by simp [spRun]
  | x :: t, st, hr => by
    obtain ⟨h1, h2⟩ := spStep_bytes Wf st x hr
    rw [spRun_cons, spRun_bytes Wf t _ h2, h1]
    simp
theorem lines_bytes (Wf : ByteArray → Int) (t : List UInt8) : allBytes (linesOf false Wf t) = t := by
  have h := spRun_bytes Wf t sp0 rfl
  unfold linesOf
  rw [allBytes_append]
  simp only [allBytes, List.flatMap_cons, List.flatMap_nil, lnBytes, finBytes, if_true, celOf, List.append_nil]
  simpa [spBytes, sp0, allBytes, celBytes] using h
/-- What holds of every line that is put out holds of all lines. -/
def CelFine (Wf : ByteArray → Int) (c : Cel) : Prop := c.wid = Wf c.txt
def LnFine (Wf : ByteArray → Int) (l : Ln) : Prop := (∀ c ∈ l.cells, CelFine Wf c) ∧ CelFine Wf l.tail ∧ okFin l
theorem celOf_fine (Wf : ByteArray → Int) (b : List UInt8) : CelFine Wf (celOf Wf b) := rfl
theorem spStep_fine (esc : Bool) (Wf : ByteArray → Int) (st : Sp) (x : UInt8) (h : (∀ l ∈ st.outs, LnFine Wf l) ∧ ∀ c ∈ st.cells, CelFine Wf c) : (∀ l ∈ (spStep esc Wf st x).outs, LnFine Wf l) ∧ ∀ c ∈ (spStep esc Wf st x).cells, CelFine Wf c := by
  obtain ⟨o, raw, cs, b⟩ := st
  obtain ⟨h1, h2⟩ := h
  simp only at h1 h2
  unfold spStep
  simp only
  split
  · exact ⟨h1, h2⟩
  · split
    · refine ⟨h1, fun c hc => ?_⟩
      simp only at hc
      rcases List.mem_append.1 hc with hc | hc
      · exact h2 c hc
      · rcases List.mem_singleton.1 hc with rfl
        exact celOf_fine Wf b
    · split
      · rename_i hx
        refine ⟨fun l hl => ?_, fun c hc => by cases hc⟩
        simp only at hl
        rcases List.mem_append.1 hl with hl | hl
        · exact h1 l hl
        · rcases List.mem_singleton.1 hl with rfl
          refine ⟨h2, celOf_fine Wf b, ?_⟩
          simp only [Bool.and_eq_true, Bool.or_eq_true, decide_eq_true_eq] at hx
          rcases hx.2 with rfl | rfl
          · exact .inr (.inl rfl)
          · exact .inr (.inr rfl)
      · exact ⟨h1, h2⟩
theorem spRun_fine (esc : Bool) (Wf : ByteArray → Int) : ∀ (t : List UInt8) (st : Sp), ((∀ l ∈ st.outs, LnFine Wf l) ∧ ∀ c ∈ st.cells, CelFine Wf c) → (∀ l ∈ (spRun esc Wf st t).outs, LnFine Wf l) ∧ ∀ c ∈ (spRun esc Wf st t).cells, CelFine Wf c
  | [], st, h => h
  | x :: t, st, h => by rw [spRun_cons]; exact spRun_fine esc Wf t _ (spStep_fine esc Wf st x h)
theorem lines_fine (esc : Bool) (Wf : ByteArray → Int) (t : List UInt8) : ∀ l ∈ linesOf esc Wf t, LnFine Wf l := by
  have h := spRun_fine esc Wf t sp0 ⟨(fun l hl => by cases hl), (fun c hc => by cases hc)⟩
  intro l hl
  unfold linesOf at hl
  rcases List.mem_append.1 hl with hl | hl
  · exact h.1 l hl
  · rcases List.mem_singleton.1 hl with rfl
    exact ⟨h.2, celOf_fine Wf _, .inl rfl⟩
/-- All that FnCells asks. -/
theorem join_split (c : Cfg) (s : ByteArray) (hv : validC c = true) (he : c.fe = false) : joinLB c (splitL c s) = s := by
  rw [splitL_yes s hv]
  rw [joinLB_yes _ hv (fun l hl => (lines_fine _ _ _ l hl).2.2), he, lines_bytes]
theorem split_fine (c : Cfg) (s : ByteArray) (hv : validC c = true) (l : Ln) (hl : l ∈ splitL c s) (x : Cel) (hx : x ∈ l.cells) : x.wid = cellWB c x.txt := by
  rw [splitL_yes s hv] at hl
  rw [cellWB_yes _ hv]
  exact (lines_fine _ _ _ l hl).1 x hx
theorem split_some (c : Cfg) (s : ByteArray) (hv : validC c = true) : 0 < (splitL c s).length := by
  rw [splitL_yes s hv]
  unfold linesOf
  rw [List.length_append]
  simp
end Go.Proofs.YtncdglfcegmmgaaDoor
