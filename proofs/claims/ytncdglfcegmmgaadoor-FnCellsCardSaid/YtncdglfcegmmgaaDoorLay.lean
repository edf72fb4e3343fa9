/- Lines, column widths and layouts of a text: plain words. No walk. -/
import Derived.Test.YtncdglfcegmmgaaDoorCfg
import Derived.Test.YtncdglfcegmmgaaDoorWidth
namespace Go.Proofs.YtncdglfcegmmgaaDoor
open Go.RowKit
set_option linter.unusedVariables false

/-- A cell: its text and its width. -/
structure Cel where
  txt : ByteArray
  wid : Int
/-- A line: the cells that a tab ends, the rest, and the byte that ends it (0: none). -/
structure Ln where
  cells : List Cel
  tail : Cel
  fin : Int

/-! ### the splitter -/
def celOf (W : ByteArray → Int) (b : List UInt8) : Cel := ⟨⟨b.toArray⟩, W ⟨b.toArray⟩⟩
/-- What has been put out, are we in escaped text, the cells of the line, the bytes of the cell. -/
structure Sp where
  outs : List Ln
  raw : Bool
  cells : List Cel
  buf : List UInt8
def sp0 : Sp := ⟨[], false, [], []⟩
/-- One byte. -/
def spStep (esc : Bool) (W : ByteArray → Int) (s : Sp) (x : UInt8) : Sp :=
  if (esc && decide (x = 255)) = true then ⟨s.outs, !s.raw, s.cells, s.buf⟩
  else if (!s.raw && decide (x = 9)) = true then ⟨s.outs, s.raw, s.cells ++ [celOf W s.buf], []⟩
  else if (!s.raw && (decide (x = 10) || decide (x = 12))) = true then ⟨s.outs ++ [⟨s.cells, celOf W s.buf, (x.toNat : Int)⟩], s.raw, [], []⟩
  else ⟨s.outs, s.raw, s.cells, s.buf ++ [x]⟩
def spRun (esc : Bool) (W : ByteArray → Int) (s : Sp) (t : List UInt8) : Sp := t.foldl (spStep esc W) s
/-- The lines of a text. -/
def linesOf (esc : Bool) (W : ByteArray → Int) (t : List UInt8) : List Ln :=
  (spRun esc W sp0 t).outs ++ [⟨(spRun esc W sp0 t).cells, celOf W (spRun esc W sp0 t).buf, 0⟩]
theorem spRun_append (esc : Bool) (W : ByteArray → Int) (s : Sp) (a b : List UInt8) : spRun esc W s (a ++ b) = spRun esc W (spRun esc W s a) b := List.foldl_append
theorem spRun_cons (esc : Bool) (W : ByteArray → Int) (s : Sp) (x : UInt8) (t : List UInt8) : spRun esc W s (x :: t) = spRun esc W (spStep esc W s x) t := rfl
/-- What was put out ahead stays ahead. -/
theorem spStep_outs (esc : Bool) (W : ByteArray → Int) (o : List Ln) (raw : Bool) (cs : List Cel) (b : List UInt8) (x : UInt8) :
    spStep esc W ⟨o, raw, cs, b⟩ x = ⟨o ++ (spStep esc W ⟨[], raw, cs, b⟩ x).outs, (spStep esc W ⟨[], raw, cs, b⟩ x).raw, (spStep esc W ⟨[], raw, cs, b⟩ x).cells, (spStep esc W ⟨[], raw, cs, b⟩ x).buf⟩ := by
  unfold spStep
  (repeat' split) <;> simp_all
theorem spRun_outs (esc : Bool) (W : ByteArray → Int) : ∀ (t : List UInt8) (o : List Ln) (raw : Bool) (cs : List Cel) (b : List UInt8),
    spRun esc W ⟨o, raw, cs, b⟩ t = ⟨o ++ (spRun esc W ⟨[], raw, cs, b⟩ t).outs, (spRun esc W ⟨[], raw, cs, b⟩ t).raw, (spRun esc W ⟨[], raw, cs, b⟩ t).cells, (spRun esc W ⟨[], raw, cs, b⟩ t).buf⟩
  | [], o, raw, cs, b => by simp [spRun]
  | x :: t, o, raw, cs, b => by
    rw [spRun_cons, spRun_cons, spStep_outs esc W o raw cs b x]
    obtain ⟨o1, raw1, cs1, b1⟩ := spStep esc W ⟨[], raw, cs, b⟩ x
    simp only
    rw [spRun_outs esc W t (o ++ o1), spRun_outs esc W t o1]
    simp

/-! ### the closed beginning -/
/-- How many bytes the longest closed beginning has (0: none), where the line has cells or not. -/
def lc (esc : Bool) : List UInt8 → Bool → Bool → Nat
  | [], _, _ => 0
  | x :: t, raw, cs =>
    if (esc && decide (x = 255)) = true then (if lc esc t (!raw) cs = 0 then 0 else lc esc t (!raw) cs + 1)
    else if (!raw && decide (x = 9)) = true then (if lc esc t raw true = 0 then 0 else lc esc t raw true + 1)
    else if (!raw && (decide (x = 10) || decide (x = 12))) = true then (if lc esc t raw false = 0 then (if (!cs || decide (x = 12)) = true then 1 else 0) else lc esc t raw false + 1)
    else (if lc esc t raw cs = 0 then 0 else lc esc t raw cs + 1)
/-- The loop's own way of finding it. -/
def lcGo (esc : Bool) : List UInt8 → Bool → Bool → Nat → Nat → Nat
  | [], _, _, _, best => best
  | x :: t, raw, cs, i, best =>
    if (esc && decide (x = 255)) = true then lcGo esc t (!raw) cs (i + 1) best
    else if (!raw && decide (x = 9)) = true then lcGo esc t raw true (i + 1) best
    else if (!raw && (decide (x = 10) || decide (x = 12))) = true then lcGo esc t raw false (i + 1) (if (!cs || decide (x = 12)) = true then i + 1 else best)
    else lcGo esc t raw cs (i + 1) best
theorem lcGo_eq (esc : Bool) : ∀ (t : List UInt8) (raw cs : Bool) (i best : Nat), lcGo esc t raw cs i best = if lc esc t raw cs = 0 then best else i + lc esc t raw cs
  | [], _, _, _, _ => rfl
  | x :: t, raw, cs, i, best => by
    rw [lcGo, lc]
    split
    · rw [lcGo_eq esc t]
      by_cases h : lc esc t (!raw) cs = 0
      · simp [h]
      · simp [h]; omega
    · split
      · rw [lcGo_eq esc t]
        by_cases h : lc esc t raw true = 0
        · simp [h]
        · simp [h]; omega
      · split
        · rw [lcGo_eq esc t]
          by_cases h : lc esc t raw false = 0
          · by_cases k : (!cs || decide (x = 12)) = true
            · simp [h, k]
            · simp [h, k]
          · simp [h]; omega
        · rw [lcGo_eq esc t]
          by_cases h : lc esc t raw cs = 0
          · simp [h]
          · simp [h]; omega
theorem lc_le (esc : Bool) : ∀ (t : List UInt8) (raw cs : Bool), lc esc t raw cs ≤ t.length
  | [], _, _ => Nat.le_refl _
  | x :: t, raw, cs => by
    have h1 := lc_le esc t (!raw) cs
    have h2 := lc_le esc t raw true
    have h3 := lc_le esc t raw false
    have h4 := lc_le esc t raw cs
    rw [lc, List.length_cons]
    (repeat' split) <;> omega
/-- The state that the closed beginning leaves: nothing is open; the last line has no cells or ends with a form feed. -/
def closedAt (o : List Ln) : Prop := ∃ l, o.getLast? = some l ∧ (l.cells = [] ∨ l.fin = 12)
theorem closedAt_append {a b : List Ln} (h : closedAt b) : closedAt (a ++ b) := by
  obtain ⟨l, h1, h2⟩ := h
  refine ⟨l, ?_, h2⟩
  rw [List.getLast?_append, h1]; rfl
theorem lc_run (esc : Bool) (W : ByteArray → Int) : ∀ (t : List UInt8) (raw : Bool) (cs : List Cel) (b : List UInt8), lc esc t raw (!cs.isEmpty) ≠ 0 →
    ∃ o, spRun esc W ⟨[], raw, cs, b⟩ (t.take (lc esc t raw (!cs.isEmpty))) = ⟨o, false, [], []⟩ ∧ closedAt o
  | [], _, _, _, h => absurd rfl h
  | x :: t, raw, cs, b, h => by
    have key : ∀ (s : Sp) (n : Nat), spStep esc W ⟨[], raw, cs, b⟩ x = s → lc esc (x :: t) raw (!cs.isEmpty) = n + 1 → (∃ o, spRun esc W ⟨[], s.raw, s.cells, s.buf⟩ (t.take n) = ⟨o, false, [], []⟩ ∧ closedAt (s.outs ++ o)) →
        ∃ o, spRun esc W ⟨[], raw, cs, b⟩ ((x :: t).take (lc esc (x :: t) raw (!cs.isEmpty))) = ⟨o, false, [], []⟩ ∧ closedAt o := by
      intro s n hs hn ho
      obtain ⟨o, ho, hc⟩ := ho
      rw [hn, List.take_succ_cons, spRun_cons, hs]
      obtain ⟨so, sr, sc, sb⟩ := s
      simp only at ho hc
      rw [spRun_outs, ho]
      exact ⟨so ++ o, rfl, hc⟩
    have more : ∀ (s : Sp) (n : Nat), (∃ o, spRun esc W ⟨[], s.raw, s.cells, s.buf⟩ (t.take n) = ⟨o, false, [], []⟩ ∧ closedAt o) → ∃ o, spRun esc W ⟨[], s.raw, s.cells, s.buf⟩ (t.take n) = ⟨o, false, [], []⟩ ∧ closedAt (s.outs ++ o) :=
      fun s n ⟨o, h1, h2⟩ => ⟨o, h1, closedAt_append h2⟩
    rw [lc] at h
    by_cases h1 : (esc && decide (x = 255)) = true
    · rw [if_pos h1] at h
      have hn : lc esc t (!raw) (!cs.isEmpty) ≠ 0 := fun e => h (by rw [if_pos e])
      exact key ⟨[], !raw, cs, b⟩ (lc esc t (!raw) (!cs.isEmpty)) (by unfold spStep; rw [if_pos h1]) (by rw [lc, if_pos h1, if_neg hn]) (more ⟨[], !raw, cs, b⟩ _ (lc_run esc W t (!raw) cs b hn))
    · rw [if_neg h1] at h
      by_cases h2 : (!raw && decide (x = 9)) = true
      · rw [if_pos h2] at h
        have hn : lc esc t raw true ≠ 0 := fun e => h (by rw [if_pos e])
        have hi : (!(cs ++ [celOf W b]).isEmpty) = true := by simp
        refine key ⟨[], raw, cs ++ [celOf W b], []⟩ (lc esc t raw true) (by unfold spStep; rw [if_neg h1, if_pos h2]) (by rw [lc, if_neg h1, if_pos h2, if_neg hn]) ?_
        have := lc_run esc W t raw (cs ++ [celOf W b]) []
        rw [hi] at this
        exact more ⟨[], raw, cs ++ [celOf W b], []⟩ _ (this hn)
      · rw [if_neg h2] at h
        by_cases h3 : (!raw && (decide (x = 10) || decide (x = 12))) = true
        · rw [if_pos h3] at h
          have hr : raw = false := by cases raw <;> simp_all
          by_cases hn : lc esc t raw false = 0
          · rw [if_pos hn] at h
            have h4 : (!(!cs.isEmpty) || decide (x = 12)) = true := by
              by_cases k : (!(!cs.isEmpty) || decide (x = 12)) = true
              · exact k
              · rw [if_neg k] at h; exact absurd rfl h
            refine key ⟨[⟨cs, celOf W b, (x.toNat : Int)⟩], raw, [], []⟩ 0 (by unfold spStep; rw [if_neg h1, if_neg h2, if_pos h3]; rfl) (by rw [lc, if_neg h1, if_neg h2, if_pos h3, if_pos hn, if_pos h4]) ?_
            subst hr
            refine ⟨[], rfl, ⟨cs, celOf W b, (x.toNat : Int)⟩, rfl, ?_⟩
            cases hcs : cs with
            | nil => exact .inl rfl
            | cons a r =>
              rw [hcs] at h4
              have : x = 12 := by simpa using h4
              exact .inr (by rw [this]; rfl)
          · refine key ⟨[⟨cs, celOf W b, (x.toNat : Int)⟩], raw, [], []⟩ (lc esc t raw false) (by unfold spStep; rw [if_neg h1, if_neg h2, if_pos h3]; rfl) (by rw [lc, if_neg h1, if_neg h2, if_pos h3, if_neg hn]) ?_
            exact more ⟨[⟨cs, celOf W b, (x.toNat : Int)⟩], raw, [], []⟩ _ (lc_run esc W t raw [] [] hn)
        · rw [if_neg h3] at h
          have hn : lc esc t raw (!cs.isEmpty) ≠ 0 := fun e => h (by rw [if_pos e])
          exact key ⟨[], raw, cs, b ++ [x]⟩ (lc esc t raw (!cs.isEmpty)) (by unfold spStep; rw [if_neg h1, if_neg h2, if_neg h3]) (by rw [lc, if_neg h1, if_neg h2, if_neg h3, if_neg hn]) (more ⟨[], raw, cs, b ++ [x]⟩ _ (lc_run esc W t raw cs (b ++ [x]) hn))
/-- Behind the closed beginning nothing is closed; and what follows adds to it. -/
theorem lc_append (esc : Bool) (r : List UInt8) : ∀ (t : List UInt8) (raw cs : Bool), lc esc t raw cs ≠ 0 → lc esc (t ++ r) raw cs = lc esc t raw cs + lc esc (t.drop (lc esc t raw cs) ++ r) false false
  | [], _, _, h => absurd rfl h
  | x :: t, raw, cs, h => by
    have e : lc esc (x :: t ++ r) raw cs = lc esc (x :: (t ++ r)) raw cs := rfl
    have fin : ∀ (raw' cs' : Bool), lc esc t raw' cs' ≠ 0 → lc esc (t ++ r) raw' cs' ≠ 0 ∧ lc esc (t ++ r) raw' cs' + 1 = lc esc t raw' cs' + 1 + lc esc ((x :: t).drop (lc esc t raw' cs' + 1) ++ r) false false := by
      intro raw' cs' hn
      have ih := lc_append esc r t raw' cs' hn
      rw [List.drop_succ_cons, ih]
      exact ⟨by omega, by omega⟩
    rw [e]
    by_cases h1 : (esc && decide (x = 255)) = true
    · have hn : lc esc t (!raw) cs ≠ 0 := fun k => h (by rw [lc, if_pos h1, if_pos k])
      obtain ⟨f1, f2⟩ := fin (!raw) cs hn
      have e1 : lc esc (x :: t) raw cs = lc esc t (!raw) cs + 1 := by rw [lc, if_pos h1, if_neg hn]
      rw [e1, ← f2, lc, if_pos h1, if_neg f1]
    · by_cases h2 : (!raw && decide (x = 9)) = true
      · have hn : lc esc t raw true ≠ 0 := fun k => h (by rw [lc, if_neg h1, if_pos h2, if_pos k])
        obtain ⟨f1, f2⟩ := fin raw true hn
        have e1 : lc esc (x :: t) raw cs = lc esc t raw true + 1 := by rw [lc, if_neg h1, if_pos h2, if_neg hn]
        rw [e1, ← f2, lc, if_neg h1, if_pos h2, if_neg f1]
      · by_cases h3 : (!raw && (decide (x = 10) || decide (x = 12))) = true
        · have hr : raw = false := by cases raw <;> simp_all
          by_cases hn : lc esc t raw false = 0
          · have h4 : (!cs || decide (x = 12)) = true := by
              by_cases k : (!cs || decide (x = 12)) = true
              · exact k
              · exact absurd (by rw [lc, if_neg h1, if_neg h2, if_pos h3, if_pos hn, if_neg k]) h
            have e1 : lc esc (x :: t) raw cs = 1 := by rw [lc, if_neg h1, if_neg h2, if_pos h3, if_pos hn, if_pos h4]
            rw [e1, lc, if_neg h1, if_neg h2, if_pos h3, List.drop_succ_cons, List.drop_zero, hr]
            by_cases k : lc esc (t ++ r) false false = 0
            · rw [if_pos k, if_pos h4, k]
            · rw [if_neg k]; omega
          · obtain ⟨f1, f2⟩ := fin raw false hn
            have e1 : lc esc (x :: t) raw cs = lc esc t raw false + 1 := by rw [lc, if_neg h1, if_neg h2, if_pos h3, if_neg hn]
            rw [e1, ← f2, lc, if_neg h1, if_neg h2, if_pos h3, if_neg f1]
        · have hn : lc esc t raw cs ≠ 0 := fun k => h (by rw [lc, if_neg h1, if_neg h2, if_neg h3, if_pos k])
          obtain ⟨f1, f2⟩ := fin raw cs hn
          have e1 : lc esc (x :: t) raw cs = lc esc t raw cs + 1 := by rw [lc, if_neg h1, if_neg h2, if_neg h3, if_neg hn]
          rw [e1, ← f2, lc, if_neg h1, if_neg h2, if_neg h3, if_neg f1]
theorem lc_rest (esc : Bool) (t : List UInt8) (raw cs : Bool) (h : lc esc t raw cs ≠ 0) : lc esc (t.drop (lc esc t raw cs)) false false = 0 := by
  have := lc_append esc [] t raw cs h
  rw [List.append_nil, List.append_nil] at this
  omega
/-- What a text's closed beginning is, what it leaves is closed nowhere: whether it is 0 or not. -/
theorem lc_rest0 (esc : Bool) (t : List UInt8) : lc esc (t.drop (lc esc t false false)) false false = 0 := by
  by_cases h : lc esc t false false = 0
  · rw [h, List.drop_zero]; exact h
  · exact lc_rest esc t false false h
/-- More text behind it: the closed beginning grows by that of what was held and what came. -/
theorem lc_more (esc : Bool) (t r : List UInt8) : lc esc (t ++ r) false false = lc esc t false false + lc esc (t.drop (lc esc t false false) ++ r) false false := by
  by_cases h : lc esc t false false = 0
  · rw [h, List.drop_zero, Nat.zero_add]
  · exact lc_append esc r t false false h
/-- The lines of a text whose beginning is closed. -/
theorem lines_closed (esc : Bool) (W : ByteArray → Int) (t : List UInt8) (h : lc esc t false false ≠ 0) :
    ∃ o, closedAt o ∧ linesOf esc W (t.take (lc esc t false false)) = o ++ [⟨[], celOf W [], 0⟩] ∧ linesOf esc W t = o ++ linesOf esc W (t.drop (lc esc t false false)) := by
  obtain ⟨o, h1, h2⟩ := lc_run esc W t false [] [] h
  have e : (!([] : List Cel).isEmpty) = false := rfl
  rw [e] at h1
  refine ⟨o, h2, ?_, ?_⟩
  · unfold linesOf sp0
    rw [h1]
  · have h3 : spRun esc W sp0 t = spRun esc W ⟨o, false, [], []⟩ (t.drop (lc esc t false false)) := by
      conv => lhs; rw [← List.take_append_drop (lc esc t false false) t]
      rw [spRun_append]
      unfold sp0
      rw [h1]
    unfold linesOf
    rw [h3, spRun_outs]
    simp [sp0]
end Go.Proofs.YtncdglfcegmmgaaDoor
