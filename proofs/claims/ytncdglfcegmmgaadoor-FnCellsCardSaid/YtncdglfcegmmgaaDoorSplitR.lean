/- The program's splitter by roles: plain steps; what keeps a block of another type; an emptied slice. No walk. -/
import Derived.Test.YtncdglfcegmmgaaDoorSplitM
import Derived.Test.YtncdglfcegmmgaaDoorRoles
import Derived.Test.YtncdglfcegmmgaaDoorCelW
namespace Go.Proofs.YtncdglfcegmmgaaDoor
open Go.RowKit
set_option linter.unusedVariables false

theorem spRun_raw (esc : Bool) (Wf : ByteArray → Int) (s : ByteArray) (k : Nat) : (spRun esc Wf sp0 (s.data.toList.take k)).raw = rawAt esc s k := by
  unfold rawAt
  have key : ∀ (l : List UInt8) (st : Sp), (spRun esc Wf st l).raw = l.foldl (nextRaw esc) st.raw := by
    intro l
    induction l with
    | nil => intro st; rfl
    | cons x r ih =>
      intro st
      rw [spRun_cons, ih, List.foldl_cons]
      congr 1
      unfold spStep nextRaw
      (repeat' split) <;> rfl
  exact key _ sp0
/-- What a byte does to the splitter, by its role. -/
theorem sp_role (esc : Bool) (Wf : ByteArray → Int) (s : ByteArray) (k : Nat) (h : k < s.size) (o : List Ln) (raw : Bool) (cs : List Cel) (b : List UInt8) (hr : (⟨o, raw, cs, b⟩ : Sp) = spRun esc Wf sp0 (s.data.toList.take k)) :
    ∃ nr : Bool, ((roleAt esc s k = 0 ∧ (⟨o, nr, cs, b ++ [s[k]]⟩ : Sp) = spRun esc Wf sp0 (s.data.toList.take (k + 1))) ∨ (roleAt esc s k = 1 ∧ (⟨o, nr, cs, b⟩ : Sp) = spRun esc Wf sp0 (s.data.toList.take (k + 1)))) ∨
      ((roleAt esc s k = 2 ∧ (⟨o, nr, cs ++ [celOf Wf b], []⟩ : Sp) = spRun esc Wf sp0 (s.data.toList.take (k + 1))) ∨ (roleAt esc s k = 3 ∧ (⟨o ++ [⟨cs, celOf Wf b, (s[k].toNat : Int)⟩], nr, [], []⟩ : Sp) = spRun esc Wf sp0 (s.data.toList.take (k + 1)))) := by
  have hra : raw = rawAt esc s k := by rw [← spRun_raw esc Wf s k, ← hr]
  rw [roleAt_lt esc s k h, ← hra, sp_next esc Wf s k h, ← hr]
  unfold spStep roleN
  by_cases h1 : (esc && decide (s[k] = 255)) = true
  · exact ⟨!raw, .inl (.inr ⟨if_pos h1, by rw [if_pos h1]⟩)⟩
  · by_cases h2 : (!raw && decide (s[k] = 9)) = true
    · exact ⟨raw, .inr (.inl ⟨by rw [if_neg h1, if_pos h2], by rw [if_neg h1, if_pos h2]⟩)⟩
    · by_cases h3 : (!raw && (decide (s[k] = 10) || decide (s[k] = 12))) = true
      · exact ⟨raw, .inr (.inr ⟨by rw [if_neg h1, if_neg h2, if_pos h3], by rw [if_neg h1, if_neg h2, if_pos h3]⟩)⟩
      · exact ⟨raw, .inl (.inl ⟨by rw [if_neg h1, if_neg h2, if_neg h3], by rw [if_neg h1, if_neg h2, if_neg h3]⟩)⟩
/-- A slice of the call's own, cut to nothing. -/
def emptied : Value → Value
  | .slice a _ c => .slice a 0 c
  | v => v
theorem emptied_own {W : World} {base : Nat} {e : TypeId} {size n : Nat} {v : Value} {xs : List Value} (h : W.ownsRow base e size v n xs) : W.ownsRow base e size (emptied v) 0 [] := by
  refine ⟨by simp, ?_⟩
  rcases h.2 with ⟨rfl, _⟩ | ⟨g, cap, cur, rfl, hb, hg, h1, h2, h3, h4⟩
  · exact .inl ⟨rfl, rfl⟩
  · exact .inr ⟨g, cap, cur, rfl, hb, hg, Nat.zero_le _, h2, h3, by simp⟩
theorem run_empty (v : Value) (a : Option Addr) (n c : Nat) (hv : v = .slice a n c) (ha : ∀ x, a = some x → x.spot = none) (w : World) :
    (Instr.slice 22 v none (some (.int .i64 0)) none).run Tryd.prog w = .ok (emptied v) w := by
  subst hv
  rw [run_slice_h (P := Tryd.prog) (w := w) (t := 22) (a := a) (len := n) (cap := c) (ht := by kernel_rfl) .i64 0 (by omega) (by omega)]
  rw [show Tryd.prog.elem 22 = 5 by kernel_rfl, Tryd.sizeOf5]
  simp only [Result.andThen, sliced, emptied]
  congr 1
  simp only [Int.toNat_zero, Nat.sub_zero, Nat.zero_mul, Value.slice.injEq, and_true]
  split
  · rfl
  · cases a with
    | none => rfl
    | some x =>
      obtain ⟨g, o, sp⟩ := x
      have := ha _ rfl
      simp only at this
      subst this
      simp [Addr.add]
theorem run_emptied {W : World} {base : Nat} {e : TypeId} {size n : Nat} {v : Value} {xs : List Value} (h : W.ownsRow base e size v n xs) (w : World) : (Instr.slice 22 v none (some (.int .i64 0)) none).run Tryd.prog w = .ok (emptied v) w := by
  rcases h.2 with ⟨rfl, _⟩ | ⟨g, cap, cur, rfl, _⟩
  · exact run_empty _ none 0 0 rfl (fun x hx => by cases hx) w
  · exact run_empty _ (some ⟨g, 0, none⟩) n cap rfl (fun x hx => by cases hx; rfl) w
/-! ### blocks of a type that the step does not touch -/
theorem SpM.cell_keeps {w W W' : World} {c : Cfg} {gl : Nat} {vo vc vb vc' : Value} {st : Sp} {e : TypeId} (h : SpM w W c gl vo vc vb st) (hg : W.grownBy W' vc.ownBlock) (h1 : 32 ≠ e) (h2 : 34 ≠ e) : Keeps W (W'.setCell ⟨gl, 0, none⟩ vc') e := by
  have k4 : W.ownsRow w.heap.size 32 2 vc st.cells.length (celVals st.cells) := h.2.2.2.1
  have b2 := h.2.2.1.keeps (.grown k4 (by decide) hg)
  exact (Keeps.grown k4 h1 hg).trans (.blk b2 h2 (grown_set W' gl 0 vc'))
theorem SpM.byte_keeps {w W W' : World} {c : Cfg} {gl : Nat} {vo vc vb : Value} {st : Sp} {e : TypeId} (h : SpM w W c gl vo vc vb st) (hg : W.grownBy W' vb.ownBlock) (h1 : 5 ≠ e) : Keeps W W' e := .grown h.2.2.2.2.1 h1 hg
theorem SpM.line_keeps {w W W2 W3 : World} {c : Cfg} {gl : Nat} {vo vc vb : Value} {vs : List Value} {st : Sp} {e : TypeId} {cs : Array Value} (h : SpM w W c gl vo vc vb st) (hg2 : W.grownBy W2 (some gl)) (hb2 : Blk W2 gl 34 cs) (how : W2.ownsRow w.heap.size 34 4 vo st.outs.length (lnVals vs st.outs)) (hg : W2.grownBy W3 vo.ownBlock) (h1 : 34 ≠ e) :
    Keeps W W3 e ∧ Keeps W ((((W3.setCell ⟨gl, 0, none⟩ (.slice none 0 0)).setCell ⟨gl, 1, none⟩ (.string ⟨#[]⟩)).setCell ⟨gl, 2, none⟩ (.int .i64 0)).setCell ⟨gl, 3, none⟩ (.int .i64 0)) e := by
  have b3 := h.line_blk hb2 hg
  have g4 : W3.grownBy ((((W3.setCell ⟨gl, 0, none⟩ (.slice none 0 0)).setCell ⟨gl, 1, none⟩ (.string ⟨#[]⟩)).setCell ⟨gl, 2, none⟩ (.int .i64 0)).setCell ⟨gl, 3, none⟩ (.int .i64 0)) (some gl) :=
    grown_trans (grown_trans (grown_trans (grown_set W3 gl 0 _) (grown_set _ gl 1 _)) (grown_set _ gl 2 _)) (grown_set _ gl 3 _)
  have k1 : Keeps W W3 e := (Keeps.blk h.2.2.1 h1 hg2).trans (.grown how h1 hg)
  exact ⟨k1, k1.trans (.blk b3 h1 g4)⟩
theorem SpM.rebuf {w W : World} {c : Cfg} {gl : Nat} {vo vc vb vb' : Value} {st : Sp} {b : List UInt8} (h : SpM w W c gl vo vc vb st) (ho : W.ownsRow w.heap.size 5 1 vb' b.length (u8s b)) : SpM w W c gl vo vc vb' ⟨st.outs, st.raw, st.cells, b⟩ :=
  ⟨h.1, h.2.1, h.2.2.1, h.2.2.2.1, ho, h.2.2.2.2.2⟩
theorem spm_begin (w w1 : World) (c : Cfg) (hb : Below w.heap.size w w1) (hB : Blk w1 w.heap.size 24 (cfgV c)) :
    SpM w (w1.alloc (.cells #[.slice none 0 0, .string ⟨#[]⟩, .int .i64 0, .int .i64 0] 34)) c w1.heap.size (.slice none 0 0) (.slice none 0 0) (.slice none 0 0) sp0 :=
  ⟨hb.alloc hb.size _, hB.after ((Below.refl _ _).alloc (Nat.le_refl _) _), Blk.new w1 _ _, OwnC.nil _ _, World.ownsRow_nil _ _ _ _, OwnL.nilAt _ _ _ _ (World.ownsRow_nil _ _ _ _), (fun h => by cases h), hB.lt⟩
/-- The lines that SplitText answers. -/
def splitL (c : Cfg) (s : ByteArray) : List Ln := if validC c = true then linesOf c.fe (fun b => (celW c.fm b 0 : Int)) s.data.toList else []
theorem splitL_no {c : Cfg} (s : ByteArray) (h : validC c = false) : splitL c s = [] := if_neg (by rw [h]; decide)
theorem splitL_yes {c : Cfg} (s : ByteArray) (h : validC c = true) : splitL c s = linesOf c.fe (fun b => (celW c.fm b 0 : Int)) s.data.toList := if_pos h
/-! ### how many lines, how much in them -/
theorem totC_append (a b : List Cel) : totC (a ++ b) = totC a + totC b := by
  induction a with
  | nil => simp [totC]
  | cons x r ih => simp only [List.cons_append, totC, ih]; omega
theorem totL_append (a b : List Ln) : totL (a ++ b) = totL a + totL b := by
  induction a with
  | nil => simp [totL]
  | cons x r ih => simp only [List.cons_append, totL, ih]; omega
def spSize (st : Sp) : Nat := totL st.outs + (st.cells.length + totC st.cells) + st.buf.length
theorem celOf_size (Wf : ByteArray → Int) (b : List UInt8) : (celOf Wf b).txt.size = b.length := by
  show b.toArray.size = _
  simp
theorem spStep_size (esc : Bool) (Wf : ByteArray → Int) (st : Sp) (x : UInt8) : spSize (spStep esc Wf st x) ≤ spSize st + 1 ∧ (spStep esc Wf st x).outs.length ≤ st.outs.length + 1 := by
  obtain ⟨o, raw, cs, b⟩ := st
  unfold spStep
  simp only
  split
  · exact ⟨by simp [spSize], by simp⟩
  · split
    · refine ⟨?_, by simp⟩
      simp only [spSize, totC_append, totC, List.length_append, celOf_size, List.length_cons, List.length_nil]
      omega
    · split
      · refine ⟨?_, by simp⟩
        simp only [spSize, totL_append, totL, totC, celOf_size, List.length_nil]
        omega
      · refine ⟨?_, by simp⟩
        simp only [spSize, List.length_append, List.length_cons, List.length_nil]
        omega
theorem spRun_size (esc : Bool) (Wf : ByteArray → Int) : ∀ (t : List UInt8) (st : Sp), spSize (spRun esc Wf st t) ≤ spSize st + t.length ∧ (spRun esc Wf st t).outs.length ≤ st.outs.length + t.length
  | [], st => ⟨Nat.le_refl _, Nat.le_refl _⟩
  | x :: t, st => by
    have h1 := spStep_size esc Wf st x
    have h2 := spRun_size esc Wf t (spStep esc Wf st x)
    rw [spRun_cons, List.length_cons]
    omega
theorem lines_size (esc : Bool) (Wf : ByteArray → Int) (t : List UInt8) : (linesOf esc Wf t).length ≤ t.length + 1 ∧ totL (linesOf esc Wf t) ≤ t.length := by
  have h := spRun_size esc Wf t sp0
  have e1 : spSize sp0 = 0 := rfl
  have e2 : sp0.outs.length = 0 := rfl
  rw [e1, e2] at h
  unfold linesOf
  rw [List.length_append, totL_append]
  simp only [totL, celOf_size, List.length_cons, List.length_nil]
  unfold spSize at h
  omega
theorem splitL_size (c : Cfg) (s : ByteArray) : (splitL c s).length ≤ s.size + 1 ∧ totL (splitL c s) ≤ s.size := by
  unfold splitL
  split
  · have := lines_size c.fe (fun b => (celW c.fm b 0 : Int)) s.data.toList
    rw [bytes_length] at this
    exact this
  · exact ⟨Nat.zero_le _, Nat.zero_le _⟩
end Go.Proofs.YtncdglfcegmmgaaDoor
