/- Column blocks: the model's. -/
import Derived.Test.YtooanejiadbngaaGreatDoorBA
import Derived.Test.YtooanejiadbngaaGreatDoorBlkL
import Derived.Test.YtooanejiadbngaaGreatDoorBB
import Derived.Deep.RegionHeld3
namespace Go.Proofs.YtooanejiadbngaaGreatDoor
open Go.RowKit
set_option linter.unusedVariables false

/-! ### blocks in memory -/
def bkVals (l : List Bk) : List Value := l.flatMap fun b => [.int .i64 b.col, .int .i64 b.frm, .int .i64 b.to, .int .i64 b.wid]
theorem bkVals_append (a b : List Bk) : bkVals (a ++ b) = bkVals a ++ bkVals b := by simp [bkVals]
theorem bkVals_snoc (l : List Bk) (b : Bk) : bkVals (l ++ [b]) = bkVals l ++ [.int .i64 b.col, .int .i64 b.frm, .int .i64 b.to, .int .i64 b.wid] := by simp [bkVals]
theorem bkVals_cons (b : Bk) (r : List Bk) : bkVals (b :: r) = .int .i64 b.col :: .int .i64 b.frm :: .int .i64 b.to :: .int .i64 b.wid :: bkVals r := rfl
theorem bkVals_length (l : List Bk) : (bkVals l).length = 4 * l.length := by
  induction l with
  | nil => rfl
  | cons c r ih => rw [bkVals_cons]; simp only [List.length_cons]; omega
theorem bkVals_get (l : List Bk) (j : Nat) (b : Bk) (h : l[j]? = some b) : (bkVals l)[j * 4]? = some (.int .i64 b.col) ∧ (bkVals l)[j * 4 + 1]? = some (.int .i64 b.frm) ∧ (bkVals l)[j * 4 + 2]? = some (.int .i64 b.to) ∧ (bkVals l)[j * 4 + 3]? = some (.int .i64 b.wid) := by
  induction l generalizing j with
  | nil => simp at h
  | cons d r ih =>
    cases j with
    | zero => simp at h; subst h; simp [bkVals_cons]
    | succ j =>
      have hx := ih j (by simpa using h)
      have e1 : (j + 1) * 4 = j * 4 + 1 + 1 + 1 + 1 := by omega
      rw [bkVals_cons, e1]
      exact hx
def OwnB (W : World) (base : Nat) (v : Value) (l : List Bk) : Prop := W.ownsRow base 100 4 v l.length (bkVals l)
/-- The slice value v reads as the blocks l. -/
def BkAt (w : World) (g o : Nat) (b : Bk) : Prop := w.cell? ⟨g, o, none⟩ = some (.int .i64 b.col) ∧ w.cell? ⟨g, o + 1, none⟩ = some (.int .i64 b.frm) ∧ w.cell? ⟨g, o + 2, none⟩ = some (.int .i64 b.to) ∧ w.cell? ⟨g, o + 3, none⟩ = some (.int .i64 b.wid)
def RdB (w : World) (v : Value) (l : List Bk) : Prop :=
  ∃ (A : Option Addr) (cap : Nat), v = .slice A l.length cap ∧ (0 < l.length → ∃ g o, A = some ⟨g, o, none⟩ ∧ g < w.heap.size ∧ ∀ j c, l[j]? = some c → BkAt w g (o + j * 4) c)
theorem RdB.below {w w' : World} {v : Value} {l : List Bk} (h : RdB w v l) (hb : Below w.heap.size w w') : RdB w' v l := by
  obtain ⟨A, c, hv, hc⟩ := h
  refine ⟨A, c, hv, fun h0 => ?_⟩
  obtain ⟨g, o, hA, hg, hcell⟩ := hc h0
  refine ⟨g, o, hA, by have := hb.size; omega, fun j u hu => ?_⟩
  obtain ⟨p0, p1, p2, p3⟩ := hcell j u hu
  exact ⟨(hb.cell (p := ⟨g, _, none⟩) hg).trans p0, (hb.cell (p := ⟨g, _, none⟩) hg).trans p1, (hb.cell (p := ⟨g, _, none⟩) hg).trans p2, (hb.cell (p := ⟨g, _, none⟩) hg).trans p3⟩
theorem OwnB.rd {W : World} {base : Nat} {v : Value} {l : List Bk} (h : OwnB W base v l) : RdB W v l := by
  have h0 : W.ownsRow base 100 4 v l.length (bkVals l) := h
  rcases h0.2 with ⟨rfl, hn⟩ | ⟨g, cap, cur, rfl, hb, hg, _⟩
  · refine ⟨none, 0, by rw [hn], fun h1 => ?_⟩
    omega
  · refine ⟨_, cap, rfl, fun _ => ⟨g, 0, rfl, (Array.getElem?_eq_some_iff.1 hg).1, fun j c hj => ?_⟩⟩
    have hjl : j < l.length := (List.getElem?_eq_some_iff.1 hj).1
    obtain ⟨a, b, c', d⟩ := bkVals_get l j c hj
    refine ⟨?_, ?_, ?_, ?_⟩ <;> rw [Nat.zero_add, World.ownsRow.cellAt h0 _ (by omega)] <;> assumption
theorem OwnB.nil (W : World) (base : Nat) : OwnB W base (.slice none 0 0) [] := World.ownsRow_nil W base _ 4
theorem blkCells_one (a b c d : Int) : ∀ u ∈ (#[.int .i64 a, .int .i64 b, .int .i64 c, .int .i64 d] : Array Value).toList, u.oneCell' = true := by
  intro u hu
  simp only [List.mem_cons, List.not_mem_nil, or_false] at hu
  rcases hu with rfl | rfl | rfl | rfl <;> rfl
theorem OwnB.keeps {W W' : World} {base : Nat} {v : Value} {l : List Bk} (h : OwnB W base v l) (hk : Keeps W W' 100) : OwnB W' base v l := own_keeps h hk
theorem Tryz.infoBlk : (Tryz.prog.info? 100).map (fun i => (i.zero, i.size, i.bytes)) = some (some (.agg #[.int .i64 0, .int .i64 0, .int .i64 0, .int .i64 0]), 4, 32) := by kernel_rfl
end Go.Proofs.YtooanejiadbngaaGreatDoor
