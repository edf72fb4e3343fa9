/- The exact laws on TableCode and IsTable, over contracts. -/
import Derived.Test.YtionfjofojfaoaaDoorTabT
import Derived.Test.YtionfjofojfaoaaDoorCellT
import Derived.Deep.RegionHeld3
namespace Go.Proofs.YtionfjofojfaoaaDoor
open Go.RowKit
set_option linter.unusedVariables false

def anyR (p : List ByteArray → Bool) (f : Nat → List ByteArray) : Nat → Bool
  | 0 => false
  | j + 1 => anyR p f j || p (f j)
theorem anyR_no (p : List ByteArray → Bool) (f : Nat → List ByteArray) (n : Nat) (h : anyR p f n = false) : ∀ i, i < n → p (f i) = false := by
  induction n with
  | zero => intro i hi; omega
  | succ n ih =>
    rw [anyR, Bool.or_eq_false_iff] at h
    intro i hi
    rcases Nat.lt_or_ge i n with h1 | h1
    · exact ih h.1 i h1
    · obtain rfl : i = n := by omega
      exact h.2
theorem anyR_yes (p : List ByteArray → Bool) (f : Nat → List ByteArray) (n i : Nat) (hi : i < n) (h : p (f i) = true) : anyR p f n = true := by
  cases hc : anyR p f n with
  | true => rfl
  | false => rw [anyR_no p f n hc i hi] at h; cases h
theorem anyR_none (p : List ByteArray → Bool) (f : Nat → List ByteArray) (n : Nat) (h : ∀ i, i < n → p (f i) = false) : anyR p f n = false := by
  induction n with
  | zero => rfl
  | succ n ih => rw [anyR, ih (fun i hi => h i (by omega)), h n (by omega)]; rfl
def badRow (r : List ByteArray) : Bool := r.any fun s => !cellB s
def wrongRow (z : Nat) (r : List ByteArray) : Bool := decide (r.length ≠ z)
/-- What the code of a table is. -/
def tabCode (h : List ByteArray) (n : Nat) (f : Nat → List ByteArray) : Int :=
  if h.length < 1 ∨ 8 < h.length then 1 else if anyR (wrongRow h.length) f n = true then 1 else if badRow h = true ∨ anyR badRow f n = true then 2 else if 60 < n then 3 else 0
def isTab (h : List ByteArray) (n : Nat) (f : Nat → List ByteArray) : Bool := decide (tabCode h n f = 0)
/-- A table within the reach; no rows behind the last. -/
def TabFits (h : List ByteArray) (n : Nat) (f : Nat → List ByteArray) : Prop :=
  h.length ≤ 1048576 ∧ (∀ x ∈ h, x.size ≤ 1048576) ∧ n ≤ 1048576 ∧ ∀ i, (f i).length ≤ 1048576 ∧ ∀ x ∈ f i, x.size ≤ 1048576
theorem tab_fits {h : List ByteArray} {n : Nat} {f : Nat → List ByteArray} (hz : 0 ≤ szTab h n f 1048576) (he : ∀ i, n ≤ i → f i = []) : TabFits h n f := by
  unfold szTab at hz
  split at hz
  · omega
  · rename_i h1
    split at hz
    · omega
    · rename_i h2
      have a := szL_le h 1048576 (by omega)
      have a2 := szL_up h 1048576 (by omega)
      have b := szT_le n f _ (by omega : 0 ≤ szT n f (szL h 1048576))
      refine ⟨by omega, fun x hx => ?_, by omega, fun i => ?_⟩
      · have := tot_mem h x hx
        omega
      · rcases Nat.lt_or_ge i n with hi | hi
        · have c := totT_row f n i hi
          refine ⟨by omega, fun x hx => ?_⟩
          have := tot_mem (f i) x hx
          omega
        · rw [he i hi]
          exact ⟨by simp, fun x hx => by cases hx⟩
def TabS (X : World) (A B : Nat) (a0 a1 b0 b1 : Value) (W : World) : Prop :=
  W.cell? ⟨A, 0, none⟩ = some a0 ∧ W.cell? ⟨A, 1, none⟩ = some a1 ∧ W.cell? ⟨B, 0, none⟩ = some b0 ∧ W.cell? ⟨B, 1, none⟩ = some b1 ∧ A < W.heap.size ∧ B < W.heap.size ∧ Below X.heap.size X W
theorem tb_start {X : World} {A B : Nat} {T U : TypeId} {a0 a1 b0 b1 : Value} (ha : Blk X A T #[a0, a1]) (hb : Blk X B U #[b0, b1]) :
    X.drew.cell? ⟨A, 0, none⟩ = some a0 ∧ X.drew.cell? ⟨A, 1, none⟩ = some a1 ∧ X.drew.cell? ⟨B, 0, none⟩ = some b0 ∧ X.drew.cell? ⟨B, 1, none⟩ = some b1 ∧ A < X.drew.heap.size ∧ B < X.drew.heap.size ∧ Below X.heap.size X X.drew :=
  ⟨ha.cell 0, ha.cell 1, hb.cell 0, hb.cell 1, ha.lt, hb.lt, below_drewN (Below.refl _ _) 1⟩
theorem tb_below {X W W' : World} {A B : Nat} {a0 a1 b0 b1 : Value} (hb : Below W.heap.size W W')
    (h : W.cell? ⟨A, 0, none⟩ = some a0 ∧ W.cell? ⟨A, 1, none⟩ = some a1 ∧ W.cell? ⟨B, 0, none⟩ = some b0 ∧ W.cell? ⟨B, 1, none⟩ = some b1 ∧ A < W.heap.size ∧ B < W.heap.size ∧ Below X.heap.size X W) :
    W'.cell? ⟨A, 0, none⟩ = some a0 ∧ W'.cell? ⟨A, 1, none⟩ = some a1 ∧ W'.cell? ⟨B, 0, none⟩ = some b0 ∧ W'.cell? ⟨B, 1, none⟩ = some b1 ∧ A < W'.heap.size ∧ B < W'.heap.size ∧ Below X.heap.size X W' := by
  obtain ⟨h0, h1, h2, h3, s1, s2, hx⟩ := h
  have hs := hb.size
  exact ⟨(hb.cell (p := ⟨A, 0, none⟩) s1).trans h0, (hb.cell (p := ⟨A, 1, none⟩) s1).trans h1, (hb.cell (p := ⟨B, 0, none⟩) s2).trans h2, (hb.cell (p := ⟨B, 1, none⟩) s2).trans h3, by omega, by omega, hx.trans (hb.mono hx.size)⟩
theorem tb_new {X W : World} {A B : Nat} {a0 a1 b0 b1 : Value} (h : W.cell? ⟨A, 0, none⟩ = some a0 ∧ W.cell? ⟨A, 1, none⟩ = some a1 ∧ W.cell? ⟨B, 0, none⟩ = some b0 ∧ W.cell? ⟨B, 1, none⟩ = some b1 ∧ A < W.heap.size ∧ B < W.heap.size ∧ Below X.heap.size X W) : Below X.heap.size X W := h.2.2.2.2.2.2
end Go.Proofs.YtionfjofojfaoaaDoor
