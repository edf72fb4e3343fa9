/- The exact law on TransposeRows. -/
import Derived.Test.YtionfjofojfaoaaDoorSpecTra
import Derived.Test.YtionfjofojfaoaaDoorTexts2
import Derived.Test.YtionfjofojfaoaaDoorOpenTab
namespace Go.Proofs.YtionfjofojfaoaaDoor
open Go.RowKit
set_option linter.unusedVariables false

theorem OwnT.far {W W' : World} {base top b t : Nat} {v : Value} {n : Nat} {f : Nat → List ByteArray} (h : OwnT W b t v n f) (hf : FarKept base top W W') (hb : t ≤ base ∨ top ≤ b) : OwnT W' b t v n f := by
  obtain ⟨vs, a, l, c, d⟩ := h
  refine ⟨vs, hf _ _ _ _ _ _ a fun q hq => ?_, l, fun i u hu => ⟨hf _ _ _ _ _ _ (c i u hu).1 fun q hq => ?_, (c i u hu).2⟩, d⟩
  · have h1 := (World.ownsRow.lt a q hq).1
    have h2 := l q hq
    omega
  · have h1 := (World.ownsRow.lt (c i u hu).1 q hq).1
    have h2 := (c i u hu).2 q hq
    omega
theorem sumG_tot (f : Nat → List ByteArray) (n : Nat) : sumG f n ≤ totT f n := by
  induction n with
  | zero => exact Nat.le_refl _
  | succ n ih =>
    have e : totT f (n + 1) = totT f n + ((f n).length + tot (f n)) := rfl
    have e2 : sumG f (n + 1) = sumG f n + (f n).length := rfl
    omega
theorem sumG_col (f : Nat → List ByteArray) (m k : Nat) : sumG (colT f m) k = k * m := by
  induction k with
  | zero => simp [sumG]
  | succ k ih =>
    rw [sumG, ih, colT_length, Nat.succ_mul]
theorem least_sum (f : Nat → List ByteArray) (m : Nat) : leastT f m * m ≤ sumG f m := by
  have key : ∀ k, k ≤ m → leastT f m * k ≤ sumG f k := by
    intro k
    induction k with
    | zero => intro _; simp [sumG]
    | succ k ih =>
      intro hk
      have h1 := ih (by omega)
      have h2 := leastT_le f m k (by omega)
      rw [sumG, Nat.mul_succ]
      omega
  exact key m (Nat.le_refl _)
theorem rows_fit {n : Nat} {f : Nat → List ByteArray} (hz : 0 ≤ szT n f 1048576) (he : ∀ i, n ≤ i → f i = []) : n ≤ 1048576 ∧ (∀ i, (f i).length ≤ 1048576) ∧ (∀ i, ∀ x ∈ f i, x.size ≤ 1048576) ∧ sumG f n ≤ 1048576 := by
  have b := szT_le n f _ hz
  have s := sumG_tot f n
  refine ⟨by omega, fun i => ?_, fun i x hx => ?_, by omega⟩
  · rcases Nat.lt_or_ge i n with hi | hi
    · have c := totT_row f n i hi
      omega
    · rw [he i hi]; simp
  · rcases Nat.lt_or_ge i n with hi | hi
    · have c := totT_row f n i hi
      have := tot_mem (f i) x hx
      omega
    · rw [he i hi] at hx; cases hx
end Go.Proofs.YtionfjofojfaoaaDoor
