/- The exact law on SameTable, over a contract of the program's. -/
import Derived.Test.YtionfjofojfaoaaDoorSpecSame
import Derived.Test.YtionfjofojfaoaaDoorWalksTab
import Derived.Test.YtionfjofojfaoaaDoorConcat
import Derived.Deep.RegionHeld3
namespace Go.Proofs.YtionfjofojfaoaaDoor
open Go.RowKit
set_option linter.unusedVariables false

theorem szRows_up (f : Nat → List ByteArray) : ∀ (m i : Nat) (l : Int), 0 ≤ szRows f i m l → szRows f i m l ≤ l
  | 0, i, l, _ => Int.le_refl _
  | m + 1, i, l, h => by
    rw [szRows] at h ⊢
    split at h
    · omega
    · rename_i hh
      rw [if_neg hh]
      have h1 := szL_up (f i) l (by omega)
      have := szRows_up f m (i + 1) _ h
      omega
theorem szTab_up {h : List ByteArray} {n : Nat} {f : Nat → List ByteArray} {l : Int} (hz : 0 ≤ szTab h n f l) : szTab h n f l ≤ l := by
  unfold szTab at hz ⊢
  split at hz
  · omega
  · rename_i h1
    rw [if_neg h1]
    split at hz
    · omega
    · rename_i h2
      rw [if_neg h2]
      have a2 := szL_up h l (by omega)
      unfold szT at hz ⊢
      split at hz
      · omega
      · rename_i h3
        rw [if_neg h3]
        have := szRows_up f n 0 _ hz
        omega
theorem tab_fits_at {h : List ByteArray} {n : Nat} {f : Nat → List ByteArray} {l : Int} (hl : l ≤ 1048576) (hz : 0 ≤ szTab h n f l) (he : ∀ i, n ≤ i → f i = []) : TabFits h n f := by
  unfold szTab at hz
  split at hz
  · omega
  · rename_i h1
    split at hz
    · omega
    · rename_i h2
      have a := szL_le h l (by omega)
      have a2 := szL_up h l (by omega)
      have b := szT_le n f _ (by omega : 0 ≤ szT n f (szL h l))
      refine ⟨by omega, fun x hx => ?_, by omega, fun i => ?_⟩
      · have := tot_mem h x hx
        omega
      · rcases Nat.lt_or_ge i n with hi | hi
        · have c := totT_row f n i hi
          refine ⟨by omega, fun x hx => ?_⟩
          have := tot_mem (f i) x hx
          omega
        · rw [he i hi]
          exact ⟨by simp, fun x hx => by cases hx⟩
/-- What reads as a table. -/
def TRd (W : World) (hv rv : Value) (h : List ByteArray) (n : Nat) (f : Nat → List ByteArray) : Prop := Rd W hv (strs h) ∧ RdT W rv n f
theorem TRd.below {W W' : World} {hv rv : Value} {h : List ByteArray} {n : Nat} {f : Nat → List ByteArray} (hb : Below W.heap.size W W') (ht : TRd W hv rv h n f) : TRd W' hv rv h n f := ⟨ht.1.below hb, ht.2.below hb⟩
theorem OwnTab.trd {W : World} {base top : Nat} {hv rv : Value} {h : List ByteArray} {n : Nat} {f : Nat → List ByteArray} (ho : OwnTab W base top hv rv h n f) : TRd W hv rv h n f := ⟨Rd.of_own ho.head, ho.rows.rd⟩
/-- A table that came in, as the laws take it. -/
def TArg (w : World) (hv rv : Value) (h : List ByteArray) (n : Nat) (f : Nat → List ByteArray) : Prop :=
  TRd w hv rv h n f ∧ h.length ≤ 9223372036854775807 ∧ (∀ x ∈ h, x.size ≤ 9223372036854775807) ∧ n ≤ 9223372036854775807 ∧ (∀ i, i < n → (f i).length ≤ 9223372036854775807 ∧ ∀ x ∈ f i, x.size ≤ 9223372036854775807) ∧ ∀ i, n ≤ i → f i = []
theorem own_tab_below {W W' : World} {b : Nat} {hv rv : Value} {h : List ByteArray} {n : Nat} {f : Nat → List ByteArray} (ho : OwnTab W b W.heap.size hv rv h n f) (hb : Below W.heap.size W W') : OwnTab W' b W'.heap.size hv rv h n f := (ho.below hb).retop hb.size
end Go.Proofs.YtionfjofojfaoaaDoor
