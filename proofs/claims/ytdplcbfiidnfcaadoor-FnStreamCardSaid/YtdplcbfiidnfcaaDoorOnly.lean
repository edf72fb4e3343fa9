/- What a call through a pointer leaves: of what was there, one block alone may have changed. No walk. -/
import Derived.Test.YtdplcbfiidnfcaaDoorBA
import Derived.Below
namespace Go.Proofs.YtdplcbfiidnfcaaDoor
open Go.RowKit
set_option linter.unusedVariables false

/-- Of the blocks that were there, all but g stand. -/
structure OnlyAt (g : Nat) (w w' : World) : Prop where
  os : w'.os = w.os
  tape : w'.tape = w.tape
  output : w'.output = w.output
  size : w.heap.size ≤ w'.heap.size
  block : ∀ k, k < w.heap.size → k ≠ g → w'.heap[k]? = w.heap[k]?
theorem OnlyAt.refl (g : Nat) (w : World) : OnlyAt g w w := ⟨rfl, rfl, rfl, Nat.le_refl _, fun _ _ _ => rfl⟩
theorem OnlyAt.of {g : Nat} {w w' : World} (h : Below w.heap.size w w') : OnlyAt g w w' := ⟨h.os, h.tape, h.output, h.size, fun k hk _ => h.block k hk⟩
theorem OnlyAt.trans {g : Nat} {a b c : World} (h : OnlyAt g a b) (k : OnlyAt g b c) : OnlyAt g a c :=
  ⟨k.os.trans h.os, k.tape.trans h.tape, k.output.trans h.output, Nat.le_trans h.size k.size, fun i hi hn => (k.block i (Nat.lt_of_lt_of_le hi h.size) hn).trans (h.block i hi hn)⟩
theorem OnlyAt.set {g : Nat} {a w : World} (h : OnlyAt g a w) (j : Nat) (u : Value) : OnlyAt g a (w.setCell ⟨g, j, none⟩ u) :=
  h.trans ⟨rfl, rfl, rfl, by simp [World.setCell], fun k _ hn => Below.heap_setCell _ _ _ _ hn⟩
theorem OnlyAt.then {g : Nat} {a w w' : World} (h : OnlyAt g a w) (hb : Below w.heap.size w w') : OnlyAt g a w' := h.trans (.of hb)
theorem OnlyAt.below {g B : Nat} {w w' : World} (h : OnlyAt g w w') (hB : B ≤ g) (hs : B ≤ w.heap.size) : Below B w w' :=
  ⟨h.os, h.tape, h.output, h.size, fun k hk => h.block k (by omega) (by omega)⟩
theorem OnlyAt.blk {g k : Nat} {w w' : World} {T : TypeId} {cs : Array Value} (h : OnlyAt g w w') (hb : Blk w k T cs) (hn : k ≠ g) : Blk w' k T cs := (h.block k hb.lt hn).trans hb
end Go.Proofs.YtdplcbfiidnfcaaDoor
