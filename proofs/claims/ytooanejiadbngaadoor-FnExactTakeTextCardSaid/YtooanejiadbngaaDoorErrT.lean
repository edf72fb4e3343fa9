/- errors.errorType: what the row's condition gives where it is listed. -/
import Derived.Test.YtooanejiadbngaaDoorProg
import Derived.WalkKit
import Derived.ProofKit
import Derived.Below
import Derived.LaidHandle
import Derived.RowKitTokens
namespace Go.Proofs.YtooanejiadbngaaDoor
open Go.RowKit
set_option linter.unusedVariables false

/-- The variable that errors.As reads. -/
def ErrT (w : World) : Prop := w.cell? ⟨0, 0, none⟩ = some (.iface 58 (.agg #[typeHandle Tryd.prog 37]))
theorem ErrT.lt {w : World} (h : ErrT w) : 0 < w.heap.size := by
  rcases Nat.lt_or_ge 0 w.heap.size with h0 | h0
  · exact h0
  · unfold ErrT at h; simp [World.cell?, Array.getElem?_eq_none h0] at h
theorem ErrT.below {w w' : World} (h : ErrT w) (hb : Below w.heap.size w w') : ErrT w' := (hb.cell (p := ⟨0, 0, none⟩) h.lt).trans h
theorem err_et : Tryd.prog.globalNamed "errors.errorType" = some 0 := by kernel_rfl
theorem err_rt : (Tryd.prog.cutTypes.find? (·.1 == "internal/reflectlite.rtype")).map (·.2) = some 58 := by kernel_rfl
theorem err_row : ((List.range Tryd.prog.types.size).filter fun t => Tryd.prog.rowNamed t [101, 114, 114, 111, 114]) = [37] := by kernel_rfl
theorem errT_of {hs : List (String × DataW Unit)} {W : World} (h : handlesMet Tryd.prog hs W) (hm : ("errors.errorType", DataW.iface "internal/reflectlite.rtype" (.agg [.ptr (.lit (.string [101, 114, 114, 111, 114]))])) ∈ hs) : ErrT W := by
  obtain ⟨name, u, ty, e1, e2, e3, e4, e5⟩ := h _ hm
  have en : name = [101, 114, 114, 111, 114] := (Option.some.inj e1).symm
  subst en
  obtain rfl := Option.some.inj (err_rt.symm.trans e2)
  have hmm : ty ∈ (List.range Tryd.prog.types.size).filter fun t => Tryd.prog.rowNamed t [101, 114, 114, 111, 114] := List.mem_filter.2 ⟨List.mem_range.2 e3, e4⟩
  rw [err_row] at hmm
  obtain rfl := List.mem_singleton.1 hmm
  unfold ErrT
  simpa using World.var?_cell err_et e5 0
end Go.Proofs.YtooanejiadbngaaDoor
