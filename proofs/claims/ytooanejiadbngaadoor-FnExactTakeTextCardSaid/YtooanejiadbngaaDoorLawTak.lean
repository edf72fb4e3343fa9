/- The law on TakeText. -/
import Derived.Test.YtooanejiadbngaaDoorCatch
import Derived.Test.YtooanejiadbngaaDoorOpenSnk
import Derived.Test.YtooanejiadbngaaDoorRows
namespace Go.Proofs.YtooanejiadbngaaDoor
open Go.RowKit
set_option linter.unusedVariables false

theorem hyp_FnExactTakeText {W : World} (hL : laidMetH Tryd.prog Rows.fnExactTakeTextRow.laid W) : ErrT W := by
  have h : laidMet Tryd.prog (Rows.fnExactTakeTextRow.laid.filter fun x => x.2.handleName?.isNone) W ∧ handlesMet Tryd.prog (Rows.fnExactTakeTextRow.laid.filter fun x => x.2.handleName?.isSome) W := hL
  exact errT_of h.2 (List.mem_cons_self ..)
theorem law_FnExactTakeText (k : Snk) (hk : SnkFits k) (s : ByteArray) (hs : s.size ≤ maxLen) (w : World) (hE : ErrT w) :
    Calls Tryd.prog 3 #[.agg (snkV k), .string s] w fun e w' => e = .returned (.bool true) ∧ Below w.heap.size w w' :=
  takeText_law w k hk s hs fun W hb h1 h2 => implTakeText k s W (hE.below hb) hk.2.1 h1 (by omega)
end Go.Proofs.YtooanejiadbngaaDoor
