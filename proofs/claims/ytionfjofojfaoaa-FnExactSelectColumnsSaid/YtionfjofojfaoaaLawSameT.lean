/- The exact law on SameTable, over the program's own. -/
import Derived.Test.YtionfjofojfaoaaImplSame
import Derived.Test.YtionfjofojfaoaaWalksSameT
import Derived.Test.YtionfjofojfaoaaOpenTab
namespace Go.Proofs.Ytionfjofojfaoaa
open Go.RowKit
set_option linter.unusedVariables false

theorem targ_of {w : World} {hv rv : Value} {h : List ByteArray} {n : Nat} {f : Nat → List ByteArray} (hi : TabIn w hv rv h n f) : TArg w hv rv h n f :=
  ⟨⟨hi.1, hi.2.1⟩, hi.2.2.1, hi.2.2.2.1, hi.2.2.2.2.1, fun i _ => hi.2.2.2.2.2.1 i, hi.2.2.2.2.2.2⟩
theorem law_FnExactSameTable (w : World) (hv rv : Value) (h : List ByteArray) (n : Nat) (f : Nat → List ByteArray) (hi : TabIn w hv rv h n f) (hv' rv' : Value) (h' : List ByteArray) (m : Nat) (g : Nat → List ByteArray) (hj : TabIn w hv' rv' h' m g) :
    Calls Try.prog 9 #[.agg #[hv, rv], .agg #[hv', rv']] w fun e w' => e = .returned (.bool true) ∧ Below w.heap.size w w' :=
  sameTable_law w h n f hv rv h' m g hv' rv' (targ_of hi) (targ_of hj)
    (fun W a b c d _ x y z z' => implSameTable h h' n m f g a b c d W x.1 x.2 y.1 y.2 z.1 z.2.2.1 z'.2.2.1 (fun i => (z.2.2.2 i).1))
end Go.Proofs.Ytionfjofojfaoaa
