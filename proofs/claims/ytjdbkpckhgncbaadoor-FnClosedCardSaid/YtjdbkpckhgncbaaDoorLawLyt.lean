/- The laws on the layout of a text. -/
import Derived.Test.YtjdbkpckhgncbaaDoorImplLyt
import Derived.Test.YtjdbkpckhgncbaaDoorImplAli
import Derived.Test.YtjdbkpckhgncbaaDoorWalksAli
import Derived.Test.YtjdbkpckhgncbaaDoorWalksLyt
import Derived.Test.YtjdbkpckhgncbaaDoorWalksClo
namespace Go.Proofs.YtjdbkpckhgncbaaDoor
open Go.RowKit
set_option linter.unusedVariables false

theorem widN_text (c : Cfg) (s : ByteArray) (hv : validC c = true) (hs : s.size ≤ 50000) : widN c (splitL c s) = (splitL c s).length := by
  unfold widN
  rw [split_fits c s hv hs, hv]
  rfl
theorem slotsOf_text (c : Cfg) (s : ByteArray) (w : World) (hv : validC c = true) (hs : s.size ≤ 50000) (hT : WT w) :
    Calls Tryd.prog 17 #[.agg (cfgV c), .string s] w fun e w' => ∃ u, e = .returned u ∧ OwnF w' w.heap.size w'.heap.size u (splitL c s).length (slotF c (splitL c s)) ∧ Below w.heap.size w w' := by
  have h := implSlotsOf c s w (by omega) hT
  rw [widN_text c s hv hs] at h
  exact h
theorem law_FnAligned (w : World) (A : Option Addr) (len cap : Nat) (zs : List Int) (hz : IsBytes w A len cap zs) (hT : WT w) :
    Calls Tryd.prog 4 #[.slice A len cap] w fun e w' => e = .returned (.bool true) ∧ Below w.heap.size w w' :=
  aligned_law w A len cap zs hz (fun c s W hs hW => implSplitText c s W hs (hT.below hW)) (fun c s W hv hs hW => slotsOf_text c s W hv hs (hT.below hW)) (fun c s W hv hs hW => (by
    have h := implIsAligned c s W (by omega) (hT.below hW)
    rw [hv] at h
    exact h))
theorem law_FnClosed (w : World) (A : Option Addr) (len cap : Nat) (zs : List Int) (hz : IsBytes w A len cap zs) (hT : WT w) :
    Calls Tryd.prog 6 #[.slice A len cap] w fun e w' => e = .returned (.bool true) ∧ Below w.heap.size w w' :=
  closed_law w A len cap zs hz (fun c s W hv hs hW => implLayout c s W hv hs (hT.below hW))
theorem law_FnLayout (w : World) (A : Option Addr) (len cap : Nat) (zs : List Int) (hz : IsBytes w A len cap zs) (hT : WT w) :
    Calls Tryd.prog 5 #[.slice A len cap] w fun e w' => e = .returned (.bool true) ∧ Below w.heap.size w w' :=
  layout_law w A len cap zs hz (fun c s W hs hW => implSplitText c s W hs (hT.below hW)) (fun c ls v W hW hr hf => implWidthsOf c ls v W hr hf.wide) (fun c s W hv hs hW => slotsOf_text c s W hv hs (hT.below hW))
    (fun c l ws x m' f va vw W hW ha hw h1 h2 h3 => implLayLine c l va vw ws x m' f W ha hw h1 h2 h3) (fun s W hs hW => implIsText s W hs (hT.below hW).1) (fun s W hs hW => implTextWidth s W hs (hT.below hW))
    (fun c s W hv hs hW => implLayout c s W hv hs (hT.below hW)) (fun c ls v W hW hr hf => implLayLines c ls v W hr hf) (fun c s W hv hs hW => implLayoutWidth c s W hv hs (hT.below hW))
end Go.Proofs.YtjdbkpckhgncbaaDoor
