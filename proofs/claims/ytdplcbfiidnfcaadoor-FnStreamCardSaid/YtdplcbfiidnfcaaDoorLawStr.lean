/- The law on a stream cut into chunks. -/
import Derived.Test.YtdplcbfiidnfcaaDoorWalksStr
import Derived.Test.YtdplcbfiidnfcaaDoorImplWr
import Derived.Test.YtdplcbfiidnfcaaDoorImplWrT
import Derived.Test.YtdplcbfiidnfcaaDoorImplWrA
import Derived.Test.YtdplcbfiidnfcaaDoorImplClosed
import Derived.Test.YtdplcbfiidnfcaaDoorImplLytO
import Derived.Test.YtdplcbfiidnfcaaDoorLaidW
namespace Go.Proofs.YtdplcbfiidnfcaaDoor
open Go.RowKit
set_option linter.unusedVariables false

theorem hyp_FnStream {W : World} (hL : laidMetH Tryd.prog Rows.fnStreamRow.laid W) : WT W :=
  ⟨tabs_of (l := Rows.fnStreamRow.laid) hL (List.mem_cons_self ..) (List.mem_cons_of_mem _ (List.mem_cons_of_mem _ (List.mem_cons_self ..))), wtab_of (Lib.laidMet.reads (l := Rows.fnStreamRow.laid) hL (List.mem_cons_of_mem _ (List.mem_cons_self ..)))⟩
theorem newWriter_yes (c : Cfg) (W : World) (hv : validC c = true) :
    Calls Tryd.prog 7 #[.agg (cfgV c)] W fun e w' => e = .returned (.tuple #[.agg (wrV c ⟨#[]⟩), .int .i64 0]) ∧ Below W.heap.size W w' := by
  have h := implNewWriter c W
  unfold newC newI at h
  rw [if_pos hv, if_pos hv] at h
  exact h
theorem law_FnStream (w : World) (A : Option Addr) (len cap : Nat) (zs : List Int) (hz : IsBytes w A len cap zs) (hT : WT w) :
    Calls Tryd.prog 3 #[.slice A len cap] w fun e w' => e = .returned (.bool true) ∧ Below w.heap.size w w' := by
  have hC : ∀ (c : Cfg) (T : ByteArray) (W : World), T.size ≤ 50000 → Calls Tryd.prog 14 #[.agg (cfgV c), .string T] W fun e w' => e = .returned (.int .i64 (closedB c T)) ∧ Below W.heap.size W w' := fun c T W hs => implClosedLength c T W (by omega)
  have hL : ∀ (c : Cfg) (Q : ByteArray) (W : World), validC c = true → Q.size ≤ 50000 → Below w.heap.size w W → Calls Tryd.prog 11 #[.agg (cfgV c), .string Q] W fun e w' => e = .returned (.string (layB c Q)) ∧ Below W.heap.size W w' := fun c Q W hv hs hb => implLayout c Q W hv hs (hT.below hb)
  refine stream_law w A len cap zs hz (fun c W hv _ => newWriter_yes c W hv) ?_ ?_ hL ?_
  · intro c l v W hv h1 h2 hb hr
    exact implWriteAll c l v w W hv h1 h2 hb hr (fun T W3 hs _ => hC c T W3 hs) (fun Q W3 hs hb3 => hL c Q W3 hv hs hb3)
  · intro c h W hv h1 hb
    exact flushText_of c h _ _ 0 W (fun W2 hb2 hg => implFlush c h W.heap.size w W2 hv (by omega) (hb.trans (hb2.mono hb.size)) hg (fun Q W3 hs hb3 => hL c Q W3 hv hs hb3))
  · intro c h W hv h1 hb
    exact pending_of c h _ _ 0 W (fun W2 hb2 hg => implFlush c h W.heap.size w W2 hv (by omega) (hb.trans (hb2.mono hb.size)) hg (fun Q W3 hs hb3 => hL c Q W3 hv hs hb3))
end Go.Proofs.YtdplcbfiidnfcaaDoor
