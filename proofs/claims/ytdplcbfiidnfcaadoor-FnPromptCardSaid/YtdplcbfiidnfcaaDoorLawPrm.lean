/- The law on what a writer may hold. -/
import Derived.Test.YtdplcbfiidnfcaaDoorWalksPrm
import Derived.Test.YtdplcbfiidnfcaaDoorImplWr
import Derived.Test.YtdplcbfiidnfcaaDoorImplWrT
import Derived.Test.YtdplcbfiidnfcaaDoorImplClosed
import Derived.Test.YtdplcbfiidnfcaaDoorImplLytO
import Derived.Test.YtdplcbfiidnfcaaDoorLaidW
namespace Go.Proofs.YtdplcbfiidnfcaaDoor
open Go.RowKit
set_option linter.unusedVariables false

theorem hyp_FnPrompt {W : World} (hL : laidMetH Tryd.prog Rows.fnPromptRow.laid W) : WT W :=
  ⟨tabs_of (l := Rows.fnPromptRow.laid) hL (List.mem_cons_self ..) (List.mem_cons_of_mem _ (List.mem_cons_of_mem _ (List.mem_cons_self ..))), wtab_of (Lib.laidMet.reads (l := Rows.fnPromptRow.laid) hL (List.mem_cons_of_mem _ (List.mem_cons_self ..)))⟩
theorem newWriter_ok (c : Cfg) (W : World) (hv : validC c = true) :
    Calls Tryd.prog 7 #[.agg (cfgV c)] W fun e w' => e = .returned (.tuple #[.agg (wrV c ⟨#[]⟩), .int .i64 0]) ∧ Below W.heap.size W w' := by
  have h := implNewWriter c W
  unfold newC newI at h
  rw [if_pos hv, if_pos hv] at h
  exact h
theorem law_FnPrompt (w : World) (A : Option Addr) (len cap : Nat) (zs : List Int) (hz : IsBytes w A len cap zs) (hT : WT w) :
    Calls Tryd.prog 4 #[.slice A len cap] w fun e w' => e = .returned (.bool true) ∧ Below w.heap.size w w' := by
  have hC : ∀ (c : Cfg) (T : ByteArray) (W : World), T.size ≤ 50000 → Calls Tryd.prog 14 #[.agg (cfgV c), .string T] W fun e w' => e = .returned (.int .i64 (closedB c T)) ∧ Below W.heap.size W w' := fun c T W hs => implClosedLength c T W (by omega)
  have hL : ∀ (c : Cfg) (Q : ByteArray) (W : World), validC c = true → Q.size ≤ 50000 → Below w.heap.size w W → Calls Tryd.prog 11 #[.agg (cfgV c), .string Q] W fun e w' => e = .returned (.string (layB c Q)) ∧ Below W.heap.size W w' := fun c Q W hv hs hb => implLayout c Q W hv hs (hT.below hb)
  refine prompt_law w A len cap zs hz (fun c W hv _ => newWriter_ok c W hv) ?_ ?_ ?_ (fun c s W hs _ => hC c s W (by omega)) hL (fun n W _ => implWriterName n W)
  · intro c h r W hv h1 h2 h3 hb
    exact writeText_of c h r _ _ 0 W (fun W2 hb2 hg => implWrite c h r W.heap.size w W2 hv (by omega) h3 (hb.trans (hb2.mono hb.size)) hb.size hg (fun T W3 hs _ => hC c T W3 hs) (fun Q W3 hs hb3 => hL c Q W3 hv hs hb3))
  · intro c h r W hv h1 h2 h3 hb
    exact writeText_of c h r _ _ 2 W (fun W2 hb2 hg => (implWriteNo c h r W.heap.size w W2 hv (by omega) h3 (hb.trans (hb2.mono hb.size)) hg (fun T W3 hs _ => hC c T W3 hs)).mono fun e w' ⟨he, hk⟩ => ⟨he, hg.after hk, .of hk⟩)
  · intro r W h1 hb
    exact writeText_of zeroC ⟨#[]⟩ r _ _ 1 W (fun W2 hb2 hg => (implWriteBad zeroC ⟨#[]⟩ r W.heap.size W2 (by decide) hg).mono fun e w' ⟨he, hk⟩ => ⟨he, hg.after hk, .of hk⟩)
end Go.Proofs.YtdplcbfiidnfcaaDoor
