/- The program's CountBlocks; the laws on it and on the blocks of a text. -/
import Derived.Test.YtdihoofhbkafoaaDoorImplAt
import Derived.Test.YtdihoofhbkafoaaDoorBD
import Derived.Test.YtdihoofhbkafoaaDoorWalksCntB
import Derived.Deep.RegionHeld3
namespace Go.Proofs.YtdihoofhbkafoaaDoor
open Go.RowKit
set_option linter.unusedVariables false

set_option maxRecDepth 100000 in
set_option maxHeartbeats 2000000 in
theorem implCountBlocks (c : Cfg) (s : ByteArray) (w : World) (hs : s.size ≤ 1048576) (hT : WT w) :
    Calls Tryd.prog 22 #[.agg (cfgV c), .string s] w fun e w' => e = .returned (.int .i64 (((bksB c (splitL c s)).length : Nat) : Int)) ∧ Below w.heap.size w w' := by
  have hsz := splitL_size c s
  have HSP := Lib.hid (fun W (hb : Below w.heap.size w W) => implSplitText c s W hs (hT.below hb))
  have HBK := Lib.hid (fun v W (h : RdL W v (splitL c s)) => implBlocksOf c (splitL c s) v W h ⟨by omega, by omega⟩)
  generalize bksB c (splitL c s) = z at HBK ⊢
  generalize splitL c s = ls at HSP HBK
  obtain ⟨m, t, p, d, fr, fd, fl, fe, fm⟩ := c
  unfold cfgV at HSP HBK ⊢
  simp only at HSP HBK ⊢
  clear hs hsz hT
  go_enter Tryd.func22, Tryd.ntmps22
  go_wp2_with fail
  go_region_held3 (fun W => W.cell? ⟨w.heap.size, 0, none⟩ = some (.int .i64 m) ∧ W.cell? ⟨w.heap.size, 1, none⟩ = some (.int .i64 t) ∧ W.cell? ⟨w.heap.size, 2, none⟩ = some (.int .i64 p) ∧ W.cell? ⟨w.heap.size, 3, none⟩ = some (.int .i64 d) ∧ W.cell? ⟨w.heap.size, 4, none⟩ = some (.bool fr) ∧ W.cell? ⟨w.heap.size, 5, none⟩ = some (.bool fd) ∧ W.cell? ⟨w.heap.size, 6, none⟩ = some (.bool fl) ∧ W.cell? ⟨w.heap.size, 7, none⟩ = some (.bool fe) ∧ W.cell? ⟨w.heap.size, 8, none⟩ = some (.bool fm) ∧ Below w.heap.size w W ∧ w.heap.size + 1 ≤ W.heap.size)
    (first | exact box_start _ _ _ _ _ _ _ _ _ _ | exact box_step (by assumption) (by assumption))
    (first | (go_at_call 14; refine (HSP.out _ (box_old (w := w) (by assumption))).mono ?_; rintro e w1 ⟨v1, rfl, ho1, hb1⟩; have hr1 := ho1.rd) | (go_at_call 16; refine (HBK.out _ _ (by assumption)).mono ?_; rintro e w2 ⟨v2, rfl, ho2, hb2⟩; obtain ⟨A2, c2, rfl⟩ := ho2.shape))
  all_goals
    have HB9 := Lib.hid (box_old (w := w) (W := w2) (by assumption))
    go_wp2_with fail
    go_ret
    exact ⟨rfl, HB9.out⟩
theorem law_FnExactCountBlocks (c : Cfg) (hc : CfgFits c) (s : ByteArray) (hs : s.size ≤ maxLen) (w : World) (hT : WT w) :
    Calls Tryd.prog 5 #[.agg (cfgV c), .string s] w fun e w' => e = .returned (.bool true) ∧ Below w.heap.size w w' :=
  countBlocks_law c hc s hs w fun hbig W hW => implCountBlocks c s W hbig (hT.below hW)
end Go.Proofs.YtdihoofhbkafoaaDoor
