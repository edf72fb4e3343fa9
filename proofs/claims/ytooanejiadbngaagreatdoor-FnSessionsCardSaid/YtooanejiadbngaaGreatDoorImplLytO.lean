/- The program's Layout. -/
import Derived.Test.YtooanejiadbngaaGreatDoorImplLays
import Derived.Test.YtooanejiadbngaaGreatDoorBD
import Derived.Test.YtooanejiadbngaaGreatDoorBlksMath
import Derived.Test.YtooanejiadbngaaGreatDoorLayB
import Derived.Deep.RegionHeld3
namespace Go.Proofs.YtooanejiadbngaaGreatDoor
open Go.RowKit
set_option linter.unusedVariables false

theorem layB_lines (c : Cfg) (s : ByteArray) (hv : validC c = true) (hs : s.size ≤ 50000) : layLinesB c (splitL c s) = layB c s := by
  unfold layLinesB layB
  rw [split_fits c s hv hs, hv]
  rfl
theorem fit_text (c : Cfg) (s : ByteArray) (hs : s.size ≤ 50000) : FitL (splitL c s) := by
  have h := splitL_size c s
  exact ⟨by omega, by omega⟩
set_option maxRecDepth 100000 in
set_option maxHeartbeats 4000000 in
theorem implLayout (c : Cfg) (s : ByteArray) (w : World) (hv : validC c = true) (hs : s.size ≤ 50000) (hT : WT w) :
    Calls Tryz.prog 11 #[.agg (cfgV c), .string s] w fun e w' => e = .returned (.string (layB c s)) ∧ Below w.heap.size w w' := by
  have HSP := Lib.hid (fun W (hb : Below w.heap.size w W) => implSplitText c s W (by omega) (hT.below hb))
  have HLL := Lib.hid (fun v W (h : RdL W v (splitL c s)) => implLayLines c (splitL c s) v W h (fit_text c s hs))
  rw [layB_lines c s hv hs] at HLL
  generalize layB c s = z at HLL ⊢
  generalize splitL c s = ls at HSP HLL
  obtain ⟨m, t, p, d, fr, fd, fl, fe, fm⟩ := c
  unfold cfgV at HSP HLL ⊢
  simp only at HSP HLL ⊢
  clear hs hT hv
  go_enter Tryz.func11, Tryz.ntmps11
  go_wp2_with fail
  go_region_held3 (fun W => W.cell? ⟨w.heap.size, 0, none⟩ = some (.int .i64 m) ∧ W.cell? ⟨w.heap.size, 1, none⟩ = some (.int .i64 t) ∧ W.cell? ⟨w.heap.size, 2, none⟩ = some (.int .i64 p) ∧ W.cell? ⟨w.heap.size, 3, none⟩ = some (.int .i64 d) ∧ W.cell? ⟨w.heap.size, 4, none⟩ = some (.bool fr) ∧ W.cell? ⟨w.heap.size, 5, none⟩ = some (.bool fd) ∧ W.cell? ⟨w.heap.size, 6, none⟩ = some (.bool fl) ∧ W.cell? ⟨w.heap.size, 7, none⟩ = some (.bool fe) ∧ W.cell? ⟨w.heap.size, 8, none⟩ = some (.bool fm) ∧ Below w.heap.size w W ∧ w.heap.size + 1 ≤ W.heap.size)
    (first | exact box_start _ _ _ _ _ _ _ _ _ _ | exact box_step (by assumption) (by assumption))
    (first | (go_at_call 21; refine (HSP.out _ (box_old (w := w) (by assumption))).mono ?_; rintro e w1 ⟨v1, rfl, ho1, hb1⟩; have hr1 := ho1.rd) | (go_at_call 20; refine (HLL.out _ _ (by assumption)).mono ?_; rintro e w2 ⟨rfl, hb2⟩))
  all_goals
    have HB9 := Lib.hid (box_old (w := w) (W := w2) (by assumption))
    go_wp2_with fail
    go_ret
    exact ⟨rfl, HB9.out⟩
end Go.Proofs.YtooanejiadbngaaGreatDoor
