/- CountBlocks: the model's; the law over a contract of the program's function. -/
import Derived.Test.YtdihoofhbkafoaaDoorSpecSplitX
import Derived.Test.YtdihoofhbkafoaaDoorSpecBlkS
import Derived.Deep.RegionHeld3
namespace Go.Proofs.YtdihoofhbkafoaaDoor
open Go.RowKit
set_option linter.unusedVariables false

theorem OwnB.slc {W : World} {base : Nat} {v : Value} {l : List Bk} (h : OwnB W base v l) : ∃ A c, v = .slice A l.length c := by
  have h0 : W.ownsRow base 43 4 v l.length (bkVals l) := h
  rcases h0.2 with ⟨rfl, hn⟩ | ⟨g, cap, cur, rfl, _⟩
  · exact ⟨none, 0, by rw [hn]⟩
  · exact ⟨_, cap, rfl⟩
set_option maxRecDepth 100000 in
set_option maxHeartbeats 2000000 in
theorem specCountBlocks (c : Cfg) (s : ByteArray) (w : World) (hs : s.size ≤ 1048576) :
    Calls Tryd.prog 20 #[.agg (cfgV c), .string s] w fun e w' => e = .returned (.int .i64 (((bksB c (splitL c s)).length : Nat) : Int)) ∧ Below w.heap.size w w' := by
  have hsz := splitL_size c s
  have HSP := Lib.hid (fun W => specSplitText c s W hs)
  have HBK := Lib.hid (fun v W (h : RdL W v (splitL c s)) => specBlocksOf c (splitL c s) v W h ⟨by omega, by omega⟩)
  generalize bksB c (splitL c s) = z at HBK ⊢
  generalize splitL c s = ls at HSP HBK
  obtain ⟨m, t, p, d, fr, fd, fl, fe, fm⟩ := c
  unfold cfgV at HSP HBK ⊢
  simp only at HSP HBK ⊢
  clear hs hsz
  go_enter Tryd.func20, Tryd.ntmps20
  go_wp2_with fail
  go_region_held3 (fun W => W.cell? ⟨w.heap.size, 0, none⟩ = some (.int .i64 m) ∧ W.cell? ⟨w.heap.size, 1, none⟩ = some (.int .i64 t) ∧ W.cell? ⟨w.heap.size, 2, none⟩ = some (.int .i64 p) ∧ W.cell? ⟨w.heap.size, 3, none⟩ = some (.int .i64 d) ∧ W.cell? ⟨w.heap.size, 4, none⟩ = some (.bool fr) ∧ W.cell? ⟨w.heap.size, 5, none⟩ = some (.bool fd) ∧ W.cell? ⟨w.heap.size, 6, none⟩ = some (.bool fl) ∧ W.cell? ⟨w.heap.size, 7, none⟩ = some (.bool fe) ∧ W.cell? ⟨w.heap.size, 8, none⟩ = some (.bool fm) ∧ Below w.heap.size w W ∧ w.heap.size + 1 ≤ W.heap.size)
    (first | exact box_start _ _ _ _ _ _ _ _ _ _ | exact box_step (by assumption) (by assumption))
    (first | (go_at_call 43; refine (HSP.out _).mono ?_; rintro e w1 ⟨v1, rfl, ho1, hb1⟩; have hr1 := ho1.rd) | (go_at_call 42; refine (HBK.out _ _ (by assumption)).mono ?_; rintro e w2 ⟨v2, rfl, ho2, hb2⟩; obtain ⟨A2, c2, rfl⟩ := ho2.slc))
  all_goals
    have HB9 := Lib.hid (box_old (w := w) (W := w2) (by assumption))
    go_wp2_with fail
    go_ret
    exact ⟨rfl, HB9.out⟩
set_option maxRecDepth 100000 in
set_option maxHeartbeats 1000000 in
theorem countBlocks_law (c : Cfg) (hc : CfgFits c) (s : ByteArray) (hs : s.size ≤ maxLen) (w : World)
    (hI : s.size ≤ 1048576 → ∀ W, Below w.heap.size w W → Calls Tryd.prog 22 #[.agg (cfgV c), .string s] W fun e w' => e = .returned (.int .i64 (((bksB c (splitL c s)).length : Nat) : Int)) ∧ Below W.heap.size W w') :
    Calls Tryd.prog 5 #[.agg (cfgV c), .string s] w fun e w' => e = .returned (.bool true) ∧ Below w.heap.size w w' := by
  unfold maxLen at hs
  by_cases hbig : s.size ≤ 1048576
  · have HT := Lib.hid (fun W => toConfig_any c W)
    have HP := Lib.hid (fun W => specCountBlocks c s W hbig)
    have HI := Lib.hid (hI hbig)
    have hb : (decide ((1048576 : Int) < (s.size : Int))) = false := by simp; omega
    generalize (bksB c (splitL c s)).length = n at HP HI
    have hne : ((n : Int) != (n : Int)) = false := by simp
    obtain ⟨m, t, p, d, fr, fd, fl, fe, fm⟩ := c
    unfold cfgV at HT HP HI ⊢
    simp only at HT HP HI ⊢
    clear hbig hc hI
    go_enter Tryd.func5, Tryd.ntmps5
    go_wp2_with fail
    refine (HT.out _).mono ?_
    rintro e w1 ⟨rfl, hb1⟩
    have X1 := Lib.hid ((Boxed.new w 53 m t p d fr fd fl fe fm).below hb1 (by simp))
    have B1 := Lib.hid ((by go_grown : Below w.heap.size w (w.alloc _)).trans (hb1.mono (by simp)))
    have hlt1 : w.heap.size < w1.heap.size := by have := hb1.size; simp at this; omega
    clear hb1
    go_wp2_with fail
    refine (HP.out _).mono ?_
    rintro e w2 ⟨rfl, hb2⟩
    have B2 := Lib.hid (B1.out.trans (hb2.mono B1.out.size))
    obtain ⟨c0, c1, c2, c3, c4, c5, c6, c7, c8⟩ := X1.out.below hb2 hlt1
    clear hb2
    go_wp2_with fail
    refine (HT.out _).mono ?_
    rintro e w3 ⟨rfl, hb3⟩
    have B3 := Lib.hid (B2.out.trans (hb3.mono B2.out.size))
    clear hb3 c0 c1 c2 c3 c4 c5 c6 c7 c8
    go_wp2_with fail
    refine (HI.out _ B3.out).mono ?_
    rintro e w4 ⟨rfl, hb4⟩
    have B4 := Lib.hid (B3.out.trans (hb4.mono B3.out.size))
    clear hb4
    go_wp2_with fail
    go_ret
    exact ⟨rfl, B4.out⟩
  · go_enter Tryd.func5, Tryd.ntmps5
    go_wp2
    go_ret
    exact ⟨rfl, by go_grown⟩
end Go.Proofs.YtdihoofhbkafoaaDoor
