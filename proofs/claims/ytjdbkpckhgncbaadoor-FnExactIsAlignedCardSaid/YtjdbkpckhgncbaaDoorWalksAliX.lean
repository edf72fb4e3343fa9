/- The exact law on IsAligned. -/
import Derived.Test.YtjdbkpckhgncbaaDoorImplAli
import Derived.Test.YtjdbkpckhgncbaaDoorSpecAli
import Derived.Test.YtjdbkpckhgncbaaDoorBB
import Derived.Test.YtjdbkpckhgncbaaDoorLaidW
namespace Go.Proofs.YtjdbkpckhgncbaaDoor
open Go.RowKit
set_option linter.unusedVariables false

theorem hyp_FnExactIsAligned {W : World} (hL : laidMetH Tryd.prog Rows.fnExactIsAlignedRow.laid W) : WT W :=
  ⟨tabs_of (l := Rows.fnExactIsAlignedRow.laid) hL (List.mem_cons_self ..) (List.mem_cons_of_mem _ (List.mem_cons_of_mem _ (List.mem_cons_self ..))), wtab_of (Lib.laidMet.reads (l := Rows.fnExactIsAlignedRow.laid) hL (List.mem_cons_of_mem _ (List.mem_cons_self ..)))⟩
set_option maxRecDepth 100000 in
set_option maxHeartbeats 1000000 in
theorem law_FnExactIsAligned (c : Cfg) (hc : CfgFits c) (s : ByteArray) (hs : s.size ≤ maxLen) (w : World) (hT : WT w) :
    Calls Tryd.prog 7 #[.agg (cfgV c), .string s] w fun e w' => e = .returned (.bool true) ∧ Below w.heap.size w w' := by
  unfold maxLen at hs
  by_cases hbig : s.size ≤ 1048576
  · have HT := Lib.hid (fun W => toConfig_any c W)
    have HP := Lib.hid (fun W => specIsAligned c s W hbig)
    have HI := Lib.hid (fun W (hW : Below w.heap.size w W) => implIsAligned c s W hbig (hT.below hW))
    have hb : (decide ((1048576 : Int) < (s.size : Int))) = false := by simp; omega
    generalize validC c = n at HP HI
    have hne : (n != n) = false := by cases n <;> rfl
    obtain ⟨m, t, p, d, fr, fd, fl, fe, fm⟩ := c
    unfold cfgV at HT HP HI ⊢
    simp only at HT HP HI ⊢
    clear hbig hc hT
    go_enter Tryd.func7, Tryd.ntmps7
    go_wp2_with fail
    refine (HT.out _).mono ?_
    rintro e w1 ⟨rfl, hb1⟩
    have X1 := Lib.hid ((Boxed.new w 54 m t p d fr fd fl fe fm).below hb1 (by simp))
    have B1 := Lib.hid ((by go_grown : Below w.heap.size w (w.alloc _)).trans (hb1.mono (by simp)))
    have hlt1 : w.heap.size < w1.heap.size := by have := hb1.size; simp at this; omega
    clear hb1
    go_wp2_with fail
    refine (HP.out _).mono ?_
    rintro e w2 ⟨rfl, hb2⟩
    have B2 := Lib.hid (B1.out.trans (hb2.mono B1.out.size))
    obtain ⟨c0, c1, c2, c3, c4, c5, c6, c7, c8⟩ := X1.out.below hb2 hlt1
    clear hb2
    go_wp2_with fail
    refine (HT.out _).mono ?_
    rintro e w3 ⟨rfl, hb3⟩
    have B3 := Lib.hid (B2.out.trans (hb3.mono B2.out.size))
    clear hb3 c0 c1 c2 c3 c4 c5 c6 c7 c8
    go_wp2_with fail
    refine (HI.out _ B3.out).mono ?_
    rintro e w4 ⟨rfl, hb4⟩
    have B4 := Lib.hid (B3.out.trans (hb4.mono B3.out.size))
    clear hb4
    go_wp2_with fail
    go_ret
    exact ⟨rfl, B4.out⟩
  · go_enter Tryd.func7, Tryd.ntmps7
    go_wp2
    go_ret
    exact ⟨rfl, by go_grown⟩
end Go.Proofs.YtjdbkpckhgncbaaDoor
