/- The walk of the exact law on ParseConfig. -/
import Derived.Test.YtkbjegcmpmhmpaaDoorSpecPrsC
import Derived.Test.YtkbjegcmpmhmpaaDoorImplPrsC
namespace Go.Proofs.YtkbjegcmpmhmpaaDoor
open Go.RowKit
set_option linter.unusedVariables false

set_option maxRecDepth 100000 in
set_option maxHeartbeats 1000000 in
theorem law_FnExactParseConfig (s : ByteArray) (hs0 : s.size ≤ maxLen) (w : World) (hL : Pow w ∧ Errs w) :
    Calls Tryd.prog 5 #[.string s] w fun e w' => e = .returned (.bool true) ∧ Below w.heap.size w w' := by
  unfold maxLen at hs0
  have HL := Lib.hid hL
  clear hL
  by_cases h : (1048576 : Int) < (s.size : Int)
  · go_enter Tryd.func5, Tryd.ntmps5
    go_wp2
    go_ret
    exact ⟨rfl, Below.refl _ _⟩
  · have HS := Lib.hid (fun W => specParseConfig s W (by omega))
    have HI := Lib.hid (fun W hl => implParseConfig s W (by omega) hl)
    have HE := Lib.hid (fun c W => eqConfig_same c W)
    go_enter Tryd.func5, Tryd.ntmps5
    go_wp2_with fail
    refine (HS.out _).mono ?_
    rintro e w1 ⟨⟨c, ok, rfl, hp1⟩, hb1⟩
    have B1 := Lib.hid hb1
    have HP1 := Lib.hid hp1
    clear hb1 hp1
    have B2 := Lib.hid (B1.out.alloc B1.out.size (.cells (cfgV c) 24))
    have HBC := Lib.hid (Blk.new w1 24 (cfgV c))
    have HLL := Lib.hid (show Pow _ ∧ Errs _ from ⟨HL.out.1.below B2.out, HL.out.2.below B2.out⟩)
    have HEC := Lib.hid (HE.out c)
    obtain ⟨m, t, p, d, fr, fd, fl, fe, fm⟩ := c
    unfold cfgV at B2 HBC HLL HEC ⊢
    simp only at B2 HBC HLL HEC ⊢
    go_wp2_with fail
    refine (HI.out _ HLL.out).mono ?_
    rintro e w2 ⟨⟨c2, ok2, rfl, hp2⟩, hb2⟩
    obtain ⟨rfl, rfl⟩ := hp2.unique HP1.out
    have B3 := Lib.hid (B2.out.trans (hb2.mono B2.out.size))
    have HB3 := Lib.hid (HBC.out.after hb2)
    clear hb2 hp2
    have HB4 := Lib.hid (HB3.out.after ((Below.refl w2.heap.size w2).alloc (Nat.le_refl _) (.cells #[.int .i64 m, .int .i64 t, .int .i64 p, .int .i64 d, .bool fr, .bool fd, .bool fl, .bool fe, .bool fm] 24)))
    obtain ⟨c0, c1, c2, c3, c4, c5, c6, c7, c8⟩ := HB3.out.boxed
    have hlt : w1.heap.size < w2.heap.size := HB3.out.lt
    unfold cfgV
    simp only
    go_wp2_with fail
    refine (HEC.out _).mono ?_
    rintro e w3 ⟨rfl, hb3⟩
    have B4 := Lib.hid ((B3.out.alloc B3.out.size _).trans (hb3.mono (by have := B3.out.size; simp; omega)))
    clear hb3
    cases ok2 with
    | false =>
      go_wp2_with fail
      go_ret
      exact ⟨rfl, B4.out⟩
    | true =>
      go_wp2_with fail
      go_ret
      exact ⟨rfl, B4.out⟩
end Go.Proofs.YtkbjegcmpmhmpaaDoor
