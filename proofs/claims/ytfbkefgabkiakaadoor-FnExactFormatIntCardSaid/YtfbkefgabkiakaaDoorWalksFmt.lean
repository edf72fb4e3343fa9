/- The walk of the law on FormatInt. -/
import Derived.Test.YtfbkefgabkiakaaDoorSpecFmt
import Derived.Test.YtfbkefgabkiakaaDoorImplFmt
namespace Go.Proofs.YtfbkefgabkiakaaDoor
open Go.RowKit
set_option linter.unusedVariables false

theorem law_FnExactFormatInt (n : Int) (hn : (Lit.int .i64 n).wf = true) (w : World) (hp : Pow w) :
    Calls Tryd.prog 4 #[.int .i64 n] w fun e w' => e = .returned (.bool true) ∧ Below w.heap.size w w' := by
  have hb : -9223372036854775808 ≤ n ∧ n ≤ 9223372036854775807 := by simpa [Lit.wf, IntKind.min, IntKind.max, IntKind.signed, IntKind.bits] using hn
  obtain ⟨h0, h1⟩ := hb
  have HP := Lib.hid hp
  clear hp hn
  go_enter Tryd.func4, Tryd.ntmps4
  go_wp2_with fail
  refine (specFormatInt n _ h0 h1).mono ?_
  rintro e w1 ⟨rfl, hb1⟩
  go_wp2_with fail
  refine (implFormatInt n _ h0 h1 (HP.out.below hb1)).mono ?_
  rintro e w2 ⟨rfl, hb2⟩
  have B := Lib.hid (hb1.trans (hb2.mono hb1.size))
  clear hb1 hb2
  go_wp2_with fail
  go_ret
  exact ⟨rfl, B.out⟩
end Go.Proofs.YtfbkefgabkiakaaDoor
