/- The walk of the law on ParseInt. -/
import Derived.Test.YtfbkefgabkiakaaDoorSpecParse
import Derived.Test.YtfbkefgabkiakaaDoorImplParse
import Derived.Test.YtfbkefgabkiakaaDoorLaid
namespace Go.Proofs.YtfbkefgabkiakaaDoor
open Go.RowKit

set_option maxHeartbeats 400000 in
theorem law_FnExactParseInt (s : ByteArray) (hs0 : s.size ≤ maxLen) (w : World) (hL : Pow w ∧ Errs w) :
    Calls Tryd.prog 5 #[.string s] w fun e w' => e = .returned (.bool true) ∧ Below w.heap.size w w' := by
  unfold maxLen at hs0
  have HL := Lib.hid hL
  clear hL
  by_cases h : (1048576 : Int) < (s.size : Int)
  · go_enter Tryd.func5, Tryd.ntmps5
    go_wp2
    go_ret
    exact ⟨rfl, Below.refl _ _⟩
  · have hs : s.size ≤ 1048576 := by omega
    go_enter Tryd.func5, Tryd.ntmps5
    go_wp2_with fail
    refine (specParse s _ hs).mono ?_
    rintro e w1 ⟨he1, hb1⟩
    have HB1 := Lib.hid hb1
    clear hb1
    rcases he1 with ⟨v, hv, rfl⟩ | ⟨hno, rfl⟩
    · have HV := Lib.hid hv
      clear hv
      go_wp2_with fail
      refine (implParse s _ hs (HL.out.2.below HB1.out) (HL.out.1.below HB1.out)).mono ?_
      rintro e w2 ⟨he2, hb2⟩
      have HB2 := Lib.hid (HB1.out.trans (hb2.mono HB1.out.size))
      clear hb2
      obtain rfl := he2.yes HV.out
      clear he2
      go_wp2_with fail
      go_ret
      exact ⟨rfl, HB2.out⟩
    · have HV := Lib.hid hno
      clear hno
      go_wp2_with fail
      refine (implParse s _ hs (HL.out.2.below HB1.out) (HL.out.1.below HB1.out)).mono ?_
      rintro e w2 ⟨he2, hb2⟩
      have HB2 := Lib.hid (HB1.out.trans (hb2.mono HB1.out.size))
      clear hb2
      obtain rfl := he2.no HV.out
      clear he2
      go_wp2_with fail
      go_ret
      exact ⟨rfl, HB2.out⟩
end Go.Proofs.YtfbkefgabkiakaaDoor
