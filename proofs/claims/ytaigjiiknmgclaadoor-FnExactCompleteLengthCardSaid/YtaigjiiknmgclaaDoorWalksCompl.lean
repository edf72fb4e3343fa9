/- The walk of the law on CompleteLength. -/
import Derived.Test.YtaigjiiknmgclaaDoorImplCompl
namespace Go.Proofs.YtaigjiiknmgclaaDoor
open Go.RowKit
set_option linter.unusedVariables false

set_option maxHeartbeats 1000000 in
theorem law_FnExactCompleteLength (s : ByteArray) (hs0 : s.size ≤ maxLen) (w : World) (hT : Tabs w) :
    Calls Tryd.prog 9 #[.string s] w fun e w' => e = .returned (.bool true) ∧ Below w.heap.size w w' := by
  unfold maxLen at hs0
  have HT := Lib.hid hT
  clear hT
  by_cases g0 : (1048576 : Int) < (s.size : Int)
  · go_enter Tryd.func9, Tryd.ntmps9
    go_wp2
    go_ret
    exact ⟨rfl, Below.refl _ _⟩
  · have hspec := fun W => specCompl s W (by omega)
    have himpl := fun W (hW : Tabs W) => implCompl s W (by omega) hW
    obtain ⟨c, hc⟩ : ∃ c : Int, c = ((complB s : Nat) : Int) := ⟨_, rfl⟩
    rw [← hc] at hspec himpl
    have HSP := Lib.hid hspec
    have HIM := Lib.hid himpl
    clear hspec himpl hc
    go_enter Tryd.func9, Tryd.ntmps9
    go_wp2_with fail
    refine (HSP.out _).mono ?_
    rintro e w1 ⟨rfl, hb1⟩
    have B1 := Lib.hid hb1
    clear hb1
    go_wp2_with fail
    refine (HIM.out _ (HT.out.below B1.out)).mono ?_
    rintro e w2 ⟨rfl, hb2⟩
    have B2 := Lib.hid (B1.out.trans (hb2.mono B1.out.size))
    clear hb2
    go_wp2_with fail
    go_ret
    exact ⟨rfl, B2.out⟩
end Go.Proofs.YtaigjiiknmgclaaDoor
