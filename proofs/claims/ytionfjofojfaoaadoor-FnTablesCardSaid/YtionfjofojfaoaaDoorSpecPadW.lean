/- The model's FitWidth and its paddings. -/
import Derived.Test.YtionfjofojfaoaaDoorSpecWidth
namespace Go.Proofs.YtionfjofojfaoaaDoor
open Go.RowKit
set_option linter.unusedVariables false

theorem l02Max_pos (a : Int) (w : World) (h : 0 < a) :
    Calls Tryd.prog 40 #[.int .i64 a, .int .i64 0] w fun e w' => e = .returned (.int .i64 a) ∧ w = w' := by
  go_enter Tryd.func40, Tryd.ntmps40
  go_wp2
  go_ret
  exact ⟨rfl, rfl⟩
theorem l02Max_neg (a : Int) (w : World) (h : ¬ 0 < a) :
    Calls Tryd.prog 40 #[.int .i64 a, .int .i64 0] w fun e w' => e = .returned (.int .i64 0) ∧ w = w' := by
  go_enter Tryd.func40, Tryd.ntmps40
  go_wp2
  go_ret
  exact ⟨rfl, rfl⟩
theorem l02Max_any (a : Int) (w : World) :
    Calls Tryd.prog 40 #[.int .i64 a, .int .i64 0] w fun e w' => e = .returned (.int .i64 (a.toNat : Int)) ∧ w = w' := by
  by_cases h : 0 < a
  · rw [show ((a.toNat : Nat) : Int) = a by omega]; exact l02Max_pos a w h
  · rw [show ((a.toNat : Nat) : Int) = 0 by omega]; exact l02Max_neg a w h

end Go.Proofs.YtionfjofojfaoaaDoor
