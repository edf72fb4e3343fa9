/- The contracts of the standard library's functions that this seat's proofs use, laid at this seat's numbers by the kit's own tools. -/
import Derived.Shelf.Small.Utf8
import Derived.Test.YtaigjiiknmgclaaProg
namespace Go.Proofs
open Go.Shelf

def Try.lays119_ren : Go.Shelf.Ren := ⟨fun | 119 => 7 | n => n, fun | 21 => 21 | 4 => 4 | n => n, fun | n => n⟩
theorem Try.lays119 : Go.Proofs.Lays.n119 Try.prog Try.lays119_ren := {
  mixed := by kernel_rfl
  f119 := Try.func7.trans (congrArg some (by kernel_rfl))
  t4 := Try.underlying4
  a4 := Try.isAgg4
  z4 := Try.sizeOf4
  v4 := Try.zeroValue4
  t21 := Try.underlying21
  a21 := Try.isAgg21
  z21 := Try.sizeOf21
  v21 := Try.zeroValue21 }
theorem Try.utf8_ValidRune (r : Int) (w : World) :
    Calls Try.prog 7 #[.int .i32 r] w fun e w' => e = .returned (.bool (Lib.validRune r)) ∧ w' = w := Any.utf8_ValidRune Try.lays119 r w
end Go.Proofs
