/- Operations of a session: plain words. No walk. -/
import Derived.Test.YtooanejiadbngaaGreatDoorBB
namespace Go.Proofs.YtooanejiadbngaaGreatDoor
open Go.RowKit
set_option linter.unusedVariables false

/-- An operation. -/
structure Opn where
  kind : Int
  c : Cfg
  txt : ByteArray
/-- The operations that write chunks. -/
def opW (r : ByteArray) : Opn := ⟨2, zeroC, r⟩
def opsL (c : Cfg) (l : List ByteArray) : List Opn := ⟨1, c, ⟨#[]⟩⟩ :: (l.map opW ++ [⟨3, zeroC, ⟨#[]⟩⟩])
theorem opsL_len (c : Cfg) (l : List ByteArray) : (opsL c l).length = l.length + 2 := by simp [opsL]
end Go.Proofs.YtooanejiadbngaaGreatDoor
