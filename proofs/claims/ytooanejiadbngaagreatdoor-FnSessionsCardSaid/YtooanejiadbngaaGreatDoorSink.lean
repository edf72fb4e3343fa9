/- Sinks: values, the law's own helpers, the model's TakeText, the exact law on it over a contract of the program's. -/
import Derived.Test.YtooanejiadbngaaGreatDoorBA
import Derived.Handy
import Derived.Deep.RegionHeld3
import Derived.IntWalk
namespace Go.Proofs.YtooanejiadbngaaGreatDoor
open Go.RowKit
set_option linter.unusedVariables false

structure Snk where
  room : Int
  taken : ByteArray
  dead : Bool
/-- A sink's value. -/
def snkV (k : Snk) : Array Value := #[.int .i64 k.room, .string k.taken, .bool k.dead]
def SnkFits (k : Snk) : Prop := -9223372036854775808 ≤ k.room ∧ k.room ≤ 9223372036854775807 ∧ k.taken.size ≤ maxLen
/-- What TakeText answers. -/
def takeK (k : Snk) (s : ByteArray) : Snk := if k.dead = true then k else if (s.size : Int) ≤ k.room then ⟨k.room - s.size, k.taken ++ s, false⟩ else ⟨0, k.taken ++ s.extract 0 (max k.room 0).toNat, true⟩
def takeOk (k : Snk) (s : ByteArray) : Bool := !k.dead && decide ((s.size : Int) ≤ k.room)
theorem run_headK (s : ByteArray) (c : Nat) (hc : c ≤ s.size) (w : World) :
    (Instr.slice 9 (.string s) none (some (.int .i64 (c : Int))) none).run Tryz.prog w = .ok (.string (s.extract 0 c)) w := by
  rw [run_slice_string_h (P := Tryz.prog) (w := w) (t := 9) (s := s) (ht := Tryz.underlying9) .i64 _ (by omega) (by omega)]
  rw [Int.toNat_natCast]
theorem txt_addK {P : Program} {w : World} (a b : ByteArray) (h : a.size + b.size ≤ 9223372036854775807) : (Op.stringOp .add a b).run P w = .ok (.string (a ++ b)) w :=
  run_string_add_sum _ _ _ h
end Go.Proofs.YtooanejiadbngaaGreatDoor
