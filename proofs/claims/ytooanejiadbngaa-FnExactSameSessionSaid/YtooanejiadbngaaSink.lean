/- Sinks: values, the law's own helpers, the model's TakeText, the exact law on it over a contract of the program's. -/
import Derived.Test.YtooanejiadbngaaMem
import Derived.Test.YtooanejiadbngaaSpecMax
import Derived.Handy
import Derived.Deep.RegionHeld3
import Derived.IntWalk
namespace Go.Proofs.Ytooanejiadbngaa
open Go.RowKit
set_option linter.unusedVariables false

structure Snk where
  room : Int
  taken : ByteArray
  dead : Bool
/-- A sink's value. -/
def snkV (k : Snk) : Array Value := #[.int .i64 k.room, .string k.taken, .bool k.dead]
def SnkFits (k : Snk) : Prop := -9223372036854775808 ≤ k.room ∧ k.room ≤ 9223372036854775807 ∧ k.taken.size ≤ maxLen
/-- What TakeText answers. -/
def takeK (k : Snk) (s : ByteArray) : Snk := if k.dead = true then k else if (s.size : Int) ≤ k.room then ⟨k.room - s.size, k.taken ++ s, false⟩ else ⟨0, k.taken ++ s.extract 0 (max k.room 0).toNat, true⟩
def takeOk (k : Snk) (s : ByteArray) : Bool := !k.dead && decide ((s.size : Int) ≤ k.room)
theorem run_headK (s : ByteArray) (c : Nat) (hc : c ≤ s.size) (w : World) :
    (Instr.slice 9 (.string s) none (some (.int .i64 (c : Int))) none).run Try.prog w = .ok (.string (s.extract 0 c)) w := by
  rw [run_slice_string_h (P := Try.prog) (w := w) (t := 9) (s := s) (ht := Try.underlying9) .i64 _ (by omega) (by omega)]
  rw [Int.toNat_natCast]
theorem txt_addK {P : Program} {w : World} (a b : ByteArray) (h : a.size + b.size ≤ 9223372036854775807) : (Op.stringOp .add a b).run P w = .ok (.string (a ++ b)) w :=
  run_string_add_sum _ _ _ h
set_option maxRecDepth 100000 in
set_option maxHeartbeats 1000000 in
theorem toSink_any (k : Snk) (w : World) :
    Calls Try.prog 24 #[.agg (snkV k)] w fun e w' => e = .returned (.agg (snkV k)) ∧ Below w.heap.size w w' := by
  obtain ⟨r, t, d⟩ := k
  unfold snkV
  go_enter Try.func24, Try.ntmps24
  go_wp2
  first
    | (go_ret; exact ⟨rfl, by go_grown⟩)
    | exact bodyPost_ret (v := .agg #[.int .i64 r, .string t, .bool d]) (by simp [results, Try.results24, go_sem]) rfl ⟨rfl, by go_grown⟩
set_option maxRecDepth 100000 in
set_option maxHeartbeats 1000000 in
theorem szSink_any (k : Snk) (n : Int) (w : World) (h0 : 0 ≤ n) (h1 : n ≤ 1048576) (hk : k.taken.size ≤ maxLen) :
    Calls Try.prog 22 #[.agg (snkV k), .int .i64 n] w fun e w' => e = .returned (.int .i64 (if n - k.taken.size < 0 then -1 else n - k.taken.size)) ∧ Below w.heap.size w w' := by
  obtain ⟨r, t, d⟩ := k
  unfold snkV
  unfold maxLen at hk
  simp only at hk ⊢
  by_cases h : n - (t.size : Int) < 0
  · rw [if_pos h]
    go_enter Try.func22, Try.ntmps22
    go_wp2
    go_ret
    exact ⟨rfl, by go_grown⟩
  · rw [if_neg h]
    go_enter Try.func22, Try.ntmps22
    go_wp2
    go_ret
    exact ⟨rfl, by go_grown⟩
end Go.Proofs.Ytooanejiadbngaa
