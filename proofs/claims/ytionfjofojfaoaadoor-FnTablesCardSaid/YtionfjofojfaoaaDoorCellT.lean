/- Texts of table cells: plain words, the model's IsCellText, the exact law over a contract of the program's. -/
import Derived.Test.YtionfjofojfaoaaDoorProg
import Derived.Test.YtionfjofojfaoaaDoorPre
import Derived.Handy
namespace Go.Proofs.YtionfjofojfaoaaDoor
open Go.RowKit
set_option linter.unusedVariables false

def okByte (x : UInt8) : Bool := decide (32 ≤ x.toNat) && decide (x.toNat ≠ 127)
def okCellL (l : List UInt8) : Bool := l.all okByte
def cellB (s : ByteArray) : Bool := okCellL s.data.toList && decide (s.size ≤ 200)
theorem okCell_no (s : ByteArray) (k : Nat) (h : k < s.size) (hx : okByte s[k] = false) : cellB s = false := by
  unfold cellB okCellL
  rw [Bool.and_eq_false_iff]
  left
  rw [List.all_eq_false]
  exact ⟨s[k], by
    have : s[k] = s.data.toList[k]'(by simpa using h) := by simp [ByteArray.getElem_eq_getElem_data]
    rw [this]; exact List.getElem_mem _, by rw [hx]; decide⟩
theorem okByte_yes (x : UInt8) (h1 : ¬ (x.toNat : Int) < 32) (h2 : ¬ (x.toNat : Int) = 127) : okByte x = true := by
  unfold okByte
  rw [decide_eq_true (by omega), decide_eq_true (by omega)]
  rfl
theorem okByte_low (x : UInt8) (h1 : (x.toNat : Int) < 32) : okByte x = false := by
  unfold okByte
  rw [decide_eq_false (by omega)]
  rfl
theorem okByte_del (x : UInt8) (h1 : (x.toNat : Int) = 127) : okByte x = false := by
  unfold okByte
  rw [Bool.and_eq_false_iff]
  right
  rw [decide_eq_false_iff_not]
  omega
set_option maxRecDepth 100000 in
set_option maxHeartbeats 1000000 in
theorem specIsCellText (s : ByteArray) (w : World) (hs : s.size ≤ 1048576) :
    Calls Tryd.prog 65 #[.string s] w fun e w' => e = .returned (.bool (cellB s)) ∧ w = w' := by
  go_enter Tryd.func65, Tryd.ntmps65
  go_wp2
  go_loop [3] (fun i => ∃ k : Nat, k ≤ s.size ∧ i = .int .i64 k ∧ (s.data.toList.take k).all okByte = true) (fun i => s.size - (intOf i).toNat)
  case atStart => exact ⟨0, Nat.zero_le _, rfl, rfl⟩
  case round =>
    obtain ⟨k, hk, rfl, ha⟩ := hrel
    have HA := Lib.hid ha
    clear ha
    by_cases hlt : k < s.size
    · by_cases h1 : (s[k].toNat : Int) < 32
      · go_wp2
        go_ret
        exact ⟨ret_bool (okCell_no s k hlt (okByte_low _ h1)).symm, rfl⟩
      · by_cases h2 : (s[k].toNat : Int) = 127
        · go_wp2
          go_ret
          exact ⟨ret_bool (okCell_no s k hlt (okByte_del _ h2)).symm, rfl⟩
        · go_wp2
          go_round
          case rel => exact ⟨k + 1, by omega, by go_num, all_snoc _ s k hlt HA.out (okByte_yes _ h1 h2)⟩
          case measure => simp [intOf]; omega
    · have HR : Hid (cellB s = decide ((s.size : Int) ≤ 200)) := Lib.hid (by
        have h3 := all_whole _ s k hlt HA.out
        unfold cellB okCellL
        rw [h3, Bool.true_and]
        by_cases h4 : s.size ≤ 200
        · rw [decide_eq_true h4, decide_eq_true (by omega)]
        · rw [decide_eq_false h4, decide_eq_false (by omega)])
      go_wp2
      go_ret
      exact ⟨ret_bool HR.out.symm, rfl⟩
end Go.Proofs.YtionfjofojfaoaaDoor
