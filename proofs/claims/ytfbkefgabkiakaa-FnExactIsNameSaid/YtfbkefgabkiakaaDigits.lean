/- IsDigits: the model's and the program's, both answer digB. -/
import Derived.Test.YtfbkefgabkiakaaProg
import Derived.Test.YtfbkefgabkiakaaPre
namespace Go.Proofs.Ytfbkefgabkiakaa
open Go.RowKit

set_option maxHeartbeats 400000 in
theorem specIsDigits (s : ByteArray) (w : World) (hs : s.size ≤ maxLen) :
    Calls Try.prog 9 #[.string s] w fun e w' => e = .returned (.bool (digB s.data.toList)) ∧ w = w' := by
  unfold maxLen at hs
  go_enter Try.func9, Try.ntmps9
  go_wp2
  go_loop [3] (fun i => ∃ k : Nat, k ≤ s.size ∧ i = .int .i64 k ∧ (s.data.toList.take k).all isDig = true) (fun i => s.size - (intOf i).toNat)
  case atStart => exact ⟨0, Nat.zero_le _, rfl, rfl⟩
  case round =>
    obtain ⟨k, hk, rfl, ha⟩ := hrel
    have HA := Lib.hid ha
    clear ha
    by_cases hlt : k < s.size
    · by_cases h1 : (s[k].toNat : Int) < 48
      · go_wp2
        go_ret
        exact ⟨ret_bool (digB_no s k hlt (not_dig _ (.inl h1))).symm, rfl⟩
      · by_cases h2 : 57 < (s[k].toNat : Int)
        · go_wp2
          go_ret
          exact ⟨ret_bool (digB_no s k hlt (not_dig _ (.inr h2))).symm, rfl⟩
        · go_wp2
          go_round
          case rel => exact ⟨k + 1, by omega, by go_num, all_snoc _ s k hlt HA.out (yes_dig _ (by omega) (by omega))⟩
          case measure => simp [intOf]; omega
    · go_wp2
      go_ret
      exact ⟨ret_bool (digB_yes s (all_whole _ s k hlt HA.out)).symm, rfl⟩

theorem implisDigit (r : Int) (w : World) :
    Calls Try.prog 26 #[.int .i32 r] w fun e w' => e = .returned (.bool (decide (48 ≤ r) && decide (r ≤ 57))) ∧ w = w' := by
  go_enter Try.func26, Try.ntmps26
  go_wp2
  all_goals go_ret
  all_goals exact ⟨ret_bool (by simp <;> omega), rfl⟩

theorem implisDigit_yes (r : Int) (w : World) (h1 : 48 ≤ r) (h2 : r ≤ 57) :
    Calls Try.prog 26 #[.int .i32 r] w fun e w' => e = .returned (.bool true) ∧ w = w' :=
  (implisDigit r w).mono fun _ _ h => ⟨h.1.trans (ret_bool (by simp [h1, h2])), h.2⟩

theorem implisDigit_no (r : Int) (w : World) (h : r < 48 ∨ 57 < r) :
    Calls Try.prog 26 #[.int .i32 r] w fun e w' => e = .returned (.bool false) ∧ w = w' :=
  (implisDigit r w).mono fun _ _ g => ⟨g.1.trans (ret_bool (by simp; omega)), g.2⟩

set_option maxHeartbeats 400000 in
theorem implIsDigits (s : ByteArray) (w : World) :
    Calls Try.prog 10 #[.string s] w fun e w' => e = .returned (.bool (digB s.data.toList)) ∧ ∃ pos, w' = w.iter s pos := by
  go_enter Try.func10, Try.ntmps10
  go_wp2
  go_loopw [4] (fun _ wr => ∃ k : Nat, k ≤ s.size ∧ wr = w.iter s k ∧ Hid ((s.data.toList.take k).all isDig = true)) (fun _ wr => s.size - wr.iterPos w.heap.size)
  case atStart => exact ⟨0, Nat.zero_le _, rfl, Lib.hid rfl⟩
  case round =>
    obtain ⟨k, hk, rfl, HA⟩ := hrel
    by_cases hlt : k < s.size
    · have hnx : ∀ ty, (Instr.next (.pointer (some ⟨w.heap.size, 0, none⟩)) true ty).run Try.prog (w.iter s k) = _ := fun ty => run_next_any w s k ty hlt
      by_cases h1 : s[k].toNat < 128
      · rw [decode_ascii s k hlt h1] at hnx
        by_cases c1 : (48 : Int) ≤ (s[k].toNat : Int)
        · by_cases c2 : (s[k].toNat : Int) ≤ 57
          · go_wp2_with (go_at_call 26; refine (implisDigit_yes _ _ c1 c2).mono ?_; rintro e w' ⟨rfl, rfl⟩)
            go_roundw
            case rel => exact ⟨k + 1, by omega, rfl, Lib.hid (all_snoc _ s k hlt HA.out (yes_dig _ c1 c2))⟩
            case measure => simp; omega
          · go_wp2_with (go_at_call 26; refine (implisDigit_no _ _ (by omega)).mono ?_; rintro e w' ⟨rfl, rfl⟩)
            go_ret
            exact ⟨ret_bool (digB_no s k hlt (not_dig _ (.inr (by omega)))).symm, _, rfl⟩
        · go_wp2_with (go_at_call 26; refine (implisDigit_no _ _ (by omega)).mono ?_; rintro e w' ⟨rfl, rfl⟩)
          go_ret
          exact ⟨ret_bool (digB_no s k hlt (not_dig _ (.inl (by omega)))).symm, _, rfl⟩
      · have hd := decode_high s k hlt (by omega)
        have c1 : (48 : Int) ≤ ((Utf8.decode s k).1 : Int) := by omega
        have c2 : ¬ ((Utf8.decode s k).1 : Int) ≤ 57 := by omega
        go_wp2_with (go_at_call 26; refine (implisDigit_no _ _ (by omega)).mono ?_; rintro e w' ⟨rfl, rfl⟩)
        go_ret
        exact ⟨ret_bool (digB_no s k hlt (not_dig _ (.inr (by omega)))).symm, _, rfl⟩
    · have hnx : ∀ ty, (Instr.next (.pointer (some ⟨w.heap.size, 0, none⟩)) true ty).run Try.prog (w.iter s k) = _ := fun ty => run_next_end w s k ty hlt
      go_wp2
      go_ret
      exact ⟨ret_bool (by rw [ByteArray.toList_eq]; exact (digB_yes2 s (all_whole _ s k hlt HA.out)).symm), _, rfl⟩

end Go.Proofs.Ytfbkefgabkiakaa
