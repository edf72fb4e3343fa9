/- IsName: the model's and the program's, both answer nameB. -/
import Derived.Test.YtfbkefgabkiakaaDigits
namespace Go.Proofs.Ytfbkefgabkiakaa
open Go.RowKit

theorem specl01In (n lo hi : Int) (w : World) :
    Calls Try.prog 27 #[.int .i64 n, .int .i64 lo, .int .i64 hi] w fun e w' => e = .returned (.bool (decide (lo ≤ n) && decide (n ≤ hi))) ∧ w = w' := by
  go_enter Try.func27, Try.ntmps27
  go_wp2
  all_goals go_ret
  all_goals exact ⟨ret_bool (by simp <;> omega), rfl⟩

theorem implisLetter (r : Int) (w : World) :
    Calls Try.prog 28 #[.int .i32 r] w fun e w' => e = .returned (.bool (decide (97 ≤ r) && decide (r ≤ 122))) ∧ w = w' := by
  go_enter Try.func28, Try.ntmps28
  go_wp2
  all_goals go_ret
  all_goals exact ⟨ret_bool (by simp <;> omega), rfl⟩
theorem implisLetter_yes (r : Int) (w : World) (h1 : 97 ≤ r) (h2 : r ≤ 122) :
    Calls Try.prog 28 #[.int .i32 r] w fun e w' => e = .returned (.bool true) ∧ w = w' :=
  (implisLetter r w).mono fun _ _ h => ⟨h.1.trans (ret_bool (by simp [h1, h2])), h.2⟩
theorem implisLetter_no (r : Int) (w : World) (h : r < 97 ∨ 122 < r) :
    Calls Try.prog 28 #[.int .i32 r] w fun e w' => e = .returned (.bool false) ∧ w = w' :=
  (implisLetter r w).mono fun _ _ g => ⟨g.1.trans (ret_bool (by simp; omega)), g.2⟩

set_option maxHeartbeats 400000 in
theorem specIsName (s : ByteArray) (w : World) (hs : s.size ≤ maxLen) :
    Calls Try.prog 11 #[.string s] w fun e w' => e = .returned (.bool (nameB s.data.toList)) ∧ w = w' := by
  unfold maxLen at hs
  go_enter Try.func11, Try.ntmps11
  go_wp2
  go_loop [3] (fun i => ∃ k : Nat, k ≤ s.size ∧ i = .int .i64 k ∧ Hid (namePre (s.data.toList.take k) = true)) (fun i => s.size - (intOf i).toNat)
  case atStart => exact ⟨0, Nat.zero_le _, rfl, Lib.hid rfl⟩
  case round =>
    obtain ⟨k, hk, rfl, HA⟩ := hrel
    by_cases hlt : k < s.size
    · by_cases hlow : 97 ≤ (s[k].toNat : Int) ∧ (s[k].toNat : Int) ≤ 122
      · obtain ⟨c1, c2⟩ := hlow
        go_wp2
        go_round
        case rel => exact ⟨k + 1, by omega, by go_num, Lib.hid (name_yes s k hlt HA.out (.inl (yes_low _ c1 c2)))⟩
        case measure => simp [intOf]; omega
      · have hnl := not_low s[k] (by omega)
        have HN := Lib.hid hnl
        clear hnl
        by_cases hk0 : k = 0
        · subst hk0
          by_cases c1 : 97 ≤ (s[0].toNat : Int)
          · have c2 : ¬ (s[0].toNat : Int) ≤ 122 := by omega
            clear hlow
            go_wp2
            go_ret
            exact ⟨ret_bool (name_no s 0 hlt HN.out (.inl rfl)).symm, rfl⟩
          · clear hlow
            go_wp2
            go_ret
            exact ⟨ret_bool (name_no s 0 hlt HN.out (.inl rfl)).symm, rfl⟩
        · have hkz : ((k : Int) == 0) = false := by simp; omega
          by_cases hdig : 48 ≤ (s[k].toNat : Int) ∧ (s[k].toNat : Int) ≤ 57
          · obtain ⟨d1, d2⟩ := hdig
            clear hlow
            have c1 : ¬ 97 ≤ (s[k].toNat : Int) := by omega
            go_wp2
            go_round
            case rel => exact ⟨k + 1, by omega, by go_num, Lib.hid (name_yes s k hlt HA.out (.inr ⟨hk0, yes_dig _ d1 d2⟩))⟩
            case measure => simp [intOf]; omega
          · have hnd := not_dig s[k] (by omega)
            have HD := Lib.hid hnd
            clear hnd
            have c0 : (97 ≤ (s[k].toNat : Int) ∧ ¬ (s[k].toNat : Int) ≤ 122) ∨ (¬ 97 ≤ (s[k].toNat : Int) ∧ (s[k].toNat : Int) < 48) ∨ (¬ 97 ≤ (s[k].toNat : Int) ∧ ¬ (s[k].toNat : Int) < 48 ∧ 57 < (s[k].toNat : Int)) := by omega
            clear hlow hdig
            rcases c0 with ⟨c1, c2⟩ | ⟨c1, c2⟩ | ⟨c1, c2, c3⟩
            all_goals
              go_wp2
              go_ret
              exact ⟨ret_bool (name_no s k hlt HN.out (.inr HD.out)).symm, rfl⟩
    · go_wp2_with (go_at_call 27; refine (specl01In _ _ _ _).mono ?_; rintro e w' ⟨rfl, rfl⟩)
      go_ret
      exact ⟨ret_bool (by rw [name_whole s k hlt HA.out]; congr 1 <;> simp <;> omega), rfl⟩

set_option maxHeartbeats 400000 in
theorem implIsName (s : ByteArray) (w : World) (hs : s.size ≤ maxLen) :
    Calls Try.prog 12 #[.string s] w fun e w' => e = .returned (.bool (nameB s.data.toList)) ∧ ∃ pos, w' = w.iter s pos := by
  unfold maxLen at hs
  go_enter Try.func12, Try.ntmps12
  go_wp2
  go_loopw [3, 4] (fun _ _ wr => ∃ k : Nat, k ≤ s.size ∧ wr = w.iter s k ∧ Hid (namePre (s.data.toList.take k) = true)) (fun _ _ wr => s.size - wr.iterPos w.heap.size)
  case atStart => exact ⟨0, Nat.zero_le _, rfl, Lib.hid rfl⟩
  case round =>
    obtain ⟨k, hk, rfl, HA⟩ := hrel
    by_cases hlt : k < s.size
    · have hnx : ∀ ty, (Instr.next (.pointer (some ⟨w.heap.size, 0, none⟩)) true ty).run Try.prog (w.iter s k) = _ := fun ty => run_next_any w s k ty hlt
      by_cases h1 : s[k].toNat < 128
      · rw [decode_ascii s k hlt h1] at hnx
        by_cases hlow : 97 ≤ (s[k].toNat : Int) ∧ (s[k].toNat : Int) ≤ 122
        · obtain ⟨c1, c2⟩ := hlow
          go_wp2_with (go_at_call 28; refine (implisLetter_yes _ _ c1 c2).mono ?_; rintro e w' ⟨rfl, rfl⟩)
          go_roundw
          case rel => exact ⟨k + 1, by omega, rfl, Lib.hid (name_yes s k hlt HA.out (.inl (yes_low _ c1 c2)))⟩
          case measure => simp; omega
        · have hnl := not_low s[k] (by omega)
          have HN := Lib.hid hnl
          clear hnl
          by_cases hk0 : k = 0
          · subst hk0
            go_wp2_with (go_at_call 28; refine (implisLetter_no _ _ (by omega)).mono ?_; rintro e w' ⟨rfl, rfl⟩)
            go_ret
            exact ⟨ret_bool (name_no s 0 hlt HN.out (.inl rfl)).symm, _, rfl⟩
          · have hkz : ((k : Int) == 0) = false := by simp; omega
            by_cases hdig : 48 ≤ (s[k].toNat : Int) ∧ (s[k].toNat : Int) ≤ 57
            · obtain ⟨d1, d2⟩ := hdig
              go_wp2_with (first | (go_at_call 28; refine (implisLetter_no _ _ (by omega)).mono ?_; rintro e w' ⟨rfl, rfl⟩) | (go_at_call 26; refine (implisDigit_yes _ _ d1 d2).mono ?_; rintro e w' ⟨rfl, rfl⟩))
              go_roundw
              case rel => exact ⟨k + 1, by omega, rfl, Lib.hid (name_yes s k hlt HA.out (.inr ⟨hk0, yes_dig _ d1 d2⟩))⟩
              case measure => simp; omega
            · have hnd := not_dig s[k] (by omega)
              have HD := Lib.hid hnd
              clear hnd
              go_wp2_with (first | (go_at_call 28; refine (implisLetter_no _ _ (by omega)).mono ?_; rintro e w' ⟨rfl, rfl⟩) | (go_at_call 26; refine (implisDigit_no _ _ (by omega)).mono ?_; rintro e w' ⟨rfl, rfl⟩))
              go_ret
              exact ⟨ret_bool (name_no s k hlt HN.out (.inr HD.out)).symm, _, rfl⟩
      · have hd := decode_high s k hlt (by omega)
        have HN := Lib.hid (not_low s[k] (.inr (by omega)))
        have HD := Lib.hid (not_dig s[k] (.inr (by omega)))
        by_cases hk0 : k = 0
        · subst hk0
          go_wp2_with (go_at_call 28; refine (implisLetter_no _ _ (by omega)).mono ?_; rintro e w' ⟨rfl, rfl⟩)
          go_ret
          exact ⟨ret_bool (name_no s 0 hlt HN.out (.inl rfl)).symm, _, rfl⟩
        · have hkz : ((k : Int) == 0) = false := by simp; omega
          go_wp2_with (first | (go_at_call 28; refine (implisLetter_no _ _ (by omega)).mono ?_; rintro e w' ⟨rfl, rfl⟩) | (go_at_call 26; refine (implisDigit_no _ _ (by omega)).mono ?_; rintro e w' ⟨rfl, rfl⟩))
          go_ret
          exact ⟨ret_bool (name_no s k hlt HN.out (.inr HD.out)).symm, _, rfl⟩
    · have hnx : ∀ ty, (Instr.next (.pointer (some ⟨w.heap.size, 0, none⟩)) true ty).run Try.prog (w.iter s k) = _ := fun ty => run_next_end w s k ty hlt
      by_cases hz : s.size = 0
      · have hz1 : s.toList.isEmpty = true := by rw [ByteArray.toList_eq]; exact List.isEmpty_iff.2 (List.length_eq_zero_iff.1 (by rw [bytes_length]; exact hz))
        go_wp2
        go_ret
        exact ⟨ret_bool (by rw [name_whole s k hlt HA.out, hz]; rfl), _, rfl⟩
      · have hz1 : s.toList.isEmpty = false := by
          rw [ByteArray.toList_eq]; have := bytes_length s
          cases hx : s.data.toList with
          | nil => rw [hx] at this; simp at this; omega
          | cons a t => rfl
        go_wp2
        go_ret
        refine ⟨ret_bool ?_, _, rfl⟩
        rw [name_whole s k hlt HA.out, decide_eq_true (show 1 ≤ s.size from by omega), Bool.true_and]
        exact decide_eq_decide.2 (by omega)

end Go.Proofs.Ytfbkefgabkiakaa
