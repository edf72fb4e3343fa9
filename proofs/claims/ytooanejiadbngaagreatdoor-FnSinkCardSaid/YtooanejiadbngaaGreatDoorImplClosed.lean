/- ClosedLength: the program's; the law. -/
import Derived.Test.YtooanejiadbngaaGreatDoorBD
import Derived.Test.YtooanejiadbngaaGreatDoorBB
namespace Go.Proofs.YtooanejiadbngaaGreatDoor
open Go.RowKit
set_option linter.unusedVariables false

theorem roleN_esc {esc raw : Bool} {x : UInt8} (h : (esc && decide (x = 255)) = true) : roleN esc raw x = 1 ∧ nextRaw esc raw x = !raw := ⟨if_pos h, if_pos h⟩
theorem nextRaw_no {esc raw : Bool} {x : UInt8} (h : ¬ (esc && decide (x = 255)) = true) : nextRaw esc raw x = raw := if_neg h
/-- What a byte does to the closed beginning, by its role. -/
theorem role_cases (esc : Bool) (s : ByteArray) (k : Nat) (h : k < s.size) :
    (((roleAt esc s k = 0 ∨ roleAt esc s k = 1) ∧ ∀ cs best, lcAt esc s k (rawAt esc s k) cs best = lcAt esc s (k + 1) (rawAt esc s (k + 1)) cs best) ∨
     (roleAt esc s k = 2 ∧ ∀ cs best, lcAt esc s k (rawAt esc s k) cs best = lcAt esc s (k + 1) (rawAt esc s (k + 1)) true best)) ∨
    ((roleAt esc s k = 3 ∧ s[k] = 10 ∧ ∀ cs best, lcAt esc s k (rawAt esc s k) cs best = lcAt esc s (k + 1) (rawAt esc s (k + 1)) false (if cs = true then best else k + 1)) ∨
     (roleAt esc s k = 3 ∧ s[k] = 12 ∧ ∀ cs best, lcAt esc s k (rawAt esc s k) cs best = lcAt esc s (k + 1) (rawAt esc s (k + 1)) false (k + 1))) := by
  rw [rawAt_succ esc s k h, roleAt_lt esc s k h]
  generalize rawAt esc s k = raw
  by_cases h1 : (esc && decide (s[k] = 255)) = true
  · rw [(roleN_esc h1).1, (roleN_esc h1).2]
    simp only [Bool.and_eq_true, decide_eq_true_eq] at h1
    obtain ⟨rfl, hx⟩ := h1
    exact .inl (.inl ⟨.inr rfl, fun cs best => lcAt_esc s k raw cs best h hx⟩)
  · rw [nextRaw_no h1]
    have hx : esc = false ∨ s[k] ≠ 255 := by
      cases esc with
      | false => exact .inl rfl
      | true => exact .inr (by simpa using h1)
    unfold roleN
    rw [if_neg h1]
    cases raw with
    | true => exact .inl (.inl ⟨.inl (by simp), fun cs best => lcAt_raw esc s k cs best h hx⟩)
    | false =>
      by_cases h9 : s[k] = 9
      · exact .inl (.inr ⟨by simp [h9], fun cs best => lcAt_tab esc s k cs best h h9⟩)
      · by_cases h10 : s[k] = 10
        · exact .inr (.inl ⟨by simp [h10], h10, fun cs best => lcAt_end10 esc s k cs best h h10⟩)
        · by_cases h12 : s[k] = 12
          · exact .inr (.inr ⟨by simp [h12], h12, fun cs best => lcAt_end12 esc s k cs best h h12⟩)
          · exact .inl (.inl ⟨.inl (by simp [h9, h10, h12]), fun cs best => lcAt_else esc s k cs best h hx h9 h10 h12⟩)
set_option maxRecDepth 100000 in
set_option maxHeartbeats 4000000 in
theorem implClosedLength (c : Cfg) (s : ByteArray) (w : World) (hs : s.size ≤ 1048576) :
    Calls Tryz.prog 54 #[.agg (cfgV c), .string s] w fun e w' => e = .returned (.int .i64 (closedB c s)) ∧ Below w.heap.size w w' := by
  have hS := fun W => implIsConfig c W
  cases hv : validC c with
  | false =>
    rw [closedB_no s hv]
    rw [hv] at hS
    have HS := Lib.hid hS
    clear hS hv
    obtain ⟨m, t, p, d, fr, fd, fl, fe, fm⟩ := c
    unfold cfgV at HS ⊢
    simp only at HS ⊢
    go_enter Tryz.func54, Tryz.ntmps54
    go_wp2_with fail
    refine (HS.out _).mono ?_
    rintro e w1 ⟨rfl, hb1⟩
    have B1 := Lib.hid ((by go_grown : Below w.heap.size w (w.alloc _)).trans (hb1.mono (by simp)))
    clear hb1
    go_wp2_with fail
    go_ret
    exact ⟨rfl, B1.out⟩
  | true =>
    rw [closedB_yes s hv]
    rw [hv] at hS
    have HS := Lib.hid hS
    have HR := Lib.hid (fun W => implRolesOf c s W hs)
    have h0 := Lib.hid (lcAt_zero c.fe s)
    obtain ⟨z, hz⟩ : ∃ z, z = lc c.fe s.data.toList false false := ⟨_, rfl⟩
    rw [← hz] at h0 ⊢
    clear hS hv hz
    obtain ⟨m, t, p, d, fr, fd, fl, fe, fm⟩ := c
    unfold cfgV at HS HR ⊢
    simp only at HS HR h0 ⊢
    go_enter Tryz.func54, Tryz.ntmps54
    go_wp2_with fail
    refine (HS.out _).mono ?_
    rintro e w1 ⟨rfl, hb1⟩
    have hbx := (Boxed.new w 24 m t p d fr fd fl fe fm).below hb1 (by simp)
    have B1 := Lib.hid ((by go_grown : Below w.heap.size w (w.alloc _)).trans (hb1.mono (by simp)))
    clear hb1
    obtain ⟨c0, c1, c2, c3, c4, c5, c6, c7, c8⟩ := hbx
    go_wp2_with fail
    refine (HR.out _).mono ?_
    rintro e w2 ⟨⟨v, rfl, g, cap, cs, rfl, hg, hblk, hmade⟩, hb2⟩
    have B2 := Lib.hid (B1.out.trans (hb2.mono B1.out.size))
    have HB := Lib.hid hblk
    have HM := Lib.hid hmade
    clear hb2 hg hblk hmade c0 c1 c2 c3 c4 c5 c6 c7 c8
    go_wp2_with fail
    go_loop [5, 6, 7, 8, 16] (fun b cl _ _ i => ∃ (k best cnt : Nat), k ≤ s.size ∧ best ≤ 1048576 ∧ cnt ≤ k ∧ i = .int .i64 (k : Int) ∧ b = .int .i64 (best : Int) ∧ cl = .int .i64 (cnt : Int) ∧ Hid (lcAt fe s k (rawAt fe s k) (decide (0 < cnt)) best = z)) (fun _ _ _ _ i => s.size - (intOf i).toNat)
    case atStart => exact ⟨0, 0, 0, Nat.zero_le _, Nat.zero_le _, Nat.zero_le _, rfl, rfl, rfl, h0⟩
    case round =>
      obtain ⟨k, best, cnt, hk, hbest, hcnt, rfl, rfl, rfl, HL⟩ := hrel
      by_cases hlt : k < s.size
      · have hcell := (HB.out.cell k).trans (HM.out.2 k hlt)
        have i0 : (0 : Int) ≤ (k : Int) := by omega
        have i1 : (k : Int) < (s.size : Int) := by omega
        rcases role_cases fe s k hlt with (⟨h | h, H⟩ | ⟨h, H⟩) | (⟨h, hx, H⟩ | ⟨h, hx, H⟩)
        · rw [h] at hcell
          have HE := Lib.hid (H (decide (0 < cnt)) best)
          clear h H
          go_wp2_with fail
          go_round
          case rel => exact ⟨k + 1, best, cnt, by omega, hbest, by omega, by go_num, rfl, rfl, Lib.hid (by have h1 := HL.out; rw [HE.out] at h1; exact h1)⟩
          case measure => simp [intOf]; omega
        · rw [h] at hcell
          have HE := Lib.hid (H (decide (0 < cnt)) best)
          clear h H
          go_wp2_with fail
          go_round
          case rel => exact ⟨k + 1, best, cnt, by omega, hbest, by omega, by go_num, rfl, rfl, Lib.hid (by have h1 := HL.out; rw [HE.out] at h1; exact h1)⟩
          case measure => simp [intOf]; omega
        · rw [h] at hcell
          have HE := Lib.hid (H (decide (0 < cnt)) best)
          clear h H
          go_wp2_with fail
          go_round
          case rel => exact ⟨k + 1, best, cnt + 1, by omega, hbest, by omega, by go_num, rfl, by go_num, Lib.hid (by have h1 := HL.out; rw [HE.out] at h1; rw [decide_eq_true (Nat.succ_pos cnt)]; exact h1)⟩
          case measure => simp [intOf]; omega
        · rw [h] at hcell
          have e12 : ((s[k].toNat : Int) == 12) = false := byte_no (n := 12) (by omega) (by rw [hx]; decide)
          have HE := Lib.hid (H (decide (0 < cnt)) best)
          clear h H hx
          by_cases hc : cnt = 0
          · subst hc
            go_wp2_with fail
            go_round
            case rel => exact ⟨k + 1, k + 1, 0, by omega, by omega, by omega, by go_num, by go_num, rfl, Lib.hid (by have h1 := HL.out; rw [HE.out] at h1; simpa using h1)⟩
            case measure => simp [intOf]; omega
          · have hc1 : ((cnt : Int) == 0) = false := by simp; omega
            have HC := Lib.hid hc
            clear hc
            go_wp2_with fail
            go_round
            case rel => exact ⟨k + 1, best, 0, by omega, hbest, by omega, by go_num, rfl, rfl, Lib.hid (by have h1 := HL.out; rw [HE.out, if_pos (by rw [decide_eq_true_eq]; have := HC.out; omega)] at h1; exact h1)⟩
            case measure => simp [intOf]; omega
        · rw [h] at hcell
          have e12 : ((s[k].toNat : Int) == 12) = true := byte_yes (n := 12) (by omega) hx
          have HE := Lib.hid (H (decide (0 < cnt)) best)
          clear h H hx
          by_cases hc : cnt = 0
          · subst hc
            go_wp2_with fail
            go_round
            case rel => exact ⟨k + 1, k + 1, 0, by omega, by omega, by omega, by go_num, by go_num, rfl, Lib.hid (by have h1 := HL.out; rw [HE.out] at h1; exact h1)⟩
            case measure => simp [intOf]; omega
          · have hc1 : ((cnt : Int) == 0) = false := by simp; omega
            have HC := Lib.hid hc
            clear hc
            go_wp2_with fail
            go_round
            case rel => exact ⟨k + 1, k + 1, 0, by omega, by omega, by omega, by go_num, by go_num, rfl, Lib.hid (by have h1 := HL.out; rw [HE.out] at h1; exact h1)⟩
            case measure => simp [intOf]; omega
      · have HE := Lib.hid (lcAt_end fe s k (rawAt fe s k) (decide (0 < cnt)) best hlt)
        go_wp2_with fail
        go_ret
        exact ⟨ret_int (by rw [← HL.out, HE.out]), B2.out⟩
end Go.Proofs.YtooanejiadbngaaGreatDoor
