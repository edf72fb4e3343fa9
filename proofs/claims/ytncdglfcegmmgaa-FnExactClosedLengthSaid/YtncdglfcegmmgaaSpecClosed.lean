/- ClosedLength: the model's. -/
import Derived.Test.YtncdglfcegmmgaaLay
import Derived.Test.YtncdglfcegmmgaaSpecCfg
namespace Go.Proofs.Ytncdglfcegmmgaa
open Go.RowKit
set_option linter.unusedVariables false

/-- What ClosedLength answers. -/
def closedB (c : Cfg) (s : ByteArray) : Int := if validC c = true then (lc c.fe s.data.toList false false : Int) else 0
theorem closedB_no {c : Cfg} (s : ByteArray) (h : validC c = false) : closedB c s = 0 := if_neg (by rw [h]; decide)
theorem closedB_yes {c : Cfg} (s : ByteArray) (h : validC c = true) : closedB c s = (lc c.fe s.data.toList false false : Int) := if_pos h
theorem drop_cons (s : ByteArray) (k : Nat) (h : k < s.size) : s.data.toList.drop k = s[k] :: s.data.toList.drop (k + 1) := List.drop_eq_getElem_cons (l := s.data.toList) h
theorem byte_yes {x : UInt8} {n : Nat} (hn : n < 256) (h : x = UInt8.ofNat n) : ((x.toNat : Int) == (n : Int)) = true := by
  subst h
  rw [UInt8.toNat_ofNat']
  simp
  omega
theorem byte_no {x : UInt8} {n : Nat} (hn : n < 256) (h : x ≠ UInt8.ofNat n) : ((x.toNat : Int) == (n : Int)) = false := by
  have : x.toNat ≠ n := fun e => h (UInt8.toNat_inj.1 (by rw [e, UInt8.toNat_ofNat']; omega))
  simp; omega
/-- The loop's value from index k on. -/
def lcAt (esc : Bool) (s : ByteArray) (k : Nat) (raw cs : Bool) (best : Nat) : Nat := lcGo esc (s.data.toList.drop k) raw cs k best
theorem lcAt_zero (esc : Bool) (s : ByteArray) : lcAt esc s 0 false false 0 = lc esc s.data.toList false false := by
  unfold lcAt
  rw [List.drop_zero, lcGo_eq]
  split
  · next h => exact h.symm
  · omega
theorem lcAt_end (esc : Bool) (s : ByteArray) (k : Nat) (raw cs : Bool) (best : Nat) (h : ¬ k < s.size) : lcAt esc s k raw cs best = best := by
  unfold lcAt
  rw [List.drop_of_length_le (by rw [bytes_length]; omega)]; rfl
theorem lcAt_esc (s : ByteArray) (k : Nat) (raw cs : Bool) (best : Nat) (h : k < s.size) (hx : s[k] = 255) : lcAt true s k raw cs best = lcAt true s (k + 1) (!raw) cs best := by
  unfold lcAt
  rw [drop_cons s k h, lcGo, if_pos (by simp [hx])]
theorem lcAt_tab (esc : Bool) (s : ByteArray) (k : Nat) (cs : Bool) (best : Nat) (h : k < s.size) (hx : s[k] = 9) : lcAt esc s k false cs best = lcAt esc s (k + 1) false true best := by
  unfold lcAt
  rw [drop_cons s k h, lcGo, if_neg (by simp [hx]), if_pos (by simp [hx])]
theorem lcAt_end10 (esc : Bool) (s : ByteArray) (k : Nat) (cs : Bool) (best : Nat) (h : k < s.size) (hx : s[k] = 10) : lcAt esc s k false cs best = lcAt esc s (k + 1) false false (if cs = true then best else k + 1) := by
  unfold lcAt
  rw [drop_cons s k h, lcGo, if_neg (by simp [hx]), if_neg (by simp [hx]), if_pos (by simp [hx])]
  cases cs <;> simp [hx]
theorem lcAt_end12 (esc : Bool) (s : ByteArray) (k : Nat) (cs : Bool) (best : Nat) (h : k < s.size) (hx : s[k] = 12) : lcAt esc s k false cs best = lcAt esc s (k + 1) false false (k + 1) := by
  unfold lcAt
  rw [drop_cons s k h, lcGo, if_neg (by simp [hx]), if_neg (by simp [hx]), if_pos (by simp [hx])]
  cases cs <;> simp [hx]
theorem lcAt_raw (esc : Bool) (s : ByteArray) (k : Nat) (cs : Bool) (best : Nat) (h : k < s.size) (hx : esc = false ∨ s[k] ≠ 255) : lcAt esc s k true cs best = lcAt esc s (k + 1) true cs best := by
  unfold lcAt
  rw [drop_cons s k h, lcGo, if_neg (by rcases hx with h | h <;> simp [h]), if_neg (by simp), if_neg (by simp)]
theorem lcAt_else (esc : Bool) (s : ByteArray) (k : Nat) (cs : Bool) (best : Nat) (h : k < s.size) (hx : esc = false ∨ s[k] ≠ 255) (h9 : s[k] ≠ 9) (h10 : s[k] ≠ 10) (h12 : s[k] ≠ 12) : lcAt esc s k false cs best = lcAt esc s (k + 1) false cs best := by
  unfold lcAt
  rw [drop_cons s k h, lcGo, if_neg (by rcases hx with h | h <;> simp [h]), if_neg (by simp [h9]), if_neg (by simp [h10, h12])]
set_option maxRecDepth 100000 in
set_option maxHeartbeats 4000000 in
theorem specClosed0 (c : Cfg) (s : ByteArray) (w : World) (hs : s.size ≤ 1048576) :
    Calls Try.prog 24 #[.agg (cfgV c), .string s] w fun e w' => e = .returned (.int .i64 (lc c.fe s.data.toList false false : Int)) ∧ Below w.heap.size w w' := by
  have h0 := Lib.hid (lcAt_zero c.fe s)
  obtain ⟨z, hz⟩ : ∃ z, z = lc c.fe s.data.toList false false := ⟨_, rfl⟩
  rw [← hz] at h0 ⊢
  clear hz
  obtain ⟨m, t, p, d, fr, fd, fl, fe, fm⟩ := c
  unfold cfgV
  simp only at h0 ⊢
  go_enter Try.func24, Try.ntmps24
  go_wp2
  go_loop [5, 6, 7, 8] (fun b r cl i => ∃ (k best : Nat) (raw cs : Bool), k ≤ s.size ∧ best ≤ 1048576 ∧ i = .int .i64 (k : Int) ∧ b = .int .i64 (best : Int) ∧ r = .bool raw ∧ cl = .bool cs ∧ Hid (lcAt fe s k raw cs best = z)) (fun _ _ _ i => s.size - (intOf i).toNat)
  case atStart => exact ⟨0, 0, false, false, Nat.zero_le _, Nat.zero_le _, rfl, rfl, rfl, rfl, h0⟩
  case round =>
    obtain ⟨k, best, raw, cs, hk, hbest, rfl, rfl, rfl, rfl, HL⟩ := hrel
    by_cases hlt : k < s.size
    · have HX := Lib.hid (rfl : s[k] = s[k])
      cases fe with
      | true =>
        by_cases h255 : s[k] = 255
        · have e255 : ((s[k].toNat : Int) == 255) = true := byte_yes (n := 255) (by omega) h255
          have HE := Lib.hid (lcAt_esc s k raw cs best hlt h255)
          clear h255 HX
          cases raw with
          | true =>
            go_wp2
            go_round
            case rel => exact ⟨k + 1, best, false, cs, by omega, hbest, by go_num, rfl, rfl, rfl, Lib.hid (by have h1 := HL.out; rw [HE.out] at h1; exact h1)⟩
            case measure => simp [intOf]; omega
          | false =>
            go_wp2
            go_round
            case rel => exact ⟨k + 1, best, true, cs, by omega, hbest, by go_num, rfl, rfl, rfl, Lib.hid (by have h1 := HL.out; rw [HE.out] at h1; exact h1)⟩
            case measure => simp [intOf]; omega
        · have e255 : ((s[k].toNat : Int) == 255) = false := byte_no (n := 255) (by omega) h255
          have H255 := Lib.hid h255
          clear h255
          cases raw with
          | true =>
            have HE := Lib.hid (lcAt_raw true s k cs best hlt (.inr H255.out))
            clear HX
            go_wp2
            go_round
            case rel => exact ⟨k + 1, best, true, cs, by omega, hbest, by go_num, rfl, rfl, rfl, Lib.hid (by have h1 := HL.out; rw [HE.out] at h1; exact h1)⟩
            case measure => simp [intOf]; omega
          | false =>
            by_cases h9 : s[k] = 9
            · have e9 : ((s[k].toNat : Int) == 9) = true := byte_yes (n := 9) (by omega) h9
              have HE := Lib.hid (lcAt_tab true s k cs best hlt h9)
              clear h9
              go_wp2
              go_round
              case rel => exact ⟨k + 1, best, false, true, by omega, hbest, by go_num, rfl, rfl, rfl, Lib.hid (by have h1 := HL.out; rw [HE.out] at h1; exact h1)⟩
              case measure => simp [intOf]; omega
            · have e9 : ((s[k].toNat : Int) == 9) = false := byte_no (n := 9) (by omega) h9
              by_cases h10 : s[k] = 10
              · have e10 : ((s[k].toNat : Int) == 10) = true := byte_yes (n := 10) (by omega) h10
                have e12 : ((s[k].toNat : Int) == 12) = false := byte_no (n := 12) (by omega) (by rw [h10]; decide)
                have HE := Lib.hid (lcAt_end10 true s k cs best hlt h10)
                clear h9 h10
                cases cs with
                | true =>
                  go_wp2
                  go_round
                  case rel => exact ⟨k + 1, best, false, false, by omega, hbest, by go_num, rfl, rfl, rfl, Lib.hid (by have h1 := HL.out; rw [HE.out] at h1; exact h1)⟩
                  case measure => simp [intOf]; omega
                | false =>
                  go_wp2
                  go_round
                  case rel => exact ⟨k + 1, k + 1, false, false, by omega, by omega, by go_num, by go_num, rfl, rfl, Lib.hid (by have h1 := HL.out; rw [HE.out] at h1; exact h1)⟩
                  case measure => simp [intOf]; omega
              · have e10 : ((s[k].toNat : Int) == 10) = false := byte_no (n := 10) (by omega) h10
                by_cases h12 : s[k] = 12
                · have e12 : ((s[k].toNat : Int) == 12) = true := byte_yes (n := 12) (by omega) h12
                  have HE := Lib.hid (lcAt_end12 true s k cs best hlt h12)
                  clear h9 h10 h12
                  cases cs with
                  | true =>
                    go_wp2
                    go_round
                    case rel => exact ⟨k + 1, k + 1, false, false, by omega, by omega, by go_num, by go_num, rfl, rfl, Lib.hid (by have h1 := HL.out; rw [HE.out] at h1; exact h1)⟩
                    case measure => simp [intOf]; omega
                  | false =>
                    go_wp2
                    go_round
                    case rel => exact ⟨k + 1, k + 1, false, false, by omega, by omega, by go_num, by go_num, rfl, rfl, Lib.hid (by have h1 := HL.out; rw [HE.out] at h1; exact h1)⟩
                    case measure => simp [intOf]; omega
                · have e12 : ((s[k].toNat : Int) == 12) = false := byte_no (n := 12) (by omega) h12
                  have HE := Lib.hid (lcAt_else true s k cs best hlt (.inr H255.out) h9 h10 h12)
                  clear h9 h10 h12
                  go_wp2
                  go_round
                  case rel => exact ⟨k + 1, best, false, cs, by omega, hbest, by go_num, rfl, rfl, rfl, Lib.hid (by have h1 := HL.out; rw [HE.out] at h1; exact h1)⟩
                  case measure => simp [intOf]; omega
      | false =>
        cases raw with
        | true =>
          have HE := Lib.hid (lcAt_raw false s k cs best hlt (.inl rfl))
          clear HX
          go_wp2
          go_round
          case rel => exact ⟨k + 1, best, true, cs, by omega, hbest, by go_num, rfl, rfl, rfl, Lib.hid (by have h1 := HL.out; rw [HE.out] at h1; exact h1)⟩
          case measure => simp [intOf]; omega
        | false =>
          by_cases h9 : s[k] = 9
          · have e9 : ((s[k].toNat : Int) == 9) = true := byte_yes (n := 9) (by omega) h9
            have HE := Lib.hid (lcAt_tab false s k cs best hlt h9)
            clear h9
            go_wp2
            go_round
            case rel => exact ⟨k + 1, best, false, true, by omega, hbest, by go_num, rfl, rfl, rfl, Lib.hid (by have h1 := HL.out; rw [HE.out] at h1; exact h1)⟩
            case measure => simp [intOf]; omega
          · have e9 : ((s[k].toNat : Int) == 9) = false := byte_no (n := 9) (by omega) h9
            by_cases h10 : s[k] = 10
            · have e10 : ((s[k].toNat : Int) == 10) = true := byte_yes (n := 10) (by omega) h10
              have e12 : ((s[k].toNat : Int) == 12) = false := byte_no (n := 12) (by omega) (by rw [h10]; decide)
              have HE := Lib.hid (lcAt_end10 false s k cs best hlt h10)
              clear h9 h10
              cases cs with
              | true =>
                go_wp2
                go_round
                case rel => exact ⟨k + 1, best, false, false, by omega, hbest, by go_num, rfl, rfl, rfl, Lib.hid (by have h1 := HL.out; rw [HE.out] at h1; exact h1)⟩
                case measure => simp [intOf]; omega
              | false =>
                go_wp2
                go_round
                case rel => exact ⟨k + 1, k + 1, false, false, by omega, by omega, by go_num, by go_num, rfl, rfl, Lib.hid (by have h1 := HL.out; rw [HE.out] at h1; exact h1)⟩
                case measure => simp [intOf]; omega
            · have e10 : ((s[k].toNat : Int) == 10) = false := byte_no (n := 10) (by omega) h10
              by_cases h12 : s[k] = 12
              · have e12 : ((s[k].toNat : Int) == 12) = true := byte_yes (n := 12) (by omega) h12
                have HE := Lib.hid (lcAt_end12 false s k cs best hlt h12)
                clear h9 h10 h12
                cases cs with
                | true =>
                  go_wp2
                  go_round
                  case rel => exact ⟨k + 1, k + 1, false, false, by omega, by omega, by go_num, by go_num, rfl, rfl, Lib.hid (by have h1 := HL.out; rw [HE.out] at h1; exact h1)⟩
                  case measure => simp [intOf]; omega
                | false =>
                  go_wp2
                  go_round
                  case rel => exact ⟨k + 1, k + 1, false, false, by omega, by omega, by go_num, by go_num, rfl, rfl, Lib.hid (by have h1 := HL.out; rw [HE.out] at h1; exact h1)⟩
                  case measure => simp [intOf]; omega
              · have e12 : ((s[k].toNat : Int) == 12) = false := byte_no (n := 12) (by omega) h12
                have HE := Lib.hid (lcAt_else false s k cs best hlt (.inl rfl) h9 h10 h12)
                clear h9 h10 h12
                go_wp2
                go_round
                case rel => exact ⟨k + 1, best, false, cs, by omega, hbest, by go_num, rfl, rfl, rfl, Lib.hid (by have h1 := HL.out; rw [HE.out] at h1; exact h1)⟩
                case measure => simp [intOf]; omega
    · have HE := Lib.hid (lcAt_end fe s k raw cs best hlt)
      go_wp2
      go_ret
      exact ⟨ret_int (by rw [← HL.out, HE.out]), by go_grown⟩
set_option maxRecDepth 100000 in
set_option maxHeartbeats 1000000 in
theorem specClosedLength (c : Cfg) (s : ByteArray) (w : World) (hs : s.size ≤ 1048576) :
    Calls Try.prog 12 #[.agg (cfgV c), .string s] w fun e w' => e = .returned (.int .i64 (closedB c s)) ∧ Below w.heap.size w w' := by
  have hS := fun W => specIsConfig c W
  cases hv : validC c with
  | false =>
    rw [closedB_no s hv]
    rw [hv] at hS
    have HS := Lib.hid hS
    clear hS hv
    obtain ⟨m, t, p, d, fr, fd, fl, fe, fm⟩ := c
    unfold cfgV at HS ⊢
    simp only at HS ⊢
    go_enter Try.func12, Try.ntmps12
    go_wp2_with fail
    refine (HS.out _).mono ?_
    rintro e w1 ⟨rfl, hb1⟩
    have B1 := Lib.hid ((by go_grown : Below w.heap.size w (w.alloc _)).trans (hb1.mono (by simp)))
    clear hb1
    go_wp2_with fail
    go_ret
    exact ⟨rfl, B1.out⟩
  | true =>
    rw [closedB_yes s hv]
    rw [hv] at hS
    have HS := Lib.hid hS
    have HR := Lib.hid (fun W => specClosed0 c s W hs)
    clear hS hv
    generalize (lc c.fe s.data.toList false false : Int) = z at HR ⊢
    obtain ⟨m, t, p, d, fr, fd, fl, fe, fm⟩ := c
    unfold cfgV at HS HR ⊢
    simp only at HS HR ⊢
    go_enter Try.func12, Try.ntmps12
    go_wp2_with fail
    refine (HS.out _).mono ?_
    rintro e w1 ⟨rfl, hb1⟩
    have hbx := (Boxed.new w 27 m t p d fr fd fl fe fm).below hb1 (by simp)
    have B1 := Lib.hid ((by go_grown : Below w.heap.size w (w.alloc _)).trans (hb1.mono (by simp)))
    clear hb1
    obtain ⟨c0, c1, c2, c3, c4, c5, c6, c7, c8⟩ := hbx
    go_wp2_with fail
    refine (HR.out _).mono ?_
    rintro e w2 ⟨rfl, hb2⟩
    have B2 := Lib.hid (B1.out.trans (hb2.mono B1.out.size))
    clear hb2
    go_wp2_with fail
    go_ret
    exact ⟨rfl, B2.out⟩
end Go.Proofs.Ytncdglfcegmmgaa
