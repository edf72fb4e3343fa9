/- The program's splitter: the role of each byte of a text. -/
import Derived.Test.YtncdglfcegmmgaaDoorSpecClosed
import Derived.Test.YtncdglfcegmmgaaDoorLnMem
import Derived.Deep.RegionHeld3
namespace Go.Proofs.YtncdglfcegmmgaaDoor
open Go.RowKit
set_option linter.unusedVariables false

/-- The role of a byte: 0 text, 1 an escape, 2 the end of a cell, 3 the end of a line. -/
def roleN (esc raw : Bool) (x : UInt8) : Int :=
  if (esc && decide (x = 255)) = true then 1
  else if (!raw && decide (x = 9)) = true then 2
  else if (!raw && (decide (x = 10) || decide (x = 12))) = true then 3
  else 0
/-- Are we in escaped text behind it? -/
def nextRaw (esc raw : Bool) (x : UInt8) : Bool := if (esc && decide (x = 255)) = true then !raw else raw
def rawAt (esc : Bool) (s : ByteArray) (k : Nat) : Bool := (s.data.toList.take k).foldl (nextRaw esc) false
theorem rawAt_zero (esc : Bool) (s : ByteArray) : rawAt esc s 0 = false := rfl
theorem rawAt_succ (esc : Bool) (s : ByteArray) (k : Nat) (h : k < s.size) : rawAt esc s (k + 1) = nextRaw esc (rawAt esc s k) s[k] := by
  unfold rawAt
  rw [take_snoc s k h, List.foldl_append]; rfl
theorem rawAt_no (s : ByteArray) (k : Nat) : rawAt false s k = false := by
  unfold rawAt
  generalize s.data.toList.take k = l
  induction l with
  | nil => rfl
  | cons x r ih => simpa [nextRaw] using ih
def roleAt (esc : Bool) (s : ByteArray) (k : Nat) : Int := if h : k < s.size then roleN esc (rawAt esc s k) s[k] else 0
theorem roleAt_lt (esc : Bool) (s : ByteArray) (k : Nat) (h : k < s.size) : roleAt esc s k = roleN esc (rawAt esc s k) s[k] := dif_pos h
/-- The state that reads the next byte: a function of the program. -/
def stateV (raw : Bool) : Value := .func (.func (if raw = true then 56 else 43)) #[] #[]
theorem stateV_f : stateV false = .func (.func 43) #[] #[] := rfl
theorem stateV_t : stateV true = .func (.func 56) #[] #[] := rfl
set_option maxRecDepth 100000 in
theorem isLineEnd_any (x : UInt8) (w : World) :
    Calls Tryd.prog 57 #[.int .u8 (x.toNat : Int)] w fun e w' => e = .returned (.bool (decide (x = 10) || decide (x = 12))) ∧ w = w' := by
  by_cases h10 : x = 10
  · have e10 : ((x.toNat : Int) == 10) = true := byte_yes (n := 10) (by omega) h10
    have HE := Lib.hid (show (decide (x = 10) || decide (x = 12)) = true by simp [h10])
    clear h10
    go_enter Tryd.func57, Tryd.ntmps57
    go_wp2
    go_ret
    exact ⟨ret_bool HE.out.symm, rfl⟩
  · have e10 : ((x.toNat : Int) == 10) = false := byte_no (n := 10) (by omega) h10
    by_cases h12 : x = 12
    · have e12 : ((x.toNat : Int) == 12) = true := byte_yes (n := 12) (by omega) h12
      have HE := Lib.hid (show (decide (x = 10) || decide (x = 12)) = true by simp [h12])
      clear h10 h12
      go_enter Tryd.func57, Tryd.ntmps57
      go_wp2
      go_ret
      exact ⟨ret_bool HE.out.symm, rfl⟩
    · have e12 : ((x.toNat : Int) == 12) = false := byte_no (n := 12) (by omega) h12
      have HE := Lib.hid (show (decide (x = 10) || decide (x = 12)) = false by simp [h10, h12])
      clear h10 h12
      go_enter Tryd.func57, Tryd.ntmps57
      go_wp2
      go_ret
      exact ⟨ret_bool HE.out.symm, rfl⟩
set_option maxRecDepth 100000 in
set_option maxHeartbeats 1000000 in
theorem readEscaped_any (c : Cfg) (x : UInt8) (w : World) (hf : c.fe = true) :
    Calls Tryd.prog 56 #[.agg (cfgV c), .int .u8 (x.toNat : Int)] w fun e w' => e = .returned (.tuple #[.int .i8 (roleN c.fe true x), stateV (nextRaw c.fe true x)]) ∧ Below w.heap.size w w' := by
  rw [hf]
  clear hf
  obtain ⟨m, t, p, d, fr, fd, fl, fe, fm⟩ := c
  unfold cfgV
  simp only
  by_cases h : x = 255
  · have e255 : ((x.toNat : Int) == 255) = true := byte_yes (n := 255) (by omega) h
    have HE : Hid (roleN true true x = 1 ∧ nextRaw true true x = false) := Lib.hid (by simp [roleN, nextRaw, h])
    clear h
    rw [HE.out.1, HE.out.2, stateV_f]
    go_enter Tryd.func56, Tryd.ntmps56
    go_wp2
    go_ret2
    exact ⟨rfl, by go_grown⟩
  · have e255 : ((x.toNat : Int) == 255) = false := byte_no (n := 255) (by omega) h
    have HE : Hid (roleN true true x = 0 ∧ nextRaw true true x = true) := Lib.hid (by simp [roleN, nextRaw, h])
    clear h
    rw [HE.out.1, HE.out.2, stateV_t]
    go_enter Tryd.func56, Tryd.ntmps56
    go_wp2
    go_ret2
    exact ⟨rfl, by go_grown⟩
set_option maxRecDepth 100000 in
set_option maxHeartbeats 1000000 in
theorem readOrdinary_rest (c : Cfg) (x : UInt8) (w : World) (hx : c.fe = false ∨ x ≠ 255) :
    Calls Tryd.prog 43 #[.agg (cfgV c), .int .u8 (x.toNat : Int)] w fun e w' => e = .returned (.tuple #[.int .i8 (roleN c.fe false x), stateV (nextRaw c.fe false x)]) ∧ Below w.heap.size w w' := by
  have hn : nextRaw c.fe false x = false := by unfold nextRaw; rw [if_neg (by rcases hx with h | h <;> simp [h])]
  have hr : roleN c.fe false x = if (decide (x = 9)) = true then 2 else if (decide (x = 10) || decide (x = 12)) = true then 3 else 0 := by
    unfold roleN
    rw [if_neg (by rcases hx with h | h <;> simp [h])]
    simp
  rw [hn, hr, stateV_f]
  have HL := Lib.hid (fun W => isLineEnd_any x W)
  have HX := Lib.hid hx
  obtain ⟨m, t, p, d, fr, fd, fl, fe, fm⟩ := c
  unfold cfgV
  simp only at HX ⊢
  clear hn hr hx
  by_cases h255 : x = 255
  · have e255 : ((x.toNat : Int) == 255) = true := byte_yes (n := 255) (by omega) h255
    have e9 : ((x.toNat : Int) == 9) = false := byte_no (n := 9) (by omega) (by rw [h255]; decide)
    have hl : (decide (x = 10) || decide (x = 12)) = false := by rw [h255]; decide
    have h9 : ¬ (decide (x = 9)) = true := by rw [h255]; decide
    rw [if_neg h9, if_neg (by rw [hl]; decide)]
    rw [hl] at HL
    obtain rfl : fe = false := by
      rcases HX.out with h | h
      · exact h
      · exact absurd h255 h
    clear h255 hl h9 HX
    go_enter Tryd.func43, Tryd.ntmps43
    go_wp2_with (go_at_call 57; refine (HL.out _).mono ?_; rintro e w1 ⟨rfl, rfl⟩)
    go_ret2
    exact ⟨rfl, by go_grown⟩
  · have e255 : ((x.toNat : Int) == 255) = false := byte_no (n := 255) (by omega) h255
    clear h255 HX
    by_cases h9 : x = 9
    · have e9 : ((x.toNat : Int) == 9) = true := byte_yes (n := 9) (by omega) h9
      rw [if_pos (by simp [h9])]
      clear h9
      go_enter Tryd.func43, Tryd.ntmps43
      go_wp2
      go_ret2
      exact ⟨rfl, by go_grown⟩
    · have e9 : ((x.toNat : Int) == 9) = false := byte_no (n := 9) (by omega) h9
      rw [if_neg (by simp [h9])]
      clear h9
      generalize (decide (x = 10) || decide (x = 12)) = y at HL ⊢
      cases y with
      | true =>
        rw [if_pos rfl]
        go_enter Tryd.func43, Tryd.ntmps43
        go_wp2_with (go_at_call 57; refine (HL.out _).mono ?_; rintro e w1 ⟨rfl, rfl⟩)
        go_ret2
        exact ⟨rfl, by go_grown⟩
      | false =>
        rw [if_neg (by decide)]
        go_enter Tryd.func43, Tryd.ntmps43
        go_wp2_with (go_at_call 57; refine (HL.out _).mono ?_; rintro e w1 ⟨rfl, rfl⟩)
        go_ret2
        exact ⟨rfl, by go_grown⟩
set_option maxRecDepth 100000 in
set_option maxHeartbeats 1000000 in
theorem readOrdinary_any (c : Cfg) (x : UInt8) (w : World) :
    Calls Tryd.prog 43 #[.agg (cfgV c), .int .u8 (x.toNat : Int)] w fun e w' => e = .returned (.tuple #[.int .i8 (roleN c.fe false x), stateV (nextRaw c.fe false x)]) ∧ Below w.heap.size w w' := by
  by_cases hx : c.fe = false ∨ x ≠ 255
  · exact readOrdinary_rest c x w hx
  · have hf : c.fe = true := by cases h : c.fe with | true => rfl | false => exact absurd (.inl h) hx
    have h255 : x = 255 := Classical.byContradiction fun h => hx (.inr h)
    rw [hf]
    have HE : Hid (roleN true false x = 1 ∧ nextRaw true false x = true) := Lib.hid (by simp [roleN, nextRaw, h255])
    rw [HE.out.1, HE.out.2, stateV_t]
    have e255 : ((x.toNat : Int) == 255) = true := byte_yes (n := 255) (by omega) h255
    obtain ⟨m, t, p, d, fr, fd, fl, fe, fm⟩ := c
    unfold cfgV
    simp only at hf ⊢
    subst hf
    clear h255 hx
    go_enter Tryd.func43, Tryd.ntmps43
    go_wp2
    go_ret2
    exact ⟨rfl, by go_grown⟩
end Go.Proofs.YtncdglfcegmmgaaDoor
