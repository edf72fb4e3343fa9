/- The program's Filling. -/
import Derived.Test.YtooanejiadbngaaGreatDoorImplRound
import Derived.Test.YtooanejiadbngaaGreatDoorShelf
namespace Go.Proofs.YtooanejiadbngaaGreatDoor
open Go.RowKit
set_option linter.unusedVariables false

theorem repeatL_one (b : UInt8) (k : Nat) : (⟨(Lib.repeatL (⟨#[b]⟩ : ByteArray).data.toList k).toArray⟩ : ByteArray) = copies b k := by
  have e : ∀ j, Lib.repeatL [b] j = List.replicate j b := by
    intro j
    induction j with
    | zero => rfl
    | succ j ih => show [b] ++ Lib.repeatL [b] j = _; rw [ih]; rfl
  unfold copies
  rw [← e k]
theorem repeat_byte (b : UInt8) (k : Nat) (w : World) (h : k ≤ 1000000) :
    Calls Tryz.prog 72 #[.string ⟨#[b]⟩, .int .i64 (k : Int)] w fun e w' => e = .returned (.string (copies b k)) ∧ Below w.heap.size w w' := by
  have := Tryz.strings_Repeat ⟨#[b]⟩ k w (by omega) (by show 1 * k ≤ _; omega)
  rw [repeatL_one] at this
  exact this
theorem encode_ascii (d : Int) (h0 : 0 ≤ d) (h1 : d ≤ 127) : Utf8.encode d = ⟨#[UInt8.ofNat d.toNat]⟩ := by
  obtain ⟨n, rfl⟩ := Int.eq_ofNat_of_zero_le h0
  have hv : Utf8.valid (n : Int) = true := by
    unfold Utf8.valid
    simp only [Bool.or_eq_true, Bool.and_eq_true, decide_eq_true_iff]
    omega
  unfold Utf8.encode
  rw [if_pos hv, Int.toNat_natCast]
  exact if_pos (by omega)
set_option maxRecDepth 100000 in
set_option maxHeartbeats 2000000 in
theorem implFilled (c : Cfg) (n : Int) (w : World) (hv1 : validC c = true) (h0 : 0 ≤ n) (h1 : n ≤ 200000) :
    Calls Tryz.prog 60 #[.agg (cfgV c), .int .i64 n] w fun e w' => e = .returned (.string (fillW c n)) ∧ Below w.heap.size w w' := by
  have HT := Lib.hid (fun W => implTabsFor c n W hv1 h0 h1)
  have ht := (validC_iff c).1 hv1
  by_cases h9 : c.cpad = 9
  · rw [fillW_tab c n h9]
    have e9 : (c.cpad == 9) = true := by simp [h9]
    clear hv1 h9
    obtain ⟨m, t, p, d, fr, fd, fl, fe, fm⟩ := c
    unfold cfgV at HT ⊢
    simp only at HT ht e9 ⊢
    have ht1 : 1 ≤ t := by omega
    have ht2 : t ≤ 32 := by omega
    clear ht
    obtain ⟨b1, b2, b3, b4⟩ := tabs_far n t h0 h1 ht1 ht2
    have hF := fun W => repeat_byte 9 ((n + t - 1) / t).toNat W (by omega)
    rw [show ((((n + t - 1) / t).toNat : Nat) : Int) = (n + t - 1) / t by omega] at hF
    generalize copies 9 ((n + t - 1) / t).toNat = z at hF ⊢
    have HF := Lib.hid hF
    clear hF
    go_enter Tryz.func60, Tryz.ntmps60
    go_wp2_with fail
    refine (HT.out _).mono ?_
    rintro e w1 ⟨rfl, hb1⟩
    have B1 := Lib.hid ((by go_grown : Below w.heap.size w (w.alloc _)).trans (hb1.mono (by simp)))
    clear hb1
    go_wp2_with fail
    refine (HF.out _).mono ?_
    rintro e w3 ⟨rfl, hb3⟩
    have B3 := Lib.hid (B1.out.trans (hb3.mono B1.out.size))
    clear hb3
    go_wp2_with fail
    go_ret
    exact ⟨rfl, B3.out⟩
  · rw [fillW_other c n h9]
    have e9 : (c.cpad == 9) = false := by simp [h9]
    clear hv1 HT
    obtain ⟨m, t, p, d, fr, fd, fl, fe, fm⟩ := c
    unfold cfgV
    simp only at ht e9 h9 ⊢
    have hd1 : 32 ≤ d := by omega
    have hd2 : d ≤ 126 := by omega
    clear ht h9
    have hF := fun W => repeat_byte (UInt8.ofNat d.toNat) n.toNat W (by omega)
    rw [show ((n.toNat : Nat) : Int) = n by omega, ← encode_ascii d (by omega) (by omega)] at hF
    generalize copies (UInt8.ofNat d.toNat) n.toNat = z at hF ⊢
    have HF := Lib.hid hF
    clear hF
    go_enter Tryz.func60, Tryz.ntmps60
    go_wp2_with fail
    refine (HF.out _).mono ?_
    rintro e w2 ⟨rfl, hb2⟩
    have B2 := Lib.hid ((by go_grown : Below w.heap.size w (w.alloc _)).trans (hb2.mono (by simp)))
    clear hb2
    go_wp2_with fail
    go_ret
    exact ⟨rfl, B2.out⟩
end Go.Proofs.YtooanejiadbngaaGreatDoor
