/- The model's filling, without its limit; a cell's bytes. -/
import Derived.Test.YtjdbkpckhgncbaaBB
import Derived.Test.YtjdbkpckhgncbaaLayLen
namespace Go.Proofs.Ytjdbkpckhgncbaa
open Go.RowKit
set_option linter.unusedVariables false

set_option maxRecDepth 100000 in
set_option maxHeartbeats 1000000 in
theorem specFillW (c : Cfg) (n : Int) (w : World) (hv : validC c = true) (h0 : 0 ≤ n) (h1 : n ≤ 900000) :
    Calls Try.prog 23 #[.agg (cfgV c), .int .i64 n] w fun e w' => e = .returned (.string (fillW c n)) ∧ Below w.heap.size w w' := by
  have ht := (validC_iff c).1 hv
  by_cases h9 : c.cpad = 9
  · rw [fillW_tab c n h9]
    have e9 : (c.cpad == 9) = true := by simp [h9]
    clear h9 hv
    obtain ⟨m, t, p, d, fr, fd, fl, fe, fm⟩ := c
    simp only at ht e9 ⊢
    have ht1 : 1 ≤ t := by omega
    have ht2 : t ≤ 32 := by omega
    clear ht
    unfold cfgV
    obtain ⟨b1, b2, b3, b4⟩ := tabs_gen n t h0 ht1 ht2
    have hF := fun W => l02Fill_byte 9 ((n + t - 1) / t).toNat W (by omega)
    rw [show ((((n + t - 1) / t).toNat : Nat) : Int) = (n + t - 1) / t by omega] at hF
    generalize copies 9 ((n + t - 1) / t).toNat = z at hF ⊢
    have HF := Lib.hid hF
    clear hF
    go_enter Try.func23, Try.ntmps23
    go_wp2_with fail
    refine (HF.out _).mono ?_
    rintro e w1 ⟨rfl, hb1⟩
    have B1 := Lib.hid ((by go_grown : Below w.heap.size w (w.alloc _)).trans (hb1.mono (by simp)))
    clear hb1
    go_wp2_with fail
    go_ret
    exact ⟨rfl, B1.out⟩
  · rw [fillW_other c n h9]
    have e9 : (c.cpad == 9) = false := by simp [h9]
    obtain ⟨m, t, p, d, fr, fd, fl, fe, fm⟩ := c
    simp only at ht e9 h9 ⊢
    have hd1 : 32 ≤ d := by omega
    have hd2 : d ≤ 126 := by omega
    clear ht h9 hv
    unfold cfgV
    have hF := fun W => l02Fill_byte (UInt8.ofNat d.toNat) n.toNat W (by omega)
    rw [show ((n.toNat : Nat) : Int) = n by omega] at hF
    have hcv := byteStrF (w.alloc (.cells #[.int .i64 m, .int .i64 t, .int .i64 p, .int .i64 d, .bool fr, .bool fd, .bool fl, .bool fe, .bool fm] 25)) d (by omega) (by omega)
    rw [show (w.alloc (.cells #[.int .i64 m, .int .i64 t, .int .i64 p, .int .i64 d, .bool fr, .bool fd, .bool fl, .bool fe, .bool fm] 25)).heap.size = w.heap.size + 1 by simp] at hcv
    generalize copies (UInt8.ofNat d.toNat) n.toNat = z at hF ⊢
    obtain ⟨x, hx⟩ : ∃ x : ByteArray, x = ⟨#[UInt8.ofNat d.toNat]⟩ := ⟨_, rfl⟩
    rw [← hx] at hF hcv
    have HF := Lib.hid hF
    clear hF hx
    go_enter Try.func23, Try.ntmps23
    go_wp2_with fail
    refine (HF.out _).mono ?_
    rintro e w1 ⟨rfl, hb1⟩
    have B1 := Lib.hid ((by go_grown : Below w.heap.size w ((w.alloc _).alloc _)).trans (hb1.mono (by simp; omega)))
    clear hb1
    go_wp2_with fail
    go_ret
    exact ⟨rfl, B1.out⟩
end Go.Proofs.Ytjdbkpckhgncbaa
