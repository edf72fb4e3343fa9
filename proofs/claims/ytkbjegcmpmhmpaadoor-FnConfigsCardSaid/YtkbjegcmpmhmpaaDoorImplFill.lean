/- The program's RoundWidth and Filling. -/
import Derived.Test.YtkbjegcmpmhmpaaDoorImplCfg
import Derived.Test.YtkbjegcmpmhmpaaDoorSpecFill
import Derived.Test.YtkbjegcmpmhmpaaDoorShelf
namespace Go.Proofs.YtkbjegcmpmhmpaaDoor
open Go.RowKit
set_option linter.unusedVariables false

def canB (c : Cfg) (n : Int) : Bool := validC c && decide (0 ≤ n) && decide (n ≤ 100000)
theorem canB_iff (c : Cfg) (n : Int) : canB c n = true ↔ validC c = true ∧ 0 ≤ n ∧ n ≤ 100000 := by
  unfold canB; simp [and_assoc]
theorem canB_no {c : Cfg} {n : Int} (h : canB c n = false) : ¬ (validC c = true ∧ 0 ≤ n ∧ n ≤ 100000) := by
  rw [← canB_iff, h]; decide
set_option maxRecDepth 100000 in
set_option maxHeartbeats 1000000 in
theorem implCanFill (c : Cfg) (n : Int) (w : World) :
    Calls Tryd.prog 26 #[.agg (cfgV c), .int .i64 n] w fun e w' => e = .returned (.bool (canB c n)) ∧ Below w.heap.size w w' := by
  have hS := fun W => implIsConfig c W
  unfold canB
  cases hv : validC c with
  | false =>
    rw [hv] at hS
    have HS := Lib.hid hS
    clear hS hv
    obtain ⟨m, t, p, d, fr, fd, fl, fe, fm⟩ := c
    unfold cfgV at HS ⊢
    simp only at HS ⊢
    go_enter Tryd.func26, Tryd.ntmps26
    go_wp2_with fail
    refine (HS.out _).mono ?_
    rintro e w1 ⟨rfl, hb1⟩
    have B1 := Lib.hid ((by go_grown : Below w.heap.size w (w.alloc _)).trans (hb1.mono (by simp)))
    clear hb1
    go_wp2_with fail
    go_ret
    exact ⟨rfl, B1.out⟩
  | true =>
    rw [hv] at hS
    have HS := Lib.hid hS
    clear hS hv
    obtain ⟨m, t, p, d, fr, fd, fl, fe, fm⟩ := c
    unfold cfgV at HS ⊢
    simp only at HS ⊢
    by_cases h0 : 0 ≤ n
    · rw [decide_eq_true h0]
      by_cases h1 : n ≤ 100000
      · rw [decide_eq_true h1]
        go_enter Tryd.func26, Tryd.ntmps26
        go_wp2_with fail
        refine (HS.out _).mono ?_
        rintro e w1 ⟨rfl, hb1⟩
        have B1 := Lib.hid ((by go_grown : Below w.heap.size w (w.alloc _)).trans (hb1.mono (by simp)))
        clear hb1
        go_wp2_with fail
        go_ret
        exact ⟨rfl, B1.out⟩
      · rw [decide_eq_false h1]
        have h2 := decide_eq_false h1
        go_enter Tryd.func26, Tryd.ntmps26
        go_wp2_with fail
        refine (HS.out _).mono ?_
        rintro e w1 ⟨rfl, hb1⟩
        have B1 := Lib.hid ((by go_grown : Below w.heap.size w (w.alloc _)).trans (hb1.mono (by simp)))
        clear hb1
        go_wp2_with fail
        go_ret
        exact ⟨rfl, B1.out⟩
    · rw [decide_eq_false h0]
      go_enter Tryd.func26, Tryd.ntmps26
      go_wp2_with fail
      refine (HS.out _).mono ?_
      rintro e w1 ⟨rfl, hb1⟩
      have B1 := Lib.hid ((by go_grown : Below w.heap.size w (w.alloc _)).trans (hb1.mono (by simp)))
      clear hb1
      go_wp2_with fail
      go_ret
      exact ⟨rfl, B1.out⟩
set_option maxRecDepth 100000 in
set_option maxHeartbeats 1000000 in
theorem implTabsFor (c : Cfg) (n : Int) (w : World) (hv : validC c = true) (h0 : 0 ≤ n) (h1 : n ≤ 100000) :
    Calls Tryd.prog 27 #[.agg (cfgV c), .int .i64 n] w fun e w' => e = .returned (.int .i64 ((n + c.ctab - 1) / c.ctab)) ∧ Below w.heap.size w w' := by
  have ht := (validC_iff c).1 hv
  clear hv
  obtain ⟨m, t, p, d, fr, fd, fl, fe, fm⟩ := c
  simp only at ht ⊢
  have ht1 : 1 ≤ t := by omega
  have ht2 : t ≤ 32 := by omega
  clear ht
  unfold cfgV
  obtain ⟨b1, b2, b3, b4⟩ := tabs_bounds n t h0 h1 ht1 ht2
  go_enter Tryd.func27, Tryd.ntmps27
  go_wp2
  go_ret
  exact ⟨rfl, by go_grown⟩
set_option maxRecDepth 100000 in
set_option maxHeartbeats 2000000 in
theorem implRoundWidth (c : Cfg) (n : Int) (w : World) :
    Calls Tryd.prog 10 #[.agg (cfgV c), .int .i64 n] w fun e w' => e = .returned (.int .i64 (roundC c n)) ∧ Below w.heap.size w w' := by
  have hS := fun W => implCanFill c n W
  cases hv : canB c n with
  | false =>
    rw [roundC_no c n (canB_no hv)]
    rw [hv] at hS
    have HS := Lib.hid hS
    clear hS hv
    obtain ⟨m, t, p, d, fr, fd, fl, fe, fm⟩ := c
    unfold cfgV at HS ⊢
    simp only at HS ⊢
    go_enter Tryd.func10, Tryd.ntmps10
    go_wp2_with fail
    refine (HS.out _).mono ?_
    rintro e w1 ⟨rfl, hb1⟩
    have B1 := Lib.hid ((by go_grown : Below w.heap.size w (w.alloc _)).trans (hb1.mono (by simp)))
    clear hb1
    go_wp2_with fail
    go_ret
    exact ⟨rfl, B1.out⟩
  | true =>
    obtain ⟨hv1, h0, h1⟩ := (canB_iff c n).1 hv
    rw [hv] at hS
    have HS := Lib.hid hS
    have HT := Lib.hid (fun W => implTabsFor c n W hv1 h0 h1)
    have ht := (validC_iff c).1 hv1
    have hr : roundC c n = if c.cpad = 9 then (n + c.ctab - 1) / c.ctab * c.ctab else n := if_pos ⟨hv1, h0, h1⟩
    rw [hr]
    clear hr hv hS hv1
    obtain ⟨m, t, p, d, fr, fd, fl, fe, fm⟩ := c
    unfold cfgV at HS HT ⊢
    simp only at HS HT ht ⊢
    have ht1 : 1 ≤ t := by omega
    have ht2 : t ≤ 32 := by omega
    clear ht
    obtain ⟨b1, b2, b3, b4⟩ := tabs_bounds n t h0 h1 ht1 ht2
    by_cases h9 : d = 9
    · have e9 : (d == 9) = true := by simp [h9]
      rw [if_pos h9]
      clear h9
      obtain ⟨q, hq⟩ : ∃ q, q = (n + t - 1) / t := ⟨_, rfl⟩
      rw [← hq] at b1 b2 b3 b4 HT ⊢
      have hw1 : IntKind.i64.wrap (q * t) = q * t := IntWalk.i64_in _ (by omega)
      clear hq
      go_enter Tryd.func10, Tryd.ntmps10
      go_wp2_with fail
      refine (HS.out _).mono ?_
      rintro e w1 ⟨rfl, hb1⟩
      have hbx := (Boxed.new w 24 m t p d fr fd fl fe fm).below hb1 (by simp)
      have B1 := Lib.hid ((by go_grown : Below w.heap.size w (w.alloc _)).trans (hb1.mono (by simp)))
      have hlt : w.heap.size < w1.heap.size := by have := hb1.size; simp at this; omega
      clear hb1
      obtain ⟨c0, c1, c2, c3, c4, c5, c6, c7, c8⟩ := hbx
      go_wp2_with fail
      go_region_held3 (fun W => W.cell? ⟨w.heap.size, 0, none⟩ = some (.int .i64 m) ∧ W.cell? ⟨w.heap.size, 1, none⟩ = some (.int .i64 t) ∧ W.cell? ⟨w.heap.size, 2, none⟩ = some (.int .i64 p) ∧ W.cell? ⟨w.heap.size, 3, none⟩ = some (.int .i64 d) ∧ W.cell? ⟨w.heap.size, 4, none⟩ = some (.bool fr) ∧ W.cell? ⟨w.heap.size, 5, none⟩ = some (.bool fd) ∧ W.cell? ⟨w.heap.size, 6, none⟩ = some (.bool fl) ∧ W.cell? ⟨w.heap.size, 7, none⟩ = some (.bool fe) ∧ W.cell? ⟨w.heap.size, 8, none⟩ = some (.bool fm) ∧ Below w.heap.size w W ∧ w.heap.size + 1 ≤ W.heap.size)
        (first | exact ⟨c0, c1, c2, c3, c4, c5, c6, c7, c8, B1.out.drew, hlt⟩ | exact box_step (by assumption) (by assumption))
        (first | (go_at_call 27; refine (HT.out _).mono ?_; rintro e w1 ⟨rfl, hb1⟩))
      all_goals
        go_wp2
        go_ret
        exact ⟨rfl, box_old (w := w) (B := w.heap.size) (by assumption)⟩
    · have e9 : (d == 9) = false := by simp [h9]
      rw [if_neg h9]
      clear h9
      go_enter Tryd.func10, Tryd.ntmps10
      go_wp2_with fail
      refine (HS.out _).mono ?_
      rintro e w1 ⟨rfl, hb1⟩
      have hbx := (Boxed.new w 24 m t p d fr fd fl fe fm).below hb1 (by simp)
      have B1 := Lib.hid ((by go_grown : Below w.heap.size w (w.alloc _)).trans (hb1.mono (by simp)))
      clear hb1
      obtain ⟨c0, c1, c2, c3, c4, c5, c6, c7, c8⟩ := hbx
      go_wp2_with fail
      go_ret
      exact ⟨rfl, B1.out⟩
theorem repeatL_one (b : UInt8) (k : Nat) : (⟨(Lib.repeatL (⟨#[b]⟩ : ByteArray).data.toList k).toArray⟩ : ByteArray) = copies b k := by
  have e : ∀ j, Lib.repeatL [b] j = List.replicate j b := by
    intro j
    induction j with
    | zero => rfl
    | succ j ih => show [b] ++ Lib.repeatL [b] j = _; rw [ih]; rfl
  unfold copies
  rw [← e k]
theorem repeat_byte (b : UInt8) (k : Nat) (w : World) (h : k ≤ 1000000) :
    Calls Tryd.prog 29 #[.string ⟨#[b]⟩, .int .i64 (k : Int)] w fun e w' => e = .returned (.string (copies b k)) ∧ Below w.heap.size w w' := by
  have := Tryd.strings_Repeat ⟨#[b]⟩ k w (by omega) (by show 1 * k ≤ _; omega)
  rw [repeatL_one] at this
  exact this
theorem encode_ascii (d : Int) (h0 : 0 ≤ d) (h1 : d ≤ 127) : Utf8.encode d = ⟨#[UInt8.ofNat d.toNat]⟩ := by
  obtain ⟨n, rfl⟩ := Int.eq_ofNat_of_zero_le h0
  have hv : Utf8.valid (n : Int) = true := by
    unfold Utf8.valid
    simp only [Bool.or_eq_true, Bool.and_eq_true, decide_eq_true_iff]
    omega
  unfold Utf8.encode
  rw [if_pos hv, Int.toNat_natCast]
  exact if_pos (by omega)
set_option maxRecDepth 100000 in
set_option maxHeartbeats 2000000 in
theorem implFilling (c : Cfg) (n : Int) (w : World) :
    Calls Tryd.prog 12 #[.agg (cfgV c), .int .i64 n] w fun e w' => e = .returned (.string (fillC c n)) ∧ Below w.heap.size w w' := by
  have hS := fun W => implCanFill c n W
  cases hv : canB c n with
  | false =>
    rw [fillC_no c n (canB_no hv)]
    rw [hv] at hS
    have HS := Lib.hid hS
    clear hS hv
    obtain ⟨m, t, p, d, fr, fd, fl, fe, fm⟩ := c
    unfold cfgV at HS ⊢
    simp only at HS ⊢
    go_enter Tryd.func12, Tryd.ntmps12
    go_wp2_with fail
    refine (HS.out _).mono ?_
    rintro e w1 ⟨rfl, hb1⟩
    have B1 := Lib.hid ((by go_grown : Below w.heap.size w (w.alloc _)).trans (hb1.mono (by simp)))
    clear hb1
    go_wp2_with fail
    go_ret
    exact ⟨rfl, B1.out⟩
  | true =>
    obtain ⟨hv1, h0, h1⟩ := (canB_iff c n).1 hv
    rw [hv] at hS
    have HS := Lib.hid hS
    have HT := Lib.hid (fun W => implTabsFor c n W hv1 h0 h1)
    have ht := (validC_iff c).1 hv1
    by_cases h9 : c.cpad = 9
    · rw [fillC_tab c n hv1 h0 h1 h9]
      have e9 : (c.cpad == 9) = true := by simp [h9]
      clear hv hS hv1 h9
      obtain ⟨m, t, p, d, fr, fd, fl, fe, fm⟩ := c
      unfold cfgV at HS HT ⊢
      simp only at HS HT ht e9 ⊢
      have ht1 : 1 ≤ t := by omega
      have ht2 : t ≤ 32 := by omega
      clear ht
      obtain ⟨b1, b2, b3, b4⟩ := tabs_bounds n t h0 h1 ht1 ht2
      have hF := fun W => repeat_byte 9 ((n + t - 1) / t).toNat W (by omega)
      rw [show ((((n + t - 1) / t).toNat : Nat) : Int) = (n + t - 1) / t by omega] at hF
      generalize copies 9 ((n + t - 1) / t).toNat = z at hF ⊢
      have HF := Lib.hid hF
      clear hF
      go_enter Tryd.func12, Tryd.ntmps12
      go_wp2_with fail
      refine (HS.out _).mono ?_
      rintro e w1 ⟨rfl, hb1⟩
      have hbx := (Boxed.new w 24 m t p d fr fd fl fe fm).below hb1 (by simp)
      have B1 := Lib.hid ((by go_grown : Below w.heap.size w (w.alloc _)).trans (hb1.mono (by simp)))
      clear hb1
      obtain ⟨c0, c1, c2, c3, c4, c5, c6, c7, c8⟩ := hbx
      go_wp2_with fail
      refine (HT.out _).mono ?_
      rintro e w2 ⟨rfl, hb2⟩
      have B2 := Lib.hid (B1.out.trans (hb2.mono B1.out.size))
      clear hb2
      go_wp2_with fail
      refine (HF.out _).mono ?_
      rintro e w3 ⟨rfl, hb3⟩
      have B3 := Lib.hid (B2.out.trans (hb3.mono B2.out.size))
      clear hb3
      go_wp2_with fail
      go_ret
      exact ⟨rfl, B3.out⟩
    · rw [fillC_other c n hv1 h0 h1 h9]
      have e9 : (c.cpad == 9) = false := by simp [h9]
      clear hv hS hv1 HT
      obtain ⟨m, t, p, d, fr, fd, fl, fe, fm⟩ := c
      unfold cfgV at HS ⊢
      simp only at HS ht e9 h9 ⊢
      have hd1 : 32 ≤ d := by omega
      have hd2 : d ≤ 126 := by omega
      clear ht h9
      have hF := fun W => repeat_byte (UInt8.ofNat d.toNat) n.toNat W (by omega)
      rw [show ((n.toNat : Nat) : Int) = n by omega, ← encode_ascii d (by omega) (by omega)] at hF
      generalize copies (UInt8.ofNat d.toNat) n.toNat = z at hF ⊢
      have HF := Lib.hid hF
      clear hF
      go_enter Tryd.func12, Tryd.ntmps12
      go_wp2_with fail
      refine (HS.out _).mono ?_
      rintro e w1 ⟨rfl, hb1⟩
      have hbx := (Boxed.new w 24 m t p d fr fd fl fe fm).below hb1 (by simp)
      have B1 := Lib.hid ((by go_grown : Below w.heap.size w (w.alloc _)).trans (hb1.mono (by simp)))
      clear hb1
      obtain ⟨c0, c1, c2, c3, c4, c5, c6, c7, c8⟩ := hbx
      go_wp2_with fail
      refine (HF.out _).mono ?_
      rintro e w2 ⟨rfl, hb2⟩
      have B2 := Lib.hid (B1.out.trans (hb2.mono B1.out.size))
      clear hb2
      go_wp2_with fail
      go_ret
      exact ⟨rfl, B2.out⟩
end Go.Proofs.YtkbjegcmpmhmpaaDoor
