/- The walks of the exact laws on widths. -/
import Derived.Test.YtijclaocmnkncaaDoorImplPadW
namespace Go.Proofs.YtijclaocmnkncaaDoor
open Go.RowKit
set_option linter.unusedVariables false

theorem law_FnExactRuneWidth (r : Int) (hr0 : (Lit.int .i64 r).wf = true) (w : World) (hT : WTab w) :
    Calls Tryd.prog 4 #[.int .i64 r] w fun e w' => e = .returned (.bool true) ∧ Below w.heap.size w w' := by
  clear hr0
  have hspec := fun W => specRuneWidth r W
  have himpl := fun W (h : WTab W) => implRuneWidth r W h
  have HT := Lib.hid hT
  obtain ⟨z, hz⟩ : ∃ z : Int, z = (rw1 r : Int) := ⟨_, rfl⟩
  rw [← hz] at hspec himpl
  have HS := Lib.hid hspec
  have HI := Lib.hid himpl
  clear hspec himpl hz hT
  go_enter Tryd.func4, Tryd.ntmps4
  go_wp2_with fail
  refine (HS.out _).mono ?_
  rintro e w1 ⟨rfl, hb1⟩
  have B1 := Lib.hid hb1
  clear hb1
  go_wp2_with fail
  refine (HI.out _ (HT.out.below B1.out)).mono ?_
  rintro e w2 ⟨rfl, hb2⟩
  have B2 := Lib.hid (B1.out.trans (hb2.mono B1.out.size))
  clear hb2
  go_wp2_with fail
  go_ret
  exact ⟨rfl, B2.out⟩
set_option maxHeartbeats 400000 in
theorem law_FnExactTextWidth (s : ByteArray) (hs0 : s.size ≤ maxLen) (w : World) (hT : WT w) :
    Calls Tryd.prog 5 #[.string s] w fun e w' => e = .returned (.bool true) ∧ Below w.heap.size w w' := by
  unfold maxLen at hs0
  by_cases g0 : (1048576 : Int) < (s.size : Int)
  · go_enter Tryd.func5, Tryd.ntmps5
    go_wp2
    go_ret
    exact ⟨rfl, Below.refl _ _⟩
  · have hspec := fun W => specTextWidth s W (by omega)
    have himpl := fun W (h : WT W) => implTextWidth s W (by omega) h
    have HT := Lib.hid hT
    obtain ⟨z, hz⟩ : ∃ z : Int, z = (textW s : Int) := ⟨_, rfl⟩
    rw [← hz] at hspec himpl
    have HS := Lib.hid hspec
    have HI := Lib.hid himpl
    clear hspec himpl hz hT
    go_enter Tryd.func5, Tryd.ntmps5
    go_wp2_with fail
    refine (HS.out _).mono ?_
    rintro e w1 ⟨rfl, hb1⟩
    have B1 := Lib.hid hb1
    clear hb1
    go_wp2_with fail
    refine (HI.out _ (HT.out.below B1.out)).mono ?_
    rintro e w2 ⟨rfl, hb2⟩
    have B2 := Lib.hid (B1.out.trans (hb2.mono B1.out.size))
    clear hb2
    go_wp2_with fail
    go_ret
    exact ⟨rfl, B2.out⟩
set_option maxHeartbeats 400000 in
theorem law_FnExactFitWidth (s : ByteArray) (hs0 : s.size ≤ maxLen) (n : Int) (hn0 : (Lit.int .i64 n).wf = true) (w : World) (hT : WT w) :
    Calls Tryd.prog 6 #[.string s, .int .i64 n] w fun e w' => e = .returned (.bool true) ∧ Below w.heap.size w w' := by
  unfold maxLen at hs0
  by_cases g0 : (1048576 : Int) < (s.size : Int)
  · go_enter Tryd.func6, Tryd.ntmps6
    go_wp2
    go_ret
    exact ⟨rfl, Below.refl _ _⟩
  · have hspec := fun W => specFitWidth s n W (by omega)
    have himpl := fun W (h : WT W) => implFitWidth s n W (by omega) (bounds_i64 hn0).2 h
    have HT := Lib.hid hT
    obtain ⟨z, hz⟩ : ∃ z : ByteArray, z = fitB s n := ⟨_, rfl⟩
    rw [← hz] at hspec himpl
    have HS := Lib.hid hspec
    have HI := Lib.hid himpl
    clear hspec himpl hz hT
    go_enter Tryd.func6, Tryd.ntmps6
    go_wp2_with fail
    refine (HS.out _).mono ?_
    rintro e w1 ⟨rfl, hb1⟩
    have B1 := Lib.hid hb1
    clear hb1
    go_wp2_with fail
    refine (HI.out _ (HT.out.below B1.out)).mono ?_
    rintro e w2 ⟨rfl, hb2⟩
    have B2 := Lib.hid (B1.out.trans (hb2.mono B1.out.size))
    clear hb2
    go_wp2_with fail
    go_ret
    exact ⟨rfl, B2.out⟩
set_option maxHeartbeats 400000 in
theorem law_FnExactPadRight (s : ByteArray) (hs0 : s.size ≤ maxLen) (n : Int) (hn0 : (Lit.int .i64 n).wf = true) (w : World) (hT : WT w) :
    Calls Tryd.prog 7 #[.string s, .int .i64 n] w fun e w' => e = .returned (.bool true) ∧ Below w.heap.size w w' := by
  unfold maxLen at hs0
  by_cases g0 : (1048576 : Int) < (s.size : Int)
  · go_enter Tryd.func7, Tryd.ntmps7
    go_wp2
    go_ret
    exact ⟨rfl, Below.refl _ _⟩
  · have hspec := fun W => specPadRight s n W (by omega)
    have himpl := fun W (h : WT W) => implPadRight s n W (by omega) h
    have HT := Lib.hid hT
    obtain ⟨z, hz⟩ : ∃ z : ByteArray, z = padR s n := ⟨_, rfl⟩
    rw [← hz] at hspec himpl
    have HS := Lib.hid hspec
    have HI := Lib.hid himpl
    clear hspec himpl hz hT
    go_enter Tryd.func7, Tryd.ntmps7
    go_wp2_with fail
    refine (HS.out _).mono ?_
    rintro e w1 ⟨rfl, hb1⟩
    have B1 := Lib.hid hb1
    clear hb1
    go_wp2_with fail
    refine (HI.out _ (HT.out.below B1.out)).mono ?_
    rintro e w2 ⟨rfl, hb2⟩
    have B2 := Lib.hid (B1.out.trans (hb2.mono B1.out.size))
    clear hb2
    go_wp2_with fail
    go_ret
    exact ⟨rfl, B2.out⟩
set_option maxHeartbeats 400000 in
theorem law_FnExactPadLeft (s : ByteArray) (hs0 : s.size ≤ maxLen) (n : Int) (hn0 : (Lit.int .i64 n).wf = true) (w : World) (hT : WT w) :
    Calls Tryd.prog 8 #[.string s, .int .i64 n] w fun e w' => e = .returned (.bool true) ∧ Below w.heap.size w w' := by
  unfold maxLen at hs0
  by_cases g0 : (1048576 : Int) < (s.size : Int)
  · go_enter Tryd.func8, Tryd.ntmps8
    go_wp2
    go_ret
    exact ⟨rfl, Below.refl _ _⟩
  · have hspec := fun W => specPadLeft s n W (by omega)
    have himpl := fun W (h : WT W) => implPadLeft s n W (by omega) h
    have HT := Lib.hid hT
    obtain ⟨z, hz⟩ : ∃ z : ByteArray, z = padL s n := ⟨_, rfl⟩
    rw [← hz] at hspec himpl
    have HS := Lib.hid hspec
    have HI := Lib.hid himpl
    clear hspec himpl hz hT
    go_enter Tryd.func8, Tryd.ntmps8
    go_wp2_with fail
    refine (HS.out _).mono ?_
    rintro e w1 ⟨rfl, hb1⟩
    have B1 := Lib.hid hb1
    clear hb1
    go_wp2_with fail
    refine (HI.out _ (HT.out.below B1.out)).mono ?_
    rintro e w2 ⟨rfl, hb2⟩
    have B2 := Lib.hid (B1.out.trans (hb2.mono B1.out.size))
    clear hb2
    go_wp2_with fail
    go_ret
    exact ⟨rfl, B2.out⟩
set_option maxHeartbeats 400000 in
theorem law_FnExactPadBoth (s : ByteArray) (hs0 : s.size ≤ maxLen) (n : Int) (hn0 : (Lit.int .i64 n).wf = true) (w : World) (hT : WT w) :
    Calls Tryd.prog 9 #[.string s, .int .i64 n] w fun e w' => e = .returned (.bool true) ∧ Below w.heap.size w w' := by
  unfold maxLen at hs0
  by_cases g0 : (1048576 : Int) < (s.size : Int)
  · go_enter Tryd.func9, Tryd.ntmps9
    go_wp2
    go_ret
    exact ⟨rfl, Below.refl _ _⟩
  · have hspec := fun W => specPadBoth s n W (by omega)
    have himpl := fun W (h : WT W) => implPadBoth s n W (by omega) h
    have HT := Lib.hid hT
    obtain ⟨z, hz⟩ : ∃ z : ByteArray, z = padC s n := ⟨_, rfl⟩
    rw [← hz] at hspec himpl
    have HS := Lib.hid hspec
    have HI := Lib.hid himpl
    clear hspec himpl hz hT
    go_enter Tryd.func9, Tryd.ntmps9
    go_wp2_with fail
    refine (HS.out _).mono ?_
    rintro e w1 ⟨rfl, hb1⟩
    have B1 := Lib.hid hb1
    clear hb1
    go_wp2_with fail
    refine (HI.out _ (HT.out.below B1.out)).mono ?_
    rintro e w2 ⟨rfl, hb2⟩
    have B2 := Lib.hid (B1.out.trans (hb2.mono B1.out.size))
    clear hb2
    go_wp2_with fail
    go_ret
    exact ⟨rfl, B2.out⟩
end Go.Proofs.YtijclaocmnkncaaDoor
