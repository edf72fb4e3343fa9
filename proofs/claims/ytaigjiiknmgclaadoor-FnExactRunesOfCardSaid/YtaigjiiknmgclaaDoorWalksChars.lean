/- The walks of the laws on DecodeAt, RunesOf, CutRunes, IsText. -/
import Derived.Test.YtaigjiiknmgclaaDoorSpecRead
import Derived.Test.YtaigjiiknmgclaaDoorReadChars
import Derived.Test.YtaigjiiknmgclaaDoorMark
namespace Go.Proofs.YtaigjiiknmgclaaDoor
open Go.RowKit
set_option linter.unusedVariables false

set_option maxHeartbeats 1000000 in
theorem law_FnExactRunesOf (s : ByteArray) (hs0 : s.size ≤ maxLen) (w : World) (hT : Tabs w) :
    Calls Tryd.prog 6 #[.string s] w fun e w' => e = .returned (.bool true) ∧ Below w.heap.size w w' := by
  unfold maxLen at hs0
  by_cases g0 : (1048576 : Int) < (s.size : Int)
  · go_enter Tryd.func6, Tryd.ntmps6
    go_wp2
    go_ret
    exact ⟨rfl, Below.refl _ _⟩
  · skip
    have hs : s.size ≤ 1048576 := by omega
    have HT := Lib.hid hT
    clear hT
    obtain ⟨L, hL⟩ : ∃ L, L = runesB s := ⟨_, rfl⟩
    have hn : L.length ≤ 1048577 := by rw [hL]; have := runesB_length s; omega
    have hspec := fun W => specRunesOf s W (by omega)
    have himpl := fun W (hW : Tabs W) => implRunesOf s W (by omega) hW
    rw [← hL] at hspec himpl
    have HSP := Lib.hid hspec
    have HIM := Lib.hid himpl
    clear hspec himpl hL
    obtain ⟨n, hnn⟩ : ∃ n, n = L.length := ⟨_, rfl⟩
    rw [← hnn] at HSP HIM hn
    have HN := Lib.hid hnn
    clear hnn
    go_enter Tryd.func6, Tryd.ntmps6
    go_wp2_with fail
    refine (HSP.out _).mono ?_
    rintro e w1 ⟨v0, rfl, hown0, hbel1⟩
    have O0 := Lib.hid hown0
    have B1 := Lib.hid hbel1
    clear hown0 hbel1
    go_wp2_with fail
    refine (HIM.out _ (HT.out.below B1.out)).mono ?_
    rintro e w2 ⟨v1, rfl, hown1, hbel2⟩
    have O1 := Lib.hid hown1
    have O0b := Lib.hid (own_below O0.out hbel2)
    have B2 := Lib.hid (B1.out.trans (hbel2.mono B1.out.size))
    clear hown1 hbel2
    go_wp2_with fail
    refine (eqIntS_any L L v1 v0 _ (Rd.of_own O1.out) (Rd.of_own O0b.out) (by have := HN.out; omega)).mono ?_
    rintro e w3 ⟨rfl, m3, rfl⟩
    rw [decide_eq_true (rfl : L = L)]
    go_wp2_with fail
    refine (markIntS_any _ n 1 v1 _ _ (own_drewN O1.out m3) (by omega) (by omega)).mono ?_
    rintro e w4 ⟨rfl, hown4, hgr4⟩
    have O1c := Lib.hid hown4
    have O0c := Lib.hid ((own_drewN O0b.out m3).kept hgr4 (own_ne (w := w) O0.out O1.out))
    have B4 := Lib.hid (below_marked (below_drewN B2.out m3) (own_drewN O1.out m3) B1.out.size hgr4)
    clear hown4 hgr4
    go_wp2_with fail
    refine (heldIntS_any _ n 1 v1 _ O1c.out (by omega) (by omega)).mono ?_
    rintro e w5 ⟨rfl, hbel5⟩
    have O1d := Lib.hid (own_below O1c.out hbel5)
    have O0d := Lib.hid (own_below O0c.out hbel5)
    have B5 := Lib.hid (B4.out.trans (hbel5.mono B4.out.size))
    clear hbel5
    go_wp2_with fail
    refine (HIM.out _ (HT.out.below B5.out)).mono ?_
    rintro e w6 ⟨v2, rfl, hown6, hbel6⟩
    have O2 := Lib.hid hown6
    have O1e := Lib.hid (own_below O1d.out hbel6)
    have O0e := Lib.hid (own_below O0d.out hbel6)
    have B6 := Lib.hid (B5.out.trans (hbel6.mono B5.out.size))
    clear hown6 hbel6
    go_wp2_with fail
    refine (eqIntS_any L L v2 v0 _ (Rd.of_own O2.out) (Rd.of_own O0e.out) (by have := HN.out; omega)).mono ?_
    rintro e w7 ⟨rfl, m7, rfl⟩
    rw [decide_eq_true (rfl : L = L)]
    go_wp2_with fail
    refine (heldIntS_any _ n 1 v1 _ (own_drewN O1e.out m7) (by omega) (by omega)).mono ?_
    rintro e w8 ⟨rfl, hbel8⟩
    have B8 := Lib.hid ((below_drewN B6.out m7).trans (hbel8.mono B6.out.size))
    clear hbel8
    go_wp2_with fail
    go_ret
    exact ⟨rfl, B8.out⟩

set_option maxHeartbeats 1000000 in
theorem law_FnExactCutRunes (s : ByteArray) (hs0 : s.size ≤ maxLen) (w : World) (hT : Tabs w) :
    Calls Tryd.prog 7 #[.string s] w fun e w' => e = .returned (.bool true) ∧ Below w.heap.size w w' := by
  unfold maxLen at hs0
  by_cases g0 : (1048576 : Int) < (s.size : Int)
  · go_enter Tryd.func7, Tryd.ntmps7
    go_wp2
    go_ret
    exact ⟨rfl, Below.refl _ _⟩
  · skip
    have hs : s.size ≤ 1048576 := by omega
    have HT := Lib.hid hT
    clear hT
    obtain ⟨L, hL⟩ : ∃ L, L = cutsB s := ⟨_, rfl⟩
    have hn : L.length ≤ 1048577 := by rw [hL]; have := cutsB_length s; have := runesB_length s; omega
    have hspec := fun W => specCutRunes s W (by omega)
    have himpl := fun W (hW : Tabs W) => implCutRunes s W (by omega) hW
    rw [← hL] at hspec himpl
    have HSP := Lib.hid hspec
    have HIM := Lib.hid himpl
    clear hspec himpl hL
    obtain ⟨n, hnn⟩ : ∃ n, n = L.length := ⟨_, rfl⟩
    rw [← hnn] at HSP HIM hn
    have HN := Lib.hid hnn
    clear hnn
    go_enter Tryd.func7, Tryd.ntmps7
    go_wp2_with fail
    refine (HSP.out _).mono ?_
    rintro e w1 ⟨v0, rfl, hown0, hbel1⟩
    have O0 := Lib.hid hown0
    have B1 := Lib.hid hbel1
    clear hown0 hbel1
    go_wp2_with fail
    refine (HIM.out _ (HT.out.below B1.out)).mono ?_
    rintro e w2 ⟨v1, rfl, hown1, hbel2⟩
    have O1 := Lib.hid hown1
    have O0b := Lib.hid (own_below O0.out hbel2)
    have B2 := Lib.hid (B1.out.trans (hbel2.mono B1.out.size))
    clear hown1 hbel2
    go_wp2_with fail
    refine (eqStringS_any L L v1 v0 _ (Rd.of_own O1.out) (Rd.of_own O0b.out) (by have := HN.out; omega)).mono ?_
    rintro e w3 ⟨rfl, m3, rfl⟩
    rw [decide_eq_true (rfl : L = L)]
    go_wp2_with fail
    refine (markStringS_any _ n 1 v1 _ _ (own_drewN O1.out m3) (by omega) (by omega)).mono ?_
    rintro e w4 ⟨rfl, hown4, hgr4⟩
    have O1c := Lib.hid hown4
    have O0c := Lib.hid ((own_drewN O0b.out m3).kept hgr4 (own_ne (w := w) O0.out O1.out))
    have B4 := Lib.hid (below_marked (below_drewN B2.out m3) (own_drewN O1.out m3) B1.out.size hgr4)
    clear hown4 hgr4
    go_wp2_with fail
    refine (heldStringS_any _ n 1 v1 _ O1c.out (by omega) (by omega)).mono ?_
    rintro e w5 ⟨rfl, hbel5⟩
    have O1d := Lib.hid (own_below O1c.out hbel5)
    have O0d := Lib.hid (own_below O0c.out hbel5)
    have B5 := Lib.hid (B4.out.trans (hbel5.mono B4.out.size))
    clear hbel5
    go_wp2_with fail
    refine (HIM.out _ (HT.out.below B5.out)).mono ?_
    rintro e w6 ⟨v2, rfl, hown6, hbel6⟩
    have O2 := Lib.hid hown6
    have O1e := Lib.hid (own_below O1d.out hbel6)
    have O0e := Lib.hid (own_below O0d.out hbel6)
    have B6 := Lib.hid (B5.out.trans (hbel6.mono B5.out.size))
    clear hown6 hbel6
    go_wp2_with fail
    refine (eqStringS_any L L v2 v0 _ (Rd.of_own O2.out) (Rd.of_own O0e.out) (by have := HN.out; omega)).mono ?_
    rintro e w7 ⟨rfl, m7, rfl⟩
    rw [decide_eq_true (rfl : L = L)]
    go_wp2_with fail
    refine (heldStringS_any _ n 1 v1 _ (own_drewN O1e.out m7) (by omega) (by omega)).mono ?_
    rintro e w8 ⟨rfl, hbel8⟩
    have B8 := Lib.hid ((below_drewN B6.out m7).trans (hbel8.mono B6.out.size))
    clear hbel8
    go_wp2_with fail
    go_ret
    exact ⟨rfl, B8.out⟩

set_option maxHeartbeats 1000000 in
theorem law_FnExactIsText (s : ByteArray) (hs0 : s.size ≤ maxLen) (w : World) (hT : Tabs w) :
    Calls Tryd.prog 8 #[.string s] w fun e w' => e = .returned (.bool true) ∧ Below w.heap.size w w' := by
  unfold maxLen at hs0
  by_cases g0 : (1048576 : Int) < (s.size : Int)
  · go_enter Tryd.func8, Tryd.ntmps8
    go_wp2
    go_ret
    exact ⟨rfl, Below.refl _ _⟩
  · have hspec := fun W => specIsText s W (by omega)
    have himpl := fun W (hW : Tabs W) => implIsText s W (by omega) hW
    have e : goodB (runesB s) = textB s := rfl
    rw [e] at hspec
    obtain ⟨b, hb⟩ : ∃ b, b = textB s := ⟨_, rfl⟩
    rw [← hb] at hspec himpl
    have HSP := Lib.hid hspec
    have HIM := Lib.hid himpl
    have HT := Lib.hid hT
    clear hspec himpl hT hb e
    cases b
    all_goals
      go_enter Tryd.func8, Tryd.ntmps8
      go_wp2_with fail
      refine (HSP.out _).mono ?_
      rintro e w1 ⟨rfl, hb1⟩
      have B1 := Lib.hid hb1
      clear hb1
      go_wp2_with fail
      refine (HIM.out _ (HT.out.below B1.out)).mono ?_
      rintro e w2 ⟨rfl, hb2⟩
      have B2 := Lib.hid (B1.out.trans (hb2.mono B1.out.size))
      clear hb2
      go_wp2_with fail
      go_ret
      exact ⟨rfl, B2.out⟩
theorem implDecodeAt_in (s : ByteArray) (i : Nat) (w : World) (h : i < s.size) (hs : s.size ≤ 100000000) (hT : Tabs w) :
    Calls Tryd.prog 16 #[.string s, .int .i64 (i : Int)] w fun e w' => e = .returned (.tuple #[.int .i64 (ch s i).1, .int .i64 ((ch s i).2 : Int)]) ∧ Below w.heap.size w w' := by
  have HC := Lib.hid (charAt_in s i w h (by omega) hT)
  obtain ⟨c, hc⟩ : ∃ c, c = (ch s i).1 := ⟨_, rfl⟩
  obtain ⟨m, hm⟩ : ∃ m, m = (ch s i).2 := ⟨_, rfl⟩
  rw [← hc, ← hm] at HC
  rw [← hc, ← hm]
  clear hc hm hT
  go_enter Tryd.func16, Tryd.ntmps16
  go_wp2_with fail
  refine HC.out.mono ?_
  rintro e w1 ⟨rfl, hb1⟩
  go_wp2_with fail
  go_ret2
  exact ⟨rfl, hb1⟩
theorem implDecodeAt_out (s : ByteArray) (i : Int) (w : World) (h : i < 0 ∨ (s.size : Int) ≤ i) :
    Calls Tryd.prog 16 #[.string s, .int .i64 i] w fun e w' => e = .returned (.tuple #[.int .i64 (-1), .int .i64 0]) ∧ w = w' := by
  have HC := Lib.hid (charAt_out s i w h)
  clear h
  go_enter Tryd.func16, Tryd.ntmps16
  go_wp2_with fail
  refine HC.out.mono ?_
  rintro e w1 ⟨rfl, rfl⟩
  go_wp2_with fail
  go_ret2
  exact ⟨rfl, rfl⟩
set_option maxHeartbeats 1000000 in
theorem law_FnExactDecodeAt (s : ByteArray) (hs0 : s.size ≤ maxLen) (i : Int) (hi0 : (Lit.int .i64 i).wf = true) (w : World) (hT : Tabs w) :
    Calls Tryd.prog 5 #[.string s, .int .i64 i] w fun e w' => e = .returned (.bool true) ∧ Below w.heap.size w w' := by
  unfold maxLen at hs0
  clear hi0
  have HT := Lib.hid hT
  clear hT
  by_cases g0 : (1048576 : Int) < (s.size : Int)
  · go_enter Tryd.func5, Tryd.ntmps5
    go_wp2
    go_ret
    exact ⟨rfl, Below.refl _ _⟩
  · by_cases h : i < 0 ∨ (s.size : Int) ≤ i
    · have HSP := Lib.hid (fun W => specDecodeAt_out s i W h (by omega))
      have HIM := Lib.hid (fun W => implDecodeAt_out s i W h)
      clear h
      go_enter Tryd.func5, Tryd.ntmps5
      go_wp2_with fail
      refine (HSP.out _).mono ?_
      rintro e w1 ⟨rfl, rfl⟩
      go_wp2_with fail
      refine (HIM.out _).mono ?_
      rintro e w1 ⟨rfl, rfl⟩
      go_wp2_with fail
      go_ret
      exact ⟨rfl, Below.refl _ _⟩
    · obtain ⟨j, rfl⟩ := Int.eq_ofNat_of_zero_le (show 0 ≤ i by omega)
      have hj : j < s.size := by omega
      have hspec := fun W => specDecodeAt_in s j W hj (by omega)
      have himpl := fun W (hW : Tabs W) => implDecodeAt_in s j W hj (by omega) hW
      obtain ⟨c, hc⟩ : ∃ c, c = (ch s j).1 := ⟨_, rfl⟩
      obtain ⟨m, hm⟩ : ∃ m : Int, m = ((ch s j).2 : Int) := ⟨_, rfl⟩
      rw [← hc, ← hm] at hspec himpl
      have HSP := Lib.hid hspec
      have HIM := Lib.hid himpl
      clear hspec himpl hc hm h
      go_enter Tryd.func5, Tryd.ntmps5
      go_wp2_with fail
      refine (HSP.out _).mono ?_
      rintro e w1 ⟨rfl, hb1⟩
      have B1 := Lib.hid hb1
      clear hb1
      go_wp2_with fail
      refine (HIM.out _ (HT.out.below B1.out)).mono ?_
      rintro e w2 ⟨rfl, hb2⟩
      have B2 := Lib.hid (B1.out.trans (hb2.mono B1.out.size))
      clear hb2
      go_wp2_with fail
      go_ret
      exact ⟨rfl, B2.out⟩
end Go.Proofs.YtaigjiiknmgclaaDoor
