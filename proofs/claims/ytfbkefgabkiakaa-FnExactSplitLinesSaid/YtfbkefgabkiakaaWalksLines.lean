/- The walk of the law on SplitLines. -/
import Derived.Test.YtfbkefgabkiakaaLines
import Derived.Test.YtfbkefgabkiakaaWalksSplit
namespace Go.Proofs.Ytfbkefgabkiakaa
open Go.RowKit
set_option linter.unusedVariables false

set_option maxHeartbeats 1000000 in
theorem law_FnExactSplitLines (s : ByteArray) (hs0 : s.size ≤ maxLen) (w : World) :
    Calls Try.prog 6 #[.string s] w fun e w' => e = .returned (.bool true) ∧ Below w.heap.size w w' := by
  unfold maxLen at hs0
  by_cases g0 : (1048576 : Int) < (s.size : Int)
  · go_enter Try.func6, Try.ntmps6
    go_wp2
    go_ret
    exact ⟨rfl, Below.refl _ _⟩
  · skip
    have hs : s.size ≤ 1048576 := by omega
    obtain ⟨L, hL⟩ : ∃ L, L = linesB s := ⟨_, rfl⟩
    have hn : L.length ≤ 1048577 := by rw [hL]; have := heads_length s; unfold linesB; split <;> simp <;> omega
    have hspec := fun W => specSplitLines s W hs
    have himpl := fun W => implSplitLines s W hs
    rw [← hL] at hspec himpl
    have HSP := Lib.hid hspec
    have HIM := Lib.hid himpl
    clear hspec himpl hL
    obtain ⟨n, hnn⟩ : ∃ n, n = L.length := ⟨_, rfl⟩
    rw [← hnn] at HSP HIM hn
    have HN := Lib.hid hnn
    clear hnn
    go_enter Try.func6, Try.ntmps6
    go_wp2_with fail
    refine (HSP.out _).mono ?_
    rintro e w1 ⟨v0, rfl, hown0, hbel1⟩
    have O0 := Lib.hid hown0
    have B1 := Lib.hid hbel1
    clear hown0 hbel1
    go_wp2_with fail
    refine (HIM.out _).mono ?_
    rintro e w2 ⟨v1, rfl, hown1, hbel2⟩
    have O1 := Lib.hid hown1
    have O0b := Lib.hid (own_below O0.out hbel2)
    have B2 := Lib.hid (B1.out.trans (hbel2.mono B1.out.size))
    clear hown1 hbel2
    go_wp2_with fail
    refine (eqStringS_any L L v1 v0 _ (Rd.of_own O1.out) (Rd.of_own O0b.out) (by have := HN.out; omega)).mono ?_
    rintro e w3 ⟨rfl, m3, rfl⟩
    rw [decide_eq_true (rfl : L = L)]
    go_wp2_with fail
    refine (markStringS_any _ n 1 v1 _ _ (own_drewN O1.out m3) (by omega) (by omega)).mono ?_
    rintro e w4 ⟨rfl, hown4, hgr4⟩
    have O1c := Lib.hid hown4
    have O0c := Lib.hid ((own_drewN O0b.out m3).kept hgr4 (own_ne (w := w) O0.out O1.out))
    have B4 := Lib.hid (below_marked (below_drewN B2.out m3) (own_drewN O1.out m3) B1.out.size hgr4)
    clear hown4 hgr4
    go_wp2_with fail
    refine (heldStringS_any _ n 1 v1 _ O1c.out (by omega) (by omega)).mono ?_
    rintro e w5 ⟨rfl, hbel5⟩
    have O1d := Lib.hid (own_below O1c.out hbel5)
    have O0d := Lib.hid (own_below O0c.out hbel5)
    have B5 := Lib.hid (B4.out.trans (hbel5.mono B4.out.size))
    clear hbel5
    go_wp2_with fail
    refine (HIM.out _).mono ?_
    rintro e w6 ⟨v2, rfl, hown6, hbel6⟩
    have O2 := Lib.hid hown6
    have O1e := Lib.hid (own_below O1d.out hbel6)
    have O0e := Lib.hid (own_below O0d.out hbel6)
    have B6 := Lib.hid (B5.out.trans (hbel6.mono B5.out.size))
    clear hown6 hbel6
    go_wp2_with fail
    refine (eqStringS_any L L v2 v0 _ (Rd.of_own O2.out) (Rd.of_own O0e.out) (by have := HN.out; omega)).mono ?_
    rintro e w7 ⟨rfl, m7, rfl⟩
    rw [decide_eq_true (rfl : L = L)]
    go_wp2_with fail
    refine (heldStringS_any _ n 1 v1 _ (own_drewN O1e.out m7) (by omega) (by omega)).mono ?_
    rintro e w8 ⟨rfl, hbel8⟩
    have B8 := Lib.hid ((below_drewN B6.out m7).trans (hbel8.mono B6.out.size))
    clear hbel8
    go_wp2_with fail
    go_ret
    exact ⟨rfl, B8.out⟩
end Go.Proofs.Ytfbkefgabkiakaa
