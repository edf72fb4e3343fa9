/- The walk of the law on Join. -/
import Derived.Test.YtfbkefgabkiakaaJoin
namespace Go.Proofs.Ytfbkefgabkiakaa
open Go.RowKit
set_option linter.unusedVariables false

theorem own_cap {w : World} {base : Nat} {e : TypeId} {v : Value} {n : Nat} {xs : List Value} (h : w.ownsRow base e 1 v n xs) : ∀ A m c, v = .slice A m c → m ≤ c := by
  intro A m c hv
  rcases h.2 with ⟨rfl, _⟩ | ⟨g, cap, cur, rfl, _, _, hn, _⟩
  · cases hv; exact Nat.le_refl _
  · cases hv; exact hn

set_option maxHeartbeats 1000000 in
theorem law_FnExactJoin (w : World) (A : Option Addr) (len cap : Nat) (xs : List ByteArray) (hx : IsStrs w A len cap xs) (sep : ByteArray) (hs0 : sep.size ≤ maxLen) :
    Calls Try.prog 7 #[.slice A len cap, .string sep] w fun e w' => e = .returned (.bool true) ∧ Below w.heap.size w w' := by
  obtain ⟨hlen, hlc, hcm, hrd, hws⟩ := hx
  unfold maxLen at hs0 hcm hws
  by_cases h : (1048576 : Int) < (sep.size : Int)
  · clear hrd hws hlen
    go_enter Try.func7, Try.ntmps7
    go_wp2
    go_ret
    exact ⟨rfl, Below.refl _ _⟩
  · have hs : sep.size ≤ 1048576 := by omega
    have hsz := szStringS_any xs 1048576 _ w hrd (by omega) (by omega) (by omega) (fun x hx => hws x hx)
    obtain ⟨r, hr⟩ : ∃ r, r = szL xs 1048576 := ⟨_, rfl⟩
    rw [← hr] at hsz
    have HSZ := Lib.hid hsz
    have HR := Lib.hid hr
    have HRD := Lib.hid hrd
    clear hsz hr hrd hws
    by_cases hneg : r < 0
    · clear hlen
      go_enter Try.func7, Try.ntmps7
      go_wp2_with (go_at_call 20; refine HSZ.out.mono ?_; rintro e w' ⟨rfl, rfl⟩)
      go_ret
      exact ⟨rfl, Below.refl _ _⟩
    · have hle := szL_le xs 1048576 (by rw [← HR.out]; omega)
      have hn : xs.length ≤ 1048576 := by omega
      have ht : tot xs ≤ 1048576 := by omega
      clear hle hlen
      go_enter Try.func7, Try.ntmps7
      go_wp2_with fail
      refine HSZ.out.mono ?_
      rintro e w0 ⟨rfl, rfl⟩
      go_wp2_with fail
      refine (toStringS_any xs _ _ HRD.out hn).mono ?_
      rintro e w1 ⟨v1, rfl, hown1, hb1⟩
      have O1 := Lib.hid hown1
      have B1 := Lib.hid hb1
      clear hown1 hb1
      go_wp2_with fail
      refine (specJoin_any xs sep v1 _ (Rd.of_own O1.out) ht hn hs).mono ?_
      rintro e w2 ⟨rfl, rfl⟩
      go_wp2_with fail
      refine (toStringS_any xs _ _ (HRD.out.below B1.out) hn).mono ?_
      rintro e w3 ⟨v3, rfl, hown3, hb3⟩
      have O3 := Lib.hid hown3
      have B3 := Lib.hid (B1.out.trans (hb3.mono B1.out.size))
      clear hown3 hb3
      go_wp2_with fail
      refine (implJoin_rd xs sep v3 _ (Rd.of_own O3.out) (own_cap O3.out) ht hn hs).mono ?_
      rintro e w4 ⟨rfl, hb4⟩
      have O3b := Lib.hid (own_below O3.out hb4)
      have B4 := Lib.hid (B3.out.trans (hb4.mono B3.out.size))
      clear hb4
      go_wp2_with fail
      refine (toStringS_any xs _ _ (HRD.out.below B4.out) hn).mono ?_
      rintro e w5 ⟨v5, rfl, hown5, hb5⟩
      have O5 := Lib.hid hown5
      have O3c := Lib.hid (own_below O3b.out hb5)
      have B5 := Lib.hid (B4.out.trans (hb5.mono B4.out.size))
      clear hown5 hb5
      go_wp2_with fail
      refine (eqStringS_any xs xs v3 v5 _ (Rd.of_own O3c.out) (Rd.of_own O5.out) (by omega)).mono ?_
      rintro e w6 ⟨rfl, m6, rfl⟩
      rw [decide_eq_true (rfl : xs = xs)]
      go_wp2_with fail
      go_ret
      exact ⟨rfl, below_drewN B5.out m6⟩
end Go.Proofs.Ytfbkefgabkiakaa
