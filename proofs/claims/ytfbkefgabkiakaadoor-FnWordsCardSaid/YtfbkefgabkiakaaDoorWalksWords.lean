/- The walk of the law on words. -/
import Derived.Test.YtfbkefgabkiakaaDoorWordsPre
import Derived.Test.YtfbkefgabkiakaaDoorName
import Derived.Test.YtfbkefgabkiakaaDoorMakeText
import Derived.Test.YtfbkefgabkiakaaDoorImplParse
import Derived.Test.YtfbkefgabkiakaaDoorLaid
namespace Go.Proofs.YtfbkefgabkiakaaDoor
open Go.RowKit
set_option linter.unusedVariables false

theorem own_cap {w : World} {base : Nat} {e : TypeId} {v : Value} {n : Nat} {xs : List Value} (h : w.ownsRow base e 1 v n xs) : ∀ A m c, v = .slice A m c → m ≤ c := by
  intro A m c hv
  rcases h.2 with ⟨rfl, _⟩ | ⟨g, cap, cur, rfl, _, _, hn, _⟩
  · cases hv; exact Nat.le_refl _
  · cases hv; exact hn

set_option maxHeartbeats 1000000 in
theorem law_FnWords (w : World) (A : Option Addr) (len cap : Nat) (zs : List Int) (hz : IsBytes w A len cap zs) (hL : Pow w ∧ Errs w) :
    Calls Tryd.prog 3 #[.slice A len cap] w fun e w' => e = .returned (.bool true) ∧ Below w.heap.size w w' := by
  have hlc := hz.1
  have hcm := hz.2.1
  have HZ := Lib.hid hz
  have HL := Lib.hid hL
  clear hz hL
  by_cases h : (1048576 : Int) < (len : Int)
  · go_enter Tryd.func3, Tryd.ntmps3
    go_wp2
    go_ret
    exact ⟨rfl, Below.refl _ _⟩
  · go_enter Tryd.func3, Tryd.ntmps3
    go_wp2_with fail
    refine (makeNum_any 1 A len cap zs _ HZ.out (by omega)).mono ?_
    rintro e w1 ⟨⟨x, hx0, hx1, rfl⟩, hb1⟩
    have B1 := Lib.hid hb1
    clear hb1
    obtain ⟨n, hn⟩ : ∃ n, n = x - 30000 := ⟨_, rfl⟩
    have hn0 : -30000 ≤ n := by omega
    have hn1 : n ≤ 40000 := by omega
    go_wp2_with fail
    rw [← hn]
    clear hn
    refine (implFormatInt n _ (by omega) (by omega) (HL.out.1.below B1.out)).mono ?_
    rintro e w2 ⟨rfl, hb2⟩
    have B2 := Lib.hid (B1.out.trans (hb2.mono B1.out.size))
    clear hb2
    have hsz := fmtB_size n (by omega) (by omega)
    go_wp2_with fail
    refine (implParse (fmtB n) _ (by omega) (HL.out.2.below B2.out) (HL.out.1.below B2.out)).mono ?_
    rintro e w3 ⟨he3, hb3⟩
    obtain rfl := he3.yes ⟨⟨by omega, by omega⟩, rfl⟩
    have B3 := Lib.hid (B2.out.trans (hb3.mono B2.out.size))
    clear hb3 he3
    go_wp2_with fail
    refine (makeText_any A len cap zs _ (HZ.out.keep B3.out)).mono ?_
    rintro e w4 ⟨⟨s, hss, rfl⟩, hb4⟩
    have B4 := Lib.hid (B3.out.trans (hb4.mono B3.out.size))
    clear hb4
    go_wp2_with fail
    refine (implSplitAny s ⟨#[32]⟩ _ (by omega) (by decide)).mono ?_
    rintro e w5 ⟨v, rfl, hown, hb5⟩
    have O5 := Lib.hid hown
    have B5 := Lib.hid (B4.out.trans (hb5.mono B4.out.size))
    clear hb5 hown
    have hjoin := join_split s ⟨#[32]⟩ 32 rfl
    have htot : tot (splitB s (isSep ⟨#[32]⟩)) ≤ 1048576 := by have := tot_join (splitB s (isSep ⟨#[32]⟩)) ⟨#[32]⟩; rw [hjoin] at this; omega
    have hlen : (splitB s (isSep ⟨#[32]⟩)).length ≤ 1048576 := by have := splitB_length s (isSep ⟨#[32]⟩); omega
    have hij := implJoin_rd (splitB s (isSep ⟨#[32]⟩)) ⟨#[32]⟩ v w5 (Rd.of_own O5.out) (own_cap O5.out) htot hlen (by decide)
    rw [hjoin] at hij
    have HIJ := Lib.hid hij
    clear hij hjoin htot hlen
    go_wp2_with fail
    refine HIJ.out.mono ?_
    rintro e w6 ⟨rfl, hb6⟩
    have B6 := Lib.hid (B5.out.trans (hb6.mono B5.out.size))
    clear hb6
    go_wp2_with fail
    refine (implIsName ⟨#[120, 49]⟩ _ (by decide)).mono ?_
    rintro e w7 ⟨rfl, k, rfl⟩
    rw [name_x1]
    have B7 := Lib.hid (B6.out.trans (((Below.refl _ w6).alloc (Nat.le_refl _) (.stringIter ⟨#[120, 49]⟩ k)).mono B6.out.size))
    go_wp2_with fail
    refine (implSplitLines ⟨#[97, 10, 98, 10]⟩ _ (by decide)).mono ?_
    rintro e w8 ⟨v8, rfl, hown8, hb8⟩
    rw [two_lines] at hown8
    have B8 := Lib.hid (B7.out.trans (hb8.mono B7.out.size))
    clear hb8
    rcases hown8.2 with ⟨_, h0⟩ | ⟨g, cap8, cur, rfl, _⟩
    · omega
    · clear hown8
      go_wp2_with fail
      go_ret
      exact ⟨rfl, B8.out⟩
end Go.Proofs.YtfbkefgabkiakaaDoor
