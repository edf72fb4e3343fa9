/- The walk of the law: what follows cannot change the characters ahead of an incomplete one. -/
import Derived.Test.YtaigjiiknmgclaaDoorPrefix
import Derived.Test.YtaigjiiknmgclaaDoorImplCompl
import Derived.Test.YtaigjiiknmgclaaDoorReadChars
import Derived.Test.YtaigjiiknmgclaaDoorMakeString
namespace Go.Proofs.YtaigjiiknmgclaaDoor
open Go.RowKit
set_option linter.unusedVariables false

theorem compl_nil : complB ⟨#[]⟩ = 0 := by kernel_rfl
theorem compl_e4 : complB ⟨#[97, 228]⟩ = 1 := by kernel_rfl
theorem implCompl_at (s : ByteArray) (c : Int) (h : ((complB s : Nat) : Int) = c) (w : World) (hs : s.size ≤ 100000000) (hT : Tabs w) :
    Calls Tryd.prog 18 #[.string s] w fun e w' => e = .returned (.int .i64 c) ∧ Below w.heap.size w w' := by
  subst h; exact implCompl s w hs hT
theorem run_head (s : ByteArray) (c : Nat) (hc : c ≤ s.size) (w : World) :
    (Instr.slice 9 (.string s) none (some (.int .i64 (c : Int))) none).run Tryd.prog w = .ok (.string (s.extract 0 c)) w := by
  rw [run_slice_string_h (P := Tryd.prog) (w := w) (t := 9) (s := s) (ht := Tryd.underlying9) .i64 _ (by omega) (by omega)]
  rw [Int.toNat_natCast]

set_option maxRecDepth 100000 in
set_option maxHeartbeats 2000000 in
theorem law_FnComplete (w : World) (A : Option Addr) (len cap : Nat) (zs : List Int) (hz : IsBytes w A len cap zs) (hT : Tabs w) :
    Calls Tryd.prog 4 #[.slice A len cap] w fun e w' => e = .returned (.bool true) ∧ Below w.heap.size w w' := by
  have hlc := hz.1
  have hcm := hz.2.1
  have HZ := Lib.hid hz
  have HT := Lib.hid hT
  clear hz hT
  by_cases h : (1048576 : Int) < (len : Int)
  · go_enter Tryd.func4, Tryd.ntmps4
    go_wp2
    go_ret
    exact ⟨rfl, Below.refl _ _⟩
  · go_enter Tryd.func4, Tryd.ntmps4
    go_wp2_with fail
    refine (makeString_any 1 A len cap zs _ HZ.out (by omega)).mono ?_
    rintro e w1 ⟨⟨s, hs, rfl⟩, hb1⟩
    have B1 := Lib.hid hb1
    clear hb1
    go_wp2_with fail
    refine (makeString_any 9 A len cap zs _ (HZ.out.keep B1.out) (by omega)).mono ?_
    rintro e w2 ⟨⟨x, hx, rfl⟩, hb2⟩
    have B2 := Lib.hid (B1.out.trans (hb2.mono B1.out.size))
    clear hb2
    have hcf := compl_facts s
    have hpre := closed_prefix s x
    have hcw := fun W (hW : Tabs W) => implCompl s W (by omega) hW
    obtain ⟨c, hc⟩ : ∃ c, c = complB s := ⟨_, rfl⟩
    rw [← hc] at hcf hpre hcw
    have hc1 : c ≤ s.size := hcf.1
    have hc2 : s.size - c ≤ 3 := hcf.2.1
    have HCW := Lib.hid hcw
    have hlen := hpre.length_le
    have hz1 : (s.extract 0 c).size = c := head_size s c hc1
    have hz2 : (s ++ x).size = s.size + x.size := ByteArray.size_append' s x
    have hl2 := runesB_length (s ++ x)
    have hr1 := fun W (hW : Tabs W) => implRunesOf (s.extract 0 c) W (by omega) hW
    have hr2 := fun W (hW : Tabs W) => implRunesOf (s ++ x) W (by omega) hW
    have hsl := run_head s c hc1
    have n0 := Lib.hid (implCompl_at ⟨#[]⟩ 0 (by rw [compl_nil]; rfl))
    have n1 := Lib.hid (implCompl_at ⟨#[97, 228]⟩ 1 (by rw [compl_e4]; rfl))
    obtain ⟨a, ha⟩ : ∃ a, a = s.extract 0 c := ⟨_, rfl⟩
    rw [← ha] at hpre hr1 hsl hlen
    obtain ⟨b, hb⟩ : ∃ b, b = s ++ x := ⟨_, rfl⟩
    obtain ⟨L1, hL1⟩ : ∃ L, L = runesB a := ⟨_, rfl⟩
    obtain ⟨L2, hL2⟩ : ∃ L, L = runesB (s ++ x) := ⟨_, rfl⟩
    rw [← hL1] at hpre hr1 hlen
    rw [← hL2] at hpre hr2 hl2 hlen
    have HP := Lib.hid hpre
    have HR1 := Lib.hid hr1
    have HR2 := Lib.hid hr2
    obtain ⟨m1, hm1⟩ : ∃ m, m = L1.length := ⟨_, rfl⟩
    obtain ⟨m2, hm2⟩ : ∃ m, m = L2.length := ⟨_, rfl⟩
    rw [← hm1, ← hm2] at hlen
    have hl3 : m2 ≤ 100 := by omega
    have HM1 := Lib.hid hm1
    have HM2 := Lib.hid hm2
    have g0 : ¬ (c : Int) < 0 := by omega
    have g1 : ¬ (s.size : Int) < (c : Int) := by omega
    have g2 : ¬ (3 : Int) < (s.size : Int) - (c : Int) := by omega
    have g3 : ¬ (m2 : Int) < (m1 : Int) := by omega
    clear hcf hpre hcw hc hc2 hr1 hr2 hz1 hz2 hl2 ha hb hL1 hL2 hm1 hm2
    go_wp2_with fail
    refine (HCW.out _ (HT.out.below B2.out)).mono ?_
    rintro e w3 ⟨rfl, hb3⟩
    have B3 := Lib.hid (B2.out.trans (hb3.mono B2.out.size))
    clear hb3
    go_wp2_with fail
    refine (n0.out _ (by decide) (HT.out.below B3.out)).mono ?_
    rintro e w4 ⟨rfl, hb4⟩
    have B4 := Lib.hid (B3.out.trans (hb4.mono B3.out.size))
    clear hb4
    go_wp2_with fail
    refine (n1.out _ (by decide) (HT.out.below B4.out)).mono ?_
    rintro e w5 ⟨rfl, hb5⟩
    have B5 := Lib.hid (B4.out.trans (hb5.mono B4.out.size))
    clear hb5
    go_wp2_with fail
    refine (HR1.out _ (HT.out.below B5.out)).mono ?_
    rintro e w6 ⟨v1, rfl, o1, hb6⟩
    have O1 := Lib.hid o1
    have B6 := Lib.hid (B5.out.trans (hb6.mono B5.out.size))
    clear o1 hb6
    go_wp2_with fail
    refine (HR2.out _ (HT.out.below B6.out)).mono ?_
    rintro e w7 ⟨v2, rfl, o2, hb7⟩
    obtain ⟨A1, c1, hv1, hcell1⟩ := (Rd.of_own O1.out).below hb7
    obtain ⟨A2, c2, hv2, hcell2⟩ := Rd.of_own o2
    rw [ints_length, ← HM1.out] at hv1 hcell1
    rw [ints_length, ← HM2.out] at hv2 hcell2
    subst hv1
    subst hv2
    have HC1 := Lib.hid hcell1
    have HC2 := Lib.hid hcell2
    have B7 := Lib.hid (B6.out.trans (hb7.mono B6.out.size))
    clear hcell1 hcell2 o2 hb7
    go_wp2_with fail
    go_loop [57] (fun k => ∃ q : Nat, q ≤ m1 ∧ k = .int .i64 (q : Int)) (fun k => m1 - (intOf k).toNat)
    case atStart => exact ⟨0, Nat.zero_le _, rfl⟩
    case round =>
      obtain ⟨q, hq, rfl⟩ := hrel
      by_cases hlt : q < m1
      · have hq1 : q < L1.length := by rw [← HM1.out]; exact hlt
        have hq2 : q < L2.length := by rw [← HM2.out]; omega
        obtain ⟨g, o, rfl, _, hcc1⟩ := HC1.out (by omega)
        obtain ⟨g', o', rfl, _, hcc2⟩ := HC2.out (by omega)
        have k1 := hcc1 q _ (ints_get L1 q hq1)
        have k2 := hcc2 q _ (ints_get L2 q hq2)
        have he : L2[q] = L1[q] := (HP.out.getElem hq1).symm
        rw [he] at k2
        obtain ⟨y, hy⟩ : ∃ y, y = L1[q] := ⟨_, rfl⟩
        rw [← hy] at k1 k2
        have hlt2 : (q : Int) < (m2 : Int) := by omega
        clear hcc1 hcc2 he hy
        go_wp2
        go_round
        case rel => exact ⟨q + 1, by omega, by go_num⟩
        case measure => simp [intOf]; omega
      · go_wp2
        go_ret
        exact ⟨rfl, B7.out⟩
end Go.Proofs.YtaigjiiknmgclaaDoor
