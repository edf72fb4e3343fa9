/- The walk of the law: the width of a text is the sum over its characters; what fits is a beginning; and padding reaches the stated width. -/
import Derived.Test.YtijclaocmnkncaaDoorImplPadW
import Derived.Test.YtijclaocmnkncaaDoorWidthMath
import Derived.Test.YtijclaocmnkncaaDoorMakeString
namespace Go.Proofs.YtijclaocmnkncaaDoor
open Go.RowKit
set_option linter.unusedVariables false

theorem textW_at (x : ByteArray) (k : Int) (w : World) (hs : x.size ≤ 100000000) (hk : (textW x : Int) = k) (hT : WT w) :
    Calls Tryd.prog 15 #[.string x] w fun e w' => e = .returned (.int .i64 k) ∧ Below w.heap.size w w' := by
  have := implTextWidth x w hs hT
  rw [hk] at this
  exact this
theorem padR_size (s : ByteArray) (n : Int) : (padR s n).size ≤ s.size + 100000 := by
  have := roomB_le s n
  unfold padR; rw [ByteArray.size_append, spaces_size]; omega
theorem padL_size (s : ByteArray) (n : Int) : (padL s n).size ≤ s.size + 100000 := by
  have := roomB_le s n
  unfold padL; rw [ByteArray.size_append, spaces_size]; omega
theorem padC_size (s : ByteArray) (n : Int) : (padC s n).size ≤ s.size + 100000 := by
  have := roomB_le s n
  unfold padC; rw [ByteArray.size_append, ByteArray.size_append, spaces_size, spaces_size]; omega

set_option maxRecDepth 100000 in
set_option maxHeartbeats 4000000 in
theorem law_FnWidths (w : World) (A : Option Addr) (len cap : Nat) (zs : List Int) (hz : IsBytes w A len cap zs) (hT : WT w) :
    Calls Tryd.prog 3 #[.slice A len cap] w fun e w' => e = .returned (.bool true) ∧ Below w.heap.size w w' := by
  have hlc := hz.1
  have hcm := hz.2.1
  have HZ := Lib.hid hz
  have HT := Lib.hid hT
  clear hz hT
  by_cases h : (1048576 : Int) < (len : Int)
  · go_enter Tryd.func3, Tryd.ntmps3
    go_wp2
    go_ret
    exact ⟨rfl, Below.refl _ _⟩
  · have HRW := Lib.hid (fun r W (h : WTab W) => implRuneWidth r W h)
    go_enter Tryd.func3, Tryd.ntmps3
    go_wp2_with fail
    refine (makeString_any 1 A len cap zs w HZ.out (by omega)).mono ?_
    rintro e w1 ⟨⟨s, hs, rfl⟩, hb1⟩
    have B1 := Lib.hid hb1
    clear hb1
    go_wp2_with fail
    refine (makeNum_any 5 A len cap zs w1 (HZ.out.keep B1.out) (by omega)).mono ?_
    rintro e w2 ⟨⟨x, hx0, hx1, rfl⟩, hb2⟩
    have B2 := Lib.hid (B1.out.trans (hb2.mono B1.out.size))
    clear hb2
    have HC := Lib.hid (implRunesOf s w2 (by omega) (HT.out.below B2.out).1)
    go_wp2_with fail
    have hN0 : 0 ≤ x % 12 := by omega
    have hN1 : x % 12 ≤ 11 := by omega
    generalize x % 12 = N at hN0 hN1 ⊢
    have hlen := runesB_length s
    have htw : textW s = widthL (runesB s) := rfl
    have hfit := fit_ok s N hN0
    have hpads := pads_ok s N hN0 (by omega)
    obtain ⟨L, hL⟩ : ∃ L, L = runesB s := ⟨_, rfl⟩
    rw [← hL] at HC hlen htw
    obtain ⟨n, hn⟩ : ∃ n, n = L.length := ⟨_, rfl⟩
    have HL := Lib.hid hn
    rw [← hn] at HC hlen
    have HTW := Lib.hid htw
    have HFIT := Lib.hid hfit
    have HPADS := Lib.hid hpads
    clear hL hn htw hfit hpads
    refine HC.out.mono ?_
    rintro e w3 ⟨v, rfl, h1, h2⟩
    obtain ⟨A', c, hv, hcell⟩ := Rd.of_own h1
    rw [ints_length, ← HL.out] at hv
    rw [ints_length, ← HL.out] at hcell
    subst hv
    have HCE := Lib.hid hcell
    have B3 := Lib.hid (B2.out.trans (h2.mono B2.out.size))
    have hw3 : w.heap.size ≤ w3.heap.size := B3.out.size
    clear h1 h2 hcell
    go_wp2_with fail
    go_loopw [5, 21] (fun a k wr => ∃ (q : Nat), q ≤ n ∧ k = .int .i64 (q : Int) ∧ a = .int .i64 (widthL (L.take q) : Int) ∧ Below w3.heap.size w3 wr) (fun _ k _ => n - (intOf k).toNat)
    case atStart => exact ⟨0, Nat.zero_le _, rfl, rfl, Below.refl _ _⟩
    case round =>
      obtain ⟨q, hq, rfl, rfl, hbel⟩ := hrel
      by_cases hlt : q < n
      · have hqL : q < L.length := by rw [← HL.out]; exact hlt
        obtain ⟨g, o, rfl, hgl, hcc⟩ := HCE.out (by omega)
        have hcw : wr.cell? ⟨g, o + q, none⟩ = some (.int .i64 L[q]) := (hbel.cell (p := ⟨g, o + q, none⟩) hgl).trans (hcc q _ (ints_get L q hqL))
        have hst := widthL_take L q hqL
        have hle := widthL_take_le L q
        have hle2 := rw1_le L[q]
        have hle3 : widthL (L.take q) ≤ 200000000 := by have := HL.out; omega
        obtain ⟨y, hy⟩ : ∃ y, y = L[q] := ⟨_, rfl⟩
        rw [← hy] at hcw hst hle2
        obtain ⟨z, hz⟩ : ∃ z, z = rw1 y := ⟨_, rfl⟩
        have hcall := fun W h => HRW.out y W h
        rw [← hz] at hst hle2 hcall
        obtain ⟨t, ht⟩ : ∃ t, t = widthL (L.take q) := ⟨_, rfl⟩
        rw [← ht] at hst hle hle3
        rw [← ht]
        have HST := Lib.hid hst
        have HCL := Lib.hid hcall
        have BE := Lib.hid hbel
        clear hst hcall hy hz ht hcc hbel
        go_wp2_with fail
        refine (HCL.out _ (HT.out.2.below (B3.out.trans (BE.out.mono hw3)))).mono ?_
        rintro e w4 ⟨rfl, hb4⟩
        have B4 := Lib.hid (BE.out.trans (hb4.mono BE.out.size))
        clear hb4
        go_wp2_with fail
        go_roundw
        case rel => exact ⟨q + 1, by omega, by go_num, by rw [HST.out]; go_num, B4.out⟩
        case measure => simp [intOf]; omega
      · have hwl := widthL_whole L q (by rw [← HL.out]; exact hlt)
        rw [hwl]
        have htl := textW_le s
        have B4 := Lib.hid (B3.out.trans (hbel.mono hw3))
        rw [← HTW.out]
        obtain ⟨hf1, hf2, hf3⟩ := HFIT.out
        obtain ⟨hp1, hp2, hp3⟩ := HPADS.out
        have hsz1 := padR_size s N
        have hsz2 := padL_size s N
        have hsz3 := padC_size s N
        have HFW := Lib.hid (fun W (h : WT W) => implFitWidth s N W (by omega) (by omega) h)
        have HPR := Lib.hid (fun W (h : WT W) => implPadRight s N W (by omega) h)
        have HPL := Lib.hid (fun W (h : WT W) => implPadLeft s N W (by omega) h)
        have HPB := Lib.hid (fun W (h : WT W) => implPadBoth s N W (by omega) h)
        have hts := fun W (h : WT W) => textW_at s (textW s : Int) W (by omega) rfl h
        obtain ⟨f, hf⟩ : ∃ f, f = fitB s N := ⟨_, rfl⟩
        rw [← hf] at HFW hf1 hf2 hf3
        obtain ⟨p1, hq1⟩ : ∃ p, p = padR s N := ⟨_, rfl⟩
        rw [← hq1] at HPR hp1 hsz1
        obtain ⟨p2, hq2⟩ : ∃ p, p = padL s N := ⟨_, rfl⟩
        rw [← hq2] at HPL hp2 hsz2
        obtain ⟨p3, hq3⟩ : ∃ p, p = padC s N := ⟨_, rfl⟩
        rw [← hq3] at HPB hp3 hsz3
        have htf := fun W (h : WT W) => textW_at f (textW f : Int) W (by omega) rfl h
        obtain ⟨u, hu⟩ : ∃ u : Int, u = (textW f : Int) := ⟨_, rfl⟩
        rw [← hu] at htf hf3
        obtain ⟨t, ht⟩ : ∃ t, t = textW s := ⟨_, rfl⟩
        rw [← ht] at hts hp1 hp2 hp3 htl ⊢
        have HTS := Lib.hid hts
        have HTF := Lib.hid htf
        have HAB := Lib.hid (fun W (h : WT W) => textW_at ⟨#[97, 98]⟩ 2 W (by decide) (by rw [textW_ab]; rfl) h)
        have hf4 : ¬ N < u := by omega
        have hf5 : (f.size : Int) ≤ (s.size : Int) := by omega
        by_cases hgt : N < (t : Int)
        · have HP1 := Lib.hid (fun W (h : WT W) => textW_at p1 (t : Int) W (by omega) (by omega) h)
          have HP2 := Lib.hid (fun W (h : WT W) => textW_at p2 (t : Int) W (by omega) (by omega) h)
          have HP3 := Lib.hid (fun W (h : WT W) => textW_at p3 (t : Int) W (by omega) (by omega) h)
          clear hp1 hp2 hp3 hsz1 hsz2 hsz3 hts htf hf3 hf hq1 hq2 hq3 hu ht hwl hbel
          go_wp2_with fail
          refine (HFW.out _ (HT.out.below B4.out)).mono ?_
          rintro e w5 ⟨rfl, hb⟩
          have B5 := Lib.hid (B4.out.trans (hb.mono B4.out.size))
          clear hb
          go_wp2_with fail
          refine (HTF.out _ (HT.out.below B5.out)).mono ?_
          rintro e w6 ⟨rfl, hb⟩
          have B6 := Lib.hid (B5.out.trans (hb.mono B5.out.size))
          clear hb
          go_wp2_with fail
          refine (HTS.out _ (HT.out.below B6.out)).mono ?_
          rintro e w7 ⟨rfl, hb⟩
          have B7 := Lib.hid (B6.out.trans (hb.mono B6.out.size))
          clear hb
          go_wp2_with fail
          refine (HPR.out _ (HT.out.below B7.out)).mono ?_
          rintro e w8 ⟨rfl, hb⟩
          have B8 := Lib.hid (B7.out.trans (hb.mono B7.out.size))
          clear hb
          go_wp2_with fail
          refine (HP1.out _ (HT.out.below B8.out)).mono ?_
          rintro e w9 ⟨rfl, hb⟩
          have B9 := Lib.hid (B8.out.trans (hb.mono B8.out.size))
          clear hb
          go_wp2_with fail
          refine (HPL.out _ (HT.out.below B9.out)).mono ?_
          rintro e w10 ⟨rfl, hb⟩
          have B10 := Lib.hid (B9.out.trans (hb.mono B9.out.size))
          clear hb
          go_wp2_with fail
          refine (HP2.out _ (HT.out.below B10.out)).mono ?_
          rintro e w11 ⟨rfl, hb⟩
          have B11 := Lib.hid (B10.out.trans (hb.mono B10.out.size))
          clear hb
          go_wp2_with fail
          refine (HPB.out _ (HT.out.below B11.out)).mono ?_
          rintro e w12 ⟨rfl, hb⟩
          have B12 := Lib.hid (B11.out.trans (hb.mono B11.out.size))
          clear hb
          go_wp2_with fail
          refine (HP3.out _ (HT.out.below B12.out)).mono ?_
          rintro e w13 ⟨rfl, hb⟩
          have B13 := Lib.hid (B12.out.trans (hb.mono B12.out.size))
          clear hb
          go_wp2_with fail
          refine (HAB.out _ (HT.out.below B13.out)).mono ?_
          rintro e w14 ⟨rfl, hb⟩
          have B14 := Lib.hid (B13.out.trans (hb.mono B13.out.size))
          clear hb
          go_wp2_with fail
          go_ret
          exact ⟨rfl, B14.out⟩
        · have HP1 := Lib.hid (fun W (h : WT W) => textW_at p1 N W (by omega) (by omega) h)
          have HP2 := Lib.hid (fun W (h : WT W) => textW_at p2 N W (by omega) (by omega) h)
          have HP3 := Lib.hid (fun W (h : WT W) => textW_at p3 N W (by omega) (by omega) h)
          clear hp1 hp2 hp3 hsz1 hsz2 hsz3 hts htf hf3 hf hq1 hq2 hq3 hu ht hwl hbel
          go_wp2_with fail
          refine (HFW.out _ (HT.out.below B4.out)).mono ?_
          rintro e w5 ⟨rfl, hb⟩
          have B5 := Lib.hid (B4.out.trans (hb.mono B4.out.size))
          clear hb
          go_wp2_with fail
          refine (HTF.out _ (HT.out.below B5.out)).mono ?_
          rintro e w6 ⟨rfl, hb⟩
          have B6 := Lib.hid (B5.out.trans (hb.mono B5.out.size))
          clear hb
          go_wp2_with fail
          refine (HTS.out _ (HT.out.below B6.out)).mono ?_
          rintro e w7 ⟨rfl, hb⟩
          have B7 := Lib.hid (B6.out.trans (hb.mono B6.out.size))
          clear hb
          go_wp2_with fail
          refine (HPR.out _ (HT.out.below B7.out)).mono ?_
          rintro e w8 ⟨rfl, hb⟩
          have B8 := Lib.hid (B7.out.trans (hb.mono B7.out.size))
          clear hb
          go_wp2_with fail
          refine (HP1.out _ (HT.out.below B8.out)).mono ?_
          rintro e w9 ⟨rfl, hb⟩
          have B9 := Lib.hid (B8.out.trans (hb.mono B8.out.size))
          clear hb
          go_wp2_with fail
          refine (HPL.out _ (HT.out.below B9.out)).mono ?_
          rintro e w10 ⟨rfl, hb⟩
          have B10 := Lib.hid (B9.out.trans (hb.mono B9.out.size))
          clear hb
          go_wp2_with fail
          refine (HP2.out _ (HT.out.below B10.out)).mono ?_
          rintro e w11 ⟨rfl, hb⟩
          have B11 := Lib.hid (B10.out.trans (hb.mono B10.out.size))
          clear hb
          go_wp2_with fail
          refine (HPB.out _ (HT.out.below B11.out)).mono ?_
          rintro e w12 ⟨rfl, hb⟩
          have B12 := Lib.hid (B11.out.trans (hb.mono B11.out.size))
          clear hb
          go_wp2_with fail
          refine (HP3.out _ (HT.out.below B12.out)).mono ?_
          rintro e w13 ⟨rfl, hb⟩
          have B13 := Lib.hid (B12.out.trans (hb.mono B12.out.size))
          clear hb
          go_wp2_with fail
          refine (HAB.out _ (HT.out.below B13.out)).mono ?_
          rintro e w14 ⟨rfl, hb⟩
          have B14 := Lib.hid (B13.out.trans (hb.mono B13.out.size))
          clear hb
          go_wp2_with fail
          go_ret
          exact ⟨rfl, B14.out⟩
end Go.Proofs.YtijclaocmnkncaaDoor
