/- CellWidth: the program's; the law. -/
import Derived.Test.YtncdglfcegmmgaaDoorFindB
import Derived.Test.YtncdglfcegmmgaaDoorSpecCelW
import Derived.Test.YtncdglfcegmmgaaDoorImplPadW
import Derived.Test.YtncdglfcegmmgaaDoorImplCfg
import Derived.Test.YtncdglfcegmmgaaDoorShelf
namespace Go.Proofs.YtncdglfcegmmgaaDoor
open Go.RowKit
set_option linter.unusedVariables false

theorem run_from (s : ByteArray) (k : Nat) (hk : k ≤ s.size) (w : World) :
    (Instr.slice 9 (.string s) (some (.int .i64 (k : Int))) none none).run Tryd.prog w = .ok (.string (s.extract k s.size)) w := by
  rw [run_slice_string_l (P := Tryd.prog) (w := w) (t := 9) (s := s) (ht := Tryd.underlying9) .i64 _ (by omega) (by omega)]
  rw [Int.toNat_natCast]
set_option maxRecDepth 100000 in
set_option maxHeartbeats 4000000 in
theorem implMarkup (s : ByteArray) (w : World) (hs : s.size ≤ 1048576) (hT : WT w) :
    Calls Tryd.prog 25 #[.string s] w fun e w' => e = .returned (.int .i64 (celW true s 0 : Int)) ∧ Below w.heap.size w w' := by
  have HL1 := Lib.hid (fun W => Tryd.strings_LastIndexByte s 62 (by omega) W)
  have HL2 := Lib.hid (fun W => Tryd.strings_LastIndexByte s 59 (by omega) W)
  have HK1 := Lib.hid (fun i h => last_lt s 62 (by omega) i h)
  have HK2 := Lib.hid (fun i h => last_lt s 59 (by omega) i h)
  have HT := Lib.hid hT
  obtain ⟨L1, hL1⟩ : ∃ z, z = Lib.lastIndexByte s 62 := ⟨_, rfl⟩
  obtain ⟨L2, hL2⟩ : ∃ z, z = Lib.lastIndexByte s 59 := ⟨_, rfl⟩
  have HK1' : Hid (∀ i, i < s.size → decide ((i : Int) < L1) = decide (findB s 62 (i + 1) < s.size)) := Lib.hid (by rw [hL1]; exact HK1.out)
  have HK2' : Hid (∀ i, i < s.size → decide ((i : Int) < L2) = decide (findB s 59 (i + 1) < s.size)) := Lib.hid (by rw [hL2]; exact HK2.out)
  rw [← hL1] at HL1
  rw [← hL2] at HL2
  obtain ⟨z, hz⟩ : ∃ z, z = celW true s 0 := ⟨_, rfl⟩
  have HZ : Hid (0 + celW true s 0 = z) := Lib.hid (by rw [hz]; omega)
  rw [← hz]
  clear hT hL1 hL2 HK1 HK2 hz
  go_enter Tryd.func25, Tryd.ntmps25
  go_wp2_with fail
  refine (HL1.out _).mono ?_
  rintro e w1 ⟨rfl, rfl⟩
  go_wp2_with fail
  refine (HL2.out _).mono ?_
  rintro e w2 ⟨rfl, rfl⟩
  go_wp2_with fail
  go_loopw [5, 6, 7, 8] (fun t i _ _ wr => ∃ (k n : Nat), k ≤ s.size ∧ n ≤ 2 * k ∧ i = .int .i64 (k : Int) ∧ t = .int .i64 (n : Int) ∧ Hid (n + celW true s k = z) ∧ Hid (Below w2.heap.size w2 wr)) (fun _ i _ _ _ => s.size - (intOf i).toNat)
  case atStart => exact ⟨0, 0, Nat.zero_le _, Nat.zero_le _, rfl, rfl, HZ, Lib.hid (Below.refl _ _)⟩
  case round =>
    obtain ⟨k, n, hk, hn, rfl, rfl, HN, HBE⟩ := hrel
    by_cases hlt : k < s.size
    · have i0 : (0 : Int) ≤ (k : Int) := by omega
      have i1 : (k : Int) < (s.size : Int) := by omega
      by_cases htag : s[k] = 60 ∧ findB s 62 (k + 1) < s.size
      · obtain ⟨hx, hf⟩ := htag
        have e60 : ((s[k].toNat : Int) == 60) = true := byteN_yes (n := 60) (by omega) hx
        have hl : decide ((k : Int) < L1) = true := by rw [HK1'.out k hlt, decide_eq_true_eq]; exact hf
        have hl' : (k : Int) < L1 := by simpa using hl
        have hfk : findB s 62 k = findB s 62 (k + 1) := findB_go s 62 k hlt (by rw [hx]; decide)
        have hsl := fun w => run_from s k hk w
        have hidx := index_from s 62 k (by rw [hfk]; exact hf)
        have HC := celW_tag s k hlt hx hf
        have hge := findB_ge s 62 (k + 1)
        obtain ⟨X, hX⟩ : ∃ X, X = s.extract k s.size := ⟨_, rfl⟩
        rw [← hX] at hsl hidx
        obtain ⟨f, hfd⟩ : ∃ f, f = findB s 62 (k + 1) := ⟨_, rfl⟩
        rw [hfk] at hidx
        rw [← hfd] at hidx HC hge hf
        have HI : Hid (∀ W, Calls Tryd.prog 45 #[.string X, .int .u8 62] W fun e w' => e = .returned (.int .i64 ((f : Int) - (k : Int))) ∧ w' = W) := Lib.hid (fun W => by
          have h := Tryd.strings_IndexByte X 62 W
          rw [show (62 : Int).toNat.toUInt8 = 62 from rfl, hidx] at h
          exact h)
        have HCC := Lib.hid HC
        have hl0 : (L1 : Int) ≤ 100000000 ∨ True := .inr trivial
        clear hx hl hfk hX hfd hidx HC hl0
        go_wp2_with fail
        refine (HI.out _).mono ?_
        rintro e w3 ⟨rfl, rfl⟩
        go_wp2_with fail
        go_roundw
        case rel => exact ⟨f + 1, n, by omega, by omega, by go_num, rfl, Lib.hid (by have := HN.out; rw [HCC.out] at this; exact this), HBE⟩
        case measure => simp [intOf]; omega
      · by_cases hent : s[k] = 38 ∧ findB s 59 (k + 1) < s.size
        · obtain ⟨hx, hf⟩ := hent
          have e60 : ((s[k].toNat : Int) == 60) = false := byteN_no (n := 60) (by omega) (by rw [hx]; decide)
          have e38 : ((s[k].toNat : Int) == 38) = true := byteN_yes (n := 38) (by omega) hx
          have hl : decide ((k : Int) < L2) = true := by rw [HK2'.out k hlt, decide_eq_true_eq]; exact hf
          have hl' : (k : Int) < L2 := by simpa using hl
          have hfk : findB s 59 k = findB s 59 (k + 1) := findB_go s 59 k hlt (by rw [hx]; decide)
          have hsl := fun w => run_from s k hk w
          have hidx := index_from s 59 k (by rw [hfk]; exact hf)
          have HC := celW_ent s k hlt hx hf
          have hge := findB_ge s 59 (k + 1)
          obtain ⟨X, hX⟩ : ∃ X, X = s.extract k s.size := ⟨_, rfl⟩
          rw [← hX] at hsl hidx
          obtain ⟨f, hfd⟩ : ∃ f, f = findB s 59 (k + 1) := ⟨_, rfl⟩
          rw [hfk] at hidx
          rw [← hfd] at hidx HC hge hf
          have HI : Hid (∀ W, Calls Tryd.prog 45 #[.string X, .int .u8 59] W fun e w' => e = .returned (.int .i64 ((f : Int) - (k : Int))) ∧ w' = W) := Lib.hid (fun W => by
            have h := Tryd.strings_IndexByte X 59 W
            rw [show (59 : Int).toNat.toUInt8 = 59 from rfl, hidx] at h
            exact h)
          have HCC := Lib.hid HC
          have hl0 : (L2 : Int) ≤ 100000000 ∨ True := .inr trivial
          clear hx hl hfk hX hfd hidx HC hl0
          go_wp2_with fail
          refine (HI.out _).mono ?_
          rintro e w3 ⟨rfl, rfl⟩
          go_wp2_with fail
          go_roundw
          case rel => exact ⟨f + 1, n + 1, by omega, by omega, by go_num, by go_num, Lib.hid (by have := HN.out; rw [HCC.out] at this; omega), HBE⟩
          case measure => simp [intOf]; omega
        · have HCH := Lib.hid (celW_other s k hlt (fun e h => htag ⟨e, h⟩) (fun e h => hent ⟨e, h⟩))
          have HCL := ch_len s k hlt
          have HRW := rw1_le (ch s k).1
          have HDA := Lib.hid (fun W (hW : WT W) => implDecodeAt_in s k W hlt (by omega) hW.1)
          obtain ⟨x, hx⟩ : ∃ x, x = (ch s k).1 := ⟨_, rfl⟩
          obtain ⟨m, hm⟩ : ∃ m, m = (ch s k).2 := ⟨_, rfl⟩
          rw [← hx, ← hm] at HCH HDA
          rw [← hx] at HRW
          rw [← hm] at HCL
          have HRU := Lib.hid (fun W (hW : WT W) => implRuneWidth x W hW.2)
          obtain ⟨y, hy⟩ : ∃ y, y = rw1 x := ⟨_, rfl⟩
          rw [← hy] at HCH HRW HRU
          have HWT := Lib.hid (HT.out.below HBE.out)
          have hkm := HCL.2.1
          have hk1 := HCL.1
          have HD1 : Hid (decide ((k : Int) < L1) = decide (findB s 62 (k + 1) < s.size)) := Lib.hid (HK1'.out k hlt)
          have HD2 : Hid (decide ((k : Int) < L2) = decide (findB s 59 (k + 1) < s.size)) := Lib.hid (HK2'.out k hlt)
          have HTAG := Lib.hid htag
          have HENT := Lib.hid hent
          clear hx hm hy htag hent HCL
          by_cases hx60 : s[k] = 60
          · have e60 : ((s[k].toNat : Int) == 60) = true := byteN_yes (n := 60) (by omega) hx60
            have e38 : ((s[k].toNat : Int) == 38) = false := byteN_no (n := 38) (by omega) (by rw [hx60]; decide)
            have hl : decide ((k : Int) < L1) = false := by rw [HD1.out, decide_eq_false_iff_not]; exact fun h => HTAG.out ⟨hx60, h⟩
            clear hx60
            go_wp2_with fail
            refine (HDA.out _ HWT.out).mono ?_
            rintro e w3 ⟨rfl, hb3⟩
            have B3 := Lib.hid (HBE.out.trans (hb3.mono HBE.out.size))
            have HWT3 := Lib.hid (HWT.out.below hb3)
            clear hb3
            go_wp2_with fail
            refine (HRU.out _ HWT3.out).mono ?_
            rintro e w4 ⟨rfl, hb4⟩
            have B4 := Lib.hid (B3.out.trans (hb4.mono B3.out.size))
            clear hb4
            go_wp2_with fail
            go_roundw
            case rel => exact ⟨k + m, n + y, by omega, by omega, by go_num, by go_num, Lib.hid (by have := HN.out; rw [HCH.out] at this; omega), B4⟩
            case measure => simp [intOf]; omega
          · have e60 : ((s[k].toNat : Int) == 60) = false := byteN_no (n := 60) (by omega) hx60
            clear hx60
            by_cases hx38 : s[k] = 38
            · have e38 : ((s[k].toNat : Int) == 38) = true := byteN_yes (n := 38) (by omega) hx38
              have hl : decide ((k : Int) < L2) = false := by rw [HD2.out, decide_eq_false_iff_not]; exact fun h => HENT.out ⟨hx38, h⟩
              clear hx38
              go_wp2_with fail
              refine (HDA.out _ HWT.out).mono ?_
              rintro e w3 ⟨rfl, hb3⟩
              have B3 := Lib.hid (HBE.out.trans (hb3.mono HBE.out.size))
              have HWT3 := Lib.hid (HWT.out.below hb3)
              clear hb3
              go_wp2_with fail
              refine (HRU.out _ HWT3.out).mono ?_
              rintro e w4 ⟨rfl, hb4⟩
              have B4 := Lib.hid (B3.out.trans (hb4.mono B3.out.size))
              clear hb4
              go_wp2_with fail
              go_roundw
              case rel => exact ⟨k + m, n + y, by omega, by omega, by go_num, by go_num, Lib.hid (by have := HN.out; rw [HCH.out] at this; omega), B4⟩
              case measure => simp [intOf]; omega
            · have e38 : ((s[k].toNat : Int) == 38) = false := byteN_no (n := 38) (by omega) hx38
              clear hx38
              go_wp2_with fail
              refine (HDA.out _ HWT.out).mono ?_
              rintro e w3 ⟨rfl, hb3⟩
              have B3 := Lib.hid (HBE.out.trans (hb3.mono HBE.out.size))
              have HWT3 := Lib.hid (HWT.out.below hb3)
              clear hb3
              go_wp2_with fail
              refine (HRU.out _ HWT3.out).mono ?_
              rintro e w4 ⟨rfl, hb4⟩
              have B4 := Lib.hid (B3.out.trans (hb4.mono B3.out.size))
              clear hb4
              go_wp2_with fail
              go_roundw
              case rel => exact ⟨k + m, n + y, by omega, by omega, by go_num, by go_num, Lib.hid (by have := HN.out; rw [HCH.out] at this; omega), B4⟩
              case measure => simp [intOf]; omega
    · have HE := Lib.hid (celW_end true s k hlt)
      go_wp2_with fail
      go_ret
      exact ⟨ret_int (by have := HN.out; rw [HE.out] at this; omega), HBE.out⟩
set_option maxRecDepth 100000 in
set_option maxHeartbeats 1000000 in
theorem implCellWidth (c : Cfg) (s : ByteArray) (w : World) (hs : s.size ≤ 1048576) (hT : WT w) :
    Calls Tryd.prog 10 #[.agg (cfgV c), .string s] w fun e w' => e = .returned (.int .i64 (cellWB c s)) ∧ Below w.heap.size w w' := by
  have hS := fun W => implIsConfig c W
  cases hv : validC c with
  | false =>
    rw [cellWB_no s hv]
    rw [hv] at hS
    have HS := Lib.hid hS
    clear hS hv hT
    obtain ⟨m, t, p, d, fr, fd, fl, fe, fm⟩ := c
    unfold cfgV at HS ⊢
    simp only at HS ⊢
    go_enter Tryd.func10, Tryd.ntmps10
    go_wp2_with fail
    refine (HS.out _).mono ?_
    rintro e w1 ⟨rfl, hb1⟩
    have B1 := Lib.hid ((by go_grown : Below w.heap.size w (w.alloc _)).trans (hb1.mono (by simp)))
    clear hb1
    go_wp2_with fail
    go_ret
    exact ⟨rfl, B1.out⟩
  | true =>
    rw [cellWB_yes s hv]
    rw [hv] at hS
    have HS := Lib.hid hS
    have HT := Lib.hid hT
    have HM := Lib.hid (fun W (h : WT W) => implMarkup s W hs h)
    have HW := Lib.hid (fun W (h : WT W) => implTextWidth s W (by omega) h)
    rw [← celW_off s] at HW
    clear hS hv hT
    obtain ⟨m, t, p, d, fr, fd, fl, fe, fm⟩ := c
    unfold cfgV at HS ⊢
    simp only at HS ⊢
    cases fm with
    | true =>
      generalize celW true s 0 = z at HM ⊢
      go_enter Tryd.func10, Tryd.ntmps10
      go_wp2_with fail
      refine (HS.out _).mono ?_
      rintro e w1 ⟨rfl, hb1⟩
      have hbx := (Boxed.new w 24 m t p d fr fd fl fe true).below hb1 (by simp)
      have B1 := Lib.hid ((by go_grown : Below w.heap.size w (w.alloc _)).trans (hb1.mono (by simp)))
      clear hb1
      obtain ⟨c0, c1, c2, c3, c4, c5, c6, c7, c8⟩ := hbx
      go_wp2_with fail
      refine (HM.out _ (HT.out.below B1.out)).mono ?_
      rintro e w2 ⟨rfl, hb2⟩
      have B2 := Lib.hid (B1.out.trans (hb2.mono B1.out.size))
      clear hb2
      go_wp2_with fail
      go_ret
      exact ⟨rfl, B2.out⟩
    | false =>
      generalize celW false s 0 = z at HW ⊢
      go_enter Tryd.func10, Tryd.ntmps10
      go_wp2_with fail
      refine (HS.out _).mono ?_
      rintro e w1 ⟨rfl, hb1⟩
      have hbx := (Boxed.new w 24 m t p d fr fd fl fe false).below hb1 (by simp)
      have B1 := Lib.hid ((by go_grown : Below w.heap.size w (w.alloc _)).trans (hb1.mono (by simp)))
      clear hb1
      obtain ⟨c0, c1, c2, c3, c4, c5, c6, c7, c8⟩ := hbx
      go_wp2_with fail
      refine (HW.out _ (HT.out.below B1.out)).mono ?_
      rintro e w2 ⟨rfl, hb2⟩
      have B2 := Lib.hid (B1.out.trans (hb2.mono B1.out.size))
      clear hb2
      go_wp2_with fail
      go_ret
      exact ⟨rfl, B2.out⟩
set_option maxRecDepth 100000 in
set_option maxHeartbeats 1000000 in
theorem law_FnExactCellWidth (c : Cfg) (hc : CfgFits c) (s : ByteArray) (hs : s.size ≤ maxLen) (w : World) (hT : WT w) :
    Calls Tryd.prog 4 #[.agg (cfgV c), .string s] w fun e w' => e = .returned (.bool true) ∧ Below w.heap.size w w' := by
  unfold maxLen at hs
  by_cases hbig : s.size ≤ 1048576
  · have HT := Lib.hid (fun W => toConfig_any c W)
    have HP := Lib.hid (fun W => specCellWidth c s W hbig)
    have HI := Lib.hid (fun W (h : WT W) => implCellWidth c s W hbig h)
    have HW := Lib.hid hT
    have hb : (decide ((1048576 : Int) < (s.size : Int))) = false := by simp; omega
    generalize cellWB c s = z at HP HI
    obtain ⟨m, t, p, d, fr, fd, fl, fe, fm⟩ := c
    unfold cfgV at HT HP HI ⊢
    simp only at HT HP HI ⊢
    clear hbig hc hT
    go_enter Tryd.func4, Tryd.ntmps4
    go_wp2_with fail
    refine (HT.out _).mono ?_
    rintro e w1 ⟨rfl, hb1⟩
    have hbx := (Boxed.new w 38 m t p d fr fd fl fe fm).below hb1 (by simp)
    have B1 := Lib.hid ((by go_grown : Below w.heap.size w (w.alloc _)).trans (hb1.mono (by simp)))
    have hlt1 : w.heap.size < w1.heap.size := by have := hb1.size; simp at this; omega
    clear hb1
    go_wp2_with fail
    refine (HP.out _).mono ?_
    rintro e w2 ⟨rfl, hb2⟩
    have B2 := Lib.hid (B1.out.trans (hb2.mono B1.out.size))
    obtain ⟨c0, c1, c2, c3, c4, c5, c6, c7, c8⟩ := hbx.below hb2 hlt1
    clear hb2 hbx
    go_wp2_with fail
    refine (HT.out _).mono ?_
    rintro e w3 ⟨rfl, hb3⟩
    have B3 := Lib.hid (B2.out.trans (hb3.mono B2.out.size))
    clear hb3 c0 c1 c2 c3 c4 c5 c6 c7 c8
    go_wp2_with fail
    refine (HI.out _ (HW.out.below B3.out)).mono ?_
    rintro e w4 ⟨rfl, hb4⟩
    have B4 := Lib.hid (B3.out.trans (hb4.mono B3.out.size))
    clear hb4
    go_wp2_with fail
    go_ret
    exact ⟨rfl, B4.out⟩
  · go_enter Tryd.func4, Tryd.ntmps4
    go_wp2
    go_ret
    exact ⟨rfl, by go_grown⟩
end Go.Proofs.YtncdglfcegmmgaaDoor
