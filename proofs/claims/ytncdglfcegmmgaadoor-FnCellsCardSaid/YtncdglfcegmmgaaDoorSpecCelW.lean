/- CellWidth: the model's. -/
import Derived.Test.YtncdglfcegmmgaaDoorCelW
import Derived.Test.YtncdglfcegmmgaaDoorSpecWidth
import Derived.Test.YtncdglfcegmmgaaDoorSpecCfg
namespace Go.Proofs.YtncdglfcegmmgaaDoor
open Go.RowKit
set_option linter.unusedVariables false

theorem byteN_yes {x : UInt8} {n : Nat} (hn : n < 256) (h : x = UInt8.ofNat n) : ((x.toNat : Int) == (n : Int)) = true := by
  subst h
  rw [UInt8.toNat_ofNat']
  simp
  omega
theorem byteN_no {x : UInt8} {n : Nat} (hn : n < 256) (h : x ≠ UInt8.ofNat n) : ((x.toNat : Int) == (n : Int)) = false := by
  have : x.toNat ≠ n := fun e => h (UInt8.toNat_inj.1 (by rw [e, UInt8.toNat_ofNat']; omega))
  simp; omega
theorem byteN_ne {x : UInt8} {n : Nat} (hn : n < 256) (h : x = UInt8.ofNat n) : ((x.toNat : Int) != (n : Int)) = false := by
  have := byteN_yes hn h
  simp only [bne, this]; rfl
theorem byteN_nes {x : UInt8} {n : Nat} (hn : n < 256) (h : x ≠ UInt8.ofNat n) : ((x.toNat : Int) != (n : Int)) = true := by
  have := byteN_no hn h
  simp only [bne, this]; rfl
set_option maxRecDepth 100000 in
set_option maxHeartbeats 4000000 in
theorem specCelW (c : Cfg) (s : ByteArray) (w : World) (hs : s.size ≤ 1048576) :
    Calls Tryd.prog 31 #[.agg (cfgV c), .string s] w fun e w' => e = .returned (.int .i64 (celW c.fm s 0 : Int)) ∧ Below w.heap.size w w' := by
  have HLE := Lib.hid (celW_le c.fm s)
  have B0 := Lib.hid (by go_grown : Below w.heap.size w (w.alloc (.cells (cfgV c) 24)))
  have HC8 := Lib.hid (show (w.alloc (.cells (cfgV c) 24)).cell? ⟨w.heap.size, 8, none⟩ = some (.bool c.fm) from (Blk.new w 24 (cfgV c)).cell 8)
  obtain ⟨m, t, p, d, fr, fd, fl, fe, fm⟩ := c
  unfold cfgV at B0 HC8 ⊢
  simp only at HLE B0 HC8 ⊢
  obtain ⟨w0, hw0⟩ : ∃ w0, w0 = w.alloc (.cells #[.int .i64 m, .int .i64 t, .int .i64 p, .int .i64 d, .bool fr, .bool fd, .bool fl, .bool fe, .bool fm] 24) := ⟨_, rfl⟩
  have hsz0 : w0.heap.size = w.heap.size + 1 := by rw [hw0]; simp
  rw [← hw0] at B0 HC8
  have HSZ := Lib.hid hsz0
  have HW0 := Lib.hid hw0
  clear hsz0 hw0
  go_enter Tryd.func31, Tryd.ntmps31
  go_wp2
  rw [← HW0.out]
  clear HW0
  go_loopw [5, 6, 7, 8, 9, 10] (fun n i _ _ _ _ wr => ∃ (k a : Nat), k ≤ s.size ∧ a ≤ 2 * s.size ∧ i = .int .i64 (k : Int) ∧ n = .int .i64 (a : Int) ∧ Hid (a + celW fm s k = celW fm s 0) ∧ Hid (Below w0.heap.size w0 wr)) (fun _ i _ _ _ _ _ => s.size - (intOf i).toNat)
  case atStart => exact ⟨0, 0, Nat.zero_le _, Nat.zero_le _, rfl, rfl, Lib.hid (Nat.zero_add _), Lib.hid (Below.refl _ _)⟩
  case round =>
    obtain ⟨i, a, hi, ha, rfl, rfl, HA, HBE⟩ := hrel
    obtain ⟨wo, rfl⟩ : ∃ wo : World, wo = wr := ⟨_, rfl⟩
    by_cases hlt : i < s.size
    · have c8 : wo.cell? ⟨w.heap.size, 8, none⟩ = some (.bool fm) := (HBE.out.cell (p := ⟨w.heap.size, 8, none⟩) (by rw [HSZ.out]; exact Nat.lt_succ_self _)).trans HC8.out
      have hle0 := HLE.out 0
      cases fm with
      | false =>
        go_wp2
        clear c8
        refine wp_loop_rounds 1 ?_
        rw [rounds_succ]
        have hcl := ch_len s i hlt
        have hca := fun W => specDecode s i W hlt (by omega)
        have hst : a + (rw1 (ch s i).1 + celW false s (i + (ch s i).2)) = celW false s 0 := by have := HA.out; rw [celW_char false s i hlt (not_closes_none (endOf_off _))] at this; exact this
        have hz2 := rw1_le (ch s i).1
        obtain ⟨r, hr⟩ : ∃ r, r = (ch s i).1 := ⟨_, rfl⟩
        obtain ⟨mm, hmm⟩ : ∃ mm, mm = (ch s i).2 := ⟨_, rfl⟩
        rw [← hr] at hz2
        rw [← hr, ← hmm] at hca hst
        rw [← hmm] at hcl
        have hcall := fun W => specRuneWidth r W
        obtain ⟨z, hz⟩ : ∃ z, z = rw1 r := ⟨_, rfl⟩
        rw [← hz] at hz2 hst hcall
        have haz : a + z ≤ 2 * s.size := by omega
        have HST := Lib.hid hst
        have HCA := Lib.hid hca
        have HCL := Lib.hid hcall
        clear hst hca hcall hr hmm hz hle0
        go_wp2_with fail
        refine (HCA.out _).mono ?_
        rintro e w1 ⟨rfl, hb1⟩
        have B1 := Lib.hid (HBE.out.trans (hb1.mono HBE.out.size))
        clear hb1
        go_wp2_with fail
        refine (HCL.out _).mono ?_
        rintro e w2 ⟨rfl, hb2⟩
        have B2 := Lib.hid (B1.out.trans (hb2.mono B1.out.size))
        clear hb2
        go_wp2_with fail
        go_roundw
        case rel => exact ⟨i + mm, a + z, by omega, by omega, by go_num, by go_num, Lib.hid (by have := HST.out; omega), B2⟩
        case measure => simp [intOf]; omega
      | true =>
        by_cases h60 : s[i] = 60
        · have e60 : ((s[i].toNat : Int) == 60) = true := byteN_yes (n := 60) (by omega) h60
          have HEO := Lib.hid (show endOf true s[i] = 62 from by rw [h60]; rfl)
          clear h60
          go_wp2
          clear c8
          go_loopw [8] (fun b wx => ∃ k : Nat, i + 1 ≤ k ∧ k ≤ s.size ∧ b = .int .i64 (k : Int) ∧ Hid (wx = wo) ∧ Hid (findB s 62 k = findB s 62 (i + 1))) (fun b _ => s.size - (intOf b).toNat)
          case atStart => exact ⟨i + 1, Nat.le_refl _, hlt, by go_num, Lib.hid rfl, Lib.hid rfl⟩
          case round =>
            obtain ⟨k, hk1, hk2, rfl, HWX, HF⟩ := hrel
            obtain rfl := HWX.out
            by_cases hltk : k < s.size
            · by_cases hke : s[k] = 62
              · have f1 : ((s[k].toNat : Int) != 62) = false := byteN_ne (n := 62) (by omega) hke
                have hfk : findB s 62 (i + 1) = k := by rw [← HF.out, findB_hit s 62 k hltk hke]
                have hst : a + (0 + celW true s (k + 1)) = celW true s 0 := by
                  have := HA.out
                  rw [celW_skip true s i hlt ⟨by rw [HEO.out]; decide, by rw [HEO.out, hfk]; exact hltk⟩, HEO.out, hfk] at this
                  exact this
                have HST := Lib.hid hst
                have haz : a + 0 ≤ 2 * s.size := by omega
                clear hke hfk hst hle0
                go_wp2
                go_roundw
                case rel => exact ⟨k + 1, a + 0, by omega, by omega, by go_num, by go_num, Lib.hid (by have := HST.out; omega), HBE⟩
                case measure => simp [intOf]; omega
              · have f1 : ((s[k].toNat : Int) != 62) = true := byteN_nes (n := 62) (by omega) hke
                have HF2 := Lib.hid (show findB s 62 (k + 1) = findB s 62 (i + 1) from by rw [← HF.out, findB_go s 62 k hltk hke])
                clear hke
                go_wp2
                go_roundw
                case rel => exact ⟨k + 1, by omega, by omega, by go_num, by first | trivial | exact Lib.hid rfl, HF2⟩
                case measure => simp [intOf]; omega
            · have HNC := Lib.hid (show ¬ closes true s i hlt from fun hc => by
                have h2 := hc.2
                rw [HEO.out, ← HF.out, findB_end s 62 k hltk] at h2
                exact hltk h2)
              obtain rfl : k = s.size := by omega
              have hcl := ch_len s i hlt
              have hca := fun W => specDecode s i W hlt (by omega)
              have hst : a + (rw1 (ch s i).1 + celW true s (i + (ch s i).2)) = celW true s 0 := by have := HA.out; rw [celW_char true s i hlt (HNC.out)] at this; exact this
              have hz2 := rw1_le (ch s i).1
              obtain ⟨r, hr⟩ : ∃ r, r = (ch s i).1 := ⟨_, rfl⟩
              obtain ⟨mm, hmm⟩ : ∃ mm, mm = (ch s i).2 := ⟨_, rfl⟩
              rw [← hr] at hz2
              rw [← hr, ← hmm] at hca hst
              rw [← hmm] at hcl
              have hcall := fun W => specRuneWidth r W
              obtain ⟨z, hz⟩ : ∃ z, z = rw1 r := ⟨_, rfl⟩
              rw [← hz] at hz2 hst hcall
              have haz : a + z ≤ 2 * s.size := by omega
              have HST := Lib.hid hst
              have HCA := Lib.hid hca
              have HCL := Lib.hid hcall
              clear hst hca hcall hr hmm hz hle0
              go_wp2_with fail
              refine (HCA.out _).mono ?_
              rintro e w1 ⟨rfl, hb1⟩
              have B1 := Lib.hid (HBE.out.trans (hb1.mono HBE.out.size))
              clear hb1
              go_wp2_with fail
              refine (HCL.out _).mono ?_
              rintro e w2 ⟨rfl, hb2⟩
              have B2 := Lib.hid (B1.out.trans (hb2.mono B1.out.size))
              clear hb2
              go_wp2_with fail
              go_roundw
              case rel => exact ⟨i + mm, a + z, by omega, by omega, by go_num, by go_num, Lib.hid (by have := HST.out; omega), B2⟩
              case measure => simp [intOf]; omega
        · have e60 : ((s[i].toNat : Int) == 60) = false := byteN_no (n := 60) (by omega) h60
          by_cases h38 : s[i] = 38
          · have e38 : ((s[i].toNat : Int) == 38) = true := byteN_yes (n := 38) (by omega) h38
            have HEO := Lib.hid (show endOf true s[i] = 59 from by rw [h38]; rfl)
            clear h38 h60
            go_wp2
            clear c8
            go_loopw [8] (fun b wx => ∃ k : Nat, i + 1 ≤ k ∧ k ≤ s.size ∧ b = .int .i64 (k : Int) ∧ Hid (wx = wo) ∧ Hid (findB s 59 k = findB s 59 (i + 1))) (fun b _ => s.size - (intOf b).toNat)
            case atStart => exact ⟨i + 1, Nat.le_refl _, hlt, by go_num, Lib.hid rfl, Lib.hid rfl⟩
            case round =>
              obtain ⟨k, hk1, hk2, rfl, HWX, HF⟩ := hrel
              obtain rfl := HWX.out
              by_cases hltk : k < s.size
              · by_cases hke : s[k] = 59
                · have f1 : ((s[k].toNat : Int) != 59) = false := byteN_ne (n := 59) (by omega) hke
                  have hfk : findB s 59 (i + 1) = k := by rw [← HF.out, findB_hit s 59 k hltk hke]
                  have hst : a + (1 + celW true s (k + 1)) = celW true s 0 := by
                    have := HA.out
                    rw [celW_skip true s i hlt ⟨by rw [HEO.out]; decide, by rw [HEO.out, hfk]; exact hltk⟩, HEO.out, hfk] at this
                    exact this
                  have HST := Lib.hid hst
                  have haz : a + 1 ≤ 2 * s.size := by omega
                  clear hke hfk hst hle0
                  go_wp2
                  go_roundw
                  case rel => exact ⟨k + 1, a + 1, by omega, by omega, by go_num, by go_num, Lib.hid (by have := HST.out; omega), HBE⟩
                  case measure => simp [intOf]; omega
                · have f1 : ((s[k].toNat : Int) != 59) = true := byteN_nes (n := 59) (by omega) hke
                  have HF2 := Lib.hid (show findB s 59 (k + 1) = findB s 59 (i + 1) from by rw [← HF.out, findB_go s 59 k hltk hke])
                  clear hke
                  go_wp2
                  go_roundw
                  case rel => exact ⟨k + 1, by omega, by omega, by go_num, by first | trivial | exact Lib.hid rfl, HF2⟩
                  case measure => simp [intOf]; omega
              · have HNC := Lib.hid (show ¬ closes true s i hlt from fun hc => by
                  have h2 := hc.2
                  rw [HEO.out, ← HF.out, findB_end s 59 k hltk] at h2
                  exact hltk h2)
                obtain rfl : k = s.size := by omega
                have hcl := ch_len s i hlt
                have hca := fun W => specDecode s i W hlt (by omega)
                have hst : a + (rw1 (ch s i).1 + celW true s (i + (ch s i).2)) = celW true s 0 := by have := HA.out; rw [celW_char true s i hlt (HNC.out)] at this; exact this
                have hz2 := rw1_le (ch s i).1
                obtain ⟨r, hr⟩ : ∃ r, r = (ch s i).1 := ⟨_, rfl⟩
                obtain ⟨mm, hmm⟩ : ∃ mm, mm = (ch s i).2 := ⟨_, rfl⟩
                rw [← hr] at hz2
                rw [← hr, ← hmm] at hca hst
                rw [← hmm] at hcl
                have hcall := fun W => specRuneWidth r W
                obtain ⟨z, hz⟩ : ∃ z, z = rw1 r := ⟨_, rfl⟩
                rw [← hz] at hz2 hst hcall
                have haz : a + z ≤ 2 * s.size := by omega
                have HST := Lib.hid hst
                have HCA := Lib.hid hca
                have HCL := Lib.hid hcall
                clear hst hca hcall hr hmm hz hle0
                go_wp2_with fail
                refine (HCA.out _).mono ?_
                rintro e w1 ⟨rfl, hb1⟩
                have B1 := Lib.hid (HBE.out.trans (hb1.mono HBE.out.size))
                clear hb1
                go_wp2_with fail
                refine (HCL.out _).mono ?_
                rintro e w2 ⟨rfl, hb2⟩
                have B2 := Lib.hid (B1.out.trans (hb2.mono B1.out.size))
                clear hb2
                go_wp2_with fail
                go_roundw
                case rel => exact ⟨i + mm, a + z, by omega, by omega, by go_num, by go_num, Lib.hid (by have := HST.out; omega), B2⟩
                case measure => simp [intOf]; omega
          · have e38 : ((s[i].toNat : Int) == 38) = false := byteN_no (n := 38) (by omega) h38
            have HNC := Lib.hid (not_closes_none (h := hlt) (endOf_none true s[i] (.inr ⟨h60, h38⟩)))
            clear h60 h38
            go_wp2
            clear c8
            refine wp_loop_rounds 1 ?_
            rw [rounds_succ]
            have hcl := ch_len s i hlt
            have hca := fun W => specDecode s i W hlt (by omega)
            have hst : a + (rw1 (ch s i).1 + celW true s (i + (ch s i).2)) = celW true s 0 := by have := HA.out; rw [celW_char true s i hlt (HNC.out)] at this; exact this
            have hz2 := rw1_le (ch s i).1
            obtain ⟨r, hr⟩ : ∃ r, r = (ch s i).1 := ⟨_, rfl⟩
            obtain ⟨mm, hmm⟩ : ∃ mm, mm = (ch s i).2 := ⟨_, rfl⟩
            rw [← hr] at hz2
            rw [← hr, ← hmm] at hca hst
            rw [← hmm] at hcl
            have hcall := fun W => specRuneWidth r W
            obtain ⟨z, hz⟩ : ∃ z, z = rw1 r := ⟨_, rfl⟩
            rw [← hz] at hz2 hst hcall
            have haz : a + z ≤ 2 * s.size := by omega
            have HST := Lib.hid hst
            have HCA := Lib.hid hca
            have HCL := Lib.hid hcall
            clear hst hca hcall hr hmm hz hle0
            go_wp2_with fail
            refine (HCA.out _).mono ?_
            rintro e w1 ⟨rfl, hb1⟩
            have B1 := Lib.hid (HBE.out.trans (hb1.mono HBE.out.size))
            clear hb1
            go_wp2_with fail
            refine (HCL.out _).mono ?_
            rintro e w2 ⟨rfl, hb2⟩
            have B2 := Lib.hid (B1.out.trans (hb2.mono B1.out.size))
            clear hb2
            go_wp2_with fail
            go_roundw
            case rel => exact ⟨i + mm, a + z, by omega, by omega, by go_num, by go_num, Lib.hid (by have := HST.out; omega), B2⟩
            case measure => simp [intOf]; omega
    · have HE := Lib.hid (show a = celW fm s 0 from by have := HA.out; rw [celW_end fm s i hlt] at this; exact this)
      go_wp2
      go_ret
      exact ⟨ret_int (by rw [HE.out]), B0.out.trans (HBE.out.mono (by rw [HSZ.out]; exact Nat.le_succ _))⟩
set_option maxRecDepth 100000 in
set_option maxHeartbeats 1000000 in
theorem specCellWidth (c : Cfg) (s : ByteArray) (w : World) (hs : s.size ≤ 1048576) :
    Calls Tryd.prog 12 #[.agg (cfgV c), .string s] w fun e w' => e = .returned (.int .i64 (cellWB c s)) ∧ Below w.heap.size w w' := by
  have hS := fun W => specIsConfig c W
  cases hv : validC c with
  | false =>
    rw [cellWB_no s hv]
    rw [hv] at hS
    have HS := Lib.hid hS
    clear hS hv
    obtain ⟨m, t, p, d, fr, fd, fl, fe, fm⟩ := c
    unfold cfgV at HS ⊢
    simp only at HS ⊢
    go_enter Tryd.func12, Tryd.ntmps12
    go_wp2_with fail
    refine (HS.out _).mono ?_
    rintro e w1 ⟨rfl, hb1⟩
    have B1 := Lib.hid ((by go_grown : Below w.heap.size w (w.alloc _)).trans (hb1.mono (by simp)))
    clear hb1
    go_wp2_with fail
    go_ret
    exact ⟨rfl, B1.out⟩
  | true =>
    rw [cellWB_yes s hv]
    rw [hv] at hS
    have HS := Lib.hid hS
    have HR := Lib.hid (fun W => specCelW c s W hs)
    clear hS hv
    generalize (celW c.fm s 0 : Int) = z at HR ⊢
    obtain ⟨m, t, p, d, fr, fd, fl, fe, fm⟩ := c
    unfold cfgV at HS HR ⊢
    simp only at HS HR ⊢
    go_enter Tryd.func12, Tryd.ntmps12
    go_wp2_with fail
    refine (HS.out _).mono ?_
    rintro e w1 ⟨rfl, hb1⟩
    have hbx := (Boxed.new w 24 m t p d fr fd fl fe fm).below hb1 (by simp)
    have B1 := Lib.hid ((by go_grown : Below w.heap.size w (w.alloc _)).trans (hb1.mono (by simp)))
    clear hb1
    obtain ⟨c0, c1, c2, c3, c4, c5, c6, c7, c8⟩ := hbx
    go_wp2_with fail
    refine (HR.out _).mono ?_
    rintro e w2 ⟨rfl, hb2⟩
    have B2 := Lib.hid (B1.out.trans (hb2.mono B1.out.size))
    clear hb2
    go_wp2_with fail
    go_ret
    exact ⟨rfl, B2.out⟩
end Go.Proofs.YtncdglfcegmmgaaDoor
