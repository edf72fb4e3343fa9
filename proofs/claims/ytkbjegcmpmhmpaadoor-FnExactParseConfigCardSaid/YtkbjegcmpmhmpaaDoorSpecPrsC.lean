/- The model's ParseConfig. -/
import Derived.Test.YtkbjegcmpmhmpaaDoorCfgRead
import Derived.Test.YtkbjegcmpmhmpaaDoorCfgCells
import Derived.Test.YtkbjegcmpmhmpaaDoorSpecFmtC
import Derived.Test.YtkbjegcmpmhmpaaDoorSpecParse
import Derived.Test.YtkbjegcmpmhmpaaDoorSplit
import Derived.Deep.DeepCutAuto
namespace Go.Proofs.YtkbjegcmpmhmpaaDoor
open Go.RowKit
set_option linter.unusedVariables false

theorem has_zero (s : ByteArray) (b : UInt8) : (s.data.toList.take 0).contains b = false := rfl
theorem has_step (s : ByteArray) (b : UInt8) (k : Nat) (h : k < s.size) (hc : (s.data.toList.take k).contains b = false) (hb : s[k] ≠ b) : (s.data.toList.take (k + 1)).contains b = false := by
  rw [take_snoc s k h, List.contains_eq_any_beq, List.any_append, ← List.contains_eq_any_beq, hc]
  simp
  exact fun e => hb e.symm
theorem has_hit (s : ByteArray) (b : UInt8) (k : Nat) (h : k < s.size) (hb : s[k] = b) : hasB s b = true := by
  unfold hasB
  rw [List.contains_iff_mem, ← hb]
  exact List.getElem_mem (l := s.data.toList) h
theorem has_end (s : ByteArray) (b : UInt8) (k : Nat) (h : ¬ k < s.size) (hc : (s.data.toList.take k).contains b = false) : hasB s b = false := by
  rw [List.take_of_length_le (by rw [bytes_length]; omega)] at hc
  exact hc
set_option maxRecDepth 100000 in
set_option maxHeartbeats 400000 in
theorem l04Has_nat (s : ByteArray) (b : UInt8) (w : World) (hs : s.size ≤ 1048576) :
    Calls Tryd.prog 34 #[.string s, .int .u8 (b.toNat : Int)] w fun e w' => e = .returned (.bool (hasB s b)) ∧ w' = w := by
  go_enter Tryd.func34, Tryd.ntmps34
  go_wp2
  go_loop [5] (fun i => ∃ k : Nat, k ≤ s.size ∧ i = .int .i64 k ∧ Hid ((s.data.toList.take k).contains b = false)) (fun i => s.size - (intOf i).toNat)
  case atStart => exact ⟨0, Nat.zero_le _, rfl, Lib.hid (has_zero s b)⟩
  case round =>
    obtain ⟨k, hk, rfl, HA⟩ := hrel
    by_cases hlt : k < s.size
    · by_cases he : s[k] = b
      · have h1 : ((s[k].toNat : Int) == (b.toNat : Int)) = true := by rw [he]; simp
        have HE := Lib.hid (has_hit s b k hlt he)
        clear he
        go_wp2
        go_ret
        exact ⟨ret_bool HE.out.symm, rfl⟩
      · have h1 : ((s[k].toNat : Int) == (b.toNat : Int)) = false := by
          have : s[k].toNat ≠ b.toNat := fun e => he (UInt8.toNat_inj.1 e)
          simp; omega
        have HE := Lib.hid (has_step s b k hlt HA.out he)
        clear he
        go_wp2
        go_round
        case rel => exact ⟨k + 1, by omega, by go_num, HE⟩
        case measure => simp [intOf]; omega
    · have HE := Lib.hid (has_end s b k hlt HA.out)
      go_wp2
      go_ret
      exact ⟨ret_bool HE.out.symm, rfl⟩
theorem l04Has_any (s : ByteArray) (b : UInt8) (n : Int) (w : World) (hs : s.size ≤ 1048576) (hn : ((b.toNat : Nat) : Int) = n) :
    Calls Tryd.prog 34 #[.string s, .int .u8 n] w fun e w' => e = .returned (.bool (hasB s b)) ∧ w' = w := by
  rw [← hn]; exact l04Has_nat s b w hs
set_option maxRecDepth 100000 in
set_option maxHeartbeats 4000000 in
theorem specParseConfig (s : ByteArray) (w : World) (hs : s.size ≤ 1048576) :
    Calls Tryd.prog 16 #[.string s] w fun e w' => (∃ c ok, e = .returned (.tuple #[.agg (cfgV c), .bool ok]) ∧ ParseC s c ok) ∧ Below w.heap.size w w' := by
  have HS1 := Lib.hid (fun W => specSplitAny s ⟨#[32]⟩ W hs (by decide))
  have hps := part_size s (isSep ⟨#[32]⟩)
  have hne := split_ne s (isSep ⟨#[32]⟩)
  have hno2 := Lib.hid (fun h => no_two (t := s) h)
  have hno4 := Lib.hid (fun w0 w1 h h4 => no_four (t := s) (w0 := w0) (w1 := w1) h h4)
  obtain ⟨L, hL⟩ : ∃ L, L = splitB s (isSep ⟨#[32]⟩) := ⟨_, rfl⟩
  rw [← hL] at HS1 hps hne hno2 hno4
  have HL := Lib.hid hL
  clear hL
  obtain ⟨w0, r, rfl⟩ : ∃ x r, L = x :: r := by
    cases L with
    | nil => exact absurd rfl hne
    | cons x r => exact ⟨x, r, rfl⟩
  have hw0 : w0.size ≤ 1048576 := Nat.le_trans (hps w0 (List.mem_cons_self ..)) hs
  have HS2 := Lib.hid (fun W => specSplitAny w0 ⟨#[44]⟩ W hw0 (by decide))
  have hps2 := part_size w0 (isSep ⟨#[44]⟩)
  have hlen2 := splitB_length w0 (isSep ⟨#[44]⟩)
  obtain ⟨N, hN⟩ : ∃ N, N = splitB w0 (isSep ⟨#[44]⟩) := ⟨_, rfl⟩
  rw [← hN] at HS2 hps2 hlen2
  have HN := Lib.hid hN
  have hlen1 : (w0 :: r).length ≤ 1048577 := by rw [HL.out]; have := splitB_length s (isSep ⟨#[32]⟩); omega
  clear hN hne
  go_enter Tryd.func16, Tryd.ntmps16
  go_wp2_with fail
  refine (HS1.out _).mono ?_
  rintro e w1 ⟨v, rfl, hown1, hb1⟩
  have hz1 := (Blk.new w 24 ZC).after hb1
  have B1 := Lib.hid ((by go_grown : Below w.heap.size w (w.alloc _)).trans (hb1.mono (by simp)))
  obtain ⟨g1, cap1, rfl, hg1a, hg1, hc1⟩ := own_cells hown1 (by simp)
  have c1 : w1.cell? ⟨g1, 0, none⟩ = some (.string w0) := hc1 0 _ rfl
  have HZ1 := Lib.hid hz1
  have HC1 := Lib.hid hc1
  clear hz1 hc1 hb1 hown1
  go_wp2_with fail
  refine (HS2.out _).mono ?_
  rintro e w2 ⟨v2, rfl, hown2, hb2⟩
  have B2 := Lib.hid (B1.out.trans (hb2.mono B1.out.size))
  have HZ2 := Lib.hid (HZ1.out.after hb2)
  have HW2 := Lib.hid (fun j u h => (hb2.cell (p := ⟨g1, j, none⟩) hg1).trans (HC1.out j u h))
  have hg1' : g1 < w2.heap.size := Nat.lt_of_lt_of_le hg1 hb2.size
  have hrd2 := Rd.of_own hown2
  have HO2 := Lib.hid hown2
  obtain ⟨A2, cap2, rfl, _⟩ := hrd2
  rw [strs_length] at HO2 ⊢
  simp only [List.length_cons] at hlen1 ⊢
  clear hown2 hb2 c1
  obtain ⟨n1, hn1⟩ : ∃ n, n = r.length + 1 := ⟨_, rfl⟩
  obtain ⟨n2, hn2⟩ : ∃ n, n = N.length := ⟨_, rfl⟩
  rw [← hn1] at hlen1 ⊢
  rw [← hn2] at hlen2 HO2 ⊢
  by_cases hl2 : n1 = 2
  · by_cases hl4 : n2 = 4
    · obtain ⟨a, b, hab⟩ := two_of (l := w0 :: r) (by simp only [List.length_cons]; omega)
      obtain ⟨m0, m1, m2, m3, hN4⟩ := four_of (l := N) (by omega)
      subst hN4
      injection hab with ha hr
      subst ha hr
      subst hl2 hl4
      have hb0 : b.size ≤ 1048576 := Nat.le_trans (hps b (by simp)) hs
      have s0 : m0.size ≤ 1048576 := Nat.le_trans (hps2 m0 (by simp)) hw0
      have s1 : m1.size ≤ 1048576 := Nat.le_trans (hps2 m1 (by simp)) hw0
      have s2 : m2.size ≤ 1048576 := Nat.le_trans (hps2 m2 (by simp)) hw0
      have s3 : m3.size ≤ 1048576 := Nat.le_trans (hps2 m3 (by simp)) hw0
      have HYES := Lib.hid (fun v0 v1 v2 v3 h0 h1 h2 h3 hf => parse_no (v0 := v0) (v1 := v1) (v2 := v2) (v3 := v3) HL.out.symm HN.out.symm h0 h1 h2 h3 hf)
      obtain ⟨gn, cn, hv2, hgna, hgn, hcn⟩ := own_cells HO2.out (by decide)
      injection hv2 with hA2 _ hcap2
      subst hA2
      have cw : w2.cell? ⟨g1, 1, none⟩ = some (.string b) := HW2.out 1 _ rfl
      have HCN := Lib.hid hcn
      clear hps hps2 hno2 hno4 hcn hn1 hn2 hlen1 hlen2 HC1 HS1 HS2 HW2 HO2 hcap2
      have K1 := Lib.hid (fun W => l04Has_any b 114 114 W hb0 rfl)
      have K2 := Lib.hid (fun W => l04Has_any b 100 100 W hb0 rfl)
      have K3 := Lib.hid (fun W => l04Has_any b 108 108 W hb0 rfl)
      have K4 := Lib.hid (fun W => l04Has_any b 101 101 W hb0 rfl)
      have K5 := Lib.hid (fun W => l04Has_any b 109 109 W hb0 rfl)
      have hpc : ∀ v0 v1 v2 v3, partsC v0 v1 v2 v3 b = ⟨v0, v1, v2, v3, hasB b 114, hasB b 100, hasB b 108, hasB b 101, hasB b 109⟩ := fun _ _ _ _ => rfl
      have HPC := Lib.hid hpc
      clear hpc
      generalize hasB b 114 = x1 at K1 HPC
      generalize hasB b 100 = x2 at K2 HPC
      generalize hasB b 108 = x3 at K3 HPC
      generalize hasB b 101 = x4 at K4 HPC
      generalize hasB b 109 = x5 at K5 HPC
      go_upto_region 5 with fail
      go_cut [6] (fun s6 wx => ∃ g : Nat, s6 = .pointer (some ⟨g, 0, none⟩) ∧ w2.heap.size ≤ g ∧ Hid (Blk wx g 24 #[.int .i64 0, .int .i64 0, .int .i64 0, .int .i64 0, .bool x1, .bool x2, .bool x3, .bool x4, .bool x5]) ∧ Hid (Below w2.heap.size w2 wx))
      case first =>
        go_region_held3 (fun W => W.cell? ⟨g1, 1, none⟩ = some (.string b) ∧ Below w2.heap.size w2 W ∧ w2.heap.size ≤ W.heap.size)
          (first | exact ⟨cw, (Below.refl _ _).drew, Nat.le_refl _⟩ | exact ⟨cw, Below.refl _ _, Nat.le_refl _⟩ | exact ⟨(Below.cell (p := ⟨g1, 1, none⟩) (by go_grown : Below w2.heap.size w2 _) hg1').trans cw, by go_grown, by simp⟩)
          (first | (go_at_call 34; first | ((with_reducible refine (K1.out _).mono ?_); rintro e w3 ⟨rfl, rfl⟩) | ((with_reducible refine (K2.out _).mono ?_); rintro e w3 ⟨rfl, rfl⟩) | ((with_reducible refine (K3.out _).mono ?_); rintro e w3 ⟨rfl, rfl⟩) | ((with_reducible refine (K4.out _).mono ?_); rintro e w3 ⟨rfl, rfl⟩) | ((with_reducible refine (K5.out _).mono ?_); rintro e w3 ⟨rfl, rfl⟩)))
        all_goals (go_wp2_with fail; go_meet; exact ⟨w2.heap.size, rfl, Nat.le_refl _, Lib.hid (Blk.new w2 _ _), Lib.hid (by go_grown)⟩)
      case rest =>
        obtain ⟨g, rfl, hg, HB3, HK3⟩ := hcut
        have hne : gn ≠ g := by omega
        have hne' : g ≠ gn := by omega
        have P0 := Lib.hid (fun W => specParse m0 W s0)
        have P1 := Lib.hid (fun W => specParse m1 W s1)
        have P2 := Lib.hid (fun W => specParse m2 W s2)
        have P3 := Lib.hid (fun W => specParse m3 W s3)
        clear s0 s1 s2 s3 cw K1 K2 K3 K4 K5
        have n0 : wc.cell? ⟨gn, 0, none⟩ = some (.string m0) := (HK3.out.cell (p := ⟨gn, 0, none⟩) hgn).trans (HCN.out 0 _ rfl)
        go_wp2_with fail
        refine (P0.out _).mono ?_
        rintro e w3 ⟨hend, hb3⟩
        obtain ⟨v0, ok0, hv0, _, _, rfl⟩ := hend.num
        have HV0 := Lib.hid hv0
        have HK4 := Lib.hid (HK3.out.trans (hb3.mono HK3.out.size))
        have HB4 := Lib.hid (HB3.out.after hb3)
        clear hv0 hend hb3 n0
        have n1 : w3.cell? ⟨gn, 1, none⟩ = some (.string m1) := (HK4.out.cell (p := ⟨gn, 1, none⟩) hgn).trans (HCN.out 1 _ rfl)
        have f1 : w3.cell? ⟨g, 0, none⟩ = some (.int .i64 0) := HB4.out.cell 0
        have z1 : w3.frozen? ⟨g, 0, none⟩ = false := HB4.out.free 0
        go_wp2_with fail
        refine (P1.out _).mono ?_
        rintro e w4 ⟨hend, hb⟩
        obtain ⟨v1, ok1, hv1, _, _, rfl⟩ := hend.num
        have HV1 := Lib.hid hv1
        have HB5 : Hid (Blk w4 g 24 #[.int .i64 v0, .int .i64 0, .int .i64 0, .int .i64 0, .bool x1, .bool x2, .bool x3, .bool x4, .bool x5]) := Lib.hid ((HB4.out.set 0 (.int .i64 v0)).after hb)
        have HK5 := Lib.hid ((HK4.out.setCell hg _).trans (hb.mono (HK4.out.setCell (p := ⟨g, 0, none⟩) hg (.int .i64 v0)).size))
        clear hv1 hend hb n1 f1 z1
        have n2 : w4.cell? ⟨gn, 2, none⟩ = some (.string m2) := (HK5.out.cell (p := ⟨gn, 2, none⟩) hgn).trans (HCN.out 2 _ rfl)
        have f2 : w4.cell? ⟨g, 1, none⟩ = some (.int .i64 0) := HB5.out.cell 1
        have z2 : w4.frozen? ⟨g, 1, none⟩ = false := HB5.out.free 1
        go_wp2_with fail
        refine (P2.out _).mono ?_
        rintro e w5 ⟨hend, hb⟩
        obtain ⟨v2, ok2, hv2, _, _, rfl⟩ := hend.num
        have HV2 := Lib.hid hv2
        have HB6 : Hid (Blk w5 g 24 #[.int .i64 v0, .int .i64 v1, .int .i64 0, .int .i64 0, .bool x1, .bool x2, .bool x3, .bool x4, .bool x5]) := Lib.hid ((HB5.out.set 1 (.int .i64 v1)).after hb)
        have HK6 := Lib.hid ((HK5.out.setCell hg _).trans (hb.mono (HK5.out.setCell (p := ⟨g, 1, none⟩) hg (.int .i64 v1)).size))
        clear hv2 hend hb n2 f2 z2
        have n3 : w5.cell? ⟨gn, 3, none⟩ = some (.string m3) := (HK6.out.cell (p := ⟨gn, 3, none⟩) hgn).trans (HCN.out 3 _ rfl)
        have f3 : w5.cell? ⟨g, 2, none⟩ = some (.int .i64 0) := HB6.out.cell 2
        have z3 : w5.frozen? ⟨g, 2, none⟩ = false := HB6.out.free 2
        go_wp2_with fail
        refine (P3.out _).mono ?_
        rintro e w6 ⟨hend, hb⟩
        obtain ⟨v3, ok3, hv3, _, _, rfl⟩ := hend.num
        have HV3 := Lib.hid hv3
        have HB7 : Hid (Blk w6 g 24 #[.int .i64 v0, .int .i64 v1, .int .i64 v2, .int .i64 0, .bool x1, .bool x2, .bool x3, .bool x4, .bool x5]) := Lib.hid ((HB6.out.set 2 (.int .i64 v2)).after hb)
        have HK7 := Lib.hid ((HK6.out.setCell hg _).trans (hb.mono (HK6.out.setCell (p := ⟨g, 2, none⟩) hg (.int .i64 v2)).size))
        clear hv3 hend hb n3 f3 z3
        have f4 : w6.cell? ⟨g, 3, none⟩ = some (.int .i64 0) := HB7.out.cell 3
        have z4 : w6.frozen? ⟨g, 3, none⟩ = false := HB7.out.free 3
        obtain ⟨d0, d1, d2, d3, d4, d5, d6, d7, d8⟩ := HB7.out.boxed
        have HF := Lib.hid (fun W => specFormatConfig ⟨v0, v1, v2, v3, x1, x2, x3, x4, x5⟩ W)
        have hno := fun hf => HYES.out v0 v1 v2 v3 HV0.out HV1.out HV2.out HV3.out hf
        rw [HPC.out] at hno
        have HNO := Lib.hid hno
        have HY := Lib.hid (fun h1 h2 => parse_yes (t := s) (c := ⟨v0, v1, v2, v3, x1, x2, x3, x4, x5⟩) h1 h2)
        clear hno HYES HPC
        obtain ⟨t, ht⟩ : ∃ t, t = fmtCB ⟨v0, v1, v2, v3, x1, x2, x3, x4, x5⟩ := ⟨_, rfl⟩
        rw [← ht] at HF HNO HY
        clear ht
        unfold cfgV at HF
        simp only at HF
        by_cases he : t = ⟨#[]⟩
        · have HN9 := Lib.hid (HNO.out (.inl he))
          subst he
          go_wp2_with fail
          refine (HF.out _).mono ?_
          rintro e w7 ⟨rfl, hb⟩
          have HK8 := Lib.hid ((HK7.out.setCell hg _).trans (hb.mono (HK7.out.setCell (p := ⟨g, 3, none⟩) hg (.int .i64 v3)).size))
          have HZ8 := Lib.hid (HZ2.out.after HK8.out)
          have B8 := Lib.hid (B2.out.trans (HK8.out.mono B2.out.size))
          clear hb d0 d1 d2 d3 d4 d5 d6 d7 d8 f4 z4
          have hbx := (HZ8.out.row (cs' := ZC)).boxed
          have hz := HZ8.out
          have HBX := Lib.hid hbx
          clear hbx
          go_wp2_with (refine wpList_store_row rfl _ _ _ rfl w.heap.size ZC rfl rfl 24 ZC hz size_cfg rfl one_ZC ?_)
          obtain ⟨c0, c1, c2, c3, c4, c5, c6, c7, c8⟩ := HBX.out
          exact bodyPost_ret (v := .tuple #[.agg (cfgV zeroC), .bool false]) (by simp [results, Tryd.results16, go_sem, c0, c1, c2, c3, c4, c5, c6, c7, c8, cfgV, zeroC]) rfl ⟨⟨zeroC, false, rfl, .inr ⟨rfl, rfl, HN9.out⟩⟩, below_row B8.out (Nat.le_refl _)⟩
        · have hem := empty_no he
          by_cases hs2 : t = s
          · have hq := str_ne_no hs2
            have HY9 := Lib.hid (HY.out he hs2)
            clear he hs2
            go_wp2_with fail
            refine (HF.out _).mono ?_
            rintro e w7 ⟨rfl, hb⟩
            have HK8 := Lib.hid ((HK7.out.setCell hg _).trans (hb.mono (HK7.out.setCell (p := ⟨g, 3, none⟩) hg (.int .i64 v3)).size))
            have HB8 := Lib.hid ((HB7.out.set 3 (.int .i64 v3)).after hb)
            clear hb d0 d1 d2 d3 d4 d5 d6 d7 d8 f4 z4
            obtain ⟨d0, d1, d2, d3, d4, d5, d6, d7, d8⟩ := (show Blk w7 g 24 #[.int .i64 v0, .int .i64 v1, .int .i64 v2, .int .i64 v3, .bool x1, .bool x2, .bool x3, .bool x4, .bool x5] from HB8.out).boxed
            go_wp2_with fail
            refine (HF.out _).mono ?_
            rintro e w8 ⟨rfl, hb⟩
            have HK9 := Lib.hid (HK8.out.trans (hb.mono HK8.out.size))
            have HB9 := Lib.hid (HB8.out.after hb)
            have HZ9 := Lib.hid (HZ2.out.after HK9.out)
            have B9 := Lib.hid (B2.out.trans (HK9.out.mono B2.out.size))
            clear hb d0 d1 d2 d3 d4 d5 d6 d7 d8
            obtain ⟨d0, d1, d2, d3, d4, d5, d6, d7, d8⟩ := (show Blk w8 g 24 #[.int .i64 v0, .int .i64 v1, .int .i64 v2, .int .i64 v3, .bool x1, .bool x2, .bool x3, .bool x4, .bool x5] from HB9.out).boxed
            have hbx := (HZ9.out.row (cs' := #[.int .i64 v0, .int .i64 v1, .int .i64 v2, .int .i64 v3, .bool x1, .bool x2, .bool x3, .bool x4, .bool x5])).boxed
            have hz := HZ9.out
            have HBX := Lib.hid hbx
            have HONE := Lib.hid (one_cfg ⟨v0, v1, v2, v3, x1, x2, x3, x4, x5⟩)
            clear hbx
            go_wp2_with (refine wpList_store_row rfl _ _ _ rfl w.heap.size #[.int .i64 v0, .int .i64 v1, .int .i64 v2, .int .i64 v3, .bool x1, .bool x2, .bool x3, .bool x4, .bool x5] rfl rfl 24 ZC hz size_cfg rfl HONE.out ?_)
            obtain ⟨c0, c1, c2, c3, c4, c5, c6, c7, c8⟩ := HBX.out
            exact bodyPost_ret (v := .tuple #[.agg #[.int .i64 v0, .int .i64 v1, .int .i64 v2, .int .i64 v3, .bool x1, .bool x2, .bool x3, .bool x4, .bool x5], .bool true]) (by simp [results, Tryd.results16, go_sem, c0, c1, c2, c3, c4, c5, c6, c7, c8]) rfl ⟨⟨⟨v0, v1, v2, v3, x1, x2, x3, x4, x5⟩, true, rfl, .inl ⟨rfl, HY9.out⟩⟩, below_row B9.out (Nat.le_refl _)⟩
          · have hq := str_ne_yes hs2
            have HN9 := Lib.hid (HNO.out (.inr hs2))
            clear he hs2
            go_wp2_with fail
            refine (HF.out _).mono ?_
            rintro e w7 ⟨rfl, hb⟩
            have HK8 := Lib.hid ((HK7.out.setCell hg _).trans (hb.mono (HK7.out.setCell (p := ⟨g, 3, none⟩) hg (.int .i64 v3)).size))
            have HB8 := Lib.hid ((HB7.out.set 3 (.int .i64 v3)).after hb)
            clear hb d0 d1 d2 d3 d4 d5 d6 d7 d8 f4 z4
            obtain ⟨d0, d1, d2, d3, d4, d5, d6, d7, d8⟩ := (show Blk w7 g 24 #[.int .i64 v0, .int .i64 v1, .int .i64 v2, .int .i64 v3, .bool x1, .bool x2, .bool x3, .bool x4, .bool x5] from HB8.out).boxed
            go_wp2_with fail
            refine (HF.out _).mono ?_
            rintro e w8 ⟨rfl, hb⟩
            have HK9 := Lib.hid (HK8.out.trans (hb.mono HK8.out.size))
            have HZ9 := Lib.hid (HZ2.out.after HK9.out)
            have B9 := Lib.hid (B2.out.trans (HK9.out.mono B2.out.size))
            clear hb d0 d1 d2 d3 d4 d5 d6 d7 d8
            have hbx := (HZ9.out.row (cs' := ZC)).boxed
            have hz := HZ9.out
            have HBX := Lib.hid hbx
            clear hbx
            go_wp2_with (refine wpList_store_row rfl _ _ _ rfl w.heap.size ZC rfl rfl 24 ZC hz size_cfg rfl one_ZC ?_)
            obtain ⟨c0, c1, c2, c3, c4, c5, c6, c7, c8⟩ := HBX.out
            exact bodyPost_ret (v := .tuple #[.agg (cfgV zeroC), .bool false]) (by simp [results, Tryd.results16, go_sem, c0, c1, c2, c3, c4, c5, c6, c7, c8, cfgV, zeroC]) rfl ⟨⟨zeroC, false, rfl, .inr ⟨rfl, rfl, HN9.out⟩⟩, below_row B9.out (Nat.le_refl _)⟩
    · have q1 : ((n1 : Int) != 2) = false := by simp [hl2]
      have q2 : ((n2 : Int) != 4) = true := by simp; omega
      obtain ⟨a, b, hab⟩ := two_of (l := w0 :: r) (by simp only [List.length_cons]; omega)
      have hno : NoCfg s := hno4.out a b hab (by
        have : a = w0 := by injection hab with h _; exact h.symm
        rw [this, ← HN.out, ← hn2]; exact hl4)
      have HNO := Lib.hid hno
      clear hno hab hl4 hl2 hn1 hn2
      have hbx := (HZ2.out.row (cs' := ZC)).boxed
      have hz := HZ2.out
      have HBX := Lib.hid hbx
      clear hbx
      go_wp2_with (refine wpList_store_row rfl _ _ _ rfl w.heap.size ZC rfl rfl 24 ZC hz size_cfg rfl one_ZC ?_)
      obtain ⟨c0, c1, c2, c3, c4, c5, c6, c7, c8⟩ := HBX.out
      exact bodyPost_ret (v := .tuple #[.agg (cfgV zeroC), .bool false]) (by simp [results, Tryd.results16, go_sem, c0, c1, c2, c3, c4, c5, c6, c7, c8, cfgV, zeroC]) rfl ⟨⟨zeroC, false, rfl, .inr ⟨rfl, rfl, HNO.out⟩⟩, below_row B2.out (Nat.le_refl _)⟩
  · have q1 : ((n1 : Int) != 2) = true := by simp; omega
    have HNO := Lib.hid (hno2.out (by rw [List.length_cons]; omega))
    clear hl2 hn1 hn2
    have hbx := (HZ2.out.row (cs' := ZC)).boxed
    have hz := HZ2.out
    have HBX := Lib.hid hbx
    clear hbx
    go_wp2_with (refine wpList_store_row rfl _ _ _ rfl w.heap.size ZC rfl rfl 24 ZC hz size_cfg rfl one_ZC ?_)
    obtain ⟨c0, c1, c2, c3, c4, c5, c6, c7, c8⟩ := HBX.out
    exact bodyPost_ret (v := .tuple #[.agg (cfgV zeroC), .bool false]) (by simp [results, Tryd.results16, go_sem, c0, c1, c2, c3, c4, c5, c6, c7, c8, cfgV, zeroC]) rfl ⟨⟨zeroC, false, rfl, .inr ⟨rfl, rfl, HNO.out⟩⟩, below_row B2.out (Nat.le_refl _)⟩
end Go.Proofs.YtkbjegcmpmhmpaaDoor
