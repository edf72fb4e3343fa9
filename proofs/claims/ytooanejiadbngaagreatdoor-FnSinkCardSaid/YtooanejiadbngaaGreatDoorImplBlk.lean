/- The program's column blocks: canAlign, blockWidth, endFrom. -/
import Derived.Test.YtooanejiadbngaaGreatDoorBlkRun
import Derived.Test.YtooanejiadbngaaGreatDoorImplRound
import Derived.Test.YtooanejiadbngaaGreatDoorSpecBlk
import Derived.Test.YtooanejiadbngaaGreatDoorMapF
namespace Go.Proofs.YtooanejiadbngaaGreatDoor
open Go.RowKit
set_option linter.unusedVariables false

set_option maxRecDepth 100000 in
set_option maxHeartbeats 1000000 in
theorem implBlockWidth (c : Cfg) (n : Int) (w : World) (hv : validC c = true) (h0 : 0 ≤ n) (h1 : n ≤ 100000) :
    Calls Tryz.prog 58 #[.agg (cfgV c), .int .i64 n] w fun e w' => e = .returned (.int .i64 (blockW c n)) ∧ Below w.heap.size w w' := by
  have ht := (validC_iff c).1 hv
  have HR := Lib.hid (fun W => implRounded c (max c.cmin (n + c.cpadding)) W hv (by omega) (by omega))
  have hB0 := fun h => (if_neg h : blockW c n = 0)
  have hB1 := fun h => (if_pos h : blockW c n = roundI c (max c.cmin (n + c.cpadding)))
  have HB0 : Hid (c.fd = true → n = 0 → blockW c n = 0) := Lib.hid (fun h h' => hB0 (by rw [h, h']; simp))
  have HB1 : Hid (c.fd = false ∨ n ≠ 0 → blockW c n = roundI c (max c.cmin (n + c.cpadding))) := Lib.hid (fun h => hB1 (h.elim .inr (fun h => .inl (by omega))))
  generalize roundI c (max c.cmin (n + c.cpadding)) = q at HR HB1
  generalize blockW c n = z at HB0 HB1 ⊢
  clear hB0 hB1 hv
  obtain ⟨m, t, p, d, fr, fd, fl, fe, fm⟩ := c
  unfold cfgV at HR ⊢
  simp only at HR HB0 HB1 ht ⊢
  have hp1 : 0 ≤ p := by omega
  have hp2 : p ≤ 32 := by omega
  clear ht
  have hmx := fun ts ty w => max_any (P := Tryz.prog) ts ty m (n + p) w
  obtain ⟨mx, hmx0⟩ : ∃ x, x = max m (n + p) := ⟨_, rfl⟩
  rw [← hmx0] at hmx HR
  clear hmx0
  cases fd with
  | false =>
    have HE := Lib.hid (HB1.out (.inl rfl))
    clear HB0 HB1
    go_enter Tryz.func58, Tryz.ntmps58
    go_wp2_with fail
    refine (HR.out _).mono ?_
    rintro e w1 ⟨rfl, hb1⟩
    have B1 := Lib.hid ((by go_grown : Below w.heap.size w (w.alloc _)).trans (hb1.mono (by simp)))
    clear hb1
    go_wp2_with fail
    go_ret
    exact ⟨ret_int HE.out.symm, B1.out⟩
  | true =>
    by_cases hn : n = 0
    · have HE := Lib.hid (HB0.out rfl hn)
      have e0 : (n == 0) = true := by simp [hn]
      clear HB0 HB1 hn hmx
      go_enter Tryz.func58, Tryz.ntmps58
      go_wp2_with fail
      go_ret
      exact ⟨ret_int HE.out.symm, by go_grown⟩
    · have HE := Lib.hid (HB1.out (.inr hn))
      have e0 : (n == 0) = false := by simp [hn]
      clear HB0 HB1 hn
      go_enter Tryz.func58, Tryz.ntmps58
      go_wp2_with fail
      refine (HR.out _).mono ?_
      rintro e w1 ⟨rfl, hb1⟩
      have B1 := Lib.hid ((by go_grown : Below w.heap.size w (w.alloc _)).trans (hb1.mono (by simp)))
      clear hb1
      go_wp2_with fail
      go_ret
      exact ⟨ret_int HE.out.symm, B1.out⟩
set_option maxRecDepth 100000 in
set_option maxHeartbeats 2000000 in
theorem implCanAlign (c : Cfg) (ls : List Ln) (v : Value) (w : World) (hv : RdL w v ls) (hm : FitW ls) :
    Calls Tryz.prog 40 #[.agg (cfgV c), v] w fun e w' => e = .returned (.bool (fitsB ls && validC c)) ∧ Below w.heap.size w w' := by
  have hS := fun W => implIsConfig c W
  have HBAD := Lib.hid (fun k h hb => fitsB_bad ls k h hb)
  have hlen := hm.1
  have htot := hm.2
  have HTM := Lib.hid (fun l (h : l ∈ ls) => totL_mem ls l h)
  obtain ⟨A, ca, rfl, hA⟩ := hv
  have HA := Lib.hid hA
  obtain ⟨n, hn⟩ : ∃ n, n = ls.length := ⟨_, rfl⟩
  rw [← hn] at HA hlen ⊢
  have HN := Lib.hid hn
  obtain ⟨res, hres⟩ : ∃ r, r = (fitsB ls && validC c) := ⟨_, rfl⟩
  cases hvc : validC c with
  | false =>
    rw [hvc] at hS
    have HS := Lib.hid hS
    have HR : Hid ((fitsB ls && false) = false) := Lib.hid (Bool.and_false _)
    clear hS hA hn hm hres hvc HBAD HTM
    obtain ⟨m, t, p, d, fr, fd, fl, fe, fm⟩ := c
    unfold cfgV at HS ⊢
    simp only at HS ⊢
    generalize (fitsB ls && false) = z at HR ⊢
    go_enter Tryz.func40, Tryz.ntmps40
    go_wp2_with fail
    refine (HS.out _).mono ?_
    rintro e w1 ⟨rfl, hb1⟩
    have B1 := Lib.hid ((by go_grown : Below w.heap.size w (w.alloc _)).trans (hb1.mono (by simp)))
    clear hb1
    go_wp2_with fail
    go_ret
    exact ⟨ret_bool HR.out.symm, B1.out⟩
  | true =>
    rw [hvc] at hS hres
    have HS := Lib.hid hS
    have HR0 : Hid (fitsB ls = false → res = false) := Lib.hid (fun h => by rw [hres, h]; rfl)
    have HR1 : Hid (fitsB ls = true → res = true) := Lib.hid (fun h => by rw [hres, h]; rfl)
    rw [← hres]
    clear hS hA hn hm hres hvc
    obtain ⟨m, t, p, d, fr, fd, fl, fe, fm⟩ := c
    unfold cfgV at HS ⊢
    simp only at HS ⊢
    go_enter Tryz.func40, Tryz.ntmps40
    go_wp2_with fail
    refine (HS.out _).mono ?_
    rintro e w1 ⟨rfl, hb1⟩
    have B1 := Lib.hid ((by go_grown : Below w.heap.size w (w.alloc _)).trans (hb1.mono (by simp)))
    clear hb1
    go_wp2_with fail
    go_loopw [6, 8, 14] (fun _ _ i wr => ∃ (k : Nat), k ≤ n ∧ i = .int .i64 (k : Int) ∧ Hid (fitsB (ls.take k) = true) ∧ Hid (Below w.heap.size w wr)) (fun _ _ i _ => n - (intOf i).toNat)
    case atStart => exact ⟨0, Nat.zero_le _, rfl, Lib.hid rfl, B1⟩
    case round =>
      obtain ⟨k, hk, rfl, HF, HBE⟩ := hrel
      by_cases hlt : k < n
      · obtain ⟨ga, oa, rfl, hga, hca⟩ := HA.out (by omega)
        have hkl : k < ls.length := by rw [← HN.out]; exact hlt
        obtain ⟨⟨va, p0, hra⟩, p1, p2, p3⟩ := hca k _ (List.getElem?_eq_getElem hkl)
        have a0 := (HBE.out.cell (p := ⟨ga, oa + k * 4, none⟩) hga).trans p0
        have a1 := (HBE.out.cell (p := ⟨ga, oa + k * 4 + 1, none⟩) hga).trans p1
        have a2 := (HBE.out.cell (p := ⟨ga, oa + k * 4 + 2, none⟩) hga).trans p2
        have a3 := (HBE.out.cell (p := ⟨ga, oa + k * 4 + 3, none⟩) hga).trans p3
        have HTK := Lib.hid (fitsB_take ls k hkl)
        have HBK := Lib.hid (HBAD.out k hkl)
        have hmem := HTM.out _ (List.getElem_mem hkl)
        generalize ls[k] = l at a1 a2 a3 hra HTK HBK hmem
        obtain ⟨cl, ⟨x, m'⟩, f⟩ := l
        simp only at a1 a2 a3 hra hmem HTK HBK
        obtain ⟨Ac, cc, rfl, hin⟩ := hra
        have HIC := Lib.hid hin
        obtain ⟨z, hz⟩ : ∃ z, z = cl.length := ⟨_, rfl⟩
        have hzl : z ≤ 100000000 := by omega
        rw [← hz] at a0 HIC
        have HZ2 := Lib.hid hz
        obtain ⟨wo, rfl⟩ : ∃ wo : World, wo = wr := ⟨_, rfl⟩
        have HBO := Lib.hid (HBE.out.alloc HBE.out.size (.cells #[.slice Ac z cc, .string x, .int .i64 m', .int .i64 f] 79))
        clear hca p0 p1 p2 p3 hin hz hmem
        go_wp2_with fail
        go_loopw [8, 21] (fun _ j wx => ∃ (q : Nat), q ≤ z ∧ j = .int .i64 (q : Int) ∧ Hid (fitsC (cl.take q) = true) ∧ Hid (Below w.heap.size w wx)) (fun _ j _ => z - (intOf j).toNat)
        case atStart => exact ⟨0, Nat.zero_le _, rfl, Lib.hid rfl, HBO⟩
        case round =>
          obtain ⟨q, hq, rfl, HFC, HBX⟩ := hrel
          by_cases hltq : q < z
          · obtain ⟨gi, oi, rfl, hgi, hci⟩ := HIC.out (by omega)
            have hql : q < cl.length := by rw [← HZ2.out]; exact hltq
            obtain ⟨b0, b1⟩ := (hci q _ (List.getElem?_eq_getElem hql)).keep (fun p hp => HBX.out.cell hp) hgi
            have HCT := Lib.hid (fitsC_take cl q hql)
            have HCB := Lib.hid (fitsC_bad cl q hql)
            generalize cl[q] = ce at b0 b1 HCT HCB
            obtain ⟨yt, yw⟩ := ce
            simp only at b0 b1 HCT HCB
            have HBY := Lib.hid (HBX.out.alloc HBX.out.size (.cells #[.string yt, .int .i64 yw] 77))
            clear hci
            by_cases hr : 0 ≤ yw ∧ yw ≤ 100000
            · have HCN : Hid (fitsC (cl.take (q + 1)) = true) := Lib.hid (by rw [HCT.out, HFC.out]; simp [hr])
              have e0 : decide (yw < 0) = false := by simp; omega
              have e1 : decide (yw > 100000) = false := by simp; omega
              obtain ⟨hr0, hr1⟩ := hr
              have hr2 : ¬ yw < 0 := by omega
              have hr3 : ¬ 100000 < yw := by omega
              go_wp2_with fail
              go_roundw
              case rel => exact ⟨q + 1, by omega, by go_num, HCN, HBY⟩
              case measure => simp [intOf]; omega
            · have HNO : Hid (res = false) := Lib.hid (HR0.out (HBK.out (HCB.out hr)))
              by_cases hr0 : yw < 0
              · clear hr
                go_wp2_with fail
                go_ret
                exact ⟨ret_bool HNO.out.symm, HBY.out⟩
              · have hr1 : 100000 < yw := by omega
                clear hr
                go_wp2_with fail
                go_ret
                exact ⟨ret_bool HNO.out.symm, HBY.out⟩
          · have HALL : Hid (fitsC cl = true) := Lib.hid (by have := HFC.out; rwa [List.take_of_length_le (by rw [← HZ2.out]; omega)] at this)
            go_wp2_with fail
            go_roundw
            case rel => exact ⟨k + 1, by omega, by go_num, Lib.hid (by rw [HTK.out, HF.out, HALL.out]; rfl), HBX⟩
            case measure => simp [intOf]; omega
      · have HALL : Hid (res = true) := Lib.hid (HR1.out (by have := HF.out; rwa [List.take_of_length_le (by rw [← HN.out]; omega)] at this))
        go_wp2_with fail
        go_ret
        exact ⟨ret_bool HALL.out.symm, HBE.out⟩
theorem key_law : Maps.Keyed Tryz.prog 3 := Maps.int_keyed Tryz.underlying3
theorem wf_nat (q : Nat) (h : q ≤ 1000000000) : (Lit.int .i64 (q : Int)).wf = true := WalkArith.wf_i64 (by omega)
/-- Block B is a map of the columns below m. -/
abbrev OwnMap (W : World) (B n : Nat) (D : DataW Unit) : Prop := W.ownsMap Tryz.prog 3 (plainElem Tryz.prog 3) B n D
set_option maxRecDepth 100000 in
set_option maxHeartbeats 2000000 in
theorem implEndFrom (B n m k : Nat) (f : Nat → Nat) (D : DataW Unit) (w : World) (ho : OwnMap w B n D) (hf : MapF D m f) (hm : m ≤ 100000000) (hk : k ≤ 100000000) :
    Calls Tryz.prog 57 #[.map (some B), .int .i64 (k : Int)] w fun e w' => e = .returned (.tuple #[]) ∧ ∃ D', OwnMap w' B n D' ∧ MapF D' (min m k) f ∧ w.mapTurned w' B := by
  have hsz := hf.size
  have HT := Lib.hid ho.turned_refl
  have HO := Lib.hid ho
  have HF := Lib.hid hf
  clear ho hf
  go_enter Tryz.func57, Tryz.ntmps57
  go_wp2_with (at_len; refine wpList_len_own _ rfl _ 132 rfl 3 3 Tryz.underlying132 _ B n D rfl HO.out ?_; rw [hsz])
  clear hsz
  go_loopw [4] (fun i wr => ∃ (t : Nat) (E : DataW Unit), min m k ≤ t ∧ t ≤ m ∧ i = .int .i64 ((t : Int) - 1) ∧ Hid (OwnMap wr B n E) ∧ Hid (MapF E t f) ∧ Hid (w.mapTurned wr B)) (fun i _ => (intOf i + 1).toNat)
  case atStart => exact ⟨m, D, by omega, Nat.le_refl _, rfl, HO, HF, HT⟩
  case round =>
    obtain ⟨t, E, ht1, ht2, rfl, HOE, HFE, HTE⟩ := hrel
    by_cases hlt : k < t
    · obtain ⟨s, rfl⟩ : ∃ s, t = s + 1 := ⟨t - 1, by omega⟩
      have e1 : ((s + 1 : Nat) : Int) - 1 = (s : Int) := by omega
      rw [e1]
      have hs : s ≤ 100000000 := by omega
      have hks : k ≤ s := by omega
      clear e1
      go_wp2_with (at_delete; refine wpList_delete_own _ rfl _ _ 132 3 rfl 3 key_law Tryz.underlying132 _ B n E rfl HOE.out _ _ rfl (Maps.keyOf_int_mk Tryz.underlying3 (wf_nat s (by omega))) ?_; intro w1 ho1 ht1'; have HO1 := Lib.hid ho1; have HT1 := Lib.hid (HTE.out.trans ht1'); clear ho1 ht1')
      go_roundw
      case rel => exact ⟨s, _, by omega, by omega, rfl, HO1, Lib.hid HFE.out.del, HT1⟩
      case measure => simp [intOf]
    · obtain rfl : t = min m k := by omega
      go_wp2_with fail
      go_end0
      exact ⟨rfl, E, HOE.out, HFE.out, HTE.out⟩
end Go.Proofs.YtooanejiadbngaaGreatDoor
