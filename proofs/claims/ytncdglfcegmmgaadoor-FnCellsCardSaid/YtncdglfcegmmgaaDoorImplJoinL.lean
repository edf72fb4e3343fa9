/- JoinLines: the program's. -/
import Derived.Test.YtncdglfcegmmgaaDoorSpecJoinL
import Derived.Test.YtncdglfcegmmgaaDoorBuild
import Derived.Test.YtncdglfcegmmgaaDoorImplCfg
namespace Go.Proofs.YtncdglfcegmmgaaDoor
open Go.RowKit
set_option linter.unusedVariables false

set_option maxRecDepth 100000 in
set_option maxHeartbeats 4000000 in
theorem implJoinLines (c : Cfg) (ls : List Ln) (v : Value) (w : World) (hv0 : RdL w v ls) (hm : FitL ls) :
    Calls Tryd.prog 11 #[.agg (cfgV c), v] w fun e w' => e = .returned (.string (joinLB c ls)) ∧ Below w.heap.size w w' := by
  have hS := fun W => implIsConfig c W
  have hlen := hm.1
  have htot := hm.2
  obtain ⟨A, ca, rfl, hA⟩ := hv0
  have HA := Lib.hid hA
  obtain ⟨n, hn⟩ : ∃ n, n = ls.length := ⟨_, rfl⟩
  rw [← hn] at HA hlen ⊢
  have HN := Lib.hid hn
  clear hA hn hm
  cases hv : validC c with
  | false =>
    rw [joinLB_no ls hv]
    rw [hv] at hS
    have HS := Lib.hid hS
    clear hS hv
    obtain ⟨m, t, p, d, fr, fd, fl, fe, fm⟩ := c
    unfold cfgV at HS ⊢
    simp only at HS ⊢
    go_enter Tryd.func11, Tryd.ntmps11
    go_wp2_with fail
    refine (HS.out _).mono ?_
    rintro e w1 ⟨rfl, hb1⟩
    have B1 := Lib.hid ((by go_grown : Below w.heap.size w (w.alloc _)).trans (hb1.mono (by simp)))
    clear hb1
    go_wp2_with fail
    go_ret
    exact ⟨rfl, B1.out⟩
  | true =>
    have HBAD := Lib.hid (fun l h hb => joinLB_bad c ls l h hb)
    have HYES := Lib.hid (fun hk => joinLB_yes (c := c) ls hv hk)
    obtain ⟨res, hres⟩ : ∃ r, r = joinLB c ls := ⟨_, rfl⟩
    rw [← hres] at HBAD HYES ⊢
    rw [hv] at hS
    have HS := Lib.hid hS
    clear hS hv hres
    obtain ⟨m, t, p, d, fr, fd, fl, fe, fm⟩ := c
    unfold cfgV at HS ⊢
    simp only at HS ⊢
    go_enter Tryd.func11, Tryd.ntmps11
    go_wp2_with fail
    refine (HS.out _).mono ?_
    rintro e w1 ⟨rfl, hb1⟩
    have B1 := Lib.hid ((by go_grown : Below w.heap.size w (w.alloc _)).trans (hb1.mono (by simp)))
    clear hb1
    have HB0 := Lib.hid (bldNew w1)
    have B2 := Lib.hid (B1.out.alloc B1.out.size (.cells #[.pointer none, .slice none 0 0] 57))
    have hbs : w.heap.size ≤ w1.heap.size := B1.out.size
    have hb2 : w1.heap.size < (w1.alloc (.cells #[.pointer none, .slice none 0 0] 57)).heap.size := by simp
    have HLT : Hid (w1.heap.size < (w1.alloc (.cells #[.pointer none, .slice none 0 0] 57)).heap.size) := Lib.hid hb2
    clear hb2
    go_wp2_with fail
    obtain ⟨b, hb⟩ : ∃ b, b = w1.heap.size := ⟨_, rfl⟩
    rw [← hb] at HB0 hbs HLT ⊢
    clear hb
    go_loopw [7, 9, 15] (fun _ _ i wr => ∃ (k : Nat), k ≤ n ∧ i = .int .i64 (k : Int) ∧ Hid (BuiltF b b (allBytes (ls.take k)) wr) ∧ Hid (∀ l ∈ ls.take k, okFin l) ∧ Hid (Below w.heap.size w wr) ∧ Hid (b < wr.heap.size)) (fun _ _ i _ => n - (intOf i).toNat)
    case atStart => exact ⟨0, Nat.zero_le _, rfl, HB0, Lib.hid (fun l hl => by cases hl), B2, HLT⟩
    case round =>
      obtain ⟨k, hk, rfl, HO, HOK, HBE, HLB⟩ := hrel
      by_cases hlt : k < n
      · obtain ⟨ga, oa, rfl, hga, hca⟩ := HA.out (by omega)
        have hkl : k < ls.length := by rw [← HN.out]; exact hlt
        obtain ⟨⟨va, p0, hra⟩, p1, p2, p3⟩ := hca k _ (List.getElem?_eq_getElem hkl)
        have a0 := (HBE.out.cell (p := ⟨ga, oa + k * 4, none⟩) hga).trans p0
        have a1 := (HBE.out.cell (p := ⟨ga, oa + k * 4 + 1, none⟩) hga).trans p1
        have a2 := (HBE.out.cell (p := ⟨ga, oa + k * 4 + 2, none⟩) hga).trans p2
        have a3 := (HBE.out.cell (p := ⟨ga, oa + k * 4 + 3, none⟩) hga).trans p3
        have HST := Lib.hid (allBytes_take ls k hkl)
        have HXL := allBytes_take_len ls k
        have HMEM := totL_mem ls _ (List.getElem_mem hkl)
        have HB2 := Lib.hid (HBAD.out _ (List.getElem_mem hkl))
        have HOK2 := Lib.hid (fun (ho : okFin (ls[k]'hkl)) => (by
          intro l hl
          rw [List.take_succ_eq_append_getElem hkl] at hl
          rcases List.mem_append.1 hl with h | h
          · exact HOK.out l h
          · rcases List.mem_singleton.1 h with rfl
            exact ho : ∀ l ∈ ls.take (k + 1), okFin l))
        generalize ls[k] = c at a1 a2 a3 hra HST HMEM HB2 HOK2
        obtain ⟨cl, ⟨x, m'⟩, f⟩ := c
        simp only at a1 a2 a3 hra HMEM
        obtain ⟨X, hX⟩ : ∃ X, X = allBytes (ls.take k) := ⟨_, rfl⟩
        rw [← hX] at HO HST HXL
        have hXlen : X.length ≤ 2097152 := by have := HN.out; omega
        have hxs : x.size ≤ 1048576 := by omega
        have hcl : cl.length ≤ 1048576 := by omega
        have htc : totC cl ≤ 1048576 := by omega
        obtain ⟨A', c', rfl, hin⟩ := hra
        have HIN := Lib.hid hin
        clear hca p0 p1 p2 p3 hin hX HXL HMEM
        obtain ⟨z, hz⟩ : ∃ z, z = cl.length := ⟨_, rfl⟩
        obtain ⟨wo, rfl⟩ : ∃ wo : World, wo = wr := ⟨_, rfl⟩
        have hbo : b < wo.heap.size := HLB.out
        have HBK := Lib.hid (Blk.new wo 34 #[.slice A' cl.length c', .string x, .int .i64 m', .int .i64 f])
        have HO0 : Hid (BuiltF b b X (wo.alloc (.cells #[.slice A' cl.length c', .string x, .int .i64 m', .int .i64 f] 34))) := Lib.hid (bldAlloc HO.out _)
        have HB0 := Lib.hid (HBE.out.alloc HBE.out.size (.cells #[.slice A' cl.length c', .string x, .int .i64 m', .int .i64 f] 34))
        rw [← hz] at a0 HBK HO0 HB0 HIN hcl
        have HZ := Lib.hid hz
        clear hz
        go_wp2_with fail
        go_loopw [9, 22] (fun _ j wx => ∃ (q : Nat), q ≤ z ∧ j = .int .i64 (q : Int) ∧ Hid (BuiltF b b (X ++ celBytes (cl.take q)) wx) ∧ Hid (Blk wx wo.heap.size 34 #[.slice A' z c', .string x, .int .i64 m', .int .i64 f]) ∧ Hid (Below w.heap.size w wx)) (fun _ j _ => z - (intOf j).toNat)
        case atStart => exact ⟨0, Nat.zero_le _, rfl, Lib.hid (by have := HO0.out; simpa [celBytes] using this), HBK, HB0⟩
        case round =>
          obtain ⟨q, hq, rfl, HOQ, HBQ, HWQ⟩ := hrel
          have hqlen := celBytes_take_len cl q
          have hbr : b < wr.heap.size := Nat.lt_of_lt_of_le hbo (Nat.le_of_lt HBQ.out.lt)
          have hl0 : (X ++ celBytes (cl.take q)).length ≤ 4194304 := by rw [List.length_append]; have := HZ.out; omega
          have hne : wo.heap.size ≠ b := by omega
          by_cases hltq : q < z
          · obtain ⟨gi, oi, rfl, hgi, hci⟩ := HIN.out (by omega)
            have hql : q < cl.length := by rw [← HZ.out]; exact hltq
            obtain ⟨b0, b1⟩ := (hci q _ (List.getElem?_eq_getElem hql)).keep (fun p hp => HWQ.out.cell hp) hgi
            have hty := totC_mem cl _ (List.getElem_mem hql)
            have hct := celBytes_take cl q hql
            generalize cl[q] = cc at b0 b1 hty hct
            obtain ⟨y, my⟩ := cc
            simp only at b0 b1 hty hct
            have hys : y.size ≤ 1048576 := by omega
            obtain ⟨CX, hCX⟩ : ∃ CX, CX = X ++ celBytes (cl.take q) := ⟨_, rfl⟩
            have HCY := Lib.hid (show X ++ celBytes (cl.take (q + 1)) = CX ++ y.data.toList ++ [9] from by rw [hct, hCX]; simp)
            rw [← hCX] at HOQ hl0
            have HOC : Hid (BuiltF b b CX (wr.alloc (.cells #[.string y, .int .i64 my] 32))) := Lib.hid (bldAlloc HOQ.out _)
            have HBC := Lib.hid (HBQ.out.after ((Below.refl _ _).alloc (Nat.le_refl _) (.cells #[.string y, .int .i64 my] 32)))
            have HWC := Lib.hid (HWQ.out.alloc HWQ.out.size (.cells #[.string y, .int .i64 my] 32))
            have HC1 := Lib.hid (bldString b b CX y _ HOC.out (by omega) (by simp; omega))
            have HBY := Lib.hid (fun W h1 h2 => bldByte b b (CX ++ y.data.toList) 9 W h1 (by rw [List.length_append, bytes_length]; omega) h2)
            clear hci hct hCX hty hqlen
            go_wp2_with fail
            refine HC1.out.mono ?_
            rintro e w2 ⟨rfl, hb2, hw2, hk2⟩
            have HB2w := Lib.hid (HBC.out.kept hk2 hne (by decide))
            have HW2w := Lib.hid (HWC.out.trans (hw2.mono hbs))
            have hs2 : b ≤ w2.heap.size := Nat.le_trans (by simp; omega) hw2.size
            have HBU := Lib.hid hb2
            clear hb2 hw2 hk2
            go_wp2_with fail
            refine (HBY.out _ HBU.out hs2).mono ?_
            rintro e w3 ⟨rfl, hb3, hw3, hk3⟩
            have HB3w := Lib.hid (HB2w.out.kept hk3 hne (by decide))
            have HW3w := Lib.hid (HW2w.out.trans (hw3.mono hbs))
            have HBV := Lib.hid hb3
            clear hb3 hw3 hk3
            go_wp2_with fail
            go_roundw
            case rel => exact ⟨q + 1, by omega, by go_num, Lib.hid (by rw [HCY.out]; exact HBV.out), HB3w, HW3w⟩
            case measure => simp [intOf]; omega
          · have HQ := Lib.hid (show celBytes (cl.take q) = celBytes cl from by rw [List.take_of_length_le (by rw [← HZ.out]; omega)])
            rw [HQ.out] at HOQ hl0
            obtain ⟨CX, hCX⟩ : ∃ CX, CX = X ++ celBytes cl := ⟨_, rfl⟩
            rw [← hCX] at HOQ hl0
            have t1 : wr.cell? ⟨wo.heap.size, 1, none⟩ = some (.string x) := HBQ.out.cell 1
            have HC1 := Lib.hid (bldString b b CX x _ HOQ.out (by omega) (by omega))
            have HBY := Lib.hid (fun y W h1 h2 => bldByte b b (CX ++ x.data.toList) y W h1 (by rw [List.length_append, bytes_length]; omega) h2)
            have HCX := Lib.hid hCX
            clear hqlen hCX
            by_cases hok : f = 0 ∨ f = 10 ∨ f = 12
            · rcases hok with rfl | rfl | rfl
              · have HOKN := Lib.hid (HOK2.out (.inl rfl))
                go_wp2_with fail
                refine HC1.out.mono ?_
                rintro e w2 ⟨rfl, hb2, hw2, hk2⟩
                have t3 : w2.cell? ⟨wo.heap.size, 3, none⟩ = some (.int .i64 0) := (HBQ.out.kept hk2 hne (by decide)).cell 3
                have HW2w := Lib.hid (HWQ.out.trans (hw2.mono hbs))
                have HS2 := Lib.hid (Nat.lt_of_lt_of_le hbr hw2.size)
                have HBU := Lib.hid hb2
                clear hb2 hw2 hk2
                go_wp2_with fail
                go_roundw
                case rel => exact ⟨k + 1, by omega, by go_num, Lib.hid (by rw [HST.out]; have := HBU.out; rw [HCX.out] at this; simpa [lnBytes, finBytes] using this), HOKN, HW2w, HS2⟩
                case measure => simp [intOf]; omega
              · have HOKN := Lib.hid (HOK2.out (.inr (.inl rfl)))
                have HB10 := Lib.hid (HBY.out 10)
                go_wp2_with fail
                refine HC1.out.mono ?_
                rintro e w2 ⟨rfl, hb2, hw2, hk2⟩
                have t3 : w2.cell? ⟨wo.heap.size, 3, none⟩ = some (.int .i64 10) := (HBQ.out.kept hk2 hne (by decide)).cell 3
                have HW2w := Lib.hid (HWQ.out.trans (hw2.mono hbs))
                have hs2 : b < w2.heap.size := (Nat.lt_of_lt_of_le hbr hw2.size)
                have HBU := Lib.hid hb2
                clear hb2 hw2 hk2
                go_wp2_with fail
                refine (HB10.out _ HBU.out (by omega)).mono ?_
                rintro e w3 ⟨rfl, hb3, hw3, hk3⟩
                have HW3w := Lib.hid (HW2w.out.trans (hw3.mono hbs))
                have HS3 := Lib.hid (Nat.lt_of_lt_of_le hs2 hw3.size)
                have HBV := Lib.hid hb3
                clear hb3 hw3 hk3
                go_wp2_with fail
                go_roundw
                case rel => exact ⟨k + 1, by omega, by go_num, Lib.hid (by rw [HST.out]; have := HBV.out; rw [HCX.out] at this; simpa [lnBytes, finBytes] using this), HOKN, HW3w, HS3⟩
                case measure => simp [intOf]; omega
              · have HOKN := Lib.hid (HOK2.out (.inr (.inr rfl)))
                have HB12 := Lib.hid (HBY.out 12)
                go_wp2_with fail
                refine HC1.out.mono ?_
                rintro e w2 ⟨rfl, hb2, hw2, hk2⟩
                have t3 : w2.cell? ⟨wo.heap.size, 3, none⟩ = some (.int .i64 12) := (HBQ.out.kept hk2 hne (by decide)).cell 3
                have HW2w := Lib.hid (HWQ.out.trans (hw2.mono hbs))
                have hs2 : b < w2.heap.size := (Nat.lt_of_lt_of_le hbr hw2.size)
                have HBU := Lib.hid hb2
                clear hb2 hw2 hk2
                go_wp2_with fail
                refine (HB12.out _ HBU.out (by omega)).mono ?_
                rintro e w3 ⟨rfl, hb3, hw3, hk3⟩
                have HW3w := Lib.hid (HW2w.out.trans (hw3.mono hbs))
                have HS3 := Lib.hid (Nat.lt_of_lt_of_le hs2 hw3.size)
                have HBV := Lib.hid hb3
                clear hb3 hw3 hk3
                go_wp2_with fail
                go_roundw
                case rel => exact ⟨k + 1, by omega, by go_num, Lib.hid (by rw [HST.out]; have := HBV.out; rw [HCX.out] at this; simpa [lnBytes, finBytes] using this), HOKN, HW3w, HS3⟩
                case measure => simp [intOf]; omega
            · have e0 : (f == 0) = false := by simp; omega
              have e10 : (f == 10) = false := by simp; omega
              have e12 : (f == 12) = false := by simp; omega
              have HNO : Hid (res = ⟨#[]⟩) := Lib.hid (HB2.out hok)
              clear hok
              go_wp2_with fail
              refine HC1.out.mono ?_
              rintro e w2 ⟨rfl, hb2, hw2, hk2⟩
              have t3 : w2.cell? ⟨wo.heap.size, 3, none⟩ = some (.int .i64 f) := (HBQ.out.kept hk2 hne (by decide)).cell 3
              have HW2w := Lib.hid (HWQ.out.trans (hw2.mono hbs))
              clear hb2 hw2 hk2
              go_wp2_with fail
              go_ret
              exact ⟨ret_string HNO.out.symm, HW2w.out⟩
      · have HK : Hid (ls.take k = ls) := Lib.hid (List.take_of_length_le (by rw [← HN.out]; omega))
        rw [HK.out] at HO HOK
        have HT := Lib.hid (bldText b b _ _ HO.out (by have := HLB.out; omega))
        have HRES := Lib.hid (HYES.out HOK.out)
        go_wp2_with fail
        refine HT.out.mono ?_
        rintro e w2 ⟨rfl, hw2⟩
        have HW2w := Lib.hid (HBE.out.trans (hw2.mono hbs))
        clear hw2
        go_wp2_with fail
        go_ret
        exact ⟨ret_string HRES.out.symm, HW2w.out⟩
end Go.Proofs.YtncdglfcegmmgaaDoor
