/- Widths by blocks: the model's l06Widths, WidthsOf. -/
import Derived.Test.YtjdbkpckhgncbaaDoorSpecBlkS
import Derived.Test.YtjdbkpckhgncbaaDoorWidL
import Derived.Test.YtjdbkpckhgncbaaDoorOwnF
import Derived.RegionTactic
namespace Go.Proofs.YtjdbkpckhgncbaaDoor
open Go.RowKit
set_option linter.unusedVariables false

theorem Tryd.infoRowI : (Tryd.prog.info? 41).map (fun i => (i.zero, i.size, i.bytes)) = some (some (.slice none 0 0), 1, 24) := by kernel_rfl
theorem Tryd.infoIntI : (Tryd.prog.info? 3).map (fun i => (i.zero, i.size, i.bytes)) = some (some (.int .i64 0), 1, 8) := by kernel_rfl
set_option maxRecDepth 100000 in
set_option maxHeartbeats 4000000 in
theorem specWidths (c : Cfg) (ls : List Ln) (v : Value) (w : World) (hv : RdL w v ls) (hm : FitW ls) (hok : validC c = true) (hf : wideB ls) :
    Calls Tryd.prog 83 #[.agg (cfgV c), v] w fun e w' => ∃ u, e = .returned u ∧ OwnF w' w.heap.size w'.heap.size u ls.length (widF c ls) ∧ Below w.heap.size w w' := by
  obtain ⟨iR, hiR, hzR0, hzR1, hzR2⟩ := info_parts Tryd.infoRowI
  obtain ⟨iI, hiI, hzI0, hzI1, hzI2⟩ := info_parts Tryd.infoIntI
  have HBL := Lib.hid (fun W (hb : Below w.heap.size w W) => specBlocks c ls v W (hv.below hb) hm hok hf)
  have HGD := Lib.hid (bksL_good c ls)
  have HNEW := Lib.hid (Blk.new w 24 (cfgV c))
  have HTM := Lib.hid (fun l (h : l ∈ ls) => totL_mem ls l h)
  have HCN := Lib.hid (fun T h => cellsN_lt ls T h)
  have HLB : (bksL c ls).length ≤ 100000000 := by
    have h := lineBks_len c ls ls.length (Nat.le_refl _)
    rw [List.take_length] at h
    exact Nat.le_trans h hm.2
  have HWT := Lib.hid (fun k h => widB_take ls (bksL c ls) k h)
  have HWL := Lib.hid (fun l i => widB_len ls l i)
  have HALL : Hid (widB ls ((bksL c ls).take (bksL c ls).length) = widF c ls) := Lib.hid (by rw [List.take_length]; rfl)
  have HFL := Lib.hid (fun f b r i => fillTo_len f b r i)
  have hlen := hm.1
  have HTOT : Hid (totL ls ≤ 100000000) := Lib.hid hm.2
  obtain ⟨A, ca, rfl, hA⟩ := hv
  have HA := Lib.hid hA
  obtain ⟨n, hn⟩ : ∃ n, n = ls.length := ⟨_, rfl⟩
  rw [← hn] at HA hlen HBL ⊢
  have HN := Lib.hid hn
  obtain ⟨RES, hRES⟩ : ∃ r, r = widF c ls := ⟨_, rfl⟩
  rw [← hRES] at HALL ⊢
  obtain ⟨L, hL⟩ : ∃ l, l = bksL c ls := ⟨_, rfl⟩
  rw [← hL] at HBL HGD HWT HALL HLB
  have B0 := Lib.hid (by go_grown : Below w.heap.size w ((w.alloc (.cells (cfgV c) 24)).alloc (.cells #[] 41)))
  have HNEW2 := Lib.hid (HNEW.out.after ((Below.refl _ _).alloc (Nat.le_refl _) (.cells #[] 41)))
  have O0 : Hid (((w.alloc (.cells (cfgV c) 24)).alloc (.cells #[] 41)).ownsRow w.heap.size 41 1 (.slice (some ⟨w.heap.size + 1, 0, none⟩) 0 0) 0 []) := Lib.hid (by
    have h := World.ownsRow_lit (base := w.heap.size) (e := 41) (size := 1) (w.alloc (.cells (cfgV c) 24)) #[] 0 (by simp) (by unfold maxLen; omega) rfl
    rw [show (w.alloc (.cells (cfgV c) 24)).heap.size = w.heap.size + 1 by simp] at h
    exact h)
  obtain ⟨f0, hf0⟩ : ∃ f, f = widF0 ls := ⟨_, rfl⟩
  have HF0 := Lib.hid hf0
  obtain ⟨m, t, p, d, fr, fd, fl, fe, fm⟩ := c
  unfold cfgV at HBL HNEW2 B0 O0 ⊢
  simp only at HBL HNEW2 B0 O0 ⊢
  clear hA hn hm hok hf hRES hL hf0 HNEW
  go_enter Tryd.func83, Tryd.ntmps83
  go_wp2_with fail
  go_loopw [5, 7, 14] (fun o _ i wr => ∃ (k : Nat) (vo : Value), k ≤ n ∧ vo = o ∧ i = .int .i64 (k : Int) ∧ Hid (OwnF wr w.heap.size wr.heap.size vo k f0) ∧ Hid (Below w.heap.size w wr) ∧ Hid (Blk wr w.heap.size 24 #[.int .i64 m, .int .i64 t, .int .i64 p, .int .i64 d, .bool fr, .bool fd, .bool fl, .bool fe, .bool fm])) (fun _ _ i _ => n - (intOf i).toNat)
  case atStart => exact ⟨0, _, Nat.zero_le _, rfl, rfl, Lib.hid ((OwnF.nil _ _ _ _ _ O0.out (fun k hk => (World.ownsRow.lt O0.out k hk).2))), B0, HNEW2⟩
  case round =>
    obtain ⟨k, vo, hk, rfl, rfl, HO, HBE, HBC⟩ := hrel
    by_cases hlt : k < n
    · obtain ⟨ga, oa, rfl, hga, hca⟩ := HA.out (by omega)
      have hkl : k < ls.length := by rw [← HN.out]; exact hlt
      obtain ⟨⟨va, p0, hra⟩, p1, p2, p3⟩ := hca k _ (List.getElem?_eq_getElem hkl)
      have a0 := (HBE.out.cell (p := ⟨ga, oa + k * 4, none⟩) hga).trans p0
      have a1 := (HBE.out.cell (p := ⟨ga, oa + k * 4 + 1, none⟩) hga).trans p1
      have a2 := (HBE.out.cell (p := ⟨ga, oa + k * 4 + 2, none⟩) hga).trans p2
      have a3 := (HBE.out.cell (p := ⟨ga, oa + k * 4 + 3, none⟩) hga).trans p3
      have hmem := HTM.out _ (List.getElem_mem hkl)
      have HCK := Lib.hid (HCN.out k hkl)
      generalize ls[k] = l at a1 a2 a3 hra hmem HCK
      obtain ⟨cl, ⟨x, m'⟩, f⟩ := l
      simp only at a1 a2 a3 hra hmem HCK
      obtain ⟨Ac, cc, rfl, _⟩ := hra
      obtain ⟨z, hz⟩ : ∃ z, z = cl.length := ⟨_, rfl⟩
      have hzl : z ≤ 100000000 := by have := HTOT.out; omega
      rw [← hz] at a0 HCK
      have HFK : Hid (f0 k = List.replicate z 0) := Lib.hid (by rw [HF0.out]; unfold widF0; rw [HCK.out])
      obtain ⟨vs, o1, _, o3, o4⟩ := HO.out
      have HO1 := Lib.hid o1
      have HO3 := Lib.hid (fun i x hx => (o3 i x hx).1)
      have HO4 := Lib.hid o4
      obtain ⟨wo, rfl⟩ : ∃ wo : World, wo = wr := ⟨_, rfl⟩
      have HBO := Lib.hid (HBE.out.alloc HBE.out.size (.cells #[.slice Ac z cc, .string x, .int .i64 m', .int .i64 f] 46))
      have D1 := Lib.hid ((Below.refl wo.heap.size wo).alloc (Nat.le_refl _) (.cells #[.slice Ac z cc, .string x, .int .i64 m', .int .i64 f] 46))
      have hbw := HBE.out.size
      clear hca p0 p1 p2 p3 hz hmem o1 o3 o4
      go_wp2_with (first
        | (at_make; refine wpList_make_full _ rfl _ _ 41 rfl wo.heap.size 3 iI _ 1 Tryd.underlying41 hiI hzI0 hzI1 _ _ _ _ z rfl rfl rfl rfl (by rw [hzI2]; omega) (by unfold maxLen; omega) (by simp) ?_; intro w1 hown1 hgr1; have HW1 := Lib.hid hown1; have HD1 := Lib.hid (D1.out.trans ((Below.refl wo.heap.size _).grown hgr1 (by simp) (fun k hk => by cases hk))); have HP1 := Lib.hid (own_below HO1.out HD1.out); have hb1 := HD1.out.size; clear hown1 hgr1)
        | (at_builtin; refine append_el rfl _ _ 36 rfl w.heap.size 41 iR _ 1 24 Tryd.underlying36 hiR hzR0 hzR1 hzR2 rfl (by decide) vo _ vs rfl w1 #[.slice (some ⟨wo.heap.size + 1, 0, none⟩) z z] rfl rfl (row_one _ _ _) HP1.out (by omega) (by omega) (by omega) ?_; intro v1 w2 ho1 hg1 _; have HO2 := Lib.hid ho1; have HG2 := Lib.hid hg1; clear ho1 hg1))
      have HU1 : Hid (w1.ownsRow wo.heap.size 3 1 (.slice (some ⟨wo.heap.size + 1, 0, none⟩) z z) (f0 k).length (ints (f0 k))) := Lib.hid (by
        rw [HFK.out, List.length_replicate, ← ints_zero]
        have h := HW1.out
        simp at h
        simpa using h)
      have HOK := Lib.hid (OwnF.snoc HO1.out HO3.out HO4.out HD1.out hbw HU1.out HO2.out HG2.out)
      have HBC2 := Lib.hid ((HBC.out.after HD1.out).grows HP1.out (by decide) HG2.out)
      have HB2 := Lib.hid (grown_below (HBE.out.trans (HD1.out.mono hbw)) HG2.out (fun k hk => (World.ownsRow.lt HP1.out k hk).1))
      go_roundw
      case rel => exact ⟨k + 1, _, by omega, rfl, by go_num, HOK, HB2, HBC2⟩
      case measure => simp [intOf]; omega
    · obtain rfl : k = n := by omega
      have hB := HBC.out
      obtain ⟨c0, c1, c2, c3, c4, c5, c6, c7, c8⟩ := (show Boxed wr w.heap.size m t p d fr fd fl fe fm from ⟨hB.cell 0, hB.cell 1, hB.cell 2, hB.cell 3, hB.cell 4, hB.cell 5, hB.cell 6, hB.cell 7, hB.cell 8⟩)
      clear hB
      go_wp2_with fail
      refine (HBL.out _ HBE.out).mono ?_
      rintro e w1 ⟨vb, rfl, hob, hb1⟩
      have HO1 := Lib.hid ((HO.out.keeps (.below _ hb1) (.below _ hb1)).retop)
      have HB1 := Lib.hid (HBE.out.trans (hb1.mono HBE.out.size))
      have HOB := Lib.hid hob
      obtain ⟨Ab, cb, hvb⟩ : ∃ Ab cb, vb = .slice Ab L.length cb := by
        have hob' : w1.ownsRow wr.heap.size 77 4 vb L.length (bkVals L) := hob
        rcases hob'.2 with ⟨rfl, h⟩ | ⟨g, cap, cur, rfl, _⟩
        · exact ⟨none, 0, by rw [h]⟩
        · exact ⟨_, cap, rfl⟩
      subst hvb
      obtain ⟨wb, rfl⟩ : ∃ wb : World, wb = wr := ⟨_, rfl⟩
      obtain ⟨q0, hq0⟩ : ∃ q, q = L.length := ⟨_, rfl⟩
      have HQ0 := Lib.hid hq0
      rw [← hq0] at HLB HOB ⊢
      clear hb1 hob c0 c1 c2 c3 c4 c5 c6 c7 c8 hq0
      go_wp2_with fail
      go_loopw [9, 10, 30] (fun _ _ i wx => ∃ q : Nat, q ≤ q0 ∧ i = .int .i64 (q : Int) ∧ Hid (OwnF wx w.heap.size wx.heap.size vo k (widB ls (L.take q))) ∧ Hid (OwnB wx wb.heap.size (.slice Ab q0 cb) L) ∧ Hid (Below w.heap.size w wx)) (fun _ _ i _ => q0 - (intOf i).toNat)
      case atStart => exact ⟨0, Nat.zero_le _, rfl, Lib.hid (by rw [List.take_zero, widB_zero, ← HF0.out]; exact HO1.out), HOB, HB1⟩
      case round =>
        obtain ⟨q, hq, rfl, HOQ, HOBQ, HBX⟩ := hrel
        by_cases hltq : q < q0
        · obtain ⟨A', c', he, hA'⟩ := HOBQ.out.rd
          injection he with e1 e2 e3
          rw [← e1] at hA'
          have hql : q < L.length := by rw [← HQ0.out]; exact hltq
          obtain ⟨gb, ob, rfl, hgb, hcb⟩ := hA' (by omega)
          obtain ⟨p0, p1, p2, p3⟩ := hcb q _ (List.getElem?_eq_getElem hql)
          obtain ⟨bc, bi, bt, g1, g2, g3, h12, h3, hcell⟩ := HGD.out _ (List.getElem_mem hql)
          have HWQ := Lib.hid (HWT.out q hql)
          obtain ⟨F, hF⟩ : ∃ F, F = widB ls (L.take q) := ⟨_, rfl⟩
          have HFC : Hid (∀ i, (F i).length = cellsN ls i) := Lib.hid (by rw [hF]; exact HWL.out _)
          rw [← hF] at HWQ HOQ
          obtain ⟨bx, hbx⟩ : ∃ b, b = L[q] := ⟨_, rfl⟩
          rw [← hbx] at p0 p1 p2 p3 g1 g2 g3 HWQ
          obtain ⟨b0, b1, b2, b3⟩ := bx
          simp only at g1 g2 g3
          subst g1 g2 g3
          simp only at p0 p1 p2 p3
          rw [← HN.out] at h3
          have HCL := Lib.hid hcell
          have HST : Hid (fillTo F ⟨(bc : Int), (bi : Int), (bt : Int), b3⟩ (bi : Int) = F) := Lib.hid (fillTo_start F ⟨(bc : Int), (bi : Int), (bt : Int), b3⟩)
          have HSP := Lib.hid (fun r h i => fillTo_step F ⟨(bc : Int), (bi : Int), (bt : Int), b3⟩ r h i)
          have HHE := Lib.hid (fun r => fillTo_here F ⟨(bc : Int), (bi : Int), (bt : Int), b3⟩ r)
          have HLN := Lib.hid (fun r i => fillTo_len F ⟨(bc : Int), (bi : Int), (bt : Int), b3⟩ r i)
          have HEND : Hid (fillF F ⟨(bc : Int), (bi : Int), (bt : Int), b3⟩ = fillTo F ⟨(bc : Int), (bi : Int), (bt : Int), b3⟩ (bt : Int)) := Lib.hid rfl
          rw [HEND.out] at HWQ
          obtain ⟨FT, hFT⟩ : ∃ g : Int → Nat → List Int, g = fillTo F ⟨(bc : Int), (bi : Int), (bt : Int), b3⟩ := ⟨_, rfl⟩
          rw [← hFT] at HST HSP HHE HLN HWQ
          obtain ⟨wo, rfl⟩ : ∃ wo : World, wo = wr := ⟨_, rfl⟩
          obtain ⟨H, hH⟩ : ∃ H, H = wo.heap.size := ⟨_, rfl⟩
          have D1 := Lib.hid ((Below.refl wo.heap.size wo).alloc (Nat.le_refl _) (.cells #[.int .i64 (bc : Int), .int .i64 (bi : Int), .int .i64 (bt : Int), .int .i64 b3] 77))
          have HBB : Hid (Blk (wo.alloc (.cells #[.int .i64 (bc : Int), .int .i64 (bi : Int), .int .i64 (bt : Int), .int .i64 b3] 77)) H 77 #[.int .i64 (bc : Int), .int .i64 (bi : Int), .int .i64 (bt : Int), .int .i64 b3]) := Lib.hid (by rw [hH]; exact Blk.new _ _ _)
          have HO2 := Lib.hid ((HOQ.out.keeps (.below _ D1.out) (.below _ D1.out)).retop)
          have HOB2 := Lib.hid (HOBQ.out.keeps (.below _ D1.out))
          have HB2 := Lib.hid (HBX.out.trans (D1.out.mono HBX.out.size))
          clear hA' hcb hF hbx hcell e1 e2 e3 hFT
          go_wp2_with fail
          rw [← hH]
          clear hH
          go_loopw [10] (fun i wy => ∃ r : Nat, bi ≤ r ∧ r ≤ bt ∧ i = .int .i64 (r : Int) ∧ Hid (OwnF wy w.heap.size wy.heap.size vo k (FT (r : Int))) ∧ Hid (OwnB wy wb.heap.size (.slice (some ⟨gb, ob, none⟩) q0 cb) L) ∧ Hid (Below w.heap.size w wy) ∧ Hid (Blk wy H 77 #[.int .i64 (bc : Int), .int .i64 (bi : Int), .int .i64 (bt : Int), .int .i64 b3])) (fun i _ => bt - (intOf i).toNat)
          case atStart => exact ⟨bi, Nat.le_refl _, h12, rfl, Lib.hid (by rw [HST.out]; exact HO2.out), HOB2, HB2, HBB⟩
          case round =>
            obtain ⟨r, hr1, hr2, rfl, HOR, HOBR, HBR, HBBR⟩ := hrel
            have d0 := HBBR.out.cell 0
            have d1 := HBBR.out.cell 1
            have d2 := HBBR.out.cell 2
            have d3 := HBBR.out.cell 3
            simp at d0 d1 d2 d3
            by_cases hltr : r < bt
            · have hzl : (FT (r : Int) r).length = cellsN ls r := by rw [HLN.out, HFC.out]
              have hbl := HCL.out r hr1 hltr
              obtain ⟨go, co, g, rc, x, rfl, k0, k1, k2, hgl, hgb2, hset⟩ := HOR.out.at r bc (by omega) (by rw [hzl]; exact hbl)
              rw [hzl] at k0
              obtain ⟨zl, hzl2⟩ : ∃ z, z = cellsN ls r := ⟨_, rfl⟩
              rw [← hzl2] at k0 hbl
              have HSET := Lib.hid (hset b3)
              have HGB2 := Lib.hid hgb2
              clear hset hzl hzl2 hgb2
              go_wp2_with fail
              go_region
              all_goals
                have HN1 : Hid (OwnF (wr.setCell ⟨g, bc, none⟩ (.int .i64 b3)) w.heap.size (wr.setCell ⟨g, bc, none⟩ (.int .i64 b3)).heap.size (.slice (some ⟨go, 0, none⟩) k co) k (FT ((r + 1 : Nat) : Int))) := Lib.hid (HSET.out.1.retop.same fun i _ => by
                  rw [HSP.out r (by show (bi : Int) ≤ (r : Int); omega) i, HHE.out r]
                  rfl)
                have HN2 := Lib.hid (HOBR.out.keeps (HSET.out.2 _ (by decide)))
                have HN3 := Lib.hid (HBR.out.setCell (p := ⟨g, bc, none⟩) HGB2.out (.int .i64 b3))
                have HN4 := Lib.hid (HBBR.out.keeps (HSET.out.2 _ (by decide)))
                go_wp2_with fail
                go_roundw
                case rel => exact ⟨r + 1, by omega, by omega, by go_num, HN1, HN2, Lib.hid (by first | exact HN3.out | exact HN3.out.drew), HN4⟩
                case measure => simp [intOf]; omega
            · obtain rfl : r = bt := by omega
              go_wp2_with fail
              go_roundw
              case rel => exact ⟨q + 1, by omega, by go_num, Lib.hid (by rw [HWQ.out]; exact HOR.out), HOBR, HBR⟩
              case measure => simp [intOf]; omega
        · obtain rfl : q = q0 := by omega
          have HFIN : Hid (OwnF wr w.heap.size wr.heap.size vo k RES) := Lib.hid (by
            have h := HOQ.out
            rw [HQ0.out, HALL.out] at h
            exact h)
          go_wp2_with fail
          go_ret
          exact ⟨_, rfl, HFIN.out, HBX.out⟩
end Go.Proofs.YtjdbkpckhgncbaaDoor
