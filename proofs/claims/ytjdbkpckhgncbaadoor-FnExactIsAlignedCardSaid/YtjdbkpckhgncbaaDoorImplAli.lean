/- The program's IsAligned. -/
import Derived.Test.YtjdbkpckhgncbaaDoorImplSlo
import Derived.Test.YtjdbkpckhgncbaaDoorImplBlks
import Derived.Deep.QuietTactic
import Derived.BigQuiet
namespace Go.Proofs.YtjdbkpckhgncbaaDoor
open Go.RowKit
set_option linter.unusedVariables false

set_option maxRecDepth 100000 in
set_option maxHeartbeats 4000000 in
theorem implIsAligned (c : Cfg) (s : ByteArray) (w : World) (hs : s.size ≤ 1048576) (hT : WT w) :
    Calls Tryd.prog 19 #[.agg (cfgV c), .string s] w fun e w' => e = .returned (.bool (validC c)) ∧ Below w.heap.size w w' := by
  have hsz := splitL_size c s
  have HSP := Lib.hid (fun W (hb : Below w.heap.size w W) => implSplitText c s W hs (hT.below hb))
  have HSO := Lib.hid (fun W (hb : Below w.heap.size w W) => implSlotsOf c s W hs (hT.below hb))
  have HBK := Lib.hid (fun v W (h : RdL W v (splitL c s)) => implBlocksOf c (splitL c s) v W h ⟨by omega, by omega⟩)
  have HIC := Lib.hid (fun W => implIsConfig c W)
  have HPK := Lib.hid (ali_pack c (splitL c s))
  have hql := bksB_len c (splitL c s) 1048576 (by omega)
  have hnl : widN c (splitL c s) ≤ 1048577 := by have := widN_len c (splitL c s); omega
  generalize validC c = vc at HIC ⊢
  generalize slotF c (splitL c s) = F at HSO HPK
  generalize widN c (splitL c s) = n at HSO HPK hnl
  generalize bksB c (splitL c s) = L at HBK HPK hql
  generalize splitL c s = ls at HSP HBK
  have HC0 := Lib.hid (Blk.new w 24 (cfgV c))
  have B0 := Lib.hid (by go_grown : Below w.heap.size w (w.alloc (.cells (cfgV c) 24)))
  obtain ⟨q0, hq0⟩ : ∃ q, q = L.length := ⟨_, rfl⟩
  have HQ0 := Lib.hid hq0
  obtain ⟨m, t, p, d, fr, fd, fl, fe, fm⟩ := c
  unfold cfgV at HSP HSO HBK HIC HC0 B0 ⊢
  simp only at HSP HSO HBK HIC HC0 B0 ⊢
  clear hs hsz hT hq0
  go_enter Tryd.func19, Tryd.ntmps19
  go_wp2_with fail
  refine (HSO.out _ B0.out).mono ?_
  rintro e w1 ⟨u1, rfl, ho1, hb1⟩
  have B1 := Lib.hid (B0.out.trans (hb1.mono B0.out.size))
  have hc1 := HC0.out.after hb1
  have HC1 := Lib.hid hc1
  have HO1 := Lib.hid ho1
  obtain ⟨Au, cu, hu⟩ := ho1.len
  subst hu
  have hlt1 : w.heap.size + 1 ≤ w1.heap.size := hc1.lt
  obtain ⟨c0, c1, c2, c3, c4, c5, c6, c7, c8⟩ := hc1.boxed
  have HD1 := Lib.hid ((Below.refl w1.heap.size w1).drew)
  clear hb1 ho1 hc1
  go_wp2_with fail
  go_region_held3 (fun W => W.cell? ⟨w.heap.size, 0, none⟩ = some (.int .i64 m) ∧ W.cell? ⟨w.heap.size, 1, none⟩ = some (.int .i64 t) ∧ W.cell? ⟨w.heap.size, 2, none⟩ = some (.int .i64 p) ∧ W.cell? ⟨w.heap.size, 3, none⟩ = some (.int .i64 d) ∧ W.cell? ⟨w.heap.size, 4, none⟩ = some (.bool fr) ∧ W.cell? ⟨w.heap.size, 5, none⟩ = some (.bool fd) ∧ W.cell? ⟨w.heap.size, 6, none⟩ = some (.bool fl) ∧ W.cell? ⟨w.heap.size, 7, none⟩ = some (.bool fe) ∧ W.cell? ⟨w.heap.size, 8, none⟩ = some (.bool fm) ∧ Below w1.heap.size w1 W ∧ w.heap.size + 1 ≤ W.heap.size)
    (first | exact ⟨c0, c1, c2, c3, c4, c5, c6, c7, c8, HD1.out, hlt1⟩ | exact box_step (by assumption) (by assumption))
    (first | (go_at_call 18; refine (HSP.out _ (B1.out.trans ((box_old (w := w1) (by assumption)).mono B1.out.size))).mono ?_; rintro e w2 ⟨v2, rfl, ho2, hb2⟩; have hr2 := ho2.rd) | (go_at_call 46; refine (HBK.out _ _ (by assumption)).mono ?_; rintro e w3 ⟨v3, rfl, ho3, hb3⟩; have hrb := ho3.rd; obtain ⟨A3, c3', he3⟩ := ho3.shape; subst he3))
  all_goals
    have HBX := Lib.hid (box_rd (w := w1) (W := w3) (by assumption))
    have HRB := Lib.hid hrb
    rw [← HQ0.out] at HRB ⊢
    clear ho2 hb2 hr2 ho3 hb3 hrb c0 c1 c2 c3 c4 c5 c6 c7 c8
    go_wp2_with fail
    go_loopw [7, 8, 9, 19] (fun _ _ _ i wr => ∃ q : Nat, q ≤ q0 ∧ i = .int .i64 (q : Int) ∧ Hid (Below w3.heap.size w3 wr)) (fun _ _ _ i _ => q0 - (intOf i).toNat)
    case atStart => exact ⟨0, Nat.zero_le _, rfl, Lib.hid (Below.refl _ _)⟩
    case round =>
      obtain ⟨q, hq, rfl, HE⟩ := hrel
      have hblt : w.heap.size < w3.heap.size := HBX.out.2.2
      by_cases hltq : q < q0
      · obtain ⟨A', c', he, hA'⟩ := HRB.out
        injection he with e1 e2 e3
        subst e1 e3
        have hql2 : q < L.length := by rw [← HQ0.out]; exact hltq
        obtain ⟨gb, ob, rfl, hgb, hcb⟩ := hA' (by omega)
        obtain ⟨p0, p1, p2, p3⟩ := hcb q _ (List.getElem?_eq_getElem hql2)
        obtain ⟨bc, bi, bt, y, g1, g2, g3, h12, h3, hget⟩ := HPK.out _ (List.getElem_mem hql2)
        obtain ⟨bx, hbx⟩ : ∃ b, b = L[q] := ⟨_, rfl⟩
        rw [← hbx] at p0 p1 p2 p3 g1 g2 g3
        obtain ⟨b0, b1, b2, b3⟩ := bx
        simp only at g1 g2 g3
        subst g1 g2 g3
        simp only at p0 p1 p2 p3
        have HGET := Lib.hid hget
        have a0 := (HE.out.cell (p := ⟨gb, ob + q * 4, none⟩) hgb).trans p0
        have a1 := (HE.out.cell (p := ⟨gb, ob + q * 4 + 1, none⟩) hgb).trans p1
        have a2 := (HE.out.cell (p := ⟨gb, ob + q * 4 + 2, none⟩) hgb).trans p2
        have a3 := (HE.out.cell (p := ⟨gb, ob + q * 4 + 3, none⟩) hgb).trans p3
        obtain ⟨go, co, gr, rc, hgo, x0, x1, x2, x3⟩ := HO1.out.get bi bc y (by omega) (HGET.out bi (Nat.le_refl _) h12)
        injection hgo with e4 e5 e6
        subst e4 e6
        have hbcl : bc < (F bi).length := (List.getElem?_eq_some_iff.1 (HGET.out bi (Nat.le_refl _) h12)).1
        have HE1 : Hid (Below w1.heap.size w1 wr) := Lib.hid (HBX.out.2.1.trans (HE.out.mono HBX.out.2.1.size))
        have x0' := (HE1.out.cell (p := ⟨go, bi, none⟩) x2).trans x0
        have x1' := (HE1.out.cell (p := ⟨gr, bc, none⟩) x3).trans x1
        generalize (F bi).length = zl at x0 x0' hbcl
        obtain ⟨wo, rfl⟩ : ∃ wo : World, wo = wr := ⟨_, rfl⟩
        obtain ⟨H, hH⟩ : ∃ H, H = wo.heap.size := ⟨_, rfl⟩
        have DA := Lib.hid ((Below.refl wo.heap.size wo).alloc (Nat.le_refl _) (.cells #[.int .i64 (bc : Int), .int .i64 (bi : Int), .int .i64 (bt : Int), .int .i64 b3] 77))
        have HBB : Hid (Blk (wo.alloc (.cells #[.int .i64 (bc : Int), .int .i64 (bi : Int), .int .i64 (bt : Int), .int .i64 b3] 77)) H 77 #[.int .i64 (bc : Int), .int .i64 (bi : Int), .int .i64 (bt : Int), .int .i64 b3]) := Lib.hid (by rw [hH]; exact Blk.new _ _ _)
        have HX : Hid (Below w1.heap.size w1 (wo.alloc (.cells #[.int .i64 (bc : Int), .int .i64 (bi : Int), .int .i64 (bt : Int), .int .i64 b3] 77))) := Lib.hid (HE1.out.trans (DA.out.mono HE1.out.size))
        have HX3 := Lib.hid (HE.out.trans (DA.out.mono HE.out.size))
        have hbi : (bi : Int) < (n : Int) := by omega
        have hbc : (bc : Int) < (zl : Int) := by omega
        have y0 : (wo.alloc (.cells #[.int .i64 (bc : Int), .int .i64 (bi : Int), .int .i64 (bt : Int), .int .i64 b3] 77)).cell? ⟨go, bi, none⟩ = some (.slice (some ⟨gr, 0, none⟩) zl rc) := (HX.out.cell (p := ⟨go, bi, none⟩) x2).trans x0
        have y1 : (wo.alloc (.cells #[.int .i64 (bc : Int), .int .i64 (bi : Int), .int .i64 (bt : Int), .int .i64 b3] 77)).cell? ⟨gr, bc, none⟩ = some (.int .i64 y) := (HX.out.cell (p := ⟨gr, bc, none⟩) x3).trans x1
        clear hA' hcb hbx hget p0 p1 p2 p3 e2 e5 x0 x1 x0' x1'
        go_wp2_with fail
        go_quiet (fail)
        go_wp2_with fail
        rw [← hH]
        clear hH
        go_loopw [9] (fun i wy => ∃ r : Nat, bi ≤ r ∧ r ≤ bt ∧ i = .int .i64 (r : Int) ∧ Hid (Below w1.heap.size w1 wy) ∧ Hid (Below w3.heap.size w3 wy) ∧ Hid (Blk wy H 77 #[.int .i64 (bc : Int), .int .i64 (bi : Int), .int .i64 (bt : Int), .int .i64 b3])) (fun i _ => bt - (intOf i).toNat)
        case atStart => exact ⟨bi, Nat.le_refl _, Nat.le_of_lt h12, rfl, Lib.hid (below_drewN HX.out _), Lib.hid (below_drewN HX3.out _), HBB⟩
        case round =>
          obtain ⟨r, hr1, hr2, rfl, HXR, HX3R, HBR⟩ := hrel
          have d0 := HBR.out.cell 0
          have d1 := HBR.out.cell 1
          have d2 := HBR.out.cell 2
          have d3 := HBR.out.cell 3
          simp at d0 d1 d2 d3
          by_cases hltr : r < bt
          · obtain ⟨go2, co2, gr2, rc2, hgo2, x0, x1, x2', x3'⟩ := HO1.out.get r bc y (by omega) (HGET.out r hr1 hltr)
            injection hgo2 with e4 e5 e6
            injection e4 with e4
            injection e4 with e4
            subst e4
            have hbcl2 : bc < (F r).length := (List.getElem?_eq_some_iff.1 (HGET.out r hr1 hltr)).1
            have y2 := (HXR.out.cell (p := ⟨go, r, none⟩) x2').trans x0
            have y3 := (HXR.out.cell (p := ⟨gr2, bc, none⟩) x3').trans x1
            generalize (F r).length = zr at y2 x0 hbcl2
            have hri : (r : Int) < (n : Int) := by omega
            have hbc2 : (bc : Int) < (zr : Int) := by omega
            have hne : ((y : Int) != y) = false := by simp
            clear x0 x1 e5 e6
            go_wp2_with fail
            go_quiet (fail)
            go_wp2_with fail
            go_roundw
            case rel => exact ⟨r + 1, by omega, by omega, by go_num, Lib.hid (below_drewN HXR.out _), Lib.hid (below_drewN HX3R.out _), HBR⟩
            case measure => simp [intOf]; omega
          · obtain rfl : r = bt := by omega
            go_wp2_with fail
            go_roundw
            case rel => exact ⟨q + 1, by omega, by go_num, HX3R⟩
            case measure => simp [intOf]; omega
      · obtain rfl : q = q0 := by omega
        obtain ⟨c0, c1, c2, c3, c4, c5, c6, c7, c8⟩ := HBX.out.1.below HE.out hblt
        have HBE := Lib.hid (B1.out.trans ((HBX.out.2.1.trans (HE.out.mono HBX.out.2.1.size)).mono B1.out.size))
        go_wp2_with fail
        refine (HIC.out _).mono ?_
        rintro e w5 ⟨rfl, hb5⟩
        have HBF := Lib.hid (HBE.out.trans (hb5.mono HBE.out.size))
        clear hb5
        go_wp2_with fail
        go_ret
        exact ⟨rfl, HBF.out⟩
end Go.Proofs.YtjdbkpckhgncbaaDoor
