/- The walk of the law: every cell belongs to exactly one block; over contracts of the program's functions. -/
import Derived.Test.YtdihoofhbkafoaaDoorBE
import Derived.Test.YtdihoofhbkafoaaDoorBlksMath
import Derived.Test.YtdihoofhbkafoaaDoorSpecBlkS
import Derived.Test.YtdihoofhbkafoaaDoorOwnF
import Derived.Deep.QuietTactic
import Derived.BigQuiet
import Derived.Deep.RegionHeld3
namespace Go.Proofs.YtdihoofhbkafoaaDoor
open Go.RowKit
set_option linter.unusedVariables false

theorem OwnB.slc2 {W : World} {base : Nat} {v : Value} {l : List Bk} (h : OwnB W base v l) : ∃ A c, v = .slice A l.length c := by
  have h0 : W.ownsRow base 43 4 v l.length (bkVals l) := h
  rcases h0.2 with ⟨rfl, hn⟩ | ⟨g, cap, cur, rfl, _⟩
  · exact ⟨none, 0, by rw [hn]⟩
  · exact ⟨_, cap, rfl⟩
theorem box_boxed {w W : World} {B : Nat} {m t p d : Int} {fr fd fl fe fm : Bool}
    (h : W.cell? ⟨B, 0, none⟩ = some (.int .i64 m) ∧ W.cell? ⟨B, 1, none⟩ = some (.int .i64 t) ∧ W.cell? ⟨B, 2, none⟩ = some (.int .i64 p) ∧ W.cell? ⟨B, 3, none⟩ = some (.int .i64 d) ∧ W.cell? ⟨B, 4, none⟩ = some (.bool fr) ∧ W.cell? ⟨B, 5, none⟩ = some (.bool fd) ∧ W.cell? ⟨B, 6, none⟩ = some (.bool fl) ∧ W.cell? ⟨B, 7, none⟩ = some (.bool fe) ∧ W.cell? ⟨B, 8, none⟩ = some (.bool fm) ∧ Below w.heap.size w W ∧ B + 1 ≤ W.heap.size) :
    Boxed W B m t p d fr fd fl fe fm ∧ Below w.heap.size w W ∧ B + 1 ≤ W.heap.size := by
  obtain ⟨h0, h1, h2, h3, h4, h5, h6, h7, h8, h9, h10⟩ := h
  exact ⟨⟨h0, h1, h2, h3, h4, h5, h6, h7, h8⟩, h9, h10⟩
/-- All that the walk asks of the numbers. -/
theorem blocks_pack (c : Cfg) (s : ByteArray) (hv : validC c = true) (hs : s.size ≤ 108) : ∃ (ls : List Ln) (L : List Bk) (f : Nat → List Int), splitL c s = ls ∧ bksB c ls = L ∧ widF c ls = f ∧ widN c ls = ls.length ∧ (ls.length ≤ 109 ∧ totL ls ≤ 108) ∧ 0 < ls.length ∧
    (∀ i k, k < cellsN ls i → ∃ b, L.find? (holdsB i k) = some b ∧ (f i)[k]? = some b.wid ∧ cellW ls i k ≤ b.wid) ∧ (∀ i, (f i).length = cellsN ls i) ∧ (∀ b ∈ L, GoodB ls b) ∧ sumB L = ((cntL ls : Nat) : Int) ∧ L.length ≤ totL ls := by
  have hfits := split_fits c s hv (by omega)
  have hsz := splitL_size c s
  have e : bksB c (splitL c s) = bksL c (splitL c s) := bksB_yes hfits hv
  refine ⟨splitL c s, bksL c (splitL c s), widF c (splitL c s), rfl, e, rfl, ?_, by omega, split_some c s hv, fun i k hk => ?_, fun i => widB_len _ _ i, bksL_good c _, sum_cnt c _, ?_⟩
  · unfold widN; rw [hfits, hv]; rfl
  · obtain ⟨st, h1, h2, h3, h4⟩ := find_block c (splitL c s) i k hk
    exact ⟨_, h3, widF_get c _ i k st hk h3 h4, block_wide c _ i k st hv h1 h2⟩
  · have h := lineBks_len c (splitL c s) _ (Nat.le_refl _)
    rw [List.take_length] at h
    exact h
set_option maxRecDepth 100000 in
set_option maxHeartbeats 8000000 in
theorem blocks_law (w : World) (A : Option Addr) (len cap : Nat) (zs : List Int) (hz : IsBytes w A len cap zs)
    (hS : ∀ (c : Cfg) (s : ByteArray) (W : World), s.size ≤ 1048576 → Below w.heap.size w W → Calls Tryd.prog 14 #[.agg (cfgV c), .string s] W fun e w' => ∃ v, e = .returned v ∧ OwnL w' W.heap.size none v (splitL c s) ∧ Below W.heap.size W w')
    (hB : ∀ (c : Cfg) ls v W, Below w.heap.size w W → RdL W v ls → FitL ls → Calls Tryd.prog 16 #[.agg (cfgV c), v] W fun e w' => ∃ u, e = .returned u ∧ OwnB w' W.heap.size u (bksB c ls) ∧ Below W.heap.size W w')
    (hW : ∀ (c : Cfg) ls v W, Below w.heap.size w W → RdL W v ls → FitL ls → Calls Tryd.prog 17 #[.agg (cfgV c), v] W fun e w' => ∃ u, e = .returned u ∧ OwnF w' W.heap.size w'.heap.size u (widN c ls) (widF c ls) ∧ Below W.heap.size W w')
    (hA : ∀ (L : List Bk) v W (i k : Nat) b, RdB W v L → L.length ≤ 100000000 → i ≤ 100000000 → k ≤ 100000000 → L.find? (holdsB i k) = some b → Calls Tryd.prog 18 #[v, .int .i64 (i : Int), .int .i64 (k : Int)] W fun e w' => e = .returned (.tuple #[.agg #[.int .i64 b.col, .int .i64 b.frm, .int .i64 b.to, .int .i64 b.wid], .bool true]) ∧ Below W.heap.size W w') :
    Calls Tryd.prog 4 #[.slice A len cap] w fun e w' => e = .returned (.bool true) ∧ Below w.heap.size w w' := by
  have hlc := hz.1
  have hcm := hz.2.1
  have HZ := Lib.hid hz
  have HS0 := Lib.hid hS
  have HB0 := Lib.hid hB
  have HW0 := Lib.hid hW
  have HA0 := Lib.hid hA
  clear hz hS hB hW hA
  by_cases h : (1048576 : Int) < (len : Int)
  · go_enter Tryd.func4, Tryd.ntmps4
    go_wp2
    go_ret
    exact ⟨rfl, Below.refl _ _⟩
  · go_enter Tryd.func4, Tryd.ntmps4
    go_wp2_with fail
    refine (makeConfig_any A len cap zs w HZ.out).mono ?_
    rintro e w1 ⟨⟨c, hv, rfl⟩, hb1⟩
    have B1 := Lib.hid hb1
    have HIN := Lib.hid (fun W (hb : Below w.heap.size w W) => makeInput_any A len cap zs W (HZ.out.keep hb))
    have HSP := Lib.hid (fun s W hs hb => HS0.out c s W hs hb)
    have HBK := Lib.hid (fun ls v W hb hr hf => HB0.out c ls v W hb hr hf)
    have HWD := Lib.hid (fun ls v W hb hr hf => HW0.out c ls v W hb hr hf)
    have HV := Lib.hid hv
    have HC0 : Hid (∃ c', c' = c) := Lib.hid ⟨c, rfl⟩
    obtain ⟨cc, hcc⟩ := HC0.out
    obtain ⟨m, t, p, d, fr, fd, fl, fe, fm⟩ := c
    rw [← hcc] at HBK HWD HSP HV
    have HCC := Lib.hid hcc
    have HCV : Hid (cfgV cc = #[.int .i64 m, .int .i64 t, .int .i64 p, .int .i64 d, .bool fr, .bool fd, .bool fl, .bool fe, .bool fm]) := Lib.hid (by rw [hcc]; rfl)
    rw [HCV.out] at HSP HBK HWD
    unfold cfgV
    simp only
    clear hb1 hv hcc
    go_wp2_with fail
    go_region_held3 (fun W => W.cell? ⟨w1.heap.size, 0, none⟩ = some (.int .i64 m) ∧ W.cell? ⟨w1.heap.size, 1, none⟩ = some (.int .i64 t) ∧ W.cell? ⟨w1.heap.size, 2, none⟩ = some (.int .i64 p) ∧ W.cell? ⟨w1.heap.size, 3, none⟩ = some (.int .i64 d) ∧ W.cell? ⟨w1.heap.size, 4, none⟩ = some (.bool fr) ∧ W.cell? ⟨w1.heap.size, 5, none⟩ = some (.bool fd) ∧ W.cell? ⟨w1.heap.size, 6, none⟩ = some (.bool fl) ∧ W.cell? ⟨w1.heap.size, 7, none⟩ = some (.bool fe) ∧ W.cell? ⟨w1.heap.size, 8, none⟩ = some (.bool fm) ∧ Below w1.heap.size w1 W ∧ w1.heap.size + 1 ≤ W.heap.size)
      (first | exact box_start _ _ _ _ _ _ _ _ _ _ | exact box_step (by assumption) (by assumption))
      (first | (go_at_call 15; refine (HIN.out _ (B1.out.trans ((box_old (w := w1) (by assumption)).mono B1.out.size))).mono ?_; rintro e w2 ⟨⟨s, hs, rfl⟩, hb2⟩) | (go_at_call 14; refine (HSP.out _ _ (by omega) (B1.out.trans ((box_old (w := w1) (by assumption)).mono B1.out.size))).mono ?_; rintro e w3 ⟨v, rfl, ho3, hb3⟩))
    all_goals
      obtain ⟨hx3, hw3, hlt3⟩ := box_boxed (w := w1) (W := w3) (B := w1.heap.size) (m := m) (t := t) (p := p) (d := d) (fr := fr) (fd := fd) (fl := fl) (fe := fe) (fm := fm) (by assumption)
      have X3 := Lib.hid hx3
      have B3 := Lib.hid (B1.out.trans (hw3.mono B1.out.size))
      obtain ⟨ls, L, f, e1, e2, e3, e4, hfit, hl0, hfind, hflen, hgood, hsum, hLl⟩ := blocks_pack cc s HV.out hs
      rw [e1] at ho3
      have HR3 := Lib.hid ho3.rd
      have hfitL : FitL ls := ⟨by omega, by omega⟩
      have HBK2 := Lib.hid (fun v W hb hr => HBK.out ls v W hb hr hfitL)
      have HWD2 := Lib.hid (fun v W hb hr => HWD.out ls v W hb hr hfitL)
      have HCN := Lib.hid (fun v W (hv : RdL W v ls) => implCountCells ls v W hv hfitL)
      rw [e2] at HBK2
      rw [e3, e4] at HWD2
      have HFIND := Lib.hid hfind
      have HGOOD := Lib.hid hgood
      have HFLEN := Lib.hid hflen
      have HST := Lib.hid (sumB_take ls L hgood)
      have HSS := Lib.hid (sumB_step L)
      have hcnt := cntL_le ls
      have HSUM := Lib.hid hsum
      obtain ⟨cn, hcn⟩ : ∃ x, x = cntL ls := ⟨_, rfl⟩
      rw [← hcn] at HCN HSUM hcnt
      obtain ⟨A', cap', hva, hin⟩ := HR3.out
      subst hva
      obtain ⟨n, hn⟩ : ∃ n, n = ls.length := ⟨_, rfl⟩
      have HN := Lib.hid hn
      have HRL := Lib.hid hin
      rw [← hn] at HR3 HRL HWD2 hfit hl0 ⊢
      obtain ⟨q0, hq0⟩ : ∃ n, n = L.length := ⟨_, rfl⟩
      have HQ0 := Lib.hid hq0
      rw [← hq0] at hLl
      have hn0 : ((n : Int) == 0) = false := by simp; omega
      have hn1 : ((n : Int) = 0) = False := by simp; omega
      have hn2 : ((n : Int) != (n : Int)) = false := by simp
      clear e1 e2 e3 e4 hfind hflen hgood hsum hcn hin hn hq0 hfitL ho3
      obtain ⟨c0, c1, c2, c3, c4, c5, c6, c7, c8⟩ := hx3
      go_wp2_with fail
      refine (HBK2.out _ _ B3.out HR3.out).mono ?_
      rintro e w4 ⟨u4, rfl, ho4, hb4⟩
      have B4 := Lib.hid (B3.out.trans (hb4.mono B3.out.size))
      have D4 := Lib.hid hb4
      obtain ⟨c0, c1, c2, c3, c4, c5, c6, c7, c8⟩ := X3.out.below hb4 hlt3
      obtain ⟨A4, cap4, hA4⟩ := ho4.slc2
      subst hA4
      have HO4 := Lib.hid ho4
      rw [← HQ0.out] at HO4
      clear hb4 ho4
      go_wp2_with fail
      refine (HWD2.out _ _ B4.out (HR3.out.below D4.out)).mono ?_
      rintro e w5 ⟨u5, rfl, ho5, hb5⟩
      have D5 := Lib.hid (D4.out.trans (hb5.mono D4.out.size))
      have B5 := Lib.hid (B4.out.trans (hb5.mono B4.out.size))
      have HB5 := Lib.hid (HO4.out.rd.below hb5)
      have HF5 := Lib.hid ho5
      obtain ⟨A5, cap5, hA5⟩ := ho5.len
      subst hA5
      rw [← HQ0.out]
      clear hb5 ho5 c0 c1 c2 c3 c4 c5 c6 c7 c8
      obtain ⟨A4', cap4', he4, hA4'⟩ := HB5.out
      injection he4 with e1 e2 e3
      rw [← e1, ← HQ0.out] at hA4'
      have HBL := Lib.hid hA4'
      have HBA := Lib.hid (fun W (hW : Below w5.heap.size w5 W) i k b h1 h2 h3 => HA0.out L _ W i k b (HB5.out.below hW) (by rw [← HQ0.out]; omega) h1 h2 h3)
      clear e1 e2 e3 hA4'
      go_wp2_with fail
      go_loopw [7, 9, 43] (fun sm _ i wr => ∃ q : Nat, q ≤ q0 ∧ i = .int .i64 (q : Int) ∧ sm = .int .i64 (sumB (L.take q)) ∧ Hid (Below w5.heap.size w5 wr)) (fun _ _ i _ => q0 - (intOf i).toNat)
      case atStart => exact ⟨0, Nat.zero_le _, rfl, rfl, Lib.hid (Below.refl _ _)⟩
      case round =>
        obtain ⟨q, hq, rfl, rfl, HBE⟩ := hrel
        by_cases hltq : q < q0
        · obtain ⟨gb, ob, rfl, hgb, hcb⟩ := HBL.out (by omega)
          have hql : q < L.length := by rw [← HQ0.out]; exact hltq
          obtain ⟨p0, p1, p2, p3⟩ := hcb q _ (List.getElem?_eq_getElem hql)
          have a0 := (HBE.out.cell (p := ⟨gb, ob + q * 4, none⟩) hgb).trans p0
          have a1 := (HBE.out.cell (p := ⟨gb, ob + q * 4 + 1, none⟩) hgb).trans p1
          have a2 := (HBE.out.cell (p := ⟨gb, ob + q * 4 + 2, none⟩) hgb).trans p2
          have a3 := (HBE.out.cell (p := ⟨gb, ob + q * 4 + 3, none⟩) hgb).trans p3
          obtain ⟨bc, bi, bt, g1, g2, g3, h12, h3, _⟩ := HGOOD.out _ (List.getElem_mem hql)
          have hsq := HSS.out q hql
          have hsb := HST.out q
          rw [HSUM.out] at hsb
          generalize L[q] = bx at a0 a1 a2 a3 g1 g2 g3 hsq
          obtain ⟨b0, b1, b2, b3⟩ := bx
          simp only at a0 a1 a2 a3 g1 g2 g3 hsq
          subst g1 g2 g3
          rw [← HN.out] at h3
          have HSQ := Lib.hid hsq
          obtain ⟨sv, hsv⟩ : ∃ x, x = sumB (L.take q) := ⟨_, rfl⟩
          rw [← hsv] at hsb HSQ ⊢
          have HB6 := Lib.hid (HBE.out.alloc HBE.out.size (.cells #[.int .i64 (bc : Int), .int .i64 (bi : Int), .int .i64 (bt : Int), .int .i64 b3] 43))
          clear hcb p0 p1 p2 p3 hsq hsv
          go_wp2_with fail
          go_roundw
          case rel => exact ⟨q + 1, by omega, by go_num, by rw [HSQ.out]; go_num, HB6⟩
          case measure => simp [intOf]; omega
        · obtain rfl : q = q0 := by omega
          have hs9 : sumB (L.take q) = (cn : Int) := by rw [HQ0.out, List.take_length, HSUM.out]
          rw [hs9]
          obtain ⟨w6, rfl⟩ : ∃ x : World, x = wr := ⟨_, rfl⟩
          have D6 := Lib.hid HBE.out
          clear hs9
          go_wp2_with fail
          go_loopw [10, 11, 12, 13, 14, 15, 57] (fun _ _ _ _ _ _ i wr => ∃ k : Nat, k ≤ n ∧ i = .int .i64 (k : Int) ∧ Hid (Below w5.heap.size w5 wr)) (fun _ _ _ _ _ _ i _ => n - (intOf i).toNat)
          case atStart => exact ⟨0, Nat.zero_le _, rfl, D6⟩
          case round =>
            obtain ⟨k, hk, rfl, HBX⟩ := hrel
            by_cases hlt : k < n
            · have HE3 := Lib.hid (D5.out.trans (HBX.out.mono D5.out.size))
              obtain ⟨ga, oa, rfl, hga, hca⟩ := HRL.out (by omega)
              have hkl : k < ls.length := by rw [← HN.out]; exact hlt
              obtain ⟨⟨va, p0, hra⟩, p1, p2, p3⟩ := hca k _ (List.getElem?_eq_getElem hkl)
              have a0 := (HE3.out.cell (p := ⟨ga, oa + k * 4, none⟩) hga).trans p0
              have a1 := (HE3.out.cell (p := ⟨ga, oa + k * 4 + 1, none⟩) hga).trans p1
              have a2 := (HE3.out.cell (p := ⟨ga, oa + k * 4 + 2, none⟩) hga).trans p2
              have a3 := (HE3.out.cell (p := ⟨ga, oa + k * 4 + 3, none⟩) hga).trans p3
              have HCW := Lib.hid (fun j hj => cellW_at ls k j hkl hj)
              have hmem := totL_mem ls _ (List.getElem_mem hkl)
              have HCK := Lib.hid (cellsN_lt ls k hkl)
              generalize ls[k] = l at a1 a2 a3 hra HCW HCK hmem
              obtain ⟨cl, ⟨x, m'⟩, f'⟩ := l
              simp only at a1 a2 a3 hra HCW HCK hmem
              obtain ⟨Ac, cc', rfl, hin⟩ := hra
              have HIC := Lib.hid hin
              obtain ⟨z, hz⟩ : ∃ z, z = cl.length := ⟨_, rfl⟩
              have hzl : z ≤ 1048576 := by omega
              rw [← hz] at a0 HIC HCK
              have HZ2 := Lib.hid hz
              obtain ⟨wo, rfl⟩ : ∃ wo : World, wo = wr := ⟨_, rfl⟩
              have HBO := Lib.hid (HBX.out.alloc HBX.out.size (.cells #[.slice Ac z cc', .string x, .int .i64 m', .int .i64 f'] 48))
              clear hca p0 p1 p2 p3 hin hz hmem
              go_wp2_with fail
              go_loopw [12, 13, 14, 15, 65] (fun _ _ _ _ j wx => ∃ q : Nat, q ≤ z ∧ j = .int .i64 (q : Int) ∧ Hid (Below w5.heap.size w5 wx)) (fun _ _ _ _ j _ => z - (intOf j).toNat)
              case atStart => exact ⟨0, Nat.zero_le _, rfl, HBO⟩
              case round =>
                obtain ⟨q2, hq2, rfl, HBY⟩ := hrel
                by_cases hltq2 : q2 < z
                · obtain ⟨gi, oi, rfl, hgi, hci⟩ := HIC.out (by omega)
                  have hql2 : q2 < cl.length := by rw [← HZ2.out]; exact hltq2
                  have HY3 := Lib.hid (D5.out.trans (HBY.out.mono D5.out.size))
                  obtain ⟨b0, b1⟩ := (hci q2 _ (List.getElem?_eq_getElem hql2)).keep (fun p hp => HY3.out.cell hp) hgi
                  have hcw := HCW.out q2 hql2
                  obtain ⟨bb, hf1, hf2, hf3⟩ := HFIND.out k q2 (by rw [HCK.out]; exact hltq2)
                  rw [hcw] at hf3
                  generalize cl[q2] = ce at b0 b1 hf3
                  obtain ⟨yt, yw⟩ := ce
                  simp only at b0 b1 hf3
                  obtain ⟨go, co, g, rc, hv5, k0, k1, hgo, hgg⟩ := HF5.out.get k q2 bb.wid hlt hf2
                  rw [HFLEN.out, HCK.out] at k0
                  injection hv5 with v1 v2 v3
                  subst v1
                  have HK0 := Lib.hid k0
                  have HK1 := Lib.hid k1
                  have HAT := Lib.hid (fun W hW => HBA.out W hW k q2 bb (by omega) (by omega) hf1)
                  obtain ⟨d0, d1, d2, d3⟩ := bb
                  simp only at hf3 HK1 HAT
                  have HF3 := Lib.hid hf3
                  have HBZ := Lib.hid (HBY.out.alloc HBY.out.size (.cells #[.string yt, .int .i64 yw] 46))
                  have HBK9 := Lib.hid (Blk.new wr 46 #[.string yt, .int .i64 yw])
                  clear hci hcw hf1 hf2 hf3 k0 k1 v2 v3
                  go_wp2_with fail
                  refine (HAT.out _ HBZ.out).mono ?_
                  rintro e w7 ⟨rfl, hb7⟩
                  have HB7 := Lib.hid (HBZ.out.trans (hb7.mono HBZ.out.size))
                  have h7 := HBK9.out.after hb7
                  have x1 : w7.cell? ⟨wr.heap.size, 1, none⟩ = some (.int .i64 yw) := h7.cell 1
                  have y0 := (HB7.out.cell (p := ⟨go, k, none⟩) hgo).trans HK0.out
                  have y1 := (HB7.out.cell (p := ⟨g, q2, none⟩) hgg).trans HK1.out
                  have HB8 := Lib.hid (HB7.out.alloc HB7.out.size (.cells #[.int .i64 d0, .int .i64 d1, .int .i64 d2, .int .i64 d3] 43))
                  have hlt7 := h7.lt
                  have hgo7 : go < w7.heap.size := Nat.lt_of_lt_of_le hgo HB7.out.size
                  have hgg7 : g < w7.heap.size := Nat.lt_of_lt_of_le hgg HB7.out.size
                  have hg1 : decide (d3 < yw) = false := by have := HF3.out; simp; omega
                  have hg2 : decide ((z : Int) ≤ (q2 : Int)) = false := by simp; omega
                  have hg3 : ((d3 : Int) != d3) = false := by simp
                  clear hb7 h7 b0 b1
                  go_wp2_with fail
                  go_quiet (fail)
                  go_wp2_with fail
                  go_roundw
                  case rel => exact ⟨q2 + 1, by omega, by go_num, Lib.hid (by first | exact HB8.out | exact below_drewN HB8.out _)⟩
                  case measure => simp [intOf]; omega
                · go_wp2_with fail
                  go_roundw
                  case rel => exact ⟨k + 1, by omega, by go_num, HBY⟩
                  case measure => simp [intOf]; omega
            · have B9 := Lib.hid (B5.out.trans (HBX.out.mono B5.out.size))
              have HR9 := Lib.hid (HR3.out.below (D5.out.trans (HBX.out.mono D5.out.size)))
              go_wp2_with fail
              refine (HCN.out _ _ HR9.out).mono ?_
              rintro e w9 ⟨rfl, hb9⟩
              have B10 := Lib.hid (B9.out.trans (hb9.mono B9.out.size))
              clear hb9
              go_wp2_with fail
              go_ret
              exact ⟨by simp, B10.out⟩
end Go.Proofs.YtdihoofhbkafoaaDoor
