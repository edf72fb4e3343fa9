/- The program's Layout and LayoutWidth. -/
import Derived.Test.YtjdbkpckhgncbaaDoorImplSlo
import Derived.Test.YtjdbkpckhgncbaaDoorLytMath
namespace Go.Proofs.YtjdbkpckhgncbaaDoor
open Go.RowKit
set_option linter.unusedVariables false

theorem layB_lines (c : Cfg) (s : ByteArray) (hv : validC c = true) (hs : s.size ≤ 50000) : layLinesB c (splitL c s) = layB c s := by
  unfold layLinesB layB
  rw [split_fits c s hv hs, hv]
  rfl
theorem fit_text (c : Cfg) (s : ByteArray) (hs : s.size ≤ 50000) : FitL (splitL c s) := by
  have h := splitL_size c s
  exact ⟨by omega, by omega⟩
set_option maxRecDepth 100000 in
set_option maxHeartbeats 4000000 in
theorem implLayout (c : Cfg) (s : ByteArray) (w : World) (hv : validC c = true) (hs : s.size ≤ 50000) (hT : WT w) :
    Calls Tryd.prog 24 #[.agg (cfgV c), .string s] w fun e w' => e = .returned (.string (layB c s)) ∧ Below w.heap.size w w' := by
  have HSP := Lib.hid (fun W (hb : Below w.heap.size w W) => implSplitText c s W (by omega) (hT.below hb))
  have HLL := Lib.hid (fun v W (h : RdL W v (splitL c s)) => implLayLines c (splitL c s) v W h (fit_text c s hs))
  rw [layB_lines c s hv hs] at HLL
  generalize layB c s = z at HLL ⊢
  generalize splitL c s = ls at HSP HLL
  obtain ⟨m, t, p, d, fr, fd, fl, fe, fm⟩ := c
  unfold cfgV at HSP HLL ⊢
  simp only at HSP HLL ⊢
  clear hs hT hv
  go_enter Tryd.func24, Tryd.ntmps24
  go_wp2_with fail
  go_region_held3 (fun W => W.cell? ⟨w.heap.size, 0, none⟩ = some (.int .i64 m) ∧ W.cell? ⟨w.heap.size, 1, none⟩ = some (.int .i64 t) ∧ W.cell? ⟨w.heap.size, 2, none⟩ = some (.int .i64 p) ∧ W.cell? ⟨w.heap.size, 3, none⟩ = some (.int .i64 d) ∧ W.cell? ⟨w.heap.size, 4, none⟩ = some (.bool fr) ∧ W.cell? ⟨w.heap.size, 5, none⟩ = some (.bool fd) ∧ W.cell? ⟨w.heap.size, 6, none⟩ = some (.bool fl) ∧ W.cell? ⟨w.heap.size, 7, none⟩ = some (.bool fe) ∧ W.cell? ⟨w.heap.size, 8, none⟩ = some (.bool fm) ∧ Below w.heap.size w W ∧ w.heap.size + 1 ≤ W.heap.size)
    (first | exact box_start _ _ _ _ _ _ _ _ _ _ | exact box_step (by assumption) (by assumption))
    (first | (go_at_call 18; refine (HSP.out _ (box_old (w := w) (by assumption))).mono ?_; rintro e w1 ⟨v1, rfl, ho1, hb1⟩; have hr1 := ho1.rd) | (go_at_call 25; refine (HLL.out _ _ (by assumption)).mono ?_; rintro e w2 ⟨rfl, hb2⟩))
  all_goals
    have HB9 := Lib.hid (box_old (w := w) (W := w2) (by assumption))
    go_wp2_with fail
    go_ret
    exact ⟨rfl, HB9.out⟩
theorem tail_any (c : Cfg) (s : ByteArray) (hv : validC c = true) (i : Nat) (hi : i < (splitL c s).length) : 0 ≤ (splitL c s)[i].tail.wid ∧ (splitL c s)[i].tail.wid ≤ 2 * (s.size : Int) := by
  have hm := List.getElem_mem hi
  have e := splitL_yes (c := c) s hv
  have hfine := lines_fine c.fe (fun b => (celW c.fm b 0 : Int)) s.data.toList
  rw [← e] at hfine
  have f2 := (hfine _ hm).2.1
  have f3 : (splitL c s)[i].tail.wid = ((celW c.fm (splitL c s)[i].tail.txt 0 : Nat) : Int) := f2
  have h2 := celW_le c.fm (splitL c s)[i].tail.txt 0
  have h4 := totL_mem _ _ hm
  have h5 := (splitL_size c s).2
  omega
theorem wide_pack (c : Cfg) (s : ByteArray) (hv : validC c = true) (hs : s.size ≤ 50000) : ∃ (ls : List Ln) (F : Nat → List Int) (Z : Nat → Nat) (Y M : Nat → Int), splitL c s = ls ∧ slotF c ls = F ∧ widN c ls = ls.length ∧ ls.length ≤ 50001 ∧ mostW c s = M ls.length ∧ M 0 = 0 ∧ (∀ k, k ≤ ls.length → 0 ≤ M k ∧ M k ≤ 300000000000) ∧
    ∀ k (h : k < ls.length), (F k).length = Z k + 1 ∧ Z k ≤ 50000 ∧ (F k)[Z k]? = some (Y k) ∧ 0 ≤ Y k ∧ Y k ≤ 200000000000 ∧ 0 ≤ ls[k].tail.wid ∧ ls[k].tail.wid ≤ 100000 ∧ M (k + 1) = max (M k) (Y k + ls[k].tail.wid) := by
  have hsz := splitL_size c s
  have hfit := split_fits c s hv hs
  have hsum : ∀ k, 0 ≤ sumS c.fl (widF c (splitL c s) k) ∧ sumS c.fl (widF c (splitL c s) k) ≤ 200000000000 := by
    intro k
    have hb := okWs_all (widF_laid c hv hfit k)
    have h := sumS_bd c.fl (widF c (splitL c s) k) 100200 hb _ (Nat.le_refl _)
    rw [List.take_length] at h
    have hl : (widF c (splitL c s) k).length ≤ 1048576 := by rw [widF_size]; exact cells_bd _ _ (by omega) k
    have h2 : ((widF c (splitL c s) k).length : Int) * (100200 + 1) ≤ 1048576 * (100200 + 1) := Int.mul_le_mul_of_nonneg_right (by omega) (by omega)
    omega
  have hline : ∀ k (h : k < (splitL c s).length), lineN c (splitL c s) k = sumS c.fl (widF c (splitL c s) k) + (splitL c s)[k].tail.wid := by
    intro k h
    unfold lineN
    rw [List.getElem?_eq_getElem h]
  refine ⟨splitL c s, slotF c (splitL c s), fun k => cellsN (splitL c s) k, fun k => sumS c.fl (widF c (splitL c s) k), fun k => mostN (lineN c (splitL c s)) k, rfl, rfl, ?_, by omega, ?_, rfl, fun k hk => ?_, fun k h => ?_⟩
  · unfold widN; rw [hfit, hv]; rfl
  · unfold mostW; rw [if_pos hv]
  · refine mostN_bd _ 300000000000 (by omega) k fun i hi => ?_
    rw [hline i (by omega)]
    have h1 := hsum i
    have h2 := tail_any c s hv i (by omega)
    omega
  · have h1 := hsum k
    have h2 := tail_any c s hv k h
    refine ⟨slotF_len c _ k, by have := cells_bd (splitL c s) 50000 (by omega) k; omega, ?_, h1.1, h1.2, h2.1, by omega, ?_⟩
    · have h3 := slotL_last c.fl (widF c (splitL c s) k)
      rw [widF_size] at h3
      exact h3
    · show mostN (lineN c (splitL c s)) (k + 1) = max (mostN (lineN c (splitL c s)) k) (sumS c.fl (widF c (splitL c s) k) + (splitL c s)[k].tail.wid)
      rw [mostN, hline k h]
      split <;> omega
set_option maxRecDepth 100000 in
set_option maxHeartbeats 4000000 in
theorem implLayoutWidth (c : Cfg) (s : ByteArray) (w : World) (hv : validC c = true) (hs : s.size ≤ 50000) (hT : WT w) :
    Calls Tryd.prog 26 #[.agg (cfgV c), .string s] w fun e w' => e = .returned (.int .i64 (mostW c s)) ∧ Below w.heap.size w w' := by
  have HSP := Lib.hid (fun W (hb : Below w.heap.size w W) => implSplitText c s W (by omega) (hT.below hb))
  have HSO := Lib.hid (fun W (hb : Below w.heap.size w W) => implSlotsOf c s W (by omega) (hT.below hb))
  obtain ⟨ls, F, Z, Y, M, h1, h2, h3, hls, h4, hM0, hMB, hall⟩ := wide_pack c s hv hs
  rw [h1] at HSP HSO
  rw [h2, h3] at HSO
  rw [h4]
  have HMB := Lib.hid hMB
  have HALL := Lib.hid hall
  have HM0 := Lib.hid hM0
  have HC0 := Lib.hid (Blk.new w 24 (cfgV c))
  have B0 := Lib.hid (by go_grown : Below w.heap.size w (w.alloc (.cells (cfgV c) 24)))
  obtain ⟨n, hn⟩ : ∃ n, n = ls.length := ⟨_, rfl⟩
  have HN := Lib.hid hn
  rw [← hn] at HSO hls ⊢
  obtain ⟨m, t, p, d, fr, fd, fl, fe, fm⟩ := c
  unfold cfgV at HSP HSO HC0 B0 ⊢
  simp only at HSP HSO HC0 B0 ⊢
  clear hs hT hv h1 h2 h3 h4 hM0 hMB hall hn
  go_enter Tryd.func26, Tryd.ntmps26
  go_wp2_with fail
  refine (HSP.out _ B0.out).mono ?_
  rintro e w1 ⟨v1, rfl, ho1, hb1⟩
  have B1 := Lib.hid (B0.out.trans (hb1.mono B0.out.size))
  have hc1 := HC0.out.after hb1
  have HC1 := Lib.hid hc1
  have HR1 := Lib.hid ho1.rd
  obtain ⟨Al, cl, hv1, _⟩ := ho1.rd
  subst hv1
  rw [← HN.out]
  obtain ⟨c0, c1, c2, c3, c4, c5, c6, c7, c8⟩ := hc1.boxed
  clear hb1 ho1 hc1
  go_wp2_with fail
  refine (HSO.out _ B1.out).mono ?_
  rintro e w2 ⟨u2, rfl, ho2, hb2⟩
  have B2 := Lib.hid (B1.out.trans (hb2.mono B1.out.size))
  have HO2 := Lib.hid ho2
  obtain ⟨Au, cu, hu2⟩ := ho2.len
  subst hu2
  have HR2 := Lib.hid (HR1.out.below hb2)
  have hbw := B2.out.size
  clear hb2 ho2 c0 c1 c2 c3 c4 c5 c6 c7 c8
  go_wp2_with fail
  go_loopw [6, 7, 8, 9, 17] (fun a _ _ _ i wr => ∃ k : Nat, k ≤ n ∧ a = .int .i64 (M k) ∧ i = .int .i64 (k : Int) ∧ wr = w2) (fun _ _ _ _ i _ => n - (intOf i).toNat)
  case atStart => exact ⟨0, Nat.zero_le _, by rw [HM0.out], rfl, rfl⟩
  case round =>
    obtain ⟨k, hk, rfl, rfl, rfl⟩ := hrel
    obtain ⟨m0, m1⟩ := HMB.out k (by rw [← HN.out]; exact hk)
    by_cases hlt : k < n
    · have hkl : k < ls.length := by rw [← HN.out]; exact hlt
      obtain ⟨l1, l2, l3, l4, l5, l6, l7, l8⟩ := HALL.out k hkl
      obtain ⟨A', c', he, hA'⟩ := HR2.out
      injection he with e1 e2 e3
      subst e1 e3
      obtain ⟨ga, oa, rfl, hga, hca⟩ := hA' (by omega)
      obtain ⟨_, _, p2, _⟩ := hca k _ (List.getElem?_eq_getElem hkl)
      obtain ⟨go, co, gr, rc, hgo, g1, g2, g3, g4⟩ := HO2.out.get k (Z k) (Y k) hlt l3
      injection hgo with e4 e5 e6
      subst e4 e6
      rw [l1] at g1
      have hmx := fun ts ty w => max_any (P := Tryd.prog) ts ty (M k) (Y k + ls[k].tail.wid) w
      rw [← l8] at hmx
      have HM1 := Lib.hid l8
      generalize ls[k].tail.wid = tw at p2 l6 l7 hmx
      generalize Y k = y at g2 l4 l5 hmx
      generalize Z k = z at g1 g2 l2
      have hz1 : ((z + 1 : Nat) : Int) - 1 = (z : Int) := by omega
      clear hA' hca l1 l3 l8 e2 e5
      go_wp2_with fail
      go_roundw
      case rel => exact ⟨k + 1, by omega, rfl, by go_num, trivial⟩
      case measure => simp [intOf]; omega
    · obtain rfl : k = n := by omega
      go_wp2_with fail
      go_ret
      exact ⟨rfl, B2.out⟩
end Go.Proofs.YtjdbkpckhgncbaaDoor
