/- The laws' eqBlockS, markBlockS, heldBlockS. -/
import Derived.Test.YtdihoofhbkafoaaSpecBlk
import Derived.Test.YtdihoofhbkafoaaBF
import Derived.Deep.RegionHeld3
namespace Go.Proofs.Ytdihoofhbkafoaa
open Go.RowKit
set_option linter.unusedVariables false

set_option maxRecDepth 100000 in
theorem eqBlock_same (a b c d : Int) (w : World) :
    Calls Try.prog 35 #[.agg #[.int .i64 a, .int .i64 b, .int .i64 c, .int .i64 d], .agg #[.int .i64 a, .int .i64 b, .int .i64 c, .int .i64 d]] w fun e w' => e = .returned (.bool true) ∧ Below w.heap.size w w' := by
  have ha : ((a : Int) != a) = false := by simp
  have hb : ((b : Int) != b) = false := by simp
  have hc : ((c : Int) != c) = false := by simp
  have hd : ((d : Int) != d) = false := by simp
  go_enter Try.func35, Try.ntmps35
  go_wp2
  go_ret
  exact ⟨rfl, by go_grown⟩
theorem keep8s {w W W' : World} {ga gb oa ob : Nat} {u0 u1 u2 u3 v0 v1 v2 v3 : Value} (hga : ga < w.heap.size) (hgb : gb < w.heap.size) (hb : Below W.heap.size W W')
    (h : W.cell? ⟨ga, oa, none⟩ = some u0 ∧ W.cell? ⟨ga, oa + 1, none⟩ = some u1 ∧ W.cell? ⟨ga, oa + 2, none⟩ = some u2 ∧ W.cell? ⟨ga, oa + 3, none⟩ = some u3 ∧ W.cell? ⟨gb, ob, none⟩ = some v0 ∧ W.cell? ⟨gb, ob + 1, none⟩ = some v1 ∧ W.cell? ⟨gb, ob + 2, none⟩ = some v2 ∧ W.cell? ⟨gb, ob + 3, none⟩ = some v3 ∧ Below w.heap.size w W) :
    W'.cell? ⟨ga, oa, none⟩ = some u0 ∧ W'.cell? ⟨ga, oa + 1, none⟩ = some u1 ∧ W'.cell? ⟨ga, oa + 2, none⟩ = some u2 ∧ W'.cell? ⟨ga, oa + 3, none⟩ = some u3 ∧ W'.cell? ⟨gb, ob, none⟩ = some v0 ∧ W'.cell? ⟨gb, ob + 1, none⟩ = some v1 ∧ W'.cell? ⟨gb, ob + 2, none⟩ = some v2 ∧ W'.cell? ⟨gb, ob + 3, none⟩ = some v3 ∧ Below w.heap.size w W' := by
  obtain ⟨h0, h1, h2, h3, h4, h5, h6, h7, h8⟩ := h
  have hs := h8.size
  have k : ∀ b j v, b < w.heap.size → W.cell? ⟨b, j, none⟩ = some v → W'.cell? ⟨b, j, none⟩ = some v := fun b j v hlt hv => (hb.cell (p := ⟨b, j, none⟩) (by show b < _; omega)).trans hv
  exact ⟨k _ _ _ hga h0, k _ _ _ hga h1, k _ _ _ hga h2, k _ _ _ hga h3, k _ _ _ hgb h4, k _ _ _ hgb h5, k _ _ _ hgb h6, k _ _ _ hgb h7, h8.trans (hb.mono hs)⟩
theorem last9 {p0 p1 p2 p3 p4 p5 p6 p7 q : Prop} (h : p0 ∧ p1 ∧ p2 ∧ p3 ∧ p4 ∧ p5 ∧ p6 ∧ p7 ∧ q) : q := h.2.2.2.2.2.2.2.2
set_option maxRecDepth 100000 in
set_option maxHeartbeats 2000000 in
theorem eqBlockS_same (ls : List Bk) (va vb : Value) (w : World) (ha : RdB w va ls) (hb : RdB w vb ls) (hm : ls.length ≤ 100000000) :
    Calls Try.prog 13 #[va, vb] w fun e w' => e = .returned (.bool true) ∧ Below w.heap.size w w' := by
  obtain ⟨A, ca, rfl, hA⟩ := ha
  obtain ⟨B, cb, rfl, hB⟩ := hb
  have HA := Lib.hid hA
  have HB := Lib.hid hB
  obtain ⟨n, hn⟩ : ∃ n, n = ls.length := ⟨_, rfl⟩
  rw [← hn] at HA HB hm ⊢
  have HN := Lib.hid hn
  clear hA hB hn
  have hne : ((n : Int) != (n : Int)) = false := by simp
  go_enter Try.func13, Try.ntmps13
  go_wp2
  clear hne
  go_loopw [5] (fun i wr => ∃ k : Nat, k ≤ n ∧ i = .int .i64 (k : Int) ∧ Hid (Below w.heap.size w wr)) (fun i _ => n - (intOf i).toNat)
  case atStart => exact ⟨0, Nat.zero_le _, rfl, Lib.hid (Below.refl _ _)⟩
  case round =>
    obtain ⟨k, hk, rfl, HBE⟩ := hrel
    by_cases hlt : k < n
    · obtain ⟨ga, oa, rfl, hga, hca⟩ := HA.out (by omega)
      obtain ⟨gb, ob, rfl, hgb, hcb⟩ := HB.out (by omega)
      have hkl : k < ls.length := by rw [← HN.out]; exact hlt
      obtain ⟨p0, p1, p2, p3⟩ := hca k _ (List.getElem?_eq_getElem hkl)
      obtain ⟨q0, q1, q2, q3⟩ := hcb k _ (List.getElem?_eq_getElem hkl)
      have a0 := (HBE.out.cell (p := ⟨ga, oa + k * 4, none⟩) hga).trans p0
      have a1 := (HBE.out.cell (p := ⟨ga, oa + k * 4 + 1, none⟩) hga).trans p1
      have a2 := (HBE.out.cell (p := ⟨ga, oa + k * 4 + 2, none⟩) hga).trans p2
      have a3 := (HBE.out.cell (p := ⟨ga, oa + k * 4 + 3, none⟩) hga).trans p3
      have b0 := (HBE.out.cell (p := ⟨gb, ob + k * 4, none⟩) hgb).trans q0
      have b1 := (HBE.out.cell (p := ⟨gb, ob + k * 4 + 1, none⟩) hgb).trans q1
      have b2 := (HBE.out.cell (p := ⟨gb, ob + k * 4 + 2, none⟩) hgb).trans q2
      have b3 := (HBE.out.cell (p := ⟨gb, ob + k * 4 + 3, none⟩) hgb).trans q3
      generalize ls[k] = c at a0 a1 a2 a3 b0 b1 b2 b3
      obtain ⟨x0, x1, x2, x3⟩ := c
      simp only at a0 a1 a2 a3 b0 b1 b2 b3
      have HE := Lib.hid (fun W => eqBlock_same x0 x1 x2 x3 W)
      clear hca hcb p0 p1 p2 p3 q0 q1 q2 q3
      go_wp2_with fail
      go_region_held3 (fun W => W.cell? ⟨ga, oa + k * 4, none⟩ = some (.int .i64 x0) ∧ W.cell? ⟨ga, oa + k * 4 + 1, none⟩ = some (.int .i64 x1) ∧ W.cell? ⟨ga, oa + k * 4 + 2, none⟩ = some (.int .i64 x2) ∧ W.cell? ⟨ga, oa + k * 4 + 3, none⟩ = some (.int .i64 x3) ∧ W.cell? ⟨gb, ob + k * 4, none⟩ = some (.int .i64 x0) ∧ W.cell? ⟨gb, ob + k * 4 + 1, none⟩ = some (.int .i64 x1) ∧ W.cell? ⟨gb, ob + k * 4 + 2, none⟩ = some (.int .i64 x2) ∧ W.cell? ⟨gb, ob + k * 4 + 3, none⟩ = some (.int .i64 x3) ∧ Below w.heap.size w W)
        (first | exact ⟨a0, a1, a2, a3, b0, b1, b2, b3, HBE.out.drew⟩ | exact keep8s hga hgb (by assumption) (by assumption))
        (first | (go_at_call 35; refine (HE.out _).mono ?_; rintro e w1 ⟨rfl, hb1⟩))
      all_goals
        have HB9 := Lib.hid (last9 (q := Below w.heap.size w w1) (by assumption))
        go_wp2_with fail
        go_roundw
        case rel => exact ⟨k + 1, by omega, by go_num, HB9⟩
        case measure => simp [intOf]; omega
    · go_wp2
      go_ret
      exact ⟨rfl, HBE.out⟩
/-! ### marks -/
def mkBk (k : Nat) : Bk := ⟨((k : Nat) : Int), ((k + 1 : Nat) : Int), ((k + 2 : Nat) : Int), ((k + 3 : Nat) : Int)⟩
def mkBs (k n : Nat) : List Bk := (List.range n).map fun j => mkBk (k + 4 * j)
theorem mkBs_length (k n : Nat) : (mkBs k n).length = n := by simp [mkBs]
theorem mkBs_get (k n j : Nat) (h : j < n) : (mkBs k n)[j]? = some (mkBk (k + 4 * j)) := by simp [mkBs, h]
theorem mkBs_succ (k n : Nat) : mkBs k (n + 1) = mkBs k n ++ [mkBk (k + 4 * n)] := by simp [mkBs, List.range_succ]
def mixB (k j : Nat) (l : List Bk) : List Bk := mkBs k j ++ l.drop j
theorem mixB_zero (k : Nat) (l : List Bk) : mixB k 0 l = l := by simp [mixB, mkBs]
theorem mixB_all (k : Nat) (l : List Bk) : mixB k l.length l = mkBs k l.length := by simp [mixB]
theorem mixB_length (k j : Nat) (l : List Bk) (h : j ≤ l.length) : (mixB k j l).length = l.length := by
  unfold mixB; rw [List.length_append, mkBs_length, List.length_drop]; omega
theorem mixB_step (k j : Nat) (l : List Bk) (h : j < l.length) :
    ((((bkVals (mixB k j l)).set (j * 4) (.int .i64 ((k + 4 * j : Nat) : Int))).set (j * 4 + 1) (.int .i64 ((k + 4 * j + 1 : Nat) : Int))).set (j * 4 + 2) (.int .i64 ((k + 4 * j + 2 : Nat) : Int))).set (j * 4 + 3) (.int .i64 ((k + 4 * j + 3 : Nat) : Int)) = bkVals (mixB k (j + 1) l) := by
  have hl : (bkVals (mkBs k j)).length = j * 4 := by rw [bkVals_length, mkBs_length]; omega
  unfold mixB
  rw [List.drop_eq_getElem_cons h, bkVals_append, bkVals_cons, mkBs_succ, List.append_assoc, bkVals_append (mkBs k j)]
  rw [List.set_append_right _ _ (by omega), hl, Nat.sub_self, List.set_cons_zero, List.set_append_right _ _ (by omega), hl, show j * 4 + 1 - j * 4 = 1 by omega, List.set_append_right _ _ (by omega), hl, show j * 4 + 2 - j * 4 = 2 by omega, List.set_append_right _ _ (by omega), hl, show j * 4 + 3 - j * 4 = 3 by omega]
  rfl
set_option maxRecDepth 100000 in
set_option maxHeartbeats 1000000 in
theorem markBlockS_any (base k : Nat) (v : Value) (l : List Bk) (w : World) (hown : OwnB w base v l) (h0 : 0 < k) (hk : k + 4 * l.length ≤ 900000000) :
    Calls Try.prog 16 #[v, .int .i64 (k : Int)] w fun e w' => e = .returned (.int .i64 ((k + 4 * l.length : Nat) : Int)) ∧ OwnB w' base v (mkBs k l.length) ∧ w.grownBy w' v.ownBlock := by
  have ho : w.ownsRow base 63 4 v l.length (bkVals l) := hown
  rcases ho.2 with ⟨rfl, hn⟩ | ⟨g, cap, cur, rfl, hb, hh, hn, hc, hs, ht⟩
  · have he : l = [] := List.length_eq_zero_iff.1 hn
    subst he
    have HO := Lib.hid hown
    clear hown ho hn
    go_enter Try.func16, Try.ntmps16
    go_wp2
    refine wp_loop_rounds 1 ?_
    rw [rounds_succ]
    go_wp2
    go_ret
    exact ⟨rfl, HO.out, World.grownBy.refl _ _⟩
  · have HOW := Lib.hid hown
    obtain ⟨n, hnl⟩ : ∃ n, n = l.length := ⟨_, rfl⟩
    rw [← hnl] at hk hn ⊢
    have HN := Lib.hid hnl
    have hmx : cap ≤ 9223372036854775807 := hc
    clear hh hs ht hown ho hnl hc
    go_enter Try.func16, Try.ntmps16
    go_wp2
    go_loopw [1, 5] (fun m i wr => ∃ j : Nat, j ≤ n ∧ i = .int .i64 (j : Int) ∧ m = .int .i64 ((k + 4 * j : Nat) : Int) ∧ Hid (wr.ownsRow base 63 4 (.slice (some ⟨g, 0, none⟩) n cap) n (bkVals (mixB k j l))) ∧ Hid (w.grownBy wr (some g))) (fun _ i _ => n - (intOf i).toNat)
    case atStart => exact ⟨0, Nat.zero_le _, rfl, rfl, Lib.hid (by rw [mixB_zero]; have := HOW.out; unfold OwnB at this; rw [← HN.out] at this; exact this), Lib.hid (World.grownBy.refl _ _)⟩
    case round =>
      obtain ⟨j, hj, rfl, rfl, HO, HG⟩ := hrel
      by_cases hlt : j < n
      · obtain ⟨q, hq⟩ : ∃ q, q = k + 4 * j := ⟨_, rfl⟩
        have hq1 : q ≤ 900000000 := by omega
        have HST := Lib.hid (mixB_step k j l (by rw [← HN.out]; exact hlt))
        rw [← hq] at HST ⊢
        have HQ := Lib.hid hq
        have hl1 : (bkVals (mixB k j l)).length = 4 * n := by rw [bkVals_length, mixB_length k j l (by rw [← HN.out]; omega), ← HN.out]
        obtain ⟨u0, c0⟩ : ∃ u, wr.cell? ⟨g, j * 4, none⟩ = some u := ⟨_, (HO.out.cellAt (j * 4) (by omega)).trans (List.getElem?_eq_getElem (by omega))⟩
        obtain ⟨u1, c1⟩ : ∃ u, wr.cell? ⟨g, j * 4 + 1, none⟩ = some u := ⟨_, (HO.out.cellAt (j * 4 + 1) (by omega)).trans (List.getElem?_eq_getElem (by omega))⟩
        obtain ⟨u2, c2⟩ : ∃ u, wr.cell? ⟨g, j * 4 + 2, none⟩ = some u := ⟨_, (HO.out.cellAt (j * 4 + 2) (by omega)).trans (List.getElem?_eq_getElem (by omega))⟩
        obtain ⟨u3, c3⟩ : ∃ u, wr.cell? ⟨g, j * 4 + 3, none⟩ = some u := ⟨_, (HO.out.cellAt (j * 4 + 3) (by omega)).trans (List.getElem?_eq_getElem (by omega))⟩
        have f0 : wr.frozen? ⟨g, j * 4, none⟩ = false := HO.out.frozenAt _
        have f1 : wr.frozen? ⟨g, j * 4 + 1, none⟩ = false := HO.out.frozenAt _
        have f2 : wr.frozen? ⟨g, j * 4 + 2, none⟩ = false := HO.out.frozenAt _
        have f3 : wr.frozen? ⟨g, j * 4 + 3, none⟩ = false := HO.out.frozenAt _
        have HS0 := Lib.hid (HO.out.stored (j * 4) (.int .i64 ((q : Nat) : Int)))
        have HS1 := Lib.hid (HS0.out.1.stored (j * 4 + 1) (.int .i64 ((q + 1 : Nat) : Int)))
        have HS2 := Lib.hid (HS1.out.1.stored (j * 4 + 2) (.int .i64 ((q + 2 : Nat) : Int)))
        have HS3 := Lib.hid (HS2.out.1.stored (j * 4 + 3) (.int .i64 ((q + 3 : Nat) : Int)))
        have HG1 := Lib.hid (only_trans (only_trans (only_trans (only_trans HG.out HS0.out.2) HS1.out.2) HS2.out.2) HS3.out.2)
        clear hq hl1
        go_wp2_with fail
        go_roundw
        case rel => exact ⟨j + 1, by omega, by go_num, by rw [HQ.out]; go_num, Lib.hid (by rw [← HST.out]; exact HS3.out.1), HG1⟩
        case measure => simp [intOf]; omega
      · obtain rfl : j = n := by omega
        go_wp2_with fail
        go_ret
        exact ⟨rfl, by have h1 := HO.out; rw [HN.out, mixB_all, ← HN.out] at h1; unfold OwnB; rw [mkBs_length]; exact h1, HG.out⟩
set_option maxRecDepth 100000 in
set_option maxHeartbeats 1000000 in
theorem heldBlockS_any (k n : Nat) (v : Value) (w : World) (hv : RdB w v (mkBs k n)) (h0 : 0 < k) (hk : k + 4 * n ≤ 900000000) :
    Calls Try.prog 17 #[v, .int .i64 (k : Int)] w fun e w' => e = .returned (.int .i64 ((k + 4 * n : Nat) : Int)) ∧ w = w' := by
  obtain ⟨A, ca, rfl, hA⟩ := hv
  rw [mkBs_length] at hA ⊢
  have HA := Lib.hid hA
  clear hA
  go_enter Try.func17, Try.ntmps17
  go_wp2
  go_loop [1, 5] (fun m i => ∃ j : Nat, j ≤ n ∧ i = .int .i64 (j : Int) ∧ m = .int .i64 ((k + 4 * j : Nat) : Int)) (fun _ i => n - (intOf i).toNat)
  case atStart => exact ⟨0, Nat.zero_le _, rfl, rfl⟩
  case round =>
    obtain ⟨j, hj, rfl, rfl⟩ := hrel
    by_cases hlt : j < n
    · obtain ⟨g, o, rfl, hgl, hcc⟩ := HA.out (by omega)
      obtain ⟨p0, p1, p2, p3⟩ := hcc j _ (mkBs_get k n j hlt)
      obtain ⟨q, hq⟩ : ∃ q, q = k + 4 * j := ⟨_, rfl⟩
      have hq1 : q ≤ 900000000 := by omega
      rw [← hq] at p0 p1 p2 p3 ⊢
      have HQ := Lib.hid hq
      simp only [mkBk] at p0 p1 p2 p3
      clear hq hcc
      go_wp2_with fail
      go_round
      case rel => exact ⟨j + 1, by omega, by go_num, by rw [HQ.out]; go_num⟩
      case measure => simp [intOf]; omega
    · obtain rfl : j = n := by omega
      go_wp2_with fail
      go_ret
      exact ⟨rfl, rfl⟩
end Go.Proofs.Ytdihoofhbkafoaa
