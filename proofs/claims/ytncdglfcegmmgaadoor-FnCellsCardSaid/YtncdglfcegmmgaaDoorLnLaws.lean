/- The laws' own helpers on lines: eqLineS, szLineS, toLineS. -/
import Derived.Test.YtncdglfcegmmgaaDoorLnMem
import Derived.Deep.RegionHeld3
import Derived.Handy
import Derived.IntWalk
namespace Go.Proofs.YtncdglfcegmmgaaDoor
open Go.RowKit
set_option linter.unusedVariables false

theorem keep_cell {w W W' : World} {p : Addr} {v : Value} (hw : Below w.heap.size w W) (hb : Below W.heap.size W W') (h : W.cell? p = some v) (hp : p.block < w.heap.size) : W'.cell? p = some v :=
  (hb.cell (p := p) (Nat.lt_of_lt_of_le hp hw.size)).trans h
theorem keep4 {w W W' : World} {p1 p2 p3 p4 : Addr} {v1 v2 v3 v4 : Value} (hb : Below W.heap.size W W') (h : W.cell? p1 = some v1 ∧ W.cell? p2 = some v2 ∧ W.cell? p3 = some v3 ∧ W.cell? p4 = some v4 ∧ Below w.heap.size w W)
    (k1 : p1.block < w.heap.size) (k2 : p2.block < w.heap.size) (k3 : p3.block < w.heap.size) (k4 : p4.block < w.heap.size) : W'.cell? p1 = some v1 ∧ W'.cell? p2 = some v2 ∧ W'.cell? p3 = some v3 ∧ W'.cell? p4 = some v4 ∧ Below w.heap.size w W' :=
  ⟨keep_cell h.2.2.2.2 hb h.1 k1, keep_cell h.2.2.2.2 hb h.2.1 k2, keep_cell h.2.2.2.2 hb h.2.2.1 k3, keep_cell h.2.2.2.2 hb h.2.2.2.1 k4, h.2.2.2.2.trans (hb.mono h.2.2.2.2.size)⟩
theorem keep8 {w W W' : World} {p1 p2 p3 p4 p5 p6 p7 p8 : Addr} {v1 v2 v3 v4 v5 v6 v7 v8 : Value} (hb : Below W.heap.size W W') (h : W.cell? p1 = some v1 ∧ W.cell? p2 = some v2 ∧ W.cell? p3 = some v3 ∧ W.cell? p4 = some v4 ∧ W.cell? p5 = some v5 ∧ W.cell? p6 = some v6 ∧ W.cell? p7 = some v7 ∧ W.cell? p8 = some v8 ∧ Below w.heap.size w W)
    (k1 : p1.block < w.heap.size) (k5 : p5.block < w.heap.size) (e2 : p2.block = p1.block) (e3 : p3.block = p1.block) (e4 : p4.block = p1.block) (e6 : p6.block = p5.block) (e7 : p7.block = p5.block) (e8 : p8.block = p5.block) :
    W'.cell? p1 = some v1 ∧ W'.cell? p2 = some v2 ∧ W'.cell? p3 = some v3 ∧ W'.cell? p4 = some v4 ∧ W'.cell? p5 = some v5 ∧ W'.cell? p6 = some v6 ∧ W'.cell? p7 = some v7 ∧ W'.cell? p8 = some v8 ∧ Below w.heap.size w W' := by
  obtain ⟨h1, h2, h3, h4, h5, h6, h7, h8, h9⟩ := h
  exact ⟨keep_cell h9 hb h1 k1, keep_cell h9 hb h2 (e2 ▸ k1), keep_cell h9 hb h3 (e3 ▸ k1), keep_cell h9 hb h4 (e4 ▸ k1), keep_cell h9 hb h5 k5, keep_cell h9 hb h6 (e6 ▸ k5), keep_cell h9 hb h7 (e7 ▸ k5), keep_cell h9 hb h8 (e8 ▸ k5), h9.trans (hb.mono h9.size)⟩
theorem old4 {w W : World} {p1 p2 p3 p4 : Addr} {v1 v2 v3 v4 : Value} (h : W.cell? p1 = some v1 ∧ W.cell? p2 = some v2 ∧ W.cell? p3 = some v3 ∧ W.cell? p4 = some v4 ∧ Below w.heap.size w W) : Below w.heap.size w W := h.2.2.2.2
theorem old8 {w W : World} {p1 p2 p3 p4 p5 p6 p7 p8 : Addr} {v1 v2 v3 v4 v5 v6 v7 v8 : Value} (h : W.cell? p1 = some v1 ∧ W.cell? p2 = some v2 ∧ W.cell? p3 = some v3 ∧ W.cell? p4 = some v4 ∧ W.cell? p5 = some v5 ∧ W.cell? p6 = some v6 ∧ W.cell? p7 = some v7 ∧ W.cell? p8 = some v8 ∧ Below w.heap.size w W) : Below w.heap.size w W := h.2.2.2.2.2.2.2.2
set_option maxRecDepth 100000 in
set_option maxHeartbeats 400000 in
theorem eqCell_same (x : ByteArray) (n : Int) (w : World) :
    Calls Tryd.prog 55 #[.agg #[.string x, .int .i64 n], .agg #[.string x, .int .i64 n]] w fun e w' => e = .returned (.bool true) ∧ Below w.heap.size w w' := by
  have hq := str_ne_no (x := x) rfl
  go_enter Tryd.func55, Tryd.ntmps55
  go_wp2
  go_ret
  exact ⟨rfl, by go_grown⟩
set_option maxRecDepth 100000 in
set_option maxHeartbeats 1000000 in
theorem eqCellS_same (l : List Cel) (va vb : Value) (w : World) (ha : RdC w va l) (hb : RdC w vb l) (hm : l.length ≤ 9223372036854775807) :
    Calls Tryd.prog 54 #[va, vb] w fun e w' => e = .returned (.bool true) ∧ Below w.heap.size w w' := by
  obtain ⟨A, ca, rfl, hA⟩ := ha
  obtain ⟨B, cb, rfl, hB⟩ := hb
  have HA := Lib.hid hA
  have HB := Lib.hid hB
  obtain ⟨n, hn⟩ : ∃ n, n = l.length := ⟨_, rfl⟩
  rw [← hn] at HA HB hm ⊢
  have HN := Lib.hid hn
  clear hA hB hn
  have hne : ((n : Int) != (n : Int)) = false := by simp
  go_enter Tryd.func54, Tryd.ntmps54
  go_wp2
  clear hne
  go_loopw [5] (fun i wr => ∃ k : Nat, k ≤ n ∧ i = .int .i64 (k : Int) ∧ Hid (Below w.heap.size w wr)) (fun i _ => n - (intOf i).toNat)
  case atStart => exact ⟨0, Nat.zero_le _, rfl, Lib.hid (Below.refl _ _)⟩
  case round =>
    obtain ⟨k, hk, rfl, HBE⟩ := hrel
    by_cases hlt : k < n
    · obtain ⟨ga, oa, rfl, hga, hca⟩ := HA.out (by omega)
      obtain ⟨gb, ob, rfl, hgb, hcb⟩ := HB.out (by omega)
      have hkl : k < l.length := by rw [← HN.out]; exact hlt
      obtain ⟨a0, a1⟩ := (hca k _ (List.getElem?_eq_getElem hkl)).keep (fun p hp => HBE.out.cell hp) hga
      obtain ⟨b0, b1⟩ := (hcb k _ (List.getElem?_eq_getElem hkl)).keep (fun p hp => HBE.out.cell hp) hgb
      generalize l[k] = c at a0 a1 b0 b1
      obtain ⟨x, m⟩ := c
      simp only at a0 a1 b0 b1
      have HE := Lib.hid (fun W => eqCell_same x m W)
      clear hca hcb
      go_wp2_with fail
      go_region_held3 (fun W => W.cell? ⟨ga, oa + k * 2, none⟩ = some (.string x) ∧ W.cell? ⟨ga, oa + k * 2 + 1, none⟩ = some (.int .i64 m) ∧ W.cell? ⟨gb, ob + k * 2, none⟩ = some (.string x) ∧ W.cell? ⟨gb, ob + k * 2 + 1, none⟩ = some (.int .i64 m) ∧ Below w.heap.size w W)
        (first | exact ⟨a0, a1, b0, b1, HBE.out.drew⟩ | exact keep4 (by assumption) (by assumption) hga hga hgb hgb)
        (first | (go_at_call 55; refine (HE.out _).mono ?_; rintro e w1 ⟨rfl, hb1⟩))
      all_goals
        have HB9 := Lib.hid (old4 (w := w) (p1 := ⟨ga, oa + k * 2, none⟩) (by assumption))
        go_wp2
        go_roundw
        case rel => exact ⟨k + 1, by omega, by go_num, HB9⟩
        case measure => simp [intOf]; omega
    · go_wp2
      go_ret
      exact ⟨rfl, HBE.out⟩
set_option maxRecDepth 100000 in
set_option maxHeartbeats 1000000 in
theorem eqLine_same (l : List Cel) (va vb : Value) (x : ByteArray) (m f : Int) (w : World) (ha : RdC w va l) (hb : RdC w vb l) (hm : l.length ≤ 9223372036854775807) :
    Calls Tryd.prog 33 #[.agg #[va, .string x, .int .i64 m, .int .i64 f], .agg #[vb, .string x, .int .i64 m, .int .i64 f]] w fun e w' => e = .returned (.bool true) ∧ Below w.heap.size w w' := by
  have HC := Lib.hid (fun W h1 h2 => eqCellS_same l va vb W h1 h2 hm)
  have HE := Lib.hid (fun W => eqCell_same x m W)
  have HA := Lib.hid ha
  have HB := Lib.hid hb
  have B0 := Lib.hid (by go_grown : Below w.heap.size w ((w.alloc (.cells #[va, .string x, .int .i64 m, .int .i64 f] 34)).alloc (.cells #[vb, .string x, .int .i64 m, .int .i64 f] 34)))
  have H1 := Lib.hid ((Blk.new w 34 #[va, .string x, .int .i64 m, .int .i64 f]).after ((Below.refl _ _).alloc (Nat.le_refl _) (.cells #[vb, .string x, .int .i64 m, .int .i64 f] 34)))
  have H2 := Lib.hid (Blk.new (w.alloc (.cells #[va, .string x, .int .i64 m, .int .i64 f] 34)) 34 #[vb, .string x, .int .i64 m, .int .i64 f])
  rw [show (w.alloc (.cells #[va, .string x, .int .i64 m, .int .i64 f] 34)).heap.size = w.heap.size + 1 by simp] at H2
  obtain ⟨A, ca, rfl, _⟩ := ha
  obtain ⟨B, cb, rfl, _⟩ := hb
  go_enter Tryd.func33, Tryd.ntmps33
  go_wp2_with fail
  refine (HC.out _ (HA.out.below B0.out) (HB.out.below B0.out)).mono ?_
  rintro e w1 ⟨rfl, hb1⟩
  have B1 := Lib.hid (B0.out.trans (hb1.mono B0.out.size))
  have H3 := Lib.hid (H1.out.after hb1)
  have H4 := Lib.hid (H2.out.after hb1)
  clear hb1
  have a1 : w1.cell? ⟨w.heap.size, 1, none⟩ = some (.string x) := H3.out.cell 1
  have a2 : w1.cell? ⟨w.heap.size, 2, none⟩ = some (.int .i64 m) := H3.out.cell 2
  have b1 : w1.cell? ⟨w.heap.size + 1, 1, none⟩ = some (.string x) := H4.out.cell 1
  have b2 : w1.cell? ⟨w.heap.size + 1, 2, none⟩ = some (.int .i64 m) := H4.out.cell 2
  go_wp2_with fail
  clear a1 a2 b1 b2
  refine (HE.out _).mono ?_
  rintro e w2 ⟨rfl, hb2⟩
  have B2 := Lib.hid (B1.out.trans (hb2.mono B1.out.size))
  have a3 : w2.cell? ⟨w.heap.size, 3, none⟩ = some (.int .i64 f) := (H3.out.after hb2).cell 3
  have b3 : w2.cell? ⟨w.heap.size + 1, 3, none⟩ = some (.int .i64 f) := (H4.out.after hb2).cell 3
  clear hb2
  go_wp2_with fail
  go_ret
  exact ⟨rfl, B2.out⟩
set_option maxRecDepth 100000 in
set_option maxHeartbeats 2000000 in
theorem eqLineS_same (ls : List Ln) (va vb : Value) (w : World) (ha : RdL w va ls) (hb : RdL w vb ls) (hm : FitW ls) :
    Calls Tryd.prog 15 #[va, vb] w fun e w' => e = .returned (.bool true) ∧ Below w.heap.size w w' := by
  obtain ⟨A, ca, rfl, hA⟩ := ha
  obtain ⟨B, cb, rfl, hB⟩ := hb
  have HA := Lib.hid hA
  have HB := Lib.hid hB
  have hlen := hm.1
  have HM := Lib.hid (fun l (h : l ∈ ls) => (by have h1 := totL_mem ls l h; have h2 := hm.2; omega : l.cells.length ≤ 9223372036854775807))
  obtain ⟨n, hn⟩ : ∃ n, n = ls.length := ⟨_, rfl⟩
  rw [← hn] at HA HB hlen ⊢
  have HN := Lib.hid hn
  clear hA hB hn hm
  have hne : ((n : Int) != (n : Int)) = false := by simp
  go_enter Tryd.func15, Tryd.ntmps15
  go_wp2
  clear hne
  go_loopw [5] (fun i wr => ∃ k : Nat, k ≤ n ∧ i = .int .i64 (k : Int) ∧ Hid (Below w.heap.size w wr)) (fun i _ => n - (intOf i).toNat)
  case atStart => exact ⟨0, Nat.zero_le _, rfl, Lib.hid (Below.refl _ _)⟩
  case round =>
    obtain ⟨k, hk, rfl, HBE⟩ := hrel
    by_cases hlt : k < n
    · obtain ⟨ga, oa, rfl, hga, hca⟩ := HA.out (by omega)
      obtain ⟨gb, ob, rfl, hgb, hcb⟩ := HB.out (by omega)
      have hkl : k < ls.length := by rw [← HN.out]; exact hlt
      obtain ⟨⟨va, p0, hra⟩, p1, p2, p3⟩ := hca k _ (List.getElem?_eq_getElem hkl)
      obtain ⟨⟨vb, q0, hrb⟩, q1, q2, q3⟩ := hcb k _ (List.getElem?_eq_getElem hkl)
      have HML := Lib.hid (HM.out _ (List.getElem_mem hkl))
      have a0 := (HBE.out.cell (p := ⟨ga, oa + k * 4, none⟩) hga).trans p0
      have a1 := (HBE.out.cell (p := ⟨ga, oa + k * 4 + 1, none⟩) hga).trans p1
      have a2 := (HBE.out.cell (p := ⟨ga, oa + k * 4 + 2, none⟩) hga).trans p2
      have a3 := (HBE.out.cell (p := ⟨ga, oa + k * 4 + 3, none⟩) hga).trans p3
      have b0 := (HBE.out.cell (p := ⟨gb, ob + k * 4, none⟩) hgb).trans q0
      have b1 := (HBE.out.cell (p := ⟨gb, ob + k * 4 + 1, none⟩) hgb).trans q1
      have b2 := (HBE.out.cell (p := ⟨gb, ob + k * 4 + 2, none⟩) hgb).trans q2
      have b3 := (HBE.out.cell (p := ⟨gb, ob + k * 4 + 3, none⟩) hgb).trans q3
      generalize ls[k] = c at a1 a2 a3 b1 b2 b3 hra hrb HML
      obtain ⟨cl, ⟨x, m⟩, f⟩ := c
      simp only at a1 a2 a3 b1 b2 b3 hra hrb HML
      have HRA := Lib.hid hra
      have HRB := Lib.hid hrb
      have HE := Lib.hid (fun W (hW : Below w.heap.size w W) => eqLine_same cl va vb x m f W (HRA.out.below hW) (HRB.out.below hW) HML.out)
      clear hca hcb p0 p1 p2 p3 q0 q1 q2 q3 hra hrb
      go_wp2_with fail
      go_region_held3 (fun W => W.cell? ⟨ga, oa + k * 4, none⟩ = some va ∧ W.cell? ⟨ga, oa + k * 4 + 1, none⟩ = some (.string x) ∧ W.cell? ⟨ga, oa + k * 4 + 2, none⟩ = some (.int .i64 m) ∧ W.cell? ⟨ga, oa + k * 4 + 3, none⟩ = some (.int .i64 f) ∧ W.cell? ⟨gb, ob + k * 4, none⟩ = some vb ∧ W.cell? ⟨gb, ob + k * 4 + 1, none⟩ = some (.string x) ∧ W.cell? ⟨gb, ob + k * 4 + 2, none⟩ = some (.int .i64 m) ∧ W.cell? ⟨gb, ob + k * 4 + 3, none⟩ = some (.int .i64 f) ∧ Below w.heap.size w W)
        (first | exact ⟨a0, a1, a2, a3, b0, b1, b2, b3, HBE.out.drew⟩ | exact keep8 (by assumption) (by assumption) hga hgb rfl rfl rfl rfl rfl rfl)
        (first | (go_at_call 33; refine (HE.out _ (old8 (w := w) (p1 := ⟨ga, oa + k * 4, none⟩) (by assumption))).mono ?_; rintro e w1 ⟨rfl, hb1⟩))
      all_goals
        have HB9 := Lib.hid (old8 (w := w) (p1 := ⟨ga, oa + k * 4, none⟩) (by assumption))
        go_wp2
        go_roundw
        case rel => exact ⟨k + 1, by omega, by go_num, HB9⟩
        case measure => simp [intOf]; omega
    · go_wp2
      go_ret
      exact ⟨rfl, HBE.out⟩
end Go.Proofs.YtncdglfcegmmgaaDoor
