/- The laws' own helpers on lines: eqLineS, szLineS, toLineS. -/
import Derived.Test.YtncdglfcegmmgaaLnMem
import Derived.Deep.RegionHeld3
import Derived.Handy
import Derived.IntWalk
namespace Go.Proofs.Ytncdglfcegmmgaa
open Go.RowKit
set_option linter.unusedVariables false

theorem keep_cell {w W W' : World} {p : Addr} {v : Value} (hw : Below w.heap.size w W) (hb : Below W.heap.size W W') (h : W.cell? p = some v) (hp : p.block < w.heap.size) : W'.cell? p = some v :=
  (hb.cell (p := p) (Nat.lt_of_lt_of_le hp hw.size)).trans h
theorem keep4 {w W W' : World} {p1 p2 p3 p4 : Addr} {v1 v2 v3 v4 : Value} (hb : Below W.heap.size W W') (h : W.cell? p1 = some v1 ∧ W.cell? p2 = some v2 ∧ W.cell? p3 = some v3 ∧ W.cell? p4 = some v4 ∧ Below w.heap.size w W)
    (k1 : p1.block < w.heap.size) (k2 : p2.block < w.heap.size) (k3 : p3.block < w.heap.size) (k4 : p4.block < w.heap.size) : W'.cell? p1 = some v1 ∧ W'.cell? p2 = some v2 ∧ W'.cell? p3 = some v3 ∧ W'.cell? p4 = some v4 ∧ Below w.heap.size w W' :=
  ⟨keep_cell h.2.2.2.2 hb h.1 k1, keep_cell h.2.2.2.2 hb h.2.1 k2, keep_cell h.2.2.2.2 hb h.2.2.1 k3, keep_cell h.2.2.2.2 hb h.2.2.2.1 k4, h.2.2.2.2.trans (hb.mono h.2.2.2.2.size)⟩
theorem keep8 {w W W' : World} {p1 p2 p3 p4 p5 p6 p7 p8 : Addr} {v1 v2 v3 v4 v5 v6 v7 v8 : Value} (hb : Below W.heap.size W W') (h : W.cell? p1 = some v1 ∧ W.cell? p2 = some v2 ∧ W.cell? p3 = some v3 ∧ W.cell? p4 = some v4 ∧ W.cell? p5 = some v5 ∧ W.cell? p6 = some v6 ∧ W.cell? p7 = some v7 ∧ W.cell? p8 = some v8 ∧ Below w.heap.size w W)
    (k1 : p1.block < w.heap.size) (k5 : p5.block < w.heap.size) (e2 : p2.block = p1.block) (e3 : p3.block = p1.block) (e4 : p4.block = p1.block) (e6 : p6.block = p5.block) (e7 : p7.block = p5.block) (e8 : p8.block = p5.block) :
    W'.cell? p1 = some v1 ∧ W'.cell? p2 = some v2 ∧ W'.cell? p3 = some v3 ∧ W'.cell? p4 = some v4 ∧ W'.cell? p5 = some v5 ∧ W'.cell? p6 = some v6 ∧ W'.cell? p7 = some v7 ∧ W'.cell? p8 = some v8 ∧ Below w.heap.size w W' := by
  obtain ⟨h1, h2, h3, h4, h5, h6, h7, h8, h9⟩ := h
  exact ⟨keep_cell h9 hb h1 k1, keep_cell h9 hb h2 (e2 ▸ k1), keep_cell h9 hb h3 (e3 ▸ k1), keep_cell h9 hb h4 (e4 ▸ k1), keep_cell h9 hb h5 k5, keep_cell h9 hb h6 (e6 ▸ k5), keep_cell h9 hb h7 (e7 ▸ k5), keep_cell h9 hb h8 (e8 ▸ k5), h9.trans (hb.mono h9.size)⟩
theorem old4 {w W : World} {p1 p2 p3 p4 : Addr} {v1 v2 v3 v4 : Value} (h : W.cell? p1 = some v1 ∧ W.cell? p2 = some v2 ∧ W.cell? p3 = some v3 ∧ W.cell? p4 = some v4 ∧ Below w.heap.size w W) : Below w.heap.size w W := h.2.2.2.2
theorem old8 {w W : World} {p1 p2 p3 p4 p5 p6 p7 p8 : Addr} {v1 v2 v3 v4 v5 v6 v7 v8 : Value} (h : W.cell? p1 = some v1 ∧ W.cell? p2 = some v2 ∧ W.cell? p3 = some v3 ∧ W.cell? p4 = some v4 ∧ W.cell? p5 = some v5 ∧ W.cell? p6 = some v6 ∧ W.cell? p7 = some v7 ∧ W.cell? p8 = some v8 ∧ Below w.heap.size w W) : Below w.heap.size w W := h.2.2.2.2.2.2.2.2
set_option maxRecDepth 100000 in
set_option maxHeartbeats 400000 in
theorem eqCell_same (x : ByteArray) (n : Int) (w : World) :
    Calls Try.prog 34 #[.agg #[.string x, .int .i64 n], .agg #[.string x, .int .i64 n]] w fun e w' => e = .returned (.bool true) ∧ Below w.heap.size w w' := by
  have hq := str_ne_no (x := x) rfl
  go_enter Try.func34, Try.ntmps34
  go_wp2
  go_ret
  exact ⟨rfl, by go_grown⟩
set_option maxRecDepth 100000 in
set_option maxHeartbeats 1000000 in
theorem eqCellS_same (l : List Cel) (va vb : Value) (w : World) (ha : RdC w va l) (hb : RdC w vb l) (hm : l.length ≤ 9223372036854775807) :
    Calls Try.prog 33 #[va, vb] w fun e w' => e = .returned (.bool true) ∧ Below w.heap.size w w' := by
  obtain ⟨A, ca, rfl, hA⟩ := ha
  obtain ⟨B, cb, rfl, hB⟩ := hb
  have HA := Lib.hid hA
  have HB := Lib.hid hB
  obtain ⟨n, hn⟩ : ∃ n, n = l.length := ⟨_, rfl⟩
  rw [← hn] at HA HB hm ⊢
  have HN := Lib.hid hn
  clear hA hB hn
  have hne : ((n : Int) != (n : Int)) = false := by simp
  go_enter Try.func33, Try.ntmps33
  go_wp2
  clear hne
  go_loopw [5] (fun i wr => ∃ k : Nat, k ≤ n ∧ i = .int .i64 (k : Int) ∧ Hid (Below w.heap.size w wr)) (fun i _ => n - (intOf i).toNat)
  case atStart => exact ⟨0, Nat.zero_le _, rfl, Lib.hid (Below.refl _ _)⟩
  case round =>
    obtain ⟨k, hk, rfl, HBE⟩ := hrel
    by_cases hlt : k < n
    · obtain ⟨ga, oa, rfl, hga, hca⟩ := HA.out (by omega)
      obtain ⟨gb, ob, rfl, hgb, hcb⟩ := HB.out (by omega)
      have hkl : k < l.length := by rw [← HN.out]; exact hlt
      obtain ⟨a0, a1⟩ := (hca k _ (List.getElem?_eq_getElem hkl)).keep (fun p hp => HBE.out.cell hp) hga
      obtain ⟨b0, b1⟩ := (hcb k _ (List.getElem?_eq_getElem hkl)).keep (fun p hp => HBE.out.cell hp) hgb
      generalize l[k] = c at a0 a1 b0 b1
      obtain ⟨x, m⟩ := c
      simp only at a0 a1 b0 b1
      have HE := Lib.hid (fun W => eqCell_same x m W)
      clear hca hcb
      go_wp2_with fail
      go_region_held3 (fun W => W.cell? ⟨ga, oa + k * 2, none⟩ = some (.string x) ∧ W.cell? ⟨ga, oa + k * 2 + 1, none⟩ = some (.int .i64 m) ∧ W.cell? ⟨gb, ob + k * 2, none⟩ = some (.string x) ∧ W.cell? ⟨gb, ob + k * 2 + 1, none⟩ = some (.int .i64 m) ∧ Below w.heap.size w W)
        (first | exact ⟨a0, a1, b0, b1, HBE.out.drew⟩ | exact keep4 (by assumption) (by assumption) hga hga hgb hgb)
        (first | (go_at_call 34; refine (HE.out _).mono ?_; rintro e w1 ⟨rfl, hb1⟩))
      all_goals
        have HB9 := Lib.hid (old4 (w := w) (p1 := ⟨ga, oa + k * 2, none⟩) (by assumption))
        go_wp2
        go_roundw
        case rel => exact ⟨k + 1, by omega, by go_num, HB9⟩
        case measure => simp [intOf]; omega
    · go_wp2
      go_ret
      exact ⟨rfl, HBE.out⟩
set_option maxRecDepth 100000 in
set_option maxHeartbeats 1000000 in
theorem eqLine_same (l : List Cel) (va vb : Value) (x : ByteArray) (m f : Int) (w : World) (ha : RdC w va l) (hb : RdC w vb l) (hm : l.length ≤ 9223372036854775807) :
    Calls Try.prog 23 #[.agg #[va, .string x, .int .i64 m, .int .i64 f], .agg #[vb, .string x, .int .i64 m, .int .i64 f]] w fun e w' => e = .returned (.bool true) ∧ Below w.heap.size w w' := by
  have HC := Lib.hid (fun W h1 h2 => eqCellS_same l va vb W h1 h2 hm)
  have HE := Lib.hid (fun W => eqCell_same x m W)
  have HA := Lib.hid ha
  have HB := Lib.hid hb
  have B0 := Lib.hid (by go_grown : Below w.heap.size w ((w.alloc (.cells #[va, .string x, .int .i64 m, .int .i64 f] 48)).alloc (.cells #[vb, .string x, .int .i64 m, .int .i64 f] 48)))
  have H1 := Lib.hid ((Blk.new w 48 #[va, .string x, .int .i64 m, .int .i64 f]).after ((Below.refl _ _).alloc (Nat.le_refl _) (.cells #[vb, .string x, .int .i64 m, .int .i64 f] 48)))
  have H2 := Lib.hid (Blk.new (w.alloc (.cells #[va, .string x, .int .i64 m, .int .i64 f] 48)) 48 #[vb, .string x, .int .i64 m, .int .i64 f])
  rw [show (w.alloc (.cells #[va, .string x, .int .i64 m, .int .i64 f] 48)).heap.size = w.heap.size + 1 by simp] at H2
  obtain ⟨A, ca, rfl, _⟩ := ha
  obtain ⟨B, cb, rfl, _⟩ := hb
  go_enter Try.func23, Try.ntmps23
  go_wp2_with fail
  refine (HC.out _ (HA.out.below B0.out) (HB.out.below B0.out)).mono ?_
  rintro e w1 ⟨rfl, hb1⟩
  have B1 := Lib.hid (B0.out.trans (hb1.mono B0.out.size))
  have H3 := Lib.hid (H1.out.after hb1)
  have H4 := Lib.hid (H2.out.after hb1)
  clear hb1
  have a1 : w1.cell? ⟨w.heap.size, 1, none⟩ = some (.string x) := H3.out.cell 1
  have a2 : w1.cell? ⟨w.heap.size, 2, none⟩ = some (.int .i64 m) := H3.out.cell 2
  have b1 : w1.cell? ⟨w.heap.size + 1, 1, none⟩ = some (.string x) := H4.out.cell 1
  have b2 : w1.cell? ⟨w.heap.size + 1, 2, none⟩ = some (.int .i64 m) := H4.out.cell 2
  go_wp2_with fail
  clear a1 a2 b1 b2
  refine (HE.out _).mono ?_
  rintro e w2 ⟨rfl, hb2⟩
  have B2 := Lib.hid (B1.out.trans (hb2.mono B1.out.size))
  have a3 : w2.cell? ⟨w.heap.size, 3, none⟩ = some (.int .i64 f) := (H3.out.after hb2).cell 3
  have b3 : w2.cell? ⟨w.heap.size + 1, 3, none⟩ = some (.int .i64 f) := (H4.out.after hb2).cell 3
  clear hb2
  go_wp2_with fail
  go_ret
  exact ⟨rfl, B2.out⟩
set_option maxRecDepth 100000 in
set_option maxHeartbeats 2000000 in
theorem eqLineS_same (ls : List Ln) (va vb : Value) (w : World) (ha : RdL w va ls) (hb : RdL w vb ls) (hm : FitL ls) :
    Calls Try.prog 11 #[va, vb] w fun e w' => e = .returned (.bool true) ∧ Below w.heap.size w w' := by
  obtain ⟨A, ca, rfl, hA⟩ := ha
  obtain ⟨B, cb, rfl, hB⟩ := hb
  have HA := Lib.hid hA
  have HB := Lib.hid hB
  have hlen := hm.1
  have HM := Lib.hid (fun l (h : l ∈ ls) => (by have h1 := totL_mem ls l h; have h2 := hm.2; omega : l.cells.length ≤ 9223372036854775807))
  obtain ⟨n, hn⟩ : ∃ n, n = ls.length := ⟨_, rfl⟩
  rw [← hn] at HA HB hlen ⊢
  have HN := Lib.hid hn
  clear hA hB hn hm
  have hne : ((n : Int) != (n : Int)) = false := by simp
  go_enter Try.func11, Try.ntmps11
  go_wp2
  clear hne
  go_loopw [5] (fun i wr => ∃ k : Nat, k ≤ n ∧ i = .int .i64 (k : Int) ∧ Hid (Below w.heap.size w wr)) (fun i _ => n - (intOf i).toNat)
  case atStart => exact ⟨0, Nat.zero_le _, rfl, Lib.hid (Below.refl _ _)⟩
  case round =>
    obtain ⟨k, hk, rfl, HBE⟩ := hrel
    by_cases hlt : k < n
    · obtain ⟨ga, oa, rfl, hga, hca⟩ := HA.out (by omega)
      obtain ⟨gb, ob, rfl, hgb, hcb⟩ := HB.out (by omega)
      have hkl : k < ls.length := by rw [← HN.out]; exact hlt
      obtain ⟨⟨va, p0, hra⟩, p1, p2, p3⟩ := hca k _ (List.getElem?_eq_getElem hkl)
      obtain ⟨⟨vb, q0, hrb⟩, q1, q2, q3⟩ := hcb k _ (List.getElem?_eq_getElem hkl)
      have HML := Lib.hid (HM.out _ (List.getElem_mem hkl))
      have a0 := (HBE.out.cell (p := ⟨ga, oa + k * 4, none⟩) hga).trans p0
      have a1 := (HBE.out.cell (p := ⟨ga, oa + k * 4 + 1, none⟩) hga).trans p1
      have a2 := (HBE.out.cell (p := ⟨ga, oa + k * 4 + 2, none⟩) hga).trans p2
      have a3 := (HBE.out.cell (p := ⟨ga, oa + k * 4 + 3, none⟩) hga).trans p3
      have b0 := (HBE.out.cell (p := ⟨gb, ob + k * 4, none⟩) hgb).trans q0
      have b1 := (HBE.out.cell (p := ⟨gb, ob + k * 4 + 1, none⟩) hgb).trans q1
      have b2 := (HBE.out.cell (p := ⟨gb, ob + k * 4 + 2, none⟩) hgb).trans q2
      have b3 := (HBE.out.cell (p := ⟨gb, ob + k * 4 + 3, none⟩) hgb).trans q3
      generalize ls[k] = c at a1 a2 a3 b1 b2 b3 hra hrb HML
      obtain ⟨cl, ⟨x, m⟩, f⟩ := c
      simp only at a1 a2 a3 b1 b2 b3 hra hrb HML
      have HRA := Lib.hid hra
      have HRB := Lib.hid hrb
      have HE := Lib.hid (fun W (hW : Below w.heap.size w W) => eqLine_same cl va vb x m f W (HRA.out.below hW) (HRB.out.below hW) HML.out)
      clear hca hcb p0 p1 p2 p3 q0 q1 q2 q3 hra hrb
      go_wp2_with fail
      go_region_held3 (fun W => W.cell? ⟨ga, oa + k * 4, none⟩ = some va ∧ W.cell? ⟨ga, oa + k * 4 + 1, none⟩ = some (.string x) ∧ W.cell? ⟨ga, oa + k * 4 + 2, none⟩ = some (.int .i64 m) ∧ W.cell? ⟨ga, oa + k * 4 + 3, none⟩ = some (.int .i64 f) ∧ W.cell? ⟨gb, ob + k * 4, none⟩ = some vb ∧ W.cell? ⟨gb, ob + k * 4 + 1, none⟩ = some (.string x) ∧ W.cell? ⟨gb, ob + k * 4 + 2, none⟩ = some (.int .i64 m) ∧ W.cell? ⟨gb, ob + k * 4 + 3, none⟩ = some (.int .i64 f) ∧ Below w.heap.size w W)
        (first | exact ⟨a0, a1, a2, a3, b0, b1, b2, b3, HBE.out.drew⟩ | exact keep8 (by assumption) (by assumption) hga hgb rfl rfl rfl rfl rfl rfl)
        (first | (go_at_call 23; refine (HE.out _ (old8 (w := w) (p1 := ⟨ga, oa + k * 4, none⟩) (by assumption))).mono ?_; rintro e w1 ⟨rfl, hb1⟩))
      all_goals
        have HB9 := Lib.hid (old8 (w := w) (p1 := ⟨ga, oa + k * 4, none⟩) (by assumption))
        go_wp2
        go_roundw
        case rel => exact ⟨k + 1, by omega, by go_num, HB9⟩
        case measure => simp [intOf]; omega
    · go_wp2
      go_ret
      exact ⟨rfl, HBE.out⟩
/-- What is left behind n, or -1. -/
def szOne (l : Int) (n : Nat) : Int := if l - n < 0 then -1 else l - n
set_option maxRecDepth 100000 in
set_option maxHeartbeats 400000 in
theorem szCell_any (x : ByteArray) (m left : Int) (w : World) (h0 : 0 ≤ left) (h1 : left ≤ 1048576) (hx : x.size ≤ maxLen) :
    Calls Try.prog 27 #[.agg #[.string x, .int .i64 m], .int .i64 left] w fun e w' => e = .returned (.int .i64 (szOne left x.size)) ∧ Below w.heap.size w w' := by
  unfold maxLen at hx
  by_cases h : left - (x.size : Int) < 0
  · have e : szOne left x.size = -1 := if_pos h
    rw [e]
    clear e
    go_enter Try.func27, Try.ntmps27
    go_wp2
    go_ret
    exact ⟨rfl, by go_grown⟩
  · have e : szOne left x.size = left - x.size := if_neg h
    rw [e]
    clear e
    go_enter Try.func27, Try.ntmps27
    go_wp2
    go_ret
    exact ⟨rfl, by go_grown⟩
def SzIs (r left : Int) (n : Nat) : Prop := r = -1 ∨ (0 ≤ r ∧ r = left - n)
set_option maxRecDepth 100000 in
set_option maxHeartbeats 1000000 in
theorem szCellS_any (l : List Cel) (v : Value) (left : Int) (w : World) (hv : RdC w v l) (h0 : 0 ≤ left) (h1 : left ≤ 1048576) (hm : l.length ≤ maxLen) (hx : ∀ c ∈ l, c.txt.size ≤ maxLen) :
    Calls Try.prog 26 #[v, .int .i64 left] w fun e w' => (∃ r, e = .returned (.int .i64 r) ∧ SzIs r left (l.length + totC l)) ∧ Below w.heap.size w w' := by
  obtain ⟨A, ca, rfl, hA⟩ := hv
  unfold maxLen at hm
  have HA := Lib.hid hA
  have HX := Lib.hid hx
  have HT := Lib.hid (show totC (l.drop l.length) = 0 from by rw [List.drop_length]; rfl)
  have HTN := Lib.hid (show l.drop 0 = l from List.drop_zero)
  obtain ⟨n, hn⟩ : ∃ n, n = l.length := ⟨_, rfl⟩
  rw [← hn] at HA HT hm ⊢
  have HN := Lib.hid hn
  clear hA hn hx
  by_cases h : left - (n : Int) < 0
  · go_enter Try.func26, Try.ntmps26
    go_wp2
    go_ret
    exact ⟨⟨-1, rfl, .inl rfl⟩, Below.refl _ _⟩
  · go_enter Try.func26, Try.ntmps26
    go_wp2
    go_loopw [1, 5] (fun t i wr => ∃ (k : Nat) (r : Int), k ≤ n ∧ i = .int .i64 (k : Int) ∧ t = .int .i64 r ∧ 0 ≤ r ∧ r ≤ 1048576 ∧ Hid (r - totC (l.drop k) = left - n - totC l) ∧ Hid (Below w.heap.size w wr)) (fun _ i _ => n - (intOf i).toNat)
    case atStart => exact ⟨0, left - n, Nat.zero_le _, rfl, rfl, by omega, by omega, Lib.hid (by rw [HTN.out]), Lib.hid (Below.refl _ _)⟩
    case round =>
      obtain ⟨k, r, hk, rfl, rfl, hr0, hr1, HR, HBE⟩ := hrel
      by_cases hlt : k < n
      · obtain ⟨ga, oa, rfl, hga, hca⟩ := HA.out (by omega)
        have hkl : k < l.length := by rw [← HN.out]; exact hlt
        obtain ⟨a0, a1⟩ := (hca k _ (List.getElem?_eq_getElem hkl)).keep (fun p hp => HBE.out.cell hp) hga
        have hxs := HX.out _ (List.getElem_mem hkl)
        have hdr := totC_drop l k hkl
        generalize l[k] = c at a0 a1 hxs hdr
        obtain ⟨x, m⟩ := c
        simp only at a0 a1 hxs hdr
        have HE := Lib.hid (fun W => szCell_any x m r W hr0 hr1 hxs)
        have HDR := Lib.hid hdr
        clear hca hdr
        by_cases hneg : r - (x.size : Int) < 0
        · have e : szOne r x.size = -1 := if_pos hneg
          rw [e] at HE
          clear e
          go_wp2_with fail
          refine (HE.out _).mono ?_
          rintro e w1 ⟨rfl, hb1⟩
          have HB9 := Lib.hid (HBE.out.trans (hb1.mono HBE.out.size))
          clear hb1
          go_wp2_with fail
          go_ret
          exact ⟨⟨-1, rfl, .inl rfl⟩, HB9.out⟩
        · have e : szOne r x.size = r - x.size := if_neg hneg
          rw [e] at HE
          clear e
          have hr2 : 0 ≤ r - (x.size : Int) := by omega
          obtain ⟨r2, hr2e⟩ : ∃ r2, r2 = r - (x.size : Int) := ⟨_, rfl⟩
          rw [← hr2e] at HE hr2
          have HR2 := Lib.hid hr2e
          have hr3 : r2 ≤ 1048576 := by omega
          clear hr2e
          go_wp2_with fail
          refine (HE.out _).mono ?_
          rintro e w1 ⟨rfl, hb1⟩
          have HB9 := Lib.hid (HBE.out.trans (hb1.mono HBE.out.size))
          clear hb1
          go_wp2_with fail
          go_roundw
          case rel => exact ⟨k + 1, r2, by omega, by go_num, rfl, hr2, hr3, Lib.hid (by have h1 := HR.out; have h2 := HDR.out; have h3 := HR2.out; omega), HB9⟩
          case measure => simp [intOf]; omega
      · obtain rfl : k = n := by omega
        go_wp2
        go_ret
        exact ⟨⟨r, rfl, .inr ⟨hr0, by have h1 := HR.out; have h2 := HT.out; omega⟩⟩, HBE.out⟩
set_option maxRecDepth 100000 in
set_option maxHeartbeats 1000000 in
theorem szLine_any (l : List Cel) (va : Value) (x : ByteArray) (m f left : Int) (w : World) (ha : RdC w va l) (h0 : 0 ≤ left) (h1 : left ≤ 1048576) (hm : l.length ≤ maxLen) (hx : ∀ c ∈ l, c.txt.size ≤ maxLen) (hxs : x.size ≤ maxLen) :
    Calls Try.prog 16 #[.agg #[va, .string x, .int .i64 m, .int .i64 f], .int .i64 left] w fun e w' => (∃ r, e = .returned (.int .i64 r) ∧ SzIs r left (l.length + totC l + x.size)) ∧ Below w.heap.size w w' := by
  have HC := Lib.hid (fun W hr => szCellS_any l va left W hr h0 h1 hm hx)
  have HE := Lib.hid (fun r W h2 h3 => szCell_any x m r W h2 h3 hxs)
  have HA := Lib.hid ha
  have B0 := Lib.hid (by go_grown : Below w.heap.size w (w.alloc (.cells #[va, .string x, .int .i64 m, .int .i64 f] 42)))
  have H1 := Lib.hid (Blk.new w 42 #[va, .string x, .int .i64 m, .int .i64 f])
  obtain ⟨A, ca, rfl, _⟩ := ha
  clear hm hx
  go_enter Try.func16, Try.ntmps16
  go_wp2_with fail
  refine (HC.out _ (HA.out.below B0.out)).mono ?_
  rintro e w1 ⟨⟨r, rfl, hr⟩, hb1⟩
  have B1 := Lib.hid (B0.out.trans (hb1.mono B0.out.size))
  have H3 := Lib.hid (H1.out.after hb1)
  clear hb1
  rcases hr with rfl | ⟨hr0, hr1⟩
  · go_wp2_with fail
    go_ret
    exact ⟨⟨-1, rfl, .inl rfl⟩, B1.out⟩
  · have HR := Lib.hid hr1
    have hr2 : r ≤ 1048576 := by omega
    have a1 : w1.cell? ⟨w.heap.size, 1, none⟩ = some (.string x) := H3.out.cell 1
    have a2 : w1.cell? ⟨w.heap.size, 2, none⟩ = some (.int .i64 m) := H3.out.cell 2
    have HER := Lib.hid (fun W => HE.out r W hr0 hr2)
    clear hr1
    by_cases hneg : r - (x.size : Int) < 0
    · have e : szOne r x.size = -1 := if_pos hneg
      rw [e] at HER
      clear e
      go_wp2_with fail
      refine (HER.out _).mono ?_
      rintro e w2 ⟨rfl, hb2⟩
      have B2 := Lib.hid (B1.out.trans (hb2.mono B1.out.size))
      clear hb2
      go_wp2_with fail
      go_ret
      exact ⟨⟨-1, rfl, .inl rfl⟩, B2.out⟩
    · have e : szOne r x.size = r - x.size := if_neg hneg
      rw [e] at HER
      clear e
      have hr3 : 0 ≤ r - (x.size : Int) := by omega
      obtain ⟨r2, hr2e⟩ : ∃ r2, r2 = r - (x.size : Int) := ⟨_, rfl⟩
      rw [← hr2e] at HER hr3
      have HR2 := Lib.hid hr2e
      clear hr2e
      go_wp2_with fail
      refine (HER.out _).mono ?_
      rintro e w2 ⟨rfl, hb2⟩
      have B2 := Lib.hid (B1.out.trans (hb2.mono B1.out.size))
      clear hb2
      go_wp2_with fail
      go_ret
      exact ⟨⟨r2, rfl, .inr ⟨hr3, by have h1 := HR.out; have h2 := HR2.out; omega⟩⟩, B2.out⟩
/-- What came in fits: numbers of places, and texts. -/
def InL (ls : List Ln) : Prop := ls.length ≤ maxLen ∧ ∀ l ∈ ls, l.cells.length ≤ maxLen ∧ (∀ c ∈ l.cells, c.txt.size ≤ maxLen) ∧ l.tail.txt.size ≤ maxLen
set_option maxRecDepth 100000 in
set_option maxHeartbeats 2000000 in
theorem szLineS_any (ls : List Ln) (v : Value) (left : Int) (w : World) (hv : RdL w v ls) (h0 : 0 ≤ left) (h1 : left ≤ 1048576) (hm : InL ls) :
    Calls Try.prog 6 #[v, .int .i64 left] w fun e w' => (∃ r, e = .returned (.int .i64 r) ∧ SzIs r left (ls.length + totL ls)) ∧ Below w.heap.size w w' := by
  obtain ⟨A, ca, rfl, hA⟩ := hv
  have hlen := hm.1
  unfold maxLen at hlen
  have HA := Lib.hid hA
  have HX := Lib.hid hm.2
  have HT := Lib.hid (show totL (ls.drop ls.length) = 0 from by rw [List.drop_length]; rfl)
  have HTN := Lib.hid (show ls.drop 0 = ls from List.drop_zero)
  obtain ⟨n, hn⟩ : ∃ n, n = ls.length := ⟨_, rfl⟩
  rw [← hn] at HA HT hlen ⊢
  have HN := Lib.hid hn
  clear hA hn hm
  by_cases h : left - (n : Int) < 0
  · go_enter Try.func6, Try.ntmps6
    go_wp2
    go_ret
    exact ⟨⟨-1, rfl, .inl rfl⟩, Below.refl _ _⟩
  · go_enter Try.func6, Try.ntmps6
    go_wp2
    go_loopw [1, 5] (fun t i wr => ∃ (k : Nat) (r : Int), k ≤ n ∧ i = .int .i64 (k : Int) ∧ t = .int .i64 r ∧ 0 ≤ r ∧ r ≤ 1048576 ∧ Hid (r - totL (ls.drop k) = left - n - totL ls) ∧ Hid (Below w.heap.size w wr)) (fun _ i _ => n - (intOf i).toNat)
    case atStart => exact ⟨0, left - n, Nat.zero_le _, rfl, rfl, by omega, by omega, Lib.hid (by rw [HTN.out]), Lib.hid (Below.refl _ _)⟩
    case round =>
      obtain ⟨k, r, hk, rfl, rfl, hr0, hr1, HR, HBE⟩ := hrel
      by_cases hlt : k < n
      · obtain ⟨ga, oa, rfl, hga, hca⟩ := HA.out (by omega)
        have hkl : k < ls.length := by rw [← HN.out]; exact hlt
        obtain ⟨⟨va, p0, hra⟩, p1, p2, p3⟩ := hca k _ (List.getElem?_eq_getElem hkl)
        obtain ⟨hx1, hx2, hx3⟩ := HX.out _ (List.getElem_mem hkl)
        have hdr := totL_drop ls k hkl
        have a0 := (HBE.out.cell (p := ⟨ga, oa + k * 4, none⟩) hga).trans p0
        have a1 := (HBE.out.cell (p := ⟨ga, oa + k * 4 + 1, none⟩) hga).trans p1
        have a2 := (HBE.out.cell (p := ⟨ga, oa + k * 4 + 2, none⟩) hga).trans p2
        have a3 := (HBE.out.cell (p := ⟨ga, oa + k * 4 + 3, none⟩) hga).trans p3
        generalize ls[k] = c at a1 a2 a3 hra hx1 hx2 hx3 hdr
        obtain ⟨cl, ⟨x, m⟩, f⟩ := c
        simp only at a1 a2 a3 hra hx1 hx2 hx3 hdr
        have HE := Lib.hid (szLine_any cl va x m f r wr (hra.below HBE.out) hr0 hr1 hx1 hx2 hx3)
        have HDR := Lib.hid hdr
        clear hca hdr p0 p1 p2 p3 hra hx1 hx2 hx3
        go_wp2_with fail
        refine (HE.out).mono ?_
        rintro e w1 ⟨⟨r2, rfl, hr⟩, hb1⟩
        have HB9 := Lib.hid (HBE.out.trans (hb1.mono HBE.out.size))
        clear hb1
        rcases hr with rfl | ⟨hr2, hr3⟩
        · go_wp2_with fail
          go_ret
          exact ⟨⟨-1, rfl, .inl rfl⟩, HB9.out⟩
        · have HR2 := Lib.hid hr3
          have hr4 : r2 ≤ 1048576 := by omega
          clear hr3
          go_wp2_with fail
          go_roundw
          case rel => exact ⟨k + 1, r2, by omega, by go_num, rfl, hr2, hr4, Lib.hid (by have h1 := HR.out; have h2 := HDR.out; have h3 := HR2.out; omega), HB9⟩
          case measure => simp [intOf]; omega
      · obtain rfl : k = n := by omega
        go_wp2
        go_ret
        exact ⟨⟨r, rfl, .inr ⟨hr0, by have h1 := HR.out; have h2 := HT.out; omega⟩⟩, HBE.out⟩
end Go.Proofs.Ytncdglfcegmmgaa
