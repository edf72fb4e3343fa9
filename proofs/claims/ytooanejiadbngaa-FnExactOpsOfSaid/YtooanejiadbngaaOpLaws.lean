/- The laws' eqOpS, markOpS, heldOpS. -/
import Derived.Test.YtooanejiadbngaaOpMem
import Derived.Test.YtooanejiadbngaaMark
import Derived.Deep.RegionHeld3
namespace Go.Proofs.Ytooanejiadbngaa
open Go.RowKit
set_option linter.unusedVariables false
set_option linter.unusedSimpArgs false

theorem Blk.eleven {W : World} {g : Nat} {T : TypeId} {x0 x1 x2 x3 x4 : Int} {x5 x6 x7 x8 x9 : Bool} {x10 : ByteArray} (hb : Blk W g T #[.int .i64 x0, .int .i64 x1, .int .i64 x2, .int .i64 x3, .int .i64 x4, .bool x5, .bool x6, .bool x7, .bool x8, .bool x9, .string x10]) :
    W.cell? ⟨g, 0, none⟩ = some (.int .i64 x0) ∧ W.cell? ⟨g, 1, none⟩ = some (.int .i64 x1) ∧ W.cell? ⟨g, 2, none⟩ = some (.int .i64 x2) ∧ W.cell? ⟨g, 3, none⟩ = some (.int .i64 x3) ∧ W.cell? ⟨g, 4, none⟩ = some (.int .i64 x4) ∧ W.cell? ⟨g, 5, none⟩ = some (.bool x5) ∧ W.cell? ⟨g, 6, none⟩ = some (.bool x6) ∧ W.cell? ⟨g, 7, none⟩ = some (.bool x7) ∧ W.cell? ⟨g, 8, none⟩ = some (.bool x8) ∧ W.cell? ⟨g, 9, none⟩ = some (.bool x9) ∧ W.cell? ⟨g, 10, none⟩ = some (.string x10) :=
  ⟨hb.cell 0, hb.cell 1, hb.cell 2, hb.cell 3, hb.cell 4, hb.cell 5, hb.cell 6, hb.cell 7, hb.cell 8, hb.cell 9, hb.cell 10⟩
set_option maxRecDepth 100000 in
set_option maxHeartbeats 1000000 in
theorem eqOp_same (x0 x1 x2 x3 x4 : Int) (x5 x6 x7 x8 x9 : Bool) (x10 : ByteArray) (w : World) :
    Calls Try.prog 19 #[.agg #[.int .i64 x0, .int .i64 x1, .int .i64 x2, .int .i64 x3, .int .i64 x4, .bool x5, .bool x6, .bool x7, .bool x8, .bool x9, .string x10], .agg #[.int .i64 x0, .int .i64 x1, .int .i64 x2, .int .i64 x3, .int .i64 x4, .bool x5, .bool x6, .bool x7, .bool x8, .bool x9, .string x10]] w fun e w' => e = .returned (.bool true) ∧ Below w.heap.size w w' := by
  have HE := Lib.hid (fun W => eqConfig_same ⟨x1, x2, x3, x4, x5, x6, x7, x8, x9⟩ W)
  have HA := Lib.hid ((Blk.new w 51 #[.int .i64 x0, .int .i64 x1, .int .i64 x2, .int .i64 x3, .int .i64 x4, .bool x5, .bool x6, .bool x7, .bool x8, .bool x9, .string x10]).after ((Below.refl _ _).alloc (Nat.le_refl _) (.cells #[.int .i64 x0, .int .i64 x1, .int .i64 x2, .int .i64 x3, .int .i64 x4, .bool x5, .bool x6, .bool x7, .bool x8, .bool x9, .string x10] 51)))
  have hB := Blk.new (w.alloc (.cells #[.int .i64 x0, .int .i64 x1, .int .i64 x2, .int .i64 x3, .int .i64 x4, .bool x5, .bool x6, .bool x7, .bool x8, .bool x9, .string x10] 51)) 51 #[.int .i64 x0, .int .i64 x1, .int .i64 x2, .int .i64 x3, .int .i64 x4, .bool x5, .bool x6, .bool x7, .bool x8, .bool x9, .string x10]
  rw [show (w.alloc (.cells #[.int .i64 x0, .int .i64 x1, .int .i64 x2, .int .i64 x3, .int .i64 x4, .bool x5, .bool x6, .bool x7, .bool x8, .bool x9, .string x10] 51)).heap.size = w.heap.size + 1 by simp] at hB
  have HB := Lib.hid hB
  have B0 := Lib.hid (by go_grown : Below w.heap.size w ((w.alloc (.cells #[.int .i64 x0, .int .i64 x1, .int .i64 x2, .int .i64 x3, .int .i64 x4, .bool x5, .bool x6, .bool x7, .bool x8, .bool x9, .string x10] 51)).alloc (.cells #[.int .i64 x0, .int .i64 x1, .int .i64 x2, .int .i64 x3, .int .i64 x4, .bool x5, .bool x6, .bool x7, .bool x8, .bool x9, .string x10] 51)))
  have hx0 : (x0 != x0) = false := by simp
  unfold cfgV at HE
  simp only at HE
  clear hB
  go_enter Try.func19, Try.ntmps19
  go_wp2_with fail
  refine (HE.out _).mono ?_
  rintro e w1 ⟨rfl, hb1⟩
  have B1 := Lib.hid (B0.out.trans (hb1.mono B0.out.size))
  have a10 := (HA.out.after hb1).cell 10
  have b10 := (HB.out.after hb1).cell 10
  simp at a10 b10
  clear hb1
  go_wp2_with fail
  go_ret
  exact ⟨rfl, B1.out⟩
theorem keepOps {w W W' : World} {ga gb oa ob : Nat} {u0 u1 u2 u3 u4 u5 u6 u7 u8 u9 u10 v0 v1 v2 v3 v4 v5 v6 v7 v8 v9 v10 : Value} (hga : ga < w.heap.size) (hgb : gb < w.heap.size) (hb : Below W.heap.size W W')
    (h : W.cell? ⟨ga, oa, none⟩ = some u0 ∧ W.cell? ⟨ga, oa + 1, none⟩ = some u1 ∧ W.cell? ⟨ga, oa + 2, none⟩ = some u2 ∧ W.cell? ⟨ga, oa + 3, none⟩ = some u3 ∧ W.cell? ⟨ga, oa + 4, none⟩ = some u4 ∧ W.cell? ⟨ga, oa + 5, none⟩ = some u5 ∧ W.cell? ⟨ga, oa + 6, none⟩ = some u6 ∧ W.cell? ⟨ga, oa + 7, none⟩ = some u7 ∧ W.cell? ⟨ga, oa + 8, none⟩ = some u8 ∧ W.cell? ⟨ga, oa + 9, none⟩ = some u9 ∧ W.cell? ⟨ga, oa + 10, none⟩ = some u10 ∧ W.cell? ⟨gb, ob, none⟩ = some v0 ∧ W.cell? ⟨gb, ob + 1, none⟩ = some v1 ∧ W.cell? ⟨gb, ob + 2, none⟩ = some v2 ∧ W.cell? ⟨gb, ob + 3, none⟩ = some v3 ∧ W.cell? ⟨gb, ob + 4, none⟩ = some v4 ∧ W.cell? ⟨gb, ob + 5, none⟩ = some v5 ∧ W.cell? ⟨gb, ob + 6, none⟩ = some v6 ∧ W.cell? ⟨gb, ob + 7, none⟩ = some v7 ∧ W.cell? ⟨gb, ob + 8, none⟩ = some v8 ∧ W.cell? ⟨gb, ob + 9, none⟩ = some v9 ∧ W.cell? ⟨gb, ob + 10, none⟩ = some v10 ∧ Below w.heap.size w W) :
    W'.cell? ⟨ga, oa, none⟩ = some u0 ∧ W'.cell? ⟨ga, oa + 1, none⟩ = some u1 ∧ W'.cell? ⟨ga, oa + 2, none⟩ = some u2 ∧ W'.cell? ⟨ga, oa + 3, none⟩ = some u3 ∧ W'.cell? ⟨ga, oa + 4, none⟩ = some u4 ∧ W'.cell? ⟨ga, oa + 5, none⟩ = some u5 ∧ W'.cell? ⟨ga, oa + 6, none⟩ = some u6 ∧ W'.cell? ⟨ga, oa + 7, none⟩ = some u7 ∧ W'.cell? ⟨ga, oa + 8, none⟩ = some u8 ∧ W'.cell? ⟨ga, oa + 9, none⟩ = some u9 ∧ W'.cell? ⟨ga, oa + 10, none⟩ = some u10 ∧ W'.cell? ⟨gb, ob, none⟩ = some v0 ∧ W'.cell? ⟨gb, ob + 1, none⟩ = some v1 ∧ W'.cell? ⟨gb, ob + 2, none⟩ = some v2 ∧ W'.cell? ⟨gb, ob + 3, none⟩ = some v3 ∧ W'.cell? ⟨gb, ob + 4, none⟩ = some v4 ∧ W'.cell? ⟨gb, ob + 5, none⟩ = some v5 ∧ W'.cell? ⟨gb, ob + 6, none⟩ = some v6 ∧ W'.cell? ⟨gb, ob + 7, none⟩ = some v7 ∧ W'.cell? ⟨gb, ob + 8, none⟩ = some v8 ∧ W'.cell? ⟨gb, ob + 9, none⟩ = some v9 ∧ W'.cell? ⟨gb, ob + 10, none⟩ = some v10 ∧ Below w.heap.size w W' := by
  obtain ⟨h0, h1, h2, h3, h4, h5, h6, h7, h8, h9, h10, h11, h12, h13, h14, h15, h16, h17, h18, h19, h20, h21, hx⟩ := h
  have hs := hx.size
  have k : ∀ b j v, b < w.heap.size → W.cell? ⟨b, j, none⟩ = some v → W'.cell? ⟨b, j, none⟩ = some v := fun b j v hlt hv => (hb.cell (p := ⟨b, j, none⟩) (by show b < _; omega)).trans hv
  exact ⟨k _ _ _ hga h0, k _ _ _ hga h1, k _ _ _ hga h2, k _ _ _ hga h3, k _ _ _ hga h4, k _ _ _ hga h5, k _ _ _ hga h6, k _ _ _ hga h7, k _ _ _ hga h8, k _ _ _ hga h9, k _ _ _ hga h10, k _ _ _ hgb h11, k _ _ _ hgb h12, k _ _ _ hgb h13, k _ _ _ hgb h14, k _ _ _ hgb h15, k _ _ _ hgb h16, k _ _ _ hgb h17, k _ _ _ hgb h18, k _ _ _ hgb h19, k _ _ _ hgb h20, k _ _ _ hgb h21, hx.trans (hb.mono hs)⟩
theorem lastOps {w W : World} {ga gb oa ob : Nat} {u0 u1 u2 u3 u4 u5 u6 u7 u8 u9 u10 v0 v1 v2 v3 v4 v5 v6 v7 v8 v9 v10 : Value} (h : W.cell? ⟨ga, oa, none⟩ = some u0 ∧ W.cell? ⟨ga, oa + 1, none⟩ = some u1 ∧ W.cell? ⟨ga, oa + 2, none⟩ = some u2 ∧ W.cell? ⟨ga, oa + 3, none⟩ = some u3 ∧ W.cell? ⟨ga, oa + 4, none⟩ = some u4 ∧ W.cell? ⟨ga, oa + 5, none⟩ = some u5 ∧ W.cell? ⟨ga, oa + 6, none⟩ = some u6 ∧ W.cell? ⟨ga, oa + 7, none⟩ = some u7 ∧ W.cell? ⟨ga, oa + 8, none⟩ = some u8 ∧ W.cell? ⟨ga, oa + 9, none⟩ = some u9 ∧ W.cell? ⟨ga, oa + 10, none⟩ = some u10 ∧ W.cell? ⟨gb, ob, none⟩ = some v0 ∧ W.cell? ⟨gb, ob + 1, none⟩ = some v1 ∧ W.cell? ⟨gb, ob + 2, none⟩ = some v2 ∧ W.cell? ⟨gb, ob + 3, none⟩ = some v3 ∧ W.cell? ⟨gb, ob + 4, none⟩ = some v4 ∧ W.cell? ⟨gb, ob + 5, none⟩ = some v5 ∧ W.cell? ⟨gb, ob + 6, none⟩ = some v6 ∧ W.cell? ⟨gb, ob + 7, none⟩ = some v7 ∧ W.cell? ⟨gb, ob + 8, none⟩ = some v8 ∧ W.cell? ⟨gb, ob + 9, none⟩ = some v9 ∧ W.cell? ⟨gb, ob + 10, none⟩ = some v10 ∧ Below w.heap.size w W) : Below w.heap.size w W := by
  obtain ⟨_, _, _, _, _, _, _, _, _, _, _, _, _, _, _, _, _, _, _, _, _, _, hx⟩ := h
  exact hx
set_option maxRecDepth 100000 in
set_option maxHeartbeats 4000000 in
theorem eqOpS_same (ls : List Opn) (va vb : Value) (w : World) (ha : RdO w va ls) (hb : RdO w vb ls) (hm : ls.length ≤ 100000000) :
    Calls Try.prog 10 #[va, vb] w fun e w' => e = .returned (.bool true) ∧ Below w.heap.size w w' := by
  obtain ⟨A, ca, rfl, hA⟩ := ha
  obtain ⟨B, cb, rfl, hB⟩ := hb
  have HA := Lib.hid hA
  have HB := Lib.hid hB
  have HE := Lib.hid (fun x0 x1 x2 x3 x4 x5 x6 x7 x8 x9 x10 W => eqOp_same x0 x1 x2 x3 x4 x5 x6 x7 x8 x9 x10 W)
  obtain ⟨n, hn⟩ : ∃ n, n = ls.length := ⟨_, rfl⟩
  rw [← hn] at HA HB hm ⊢
  have HN := Lib.hid hn
  clear hA hB hn
  have hne : ((n : Int) != (n : Int)) = false := by simp
  go_enter Try.func10, Try.ntmps10
  go_wp2
  clear hne
  go_loopw [5] (fun i wr => ∃ k : Nat, k ≤ n ∧ i = .int .i64 (k : Int) ∧ Hid (Below w.heap.size w wr)) (fun i _ => n - (intOf i).toNat)
  case atStart => exact ⟨0, Nat.zero_le _, rfl, Lib.hid (Below.refl _ _)⟩
  case round =>
    obtain ⟨k, hk, rfl, HBE⟩ := hrel
    by_cases hlt : k < n
    · obtain ⟨ga, oa, rfl, hga, hca⟩ := HA.out (by omega)
      obtain ⟨gb, ob, rfl, hgb, hcb⟩ := HB.out (by omega)
      have hkl : k < ls.length := by rw [← HN.out]; exact hlt
      obtain ⟨p0, p1, p2, p3, p4, p5, p6, p7, p8, p9, p10⟩ := ((hca k _ (List.getElem?_eq_getElem hkl)).keep (fun p hp => HBE.out.cell hp) hga).cells
      obtain ⟨q0, q1, q2, q3, q4, q5, q6, q7, q8, q9, q10⟩ := ((hcb k _ (List.getElem?_eq_getElem hkl)).keep (fun p hp => HBE.out.cell hp) hgb).cells
      generalize ls[k] = c at p0 p1 p2 p3 p4 p5 p6 p7 p8 p9 p10 q0 q1 q2 q3 q4 q5 q6 q7 q8 q9 q10
      obtain ⟨x0, ⟨x1, x2, x3, x4, x5, x6, x7, x8, x9⟩, x10⟩ := c
      simp only at p0 p1 p2 p3 p4 p5 p6 p7 p8 p9 p10 q0 q1 q2 q3 q4 q5 q6 q7 q8 q9 q10
      clear hca hcb
      go_wp2_with fail
      go_region_held3 (fun W => W.cell? ⟨ga, oa + k * 11, none⟩ = some (.int .i64 x0) ∧ W.cell? ⟨ga, oa + k * 11 + 1, none⟩ = some (.int .i64 x1) ∧ W.cell? ⟨ga, oa + k * 11 + 2, none⟩ = some (.int .i64 x2) ∧ W.cell? ⟨ga, oa + k * 11 + 3, none⟩ = some (.int .i64 x3) ∧ W.cell? ⟨ga, oa + k * 11 + 4, none⟩ = some (.int .i64 x4) ∧ W.cell? ⟨ga, oa + k * 11 + 5, none⟩ = some (.bool x5) ∧ W.cell? ⟨ga, oa + k * 11 + 6, none⟩ = some (.bool x6) ∧ W.cell? ⟨ga, oa + k * 11 + 7, none⟩ = some (.bool x7) ∧ W.cell? ⟨ga, oa + k * 11 + 8, none⟩ = some (.bool x8) ∧ W.cell? ⟨ga, oa + k * 11 + 9, none⟩ = some (.bool x9) ∧ W.cell? ⟨ga, oa + k * 11 + 10, none⟩ = some (.string x10) ∧ W.cell? ⟨gb, ob + k * 11, none⟩ = some (.int .i64 x0) ∧ W.cell? ⟨gb, ob + k * 11 + 1, none⟩ = some (.int .i64 x1) ∧ W.cell? ⟨gb, ob + k * 11 + 2, none⟩ = some (.int .i64 x2) ∧ W.cell? ⟨gb, ob + k * 11 + 3, none⟩ = some (.int .i64 x3) ∧ W.cell? ⟨gb, ob + k * 11 + 4, none⟩ = some (.int .i64 x4) ∧ W.cell? ⟨gb, ob + k * 11 + 5, none⟩ = some (.bool x5) ∧ W.cell? ⟨gb, ob + k * 11 + 6, none⟩ = some (.bool x6) ∧ W.cell? ⟨gb, ob + k * 11 + 7, none⟩ = some (.bool x7) ∧ W.cell? ⟨gb, ob + k * 11 + 8, none⟩ = some (.bool x8) ∧ W.cell? ⟨gb, ob + k * 11 + 9, none⟩ = some (.bool x9) ∧ W.cell? ⟨gb, ob + k * 11 + 10, none⟩ = some (.string x10) ∧ Below w.heap.size w W)
        (first | exact ⟨p0, p1, p2, p3, p4, p5, p6, p7, p8, p9, p10, q0, q1, q2, q3, q4, q5, q6, q7, q8, q9, q10, HBE.out.drew⟩ | exact keepOps hga hgb (by assumption) (by assumption))
        (first | (go_at_call 19; refine (HE.out _ _ _ _ _ _ _ _ _ _ _ _).mono ?_; rintro e w1 ⟨rfl, hb1⟩))
      all_goals
        have HB9 := Lib.hid (lastOps (w := w) (W := w1) (by assumption))
        go_wp2_with fail
        go_roundw
        case rel => exact ⟨k + 1, by omega, by go_num, HB9⟩
        case measure => simp [intOf]; omega
    · go_wp2
      go_ret
      exact ⟨rfl, HBE.out⟩
/-! ### marks -/
def thirdB (k : Nat) : Bool := decide (k % 3 = 0)
def mkOp (k : Nat) : Opn := ⟨((k : Nat) : Int), ⟨((k + 1 : Nat) : Int), ((k + 2 : Nat) : Int), ((k + 3 : Nat) : Int), ((k + 4 : Nat) : Int), thirdB (k + 5), thirdB (k + 6), thirdB (k + 7), thirdB (k + 8), thirdB (k + 9)⟩, markB (k + 10)⟩
def mkOs (k n : Nat) : List Opn := (List.range n).map fun j => mkOp (k + 11 * j)
theorem mkOs_length (k n : Nat) : (mkOs k n).length = n := by simp [mkOs]
theorem mkOs_get (k n j : Nat) (h : j < n) : (mkOs k n)[j]? = some (mkOp (k + 11 * j)) := by simp [mkOs, h]
theorem mkOs_succ (k n : Nat) : mkOs k (n + 1) = mkOs k n ++ [mkOp (k + 11 * n)] := by simp [mkOs, List.range_succ]
def mixO (k j : Nat) (l : List Opn) : List Opn := mkOs k j ++ l.drop j
theorem mixO_zero (k : Nat) (l : List Opn) : mixO k 0 l = l := by simp [mixO, mkOs]
theorem mixO_all (k : Nat) (l : List Opn) : mixO k l.length l = mkOs k l.length := by simp [mixO]
theorem mixO_length (k j : Nat) (l : List Opn) (h : j ≤ l.length) : (mixO k j l).length = l.length := by
  unfold mixO; rw [List.length_append, mkOs_length, List.length_drop]; omega
theorem mixO_step (k j : Nat) (l : List Opn) (h : j < l.length) :
    ((((((((((((opnVals (mixO k j l)).set (j * 11) (.int .i64 ((k + 11 * j : Nat) : Int))).set (j * 11 + 1) (.int .i64 ((k + 11 * j + 1 : Nat) : Int))).set (j * 11 + 2) (.int .i64 ((k + 11 * j + 2 : Nat) : Int))).set (j * 11 + 3) (.int .i64 ((k + 11 * j + 3 : Nat) : Int))).set (j * 11 + 4) (.int .i64 ((k + 11 * j + 4 : Nat) : Int))).set (j * 11 + 5) (.bool (thirdB (k + 11 * j + 5)))).set (j * 11 + 6) (.bool (thirdB (k + 11 * j + 6)))).set (j * 11 + 7) (.bool (thirdB (k + 11 * j + 7)))).set (j * 11 + 8) (.bool (thirdB (k + 11 * j + 8)))).set (j * 11 + 9) (.bool (thirdB (k + 11 * j + 9)))).set (j * 11 + 10) (.string (markB (k + 11 * j + 10)))) = opnVals (mixO k (j + 1) l) := by
  have hl : (opnVals (mkOs k j)).length = j * 11 := by rw [opnVals_len, mkOs_length]
  have hap : ∀ a b : List Opn, opnVals (a ++ b) = opnVals a ++ opnVals b := fun a b => by simp [opnVals]
  have hco : ∀ (x : Opn) (r : List Opn), opnVals (x :: r) = (opnV x).toList ++ opnVals r := fun x r => by simp [opnVals]
  unfold mixO
  rw [List.drop_eq_getElem_cons h, hap, hco, mkOs_succ, List.append_assoc, hap (mkOs k j)]
  rw [List.set_append_right _ _ (by omega), hl, Nat.sub_self, List.set_append_right _ _ (by omega), hl, show j * 11 + 1 - j * 11 = 1 by omega, List.set_append_right _ _ (by omega), hl, show j * 11 + 2 - j * 11 = 2 by omega, List.set_append_right _ _ (by omega), hl, show j * 11 + 3 - j * 11 = 3 by omega, List.set_append_right _ _ (by omega), hl, show j * 11 + 4 - j * 11 = 4 by omega, List.set_append_right _ _ (by omega), hl, show j * 11 + 5 - j * 11 = 5 by omega, List.set_append_right _ _ (by omega), hl, show j * 11 + 6 - j * 11 = 6 by omega, List.set_append_right _ _ (by omega), hl, show j * 11 + 7 - j * 11 = 7 by omega, List.set_append_right _ _ (by omega), hl, show j * 11 + 8 - j * 11 = 8 by omega, List.set_append_right _ _ (by omega), hl, show j * 11 + 9 - j * 11 = 9 by omega, List.set_append_right _ _ (by omega), hl, show j * 11 + 10 - j * 11 = 10 by omega]
  rfl
theorem thirdE (q : Nat) : (((q : Nat) : Int) % 3 == 0) = thirdB q := by
  unfold thirdB
  by_cases h : q % 3 = 0
  · rw [decide_eq_true h, beq_iff_eq]; omega
  · rw [decide_eq_false h, beq_eq_false_iff_ne]; omega
set_option maxRecDepth 100000 in
set_option maxHeartbeats 4000000 in
theorem markOpS_any (base k : Nat) (v : Value) (l : List Opn) (w : World) (hown : OwnO w base v l) (h0 : 0 < k) (hk : k + 11 * l.length ≤ 900000000) :
    Calls Try.prog 13 #[v, .int .i64 (k : Int)] w fun e w' => e = .returned (.int .i64 ((k + 11 * l.length : Nat) : Int)) ∧ OwnO w' base v (mkOs k l.length) ∧ w.grownBy w' v.ownBlock := by
  have ho : w.ownsRow base 51 11 v l.length (opnVals l) := hown
  rcases ho.2 with ⟨rfl, hn⟩ | ⟨g, cap, cur, rfl, hb, hh, hn, hc, hs, ht⟩
  · have he : l = [] := List.length_eq_zero_iff.1 hn
    subst he
    have HO := Lib.hid hown
    clear hown ho hn
    go_enter Try.func13, Try.ntmps13
    go_wp2
    refine wp_loop_rounds 1 ?_
    rw [rounds_succ]
    go_wp2
    go_ret
    exact ⟨rfl, HO.out, World.grownBy.refl _ _⟩
  · have HOW := Lib.hid hown
    obtain ⟨n, hnl⟩ : ∃ n, n = l.length := ⟨_, rfl⟩
    rw [← hnl] at hk hn ⊢
    have HN := Lib.hid hnl
    have hmx : cap ≤ 9223372036854775807 := hc
    clear hh hs ht hown ho hnl hc
    go_enter Try.func13, Try.ntmps13
    go_wp2
    go_loopw [1, 5] (fun m i wr => ∃ j : Nat, j ≤ n ∧ i = .int .i64 (j : Int) ∧ m = .int .i64 ((k + 11 * j : Nat) : Int) ∧ Hid (wr.ownsRow base 51 11 (.slice (some ⟨g, 0, none⟩) n cap) n (opnVals (mixO k j l))) ∧ Hid (w.grownBy wr (some g))) (fun _ i _ => n - (intOf i).toNat)
    case atStart => exact ⟨0, Nat.zero_le _, rfl, rfl, Lib.hid (by rw [mixO_zero]; have := HOW.out; unfold OwnO at this; rw [← HN.out] at this; exact this), Lib.hid (World.grownBy.refl _ _)⟩
    case round =>
      obtain ⟨j, hj, rfl, rfl, HO, HG⟩ := hrel
      by_cases hlt : j < n
      · obtain ⟨q, hq⟩ : ∃ q, q = k + 11 * j := ⟨_, rfl⟩
        have hq1 : q ≤ 900000000 := by omega
        have hq0 : 0 < q := by omega
        have HST := Lib.hid (mixO_step k j l (by rw [← HN.out]; exact hlt))
        rw [← hq] at HST ⊢
        have HQ := Lib.hid hq
        have HMT := Lib.hid (fun W => markText_any (q + 10) W (by omega) (by omega))
        have hl1 : (opnVals (mixO k j l)).length = n * 11 := by rw [opnVals_len, mixO_length k j l (by rw [← HN.out]; omega), ← HN.out]
        obtain ⟨u0, c0⟩ : ∃ u, wr.cell? ⟨g, j * 11, none⟩ = some u := ⟨_, (HO.out.cellAt (j * 11) (by omega)).trans (List.getElem?_eq_getElem (by omega))⟩
        obtain ⟨u1, c1⟩ : ∃ u, wr.cell? ⟨g, j * 11 + 1, none⟩ = some u := ⟨_, (HO.out.cellAt (j * 11 + 1) (by omega)).trans (List.getElem?_eq_getElem (by omega))⟩
        obtain ⟨u2, c2⟩ : ∃ u, wr.cell? ⟨g, j * 11 + 2, none⟩ = some u := ⟨_, (HO.out.cellAt (j * 11 + 2) (by omega)).trans (List.getElem?_eq_getElem (by omega))⟩
        obtain ⟨u3, c3⟩ : ∃ u, wr.cell? ⟨g, j * 11 + 3, none⟩ = some u := ⟨_, (HO.out.cellAt (j * 11 + 3) (by omega)).trans (List.getElem?_eq_getElem (by omega))⟩
        obtain ⟨u4, c4⟩ : ∃ u, wr.cell? ⟨g, j * 11 + 4, none⟩ = some u := ⟨_, (HO.out.cellAt (j * 11 + 4) (by omega)).trans (List.getElem?_eq_getElem (by omega))⟩
        obtain ⟨u5, c5⟩ : ∃ u, wr.cell? ⟨g, j * 11 + 5, none⟩ = some u := ⟨_, (HO.out.cellAt (j * 11 + 5) (by omega)).trans (List.getElem?_eq_getElem (by omega))⟩
        obtain ⟨u6, c6⟩ : ∃ u, wr.cell? ⟨g, j * 11 + 6, none⟩ = some u := ⟨_, (HO.out.cellAt (j * 11 + 6) (by omega)).trans (List.getElem?_eq_getElem (by omega))⟩
        obtain ⟨u7, c7⟩ : ∃ u, wr.cell? ⟨g, j * 11 + 7, none⟩ = some u := ⟨_, (HO.out.cellAt (j * 11 + 7) (by omega)).trans (List.getElem?_eq_getElem (by omega))⟩
        obtain ⟨u8, c8⟩ : ∃ u, wr.cell? ⟨g, j * 11 + 8, none⟩ = some u := ⟨_, (HO.out.cellAt (j * 11 + 8) (by omega)).trans (List.getElem?_eq_getElem (by omega))⟩
        obtain ⟨u9, c9⟩ : ∃ u, wr.cell? ⟨g, j * 11 + 9, none⟩ = some u := ⟨_, (HO.out.cellAt (j * 11 + 9) (by omega)).trans (List.getElem?_eq_getElem (by omega))⟩
        have f0 : wr.frozen? ⟨g, j * 11, none⟩ = false := HO.out.frozenAt _
        have f1 : wr.frozen? ⟨g, j * 11 + 1, none⟩ = false := HO.out.frozenAt _
        have f2 : wr.frozen? ⟨g, j * 11 + 2, none⟩ = false := HO.out.frozenAt _
        have f3 : wr.frozen? ⟨g, j * 11 + 3, none⟩ = false := HO.out.frozenAt _
        have f4 : wr.frozen? ⟨g, j * 11 + 4, none⟩ = false := HO.out.frozenAt _
        have f5 : wr.frozen? ⟨g, j * 11 + 5, none⟩ = false := HO.out.frozenAt _
        have f6 : wr.frozen? ⟨g, j * 11 + 6, none⟩ = false := HO.out.frozenAt _
        have f7 : wr.frozen? ⟨g, j * 11 + 7, none⟩ = false := HO.out.frozenAt _
        have f8 : wr.frozen? ⟨g, j * 11 + 8, none⟩ = false := HO.out.frozenAt _
        have f9 : wr.frozen? ⟨g, j * 11 + 9, none⟩ = false := HO.out.frozenAt _
        have HS0 := Lib.hid (HO.out.stored (j * 11) (.int .i64 (((q : Nat) : Int))))
        have HS1 := Lib.hid (HS0.out.1.stored (j * 11 + 1) (.int .i64 (((q : Nat) : Int) + 1)))
        have HS2 := Lib.hid (HS1.out.1.stored (j * 11 + 1 + 1) (.int .i64 (((q : Nat) : Int) + 1 + 1)))
        have HS3 := Lib.hid (HS2.out.1.stored (j * 11 + 1 + 2) (.int .i64 (((q : Nat) : Int) + 1 + 1 + 1)))
        have HS4 := Lib.hid (HS3.out.1.stored (j * 11 + 1 + 3) (.int .i64 (((q : Nat) : Int) + 1 + 1 + 1 + 1)))
        have HS5 := Lib.hid (HS4.out.1.stored (j * 11 + 1 + 4) (.bool ((((q : Nat) : Int) + 1 + 1 + 1 + 1 + 1) % 3 == 0)))
        have HS6 := Lib.hid (HS5.out.1.stored (j * 11 + 1 + 5) (.bool ((((q : Nat) : Int) + 1 + 1 + 1 + 1 + 1 + 1) % 3 == 0)))
        have HS7 := Lib.hid (HS6.out.1.stored (j * 11 + 1 + 6) (.bool ((((q : Nat) : Int) + 1 + 1 + 1 + 1 + 1 + 1 + 1) % 3 == 0)))
        have HS8 := Lib.hid (HS7.out.1.stored (j * 11 + 1 + 7) (.bool ((((q : Nat) : Int) + 1 + 1 + 1 + 1 + 1 + 1 + 1 + 1) % 3 == 0)))
        have HS9 := Lib.hid (HS8.out.1.stored (j * 11 + 1 + 8) (.bool ((((q : Nat) : Int) + 1 + 1 + 1 + 1 + 1 + 1 + 1 + 1 + 1) % 3 == 0)))
        have HG1 := Lib.hid (only_trans (only_trans (only_trans (only_trans (only_trans (only_trans (only_trans (only_trans (only_trans (only_trans HG.out HS0.out.2) HS1.out.2) HS2.out.2) HS3.out.2) HS4.out.2) HS5.out.2) HS6.out.2) HS7.out.2) HS8.out.2) HS9.out.2)
        have HST2 : Hid ((((((((((((opnVals (mixO k j l)).set (j * 11) (.int .i64 (((q : Nat) : Int)))).set (j * 11 + 1) (.int .i64 (((q : Nat) : Int) + 1))).set (j * 11 + 1 + 1) (.int .i64 (((q : Nat) : Int) + 1 + 1))).set (j * 11 + 1 + 2) (.int .i64 (((q : Nat) : Int) + 1 + 1 + 1))).set (j * 11 + 1 + 3) (.int .i64 (((q : Nat) : Int) + 1 + 1 + 1 + 1))).set (j * 11 + 1 + 4) (.bool ((((q : Nat) : Int) + 1 + 1 + 1 + 1 + 1) % 3 == 0))).set (j * 11 + 1 + 5) (.bool ((((q : Nat) : Int) + 1 + 1 + 1 + 1 + 1 + 1) % 3 == 0))).set (j * 11 + 1 + 6) (.bool ((((q : Nat) : Int) + 1 + 1 + 1 + 1 + 1 + 1 + 1) % 3 == 0))).set (j * 11 + 1 + 7) (.bool ((((q : Nat) : Int) + 1 + 1 + 1 + 1 + 1 + 1 + 1 + 1) % 3 == 0))).set (j * 11 + 1 + 8) (.bool ((((q : Nat) : Int) + 1 + 1 + 1 + 1 + 1 + 1 + 1 + 1 + 1) % 3 == 0))).set (j * 11 + 10) (.string (markB (q + 10))) = opnVals (mixO k (j + 1) l)) := Lib.hid (by
          rw [← HST.out]
          have e1 : (((q : Nat) : Int) + 1 : Int) = ((q + 1 : Nat) : Int) := by omega
          have e2 : (((q : Nat) : Int) + 1 + 1 : Int) = ((q + 2 : Nat) : Int) := by omega
          have e3 : (((q : Nat) : Int) + 1 + 1 + 1 : Int) = ((q + 3 : Nat) : Int) := by omega
          have e4 : (((q : Nat) : Int) + 1 + 1 + 1 + 1 : Int) = ((q + 4 : Nat) : Int) := by omega
          have e5 : (((q : Nat) : Int) + 1 + 1 + 1 + 1 + 1 : Int) = ((q + 5 : Nat) : Int) := by omega
          have e6 : (((q : Nat) : Int) + 1 + 1 + 1 + 1 + 1 + 1 : Int) = ((q + 6 : Nat) : Int) := by omega
          have e7 : (((q : Nat) : Int) + 1 + 1 + 1 + 1 + 1 + 1 + 1 : Int) = ((q + 7 : Nat) : Int) := by omega
          have e8 : (((q : Nat) : Int) + 1 + 1 + 1 + 1 + 1 + 1 + 1 + 1 : Int) = ((q + 8 : Nat) : Int) := by omega
          have e9 : (((q : Nat) : Int) + 1 + 1 + 1 + 1 + 1 + 1 + 1 + 1 + 1 : Int) = ((q + 9 : Nat) : Int) := by omega
          have b5 : ((((q : Nat) : Int) + 1 + 1 + 1 + 1 + 1 : Int) % 3 == 0) = thirdB (q + 5) := by rw [e5]; exact thirdE _
          have b6 : ((((q : Nat) : Int) + 1 + 1 + 1 + 1 + 1 + 1 : Int) % 3 == 0) = thirdB (q + 6) := by rw [e6]; exact thirdE _
          have b7 : ((((q : Nat) : Int) + 1 + 1 + 1 + 1 + 1 + 1 + 1 : Int) % 3 == 0) = thirdB (q + 7) := by rw [e7]; exact thirdE _
          have b8 : ((((q : Nat) : Int) + 1 + 1 + 1 + 1 + 1 + 1 + 1 + 1 : Int) % 3 == 0) = thirdB (q + 8) := by rw [e8]; exact thirdE _
          have b9 : ((((q : Nat) : Int) + 1 + 1 + 1 + 1 + 1 + 1 + 1 + 1 + 1 : Int) % 3 == 0) = thirdB (q + 9) := by rw [e9]; exact thirdE _
          rw [b9, b8, b7, b6, b5, e4, e3, e2, e1])
        have HOX := Lib.hid HS9.out.1
        clear hq hl1
        go_wp2_with fail
        refine (markText_int (((q : Nat) : Int) + 1 + 1 + 1 + 1 + 1 + 1 + 1 + 1 + 1 + 1) _ (by omega) (by omega)).mono ?_
        rintro e w1 ⟨rfl, hb1⟩
        rw [show (((q : Nat) : Int) + 1 + 1 + 1 + 1 + 1 + 1 + 1 + 1 + 1 + 1).toNat = q + 10 by omega]
        have HO1 := Lib.hid (own_below HOX.out hb1)
        obtain ⟨u10, c10⟩ : ∃ u, w1.cell? ⟨g, j * 11 + 10, none⟩ = some u := ⟨_, (HO1.out.cellAt (j * 11 + 10) (by omega)).trans (List.getElem?_eq_getElem (by simp only [List.length_set]; rw [opnVals_len, mixO_length k j l (by rw [← HN.out]; omega), ← HN.out]; omega))⟩
        have f10 : w1.frozen? ⟨g, j * 11 + 10, none⟩ = false := HO1.out.frozenAt _
        have HS10 := Lib.hid (HO1.out.stored (j * 11 + 10) (.string (markB (q + 10))))
        have HG2 := Lib.hid (only_trans (only_below HG1.out hb1) HS10.out.2)
        clear hb1 c0 c1 c2 c3 c4 c5 c6 c7 c8 c9 f0 f1 f2 f3 f4 f5 f6 f7 f8 f9
        go_wp2_with fail
        go_roundw
        case rel => exact ⟨j + 1, by omega, by go_num, by rw [HQ.out]; go_num, Lib.hid (by rw [← HST2.out]; exact HS10.out.1), HG2⟩
        case measure => simp [intOf]; omega
      · obtain rfl : j = n := by omega
        go_wp2_with fail
        go_ret
        exact ⟨rfl, by have h1 := HO.out; rw [HN.out, mixO_all, ← HN.out] at h1; unfold OwnO; rw [mkOs_length]; exact h1, HG.out⟩
theorem heldO_step {w W w1 : World} {g j : Nat} {x : Value} (hg : g < w.heap.size) (hb : Below W.heap.size W w1) (hS : W.cell? ⟨g, j, none⟩ = some x ∧ Below w.heap.size w W) :
    w1.cell? ⟨g, j, none⟩ = some x ∧ Below w.heap.size w w1 :=
  ⟨(hb.cell (p := ⟨g, j, none⟩) (Nat.lt_of_lt_of_le hg hS.2.size)).trans hS.1, hS.2.trans (hb.mono hS.2.size)⟩
set_option maxRecDepth 100000 in
set_option maxHeartbeats 4000000 in
theorem heldOpS_any (k n : Nat) (v : Value) (w : World) (hv : RdO w v (mkOs k n)) (h0 : 0 < k) (hk : k + 11 * n ≤ 900000000) :
    Calls Try.prog 14 #[v, .int .i64 (k : Int)] w fun e w' => e = .returned (.int .i64 ((k + 11 * n : Nat) : Int)) ∧ Below w.heap.size w w' := by
  obtain ⟨A, ca, rfl, hA⟩ := hv
  rw [mkOs_length] at hA ⊢
  have HA := Lib.hid hA
  clear hA
  go_enter Try.func14, Try.ntmps14
  go_wp2
  go_loopw [1, 5] (fun m i wr => ∃ j : Nat, j ≤ n ∧ i = .int .i64 (j : Int) ∧ m = .int .i64 ((k + 11 * j : Nat) : Int) ∧ Hid (Below w.heap.size w wr)) (fun _ i _ => n - (intOf i).toNat)
  case atStart => exact ⟨0, Nat.zero_le _, rfl, rfl, Lib.hid (Below.refl _ _)⟩
  case round =>
    obtain ⟨j, hj, rfl, rfl, HBE⟩ := hrel
    by_cases hlt : j < n
    · obtain ⟨g, o, rfl, hgl, hcc⟩ := HA.out (by omega)
      obtain ⟨p0, p1, p2, p3, p4, p5, p6, p7, p8, p9, p10⟩ := ((hcc j _ (mkOs_get k n j hlt)).keep (fun p hp => HBE.out.cell hp) hgl).cells
      obtain ⟨q, hq⟩ : ∃ q, q = k + 11 * j := ⟨_, rfl⟩
      have hq1 : q ≤ 900000000 := by omega
      have hq0 : 0 < q := by omega
      rw [← hq] at p0 p1 p2 p3 p4 p5 p6 p7 p8 p9 p10 ⊢
      have HQ := Lib.hid hq
      simp only [mkOp, ← thirdE] at p0 p1 p2 p3 p4 p5 p6 p7 p8 p9 p10
      have e1 : ((q + 1 : Nat) : Int) = ((q : Nat) : Int) + 1 := by omega
      have e2 : ((q + 2 : Nat) : Int) = ((q : Nat) : Int) + 1 + 1 := by omega
      have e3 : ((q + 3 : Nat) : Int) = ((q : Nat) : Int) + 1 + 1 + 1 := by omega
      have e4 : ((q + 4 : Nat) : Int) = ((q : Nat) : Int) + 1 + 1 + 1 + 1 := by omega
      have e5 : ((q + 5 : Nat) : Int) = ((q : Nat) : Int) + 1 + 1 + 1 + 1 + 1 := by omega
      have e6 : ((q + 6 : Nat) : Int) = ((q : Nat) : Int) + 1 + 1 + 1 + 1 + 1 + 1 := by omega
      have e7 : ((q + 7 : Nat) : Int) = ((q : Nat) : Int) + 1 + 1 + 1 + 1 + 1 + 1 + 1 := by omega
      have e8 : ((q + 8 : Nat) : Int) = ((q : Nat) : Int) + 1 + 1 + 1 + 1 + 1 + 1 + 1 + 1 := by omega
      have e9 : ((q + 9 : Nat) : Int) = ((q : Nat) : Int) + 1 + 1 + 1 + 1 + 1 + 1 + 1 + 1 + 1 := by omega
      rw [e1] at p1
      rw [e2] at p2
      rw [e3] at p3
      rw [e4] at p4
      rw [e5] at p5
      rw [e6] at p6
      rw [e7] at p7
      rw [e8] at p8
      rw [e9] at p9
      clear e1 e2 e3 e4 e5 e6 e7 e8 e9
      clear hq hcc
      have HMT := Lib.hid (fun W => markText_int (((q : Nat) : Int) + 1 + 1 + 1 + 1 + 1 + 1 + 1 + 1 + 1 + 1) W (by omega) (by omega))
      rw [show (((q : Nat) : Int) + 1 + 1 + 1 + 1 + 1 + 1 + 1 + 1 + 1 + 1).toNat = q + 10 by omega] at HMT
      generalize markB (q + 10) = x at p10 HMT
      go_wp2_with fail
      go_region_held3 (fun W => W.cell? ⟨g, o + j * 11 + 10, none⟩ = some (.string x) ∧ Below w.heap.size w W)
        (first | exact ⟨p10, HBE.out.drew⟩ | exact heldO_step hgl (by assumption) (by assumption))
        (first | (go_at_call 20; refine (HMT.out _).mono ?_; rintro e w1 ⟨rfl, hb1⟩))
      all_goals
        have HBX := Lib.hid (And.right (by assumption : World.cell? w1 ⟨g, o + j * 11 + 10, none⟩ = some (Value.string x) ∧ Below w.heap.size w w1))
        go_wp2_with fail
        go_roundw
        case rel => exact ⟨j + 1, by omega, by go_num, by rw [HQ.out]; go_num, HBX⟩
        case measure => simp [intOf]; omega
    · obtain rfl : j = n := by omega
      go_wp2_with fail
      go_ret
      exact ⟨rfl, HBE.out⟩
end Go.Proofs.Ytooanejiadbngaa
