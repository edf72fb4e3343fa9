/- The program's RuneWidth: a range contains a code; the table of ranges. -/
import Derived.Test.YtionfjofojfaoaaDoorReadChars
import Derived.Test.YtionfjofojfaoaaDoorWidth
import Derived.Deep.RegionHeld3
import Derived.WalkLawsBesides
import Derived.Handy
namespace Go.Proofs.YtionfjofojfaoaaDoor
open Go.RowKit
set_option linter.unusedVariables false

set_option maxRecDepth 100000 in
set_option maxHeartbeats 400000 in
theorem common_any (a b c d : Int) (w : World) :
    Calls Tryd.prog 63 #[.agg #[.int .i64 a, .int .i64 b], .agg #[.int .i64 c, .int .i64 d]] w fun e w' => e = .returned (.agg #[.int .i64 (max a c), .int .i64 (min b d)]) ∧ Below w.heap.size w w' := by
  go_enter Tryd.func63, Tryd.ntmps63
  go_wp2
  refine bodyPost_ret (v := .agg #[.int .i64 (max a c), .int .i64 (min b d)]) (by simp [results, Tryd.results63, go_sem]) rfl ⟨rfl, ?_⟩
  go_grown
theorem sizeInt (w : World) : (sizeOf 3).run Tryd.prog w = .ok 1 w := by kernel_rfl
theorem eqPair (x0 x1 y0 y1 : Int) (w : World) : (Op.equalIn 10000 78 (.agg #[.int .i64 x0, .int .i64 x1]) (.agg #[.int .i64 y0, .int .i64 y1])).run Tryd.prog w = .ok (x0 == y0 && x1 == y1) w := by
  have px : ∀ (z0 z1 : Int), (part 3 #[.int .i64 z0, .int .i64 z1] 0).run Tryd.prog w = .ok (.int .i64 z0) w := fun z0 z1 => by kernel_rfl
  have py : ∀ (z0 z1 : Int), (part 3 #[.int .i64 z0, .int .i64 z1] 1).run Tryd.prog w = .ok (.int .i64 z1) w := fun z0 z1 => by kernel_rfl
  rw [show (10000 : Nat) = 9998 + 2 from rfl, Op.equalIn]
  simp only [Sem.run_bind, run_underlying Tryd.underlying78, Result.andThen_ok, sizeInt, Std.Legacy.Range.forIn_eq_forIn_range', Std.Legacy.Range.size, Nat.sub_zero, Nat.add_sub_cancel, Nat.div_one]
  simp only [List.range', List.forIn_cons, List.forIn_nil, Sem.run_bind, Result.andThen_ok, Nat.zero_add, Nat.mul_one, px, run_equalIn_int w 9998 3 .i64 .i64 _ _ Tryd.underlying3]
  cases h0 : (x0 == y0) <;> cases h1 : (x1 == y1) <;> simp [py, run_equalIn_int w 9998 3 .i64 .i64 _ _ Tryd.underlying3, h1]
theorem pair_step {w W W' : World} {B : Nat} {a b r : Value} (hb : Below W.heap.size W W')
    (h : W.cell? ⟨B, 0, none⟩ = some a ∧ W.cell? ⟨B, 1, none⟩ = some b ∧ W.cell? ⟨B + 1, 0, none⟩ = some r ∧ W.cell? ⟨B + 1, 1, none⟩ = some r ∧ Below w.heap.size w W ∧ B + 2 ≤ W.heap.size) :
    W'.cell? ⟨B, 0, none⟩ = some a ∧ W'.cell? ⟨B, 1, none⟩ = some b ∧ W'.cell? ⟨B + 1, 0, none⟩ = some r ∧ W'.cell? ⟨B + 1, 1, none⟩ = some r ∧ Below w.heap.size w W' ∧ B + 2 ≤ W'.heap.size := by
  obtain ⟨h1, h2, h3, h4, h5, h6⟩ := h
  have hs := hb.size
  exact ⟨(hb.cell (p := ⟨B, 0, none⟩) (by show B < _; omega)).trans h1, (hb.cell (p := ⟨B, 1, none⟩) (by show B < _; omega)).trans h2, (hb.cell (p := ⟨B + 1, 0, none⟩) (by show B + 1 < _; omega)).trans h3, (hb.cell (p := ⟨B + 1, 1, none⟩) (by show B + 1 < _; omega)).trans h4, h5.trans (hb.mono h5.size), by omega⟩
theorem pair_start {w : World} (a b r : Value) (t : TypeId) : ((w.alloc (.cells #[a, b] t)).alloc (.cells #[r, r] t)).drew.cell? ⟨w.heap.size, 0, none⟩ = some a ∧ ((w.alloc (.cells #[a, b] t)).alloc (.cells #[r, r] t)).drew.cell? ⟨w.heap.size, 1, none⟩ = some b ∧
    ((w.alloc (.cells #[a, b] t)).alloc (.cells #[r, r] t)).drew.cell? ⟨w.heap.size + 1, 0, none⟩ = some r ∧ ((w.alloc (.cells #[a, b] t)).alloc (.cells #[r, r] t)).drew.cell? ⟨w.heap.size + 1, 1, none⟩ = some r ∧
    Below w.heap.size w ((w.alloc (.cells #[a, b] t)).alloc (.cells #[r, r] t)).drew ∧ w.heap.size + 2 ≤ ((w.alloc (.cells #[a, b] t)).alloc (.cells #[r, r] t)).drew.heap.size :=
  ⟨by go_simp, by go_simp, by go_simp, by go_simp, by go_grown, by simp⟩
set_option maxRecDepth 100000 in
set_option maxHeartbeats 1000000 in
theorem contains_any (a b r : Int) (w : World) :
    Calls Tryd.prog 55 #[.agg #[.int .i64 a, .int .i64 b], .agg #[.int .i64 r, .int .i64 r]] w fun e w' => e = .returned (.bool (inB r a b)) ∧ Below w.heap.size w w' := by
  have HC := Lib.hid (fun W => common_any a b r r W)
  have hq : (max a r == r && min b r == r) = inB r a b := by
    unfold inB
    rw [Bool.eq_iff_iff]
    simp only [Bool.and_eq_true, beq_iff_eq, decide_eq_true_iff]
    omega
  have HQ := Lib.hid hq
  have hep := fun W => eqPair (max a r) (min b r) r r W
  clear hq
  obtain ⟨x, hx⟩ : ∃ x, x = max a r := ⟨_, rfl⟩
  obtain ⟨y, hy⟩ : ∃ y, y = min b r := ⟨_, rfl⟩
  rw [← hx, ← hy] at HC hep HQ
  clear hx hy
  obtain ⟨q, hq⟩ : ∃ q, q = (x == r && y == r) := ⟨_, rfl⟩
  rw [← hq] at HQ hep
  clear hq
  go_enter Tryd.func55, Tryd.ntmps55
  go_wp2_with fail
  go_region_held3 (fun W => W.cell? ⟨w.heap.size, 0, none⟩ = some (.int .i64 a) ∧ W.cell? ⟨w.heap.size, 1, none⟩ = some (.int .i64 b) ∧ W.cell? ⟨w.heap.size + 1, 0, none⟩ = some (.int .i64 r) ∧ W.cell? ⟨w.heap.size + 1, 1, none⟩ = some (.int .i64 r) ∧ Below w.heap.size w W ∧ w.heap.size + 2 ≤ W.heap.size)
    (first | exact pair_start _ _ _ _ | exact pair_step (by assumption) (by assumption))
    (first | (go_at_call 63; refine (HC.out _).mono ?_; rintro e w1 ⟨rfl, hb1⟩))
  all_goals
    have HB := Lib.hid (And.left (And.right (And.right (And.right (And.right (by assumption : World.cell? _ ⟨w.heap.size, 0, none⟩ = some (Value.int .i64 a) ∧ World.cell? _ ⟨w.heap.size, 1, none⟩ = some (Value.int .i64 b) ∧ World.cell? _ ⟨w.heap.size + 1, 0, none⟩ = some (Value.int .i64 r) ∧ World.cell? _ ⟨w.heap.size + 1, 1, none⟩ = some (Value.int .i64 r) ∧ Below w.heap.size w _ ∧ w.heap.size + 2 ≤ _))))))
    go_wp2
    go_ret
    exact ⟨ret_bool HQ.out, HB.out⟩
/-- The program's table: the first and the last code of a range, and their width. -/
def wrows : List (Int × Int × Int) := [(0, 31, 0), (127, 159, 0), (768, 879, 0), (1155, 1161, 0), (8203, 8207, 0), (8400, 8447, 0), (65024, 65039, 0), (65279, 65279, 0), (4352, 4447, 2), (11904, 42191, 2), (44032, 55203, 2), (63744, 64255, 2), (65280, 65376, 2), (65504, 65510, 2), (127744, 128591, 2), (129280, 129535, 2), (131072, 262141, 2)]
/-- The width by the first row that holds the code. -/
def rowW (r : Int) : List (Int × Int × Int) → Int
  | [] => 1
  | x :: t => if inB r x.1 x.2.1 = true then x.2.2 else rowW r t
theorem rowW_eq (r : Int) : rowW r wrows = (rw1 r : Int) := by
  unfold rw1
  simp only [wrows, rowW, zeroL, wideL, inAny, Bool.or_false]
  generalize inB r 0 31 = b0
  generalize inB r 127 159 = b1
  generalize inB r 768 879 = b2
  generalize inB r 1155 1161 = b3
  generalize inB r 8203 8207 = b4
  generalize inB r 8400 8447 = b5
  generalize inB r 65024 65039 = b6
  generalize inB r 65279 65279 = b7
  generalize inB r 4352 4447 = b8
  generalize inB r 11904 42191 = b9
  generalize inB r 44032 55203 = b10
  generalize inB r 63744 64255 = b11
  generalize inB r 65280 65376 = b12
  generalize inB r 65504 65510 = b13
  generalize inB r 127744 128591 = b14
  generalize inB r 129280 129535 = b15
  generalize inB r 131072 262141 = b16
  cases b0 with
  | true => rfl
  | false =>
    cases b1 with
    | true => rfl
    | false =>
      cases b2 with
      | true => rfl
      | false =>
        cases b3 with
        | true => rfl
        | false =>
          cases b4 with
          | true => rfl
          | false =>
            cases b5 with
            | true => rfl
            | false =>
              cases b6 with
              | true => rfl
              | false =>
                cases b7 with
                | true => rfl
                | false =>
                  cases b8 with
                  | true => rfl
                  | false =>
                    cases b9 with
                    | true => rfl
                    | false =>
                      cases b10 with
                      | true => rfl
                      | false =>
                        cases b11 with
                        | true => rfl
                        | false =>
                          cases b12 with
                          | true => rfl
                          | false =>
                            cases b13 with
                            | true => rfl
                            | false =>
                              cases b14 with
                              | true => rfl
                              | false =>
                                cases b15 with
                                | true => rfl
                                | false =>
                                  cases b16 with
                                  | true => rfl
                                  | false =>
                                    rfl
theorem rowW_yes (r : Int) (xs : List (Int × Int × Int)) (j : Nat) (h : j < xs.length) (hi : inB r xs[j].1 xs[j].2.1 = true) : rowW r (xs.drop j) = xs[j].2.2 := by
  rw [List.drop_eq_getElem_cons h, rowW, if_pos hi]
theorem rowW_no (r : Int) (xs : List (Int × Int × Int)) (j : Nat) (h : j < xs.length) (hi : inB r xs[j].1 xs[j].2.1 = false) : rowW r (xs.drop j) = rowW r (xs.drop (j + 1)) := by
  rw [List.drop_eq_getElem_cons h, rowW, if_neg (by rw [hi]; decide)]
theorem rowW_end (r : Int) (xs : List (Int × Int × Int)) (j : Nat) (h : ¬ j < xs.length) : rowW r (xs.drop j) = 1 := by
  rw [List.drop_eq_nil_of_le (by omega)]; rfl
/-- The table of ranges is as it is laid. -/
def WTab (w : World) : Prop := ∃ (g o c : Nat), w.cell? ⟨0, 0, none⟩ = some (.slice (some ⟨g, o, none⟩) 17 c) ∧ 0 < w.heap.size ∧ g < w.heap.size ∧
  ∀ (j : Nat) (h : j < wrows.length), w.cell? ⟨g, o + j * 3, none⟩ = some (.int .i64 wrows[j].1) ∧ w.cell? ⟨g, o + j * 3 + 1, none⟩ = some (.int .i64 wrows[j].2.1) ∧ w.cell? ⟨g, o + j * 3 + 2, none⟩ = some (.int .i64 wrows[j].2.2)
theorem WTab.below {w w' : World} (h : WTab w) (hb : Below w.heap.size w w') : WTab w' := by
  obtain ⟨g, o, c, h1, h2, h3, h4⟩ := h
  have hs := hb.size
  exact ⟨g, o, c, (hb.cell (p := ⟨_, 0, none⟩) h2).trans h1, by omega, by omega, fun j hj => ⟨(hb.cell (p := ⟨g, _, none⟩) h3).trans (h4 j hj).1, (hb.cell (p := ⟨g, _, none⟩) h3).trans (h4 j hj).2.1, (hb.cell (p := ⟨g, _, none⟩) h3).trans (h4 j hj).2.2⟩⟩

set_option maxRecDepth 100000 in
set_option maxHeartbeats 1000000 in
theorem implRuneWidth (r : Int) (w : World) (hT : WTab w) :
    Calls Tryd.prog 34 #[.int .i64 r] w fun e w' => e = .returned (.int .i64 (rw1 r : Int)) ∧ Below w.heap.size w w' := by
  rw [← rowW_eq r]
  obtain ⟨g, o, c, hg, hgl, hbl, hrows⟩ := hT
  have hlen : wrows.length = 17 := rfl
  have hro := hrows
  have HRO := Lib.hid hro
  have HL := Lib.hid hlen
  obtain ⟨X, hX⟩ : ∃ X, X = wrows := ⟨_, rfl⟩
  rw [← hX] at HRO HL ⊢
  clear hrows hro hlen hX
  go_enter Tryd.func34, Tryd.ntmps34
  go_wp2
  go_loopw [11] (fun k wr => ∃ q : Nat, q ≤ 17 ∧ k = .int .i64 (q : Int) ∧ Below (w.heap.size + 1) (w.alloc (.cells #[.int .i64 r, .int .i64 r] 78)) wr ∧ Hid (rowW r (X.drop q) = rowW r X)) (fun k _ => 17 - (intOf k).toNat)
  case atStart => exact ⟨0, Nat.zero_le _, rfl, Below.refl _ _, Lib.hid rfl⟩
  case round =>
    obtain ⟨q, hq, rfl, hbel, HD⟩ := hrel
    by_cases hlt : q < 17
    · have hqX : q < X.length := by rw [HL.out]; exact hlt
      obtain ⟨c1, c2, c3⟩ := HRO.out q hqX
      have hold : ∀ off, wr.cell? ⟨g, off, none⟩ = w.cell? ⟨g, off, none⟩ := fun off => (hbel.cell (p := ⟨g, off, none⟩) (by show g < _; omega)).trans (World.cell?_alloc_lt _ _ _ hbl)
      rw [← hold] at c1 c2 c3
      have a1 : wr.cell? ⟨w.heap.size, 0, none⟩ = some (.int .i64 r) := (hbel.cell (p := ⟨w.heap.size, 0, none⟩) (by show w.heap.size < _; omega)).trans (by go_simp)
      have a2 : wr.cell? ⟨w.heap.size, 1, none⟩ = some (.int .i64 r) := (hbel.cell (p := ⟨w.heap.size, 1, none⟩) (by show w.heap.size < _; omega)).trans (by go_simp)
      have hws : w.heap.size < wr.heap.size := by have := hbel.size; simp at this; omega
      have hgs : g < wr.heap.size := by omega
      obtain ⟨x, hx⟩ : ∃ x, x = X[q].1 := ⟨_, rfl⟩
      obtain ⟨y, hy⟩ : ∃ y, y = X[q].2.1 := ⟨_, rfl⟩
      obtain ⟨z, hz⟩ : ∃ z, z = X[q].2.2 := ⟨_, rfl⟩
      rw [← hx] at c1
      rw [← hy] at c2
      rw [← hz] at c3
      have HX := Lib.hid hx
      have HY := Lib.hid hy
      have HZ := Lib.hid hz
      have BE := Lib.hid hbel
      clear hold hx hy hz hbel
      cases hin : inB r x y with
      | true =>
        have hca := fun W => contains_any x y r W
        rw [hin] at hca
        have HCA := Lib.hid hca
        have HIN := Lib.hid hin
        clear hca hin
        go_wp2_with fail
        refine (HCA.out _).mono ?_
        rintro e w1 ⟨rfl, hb1⟩
        have hz1 : w1.cell? ⟨wr.heap.size, 2, none⟩ = some (.int .i64 z) := (hb1.cell (p := ⟨wr.heap.size, 2, none⟩) (by simp)).trans (by go_simp)
        have B1 := Lib.hid (BE.out.trans (((Below.refl _ _).alloc (Nat.le_refl _) _ |>.trans (hb1.mono (by simp))).mono (by show w.heap.size + 1 ≤ wr.heap.size; omega)))
        clear hb1
        go_wp2_with fail
        go_ret
        exact ⟨ret_int (by rw [← HD.out, rowW_yes r X q hqX (by rw [← HX.out, ← HY.out]; exact HIN.out), ← HZ.out]), ((Below.refl _ _).alloc (Nat.le_refl _) _).trans (B1.out.mono (Nat.le_succ _))⟩
      | false =>
        have hca := fun W => contains_any x y r W
        rw [hin] at hca
        have HCA := Lib.hid hca
        have HIN := Lib.hid hin
        clear hca hin
        go_wp2_with fail
        refine (HCA.out _).mono ?_
        rintro e w1 ⟨rfl, hb1⟩
        have hz1 : w1.cell? ⟨wr.heap.size, 2, none⟩ = some (.int .i64 z) := (hb1.cell (p := ⟨wr.heap.size, 2, none⟩) (by simp)).trans (by go_simp)
        have B1 := Lib.hid (BE.out.trans (((Below.refl _ _).alloc (Nat.le_refl _) _ |>.trans (hb1.mono (by simp))).mono (by show w.heap.size + 1 ≤ wr.heap.size; omega)))
        clear hb1
        go_wp2_with fail
        go_roundw
        case rel => exact ⟨q + 1, by omega, by go_num, B1.out, Lib.hid ((rowW_no r X q hqX (by rw [← HX.out, ← HY.out]; exact HIN.out)).symm.trans HD.out)⟩
        case measure => simp [intOf]; omega
    · have HE := Lib.hid (rowW_end r X q (by rw [HL.out]; exact hlt))
      have BE := Lib.hid hbel
      clear hbel
      go_wp2
      go_ret
      exact ⟨ret_int (by rw [← HD.out, HE.out]), ((Below.refl _ _).alloc (Nat.le_refl _) _).trans (BE.out.mono (Nat.le_succ _))⟩
end Go.Proofs.YtionfjofojfaoaaDoor
