/- The model's decoder gives the character at an index. -/
import Derived.Test.YtionfjofojfaoaaDoorMem
import Derived.Test.YtionfjofojfaoaaDoorChars
namespace Go.Proofs.YtionfjofojfaoaaDoor
open Go.RowKit
set_option linter.unusedVariables false

/-- Is n from lo to hi? -/
def inB (n lo hi : Int) : Bool := decide (lo ≤ n) && decide (n ≤ hi)
theorem inB_yes {n lo hi : Int} (h : lo ≤ n ∧ n ≤ hi) : inB n lo hi = true := by unfold inB; rw [decide_eq_true h.1, decide_eq_true h.2]; rfl
theorem inB_no {n lo hi : Int} (h : ¬ (lo ≤ n ∧ n ≤ hi)) : inB n lo hi = false := by
  unfold inB; rw [← Bool.decide_and]; exact decide_eq_false h
theorem l01In_yes (n lo hi : Int) (w : World) (h : lo ≤ n ∧ n ≤ hi) :
    Calls Tryd.prog 64 #[.int .i64 n, .int .i64 lo, .int .i64 hi] w fun e w' => e = .returned (.bool true) ∧ w = w' := by
  obtain ⟨h1, h2⟩ := h
  go_enter Tryd.func64, Tryd.ntmps64
  go_wp2
  go_ret
  exact ⟨rfl, rfl⟩
theorem l01In_no (n lo hi : Int) (w : World) (h : ¬ (lo ≤ n ∧ n ≤ hi)) :
    Calls Tryd.prog 64 #[.int .i64 n, .int .i64 lo, .int .i64 hi] w fun e w' => e = .returned (.bool false) ∧ w = w' := by
  by_cases h1 : lo ≤ n
  · have h2 : ¬ n ≤ hi := by omega
    clear h
    go_enter Tryd.func64, Tryd.ntmps64
    go_wp2
    go_ret
    exact ⟨rfl, rfl⟩
  · clear h
    go_enter Tryd.func64, Tryd.ntmps64
    go_wp2
    go_ret
    exact ⟨rfl, rfl⟩
theorem l01In_any (n lo hi : Int) (w : World) :
    Calls Tryd.prog 64 #[.int .i64 n, .int .i64 lo, .int .i64 hi] w fun e w' => e = .returned (.bool (inB n lo hi)) ∧ w = w' := by
  by_cases h : lo ≤ n ∧ n ≤ hi
  · rw [inB_yes h]; exact l01In_yes n lo hi w h
  · rw [inB_no h]; exact l01In_no n lo hi w h

set_option maxRecDepth 100000 in
set_option maxHeartbeats 400000 in
theorem l02Point_any (r : Int) (w : World) :
    Calls Tryd.prog 71 #[.int .i64 r] w fun e w' => e = .returned (.bool (pointB r)) ∧ w = w' := by
  by_cases h1 : 0 ≤ r ∧ r ≤ 1114111
  · by_cases h2 : 55296 ≤ r ∧ r ≤ 57343
    · have e : pointB r = false := by rw [pointB_not]; omega
      rw [e]
      have c1 := Lib.hid (fun w => l01In_yes r 0 1114111 w h1)
      have c2 := Lib.hid (fun w => l01In_yes r 55296 57343 w h2)
      clear e h1 h2
      go_enter Tryd.func71, Tryd.ntmps71
      go_wp2_with fail
      refine (c1.out _).mono ?_
      rintro e w1 ⟨rfl, rfl⟩
      go_wp2_with fail
      refine (c2.out _).mono ?_
      rintro e w1 ⟨rfl, rfl⟩
      go_wp2_with fail
      go_ret
      exact ⟨rfl, rfl⟩
    · have e : pointB r = true := by rw [pointB_iff]; exact ⟨h1, h2⟩
      rw [e]
      have c1 := Lib.hid (fun w => l01In_yes r 0 1114111 w h1)
      have c2 := Lib.hid (fun w => l01In_no r 55296 57343 w h2)
      clear e h1 h2
      go_enter Tryd.func71, Tryd.ntmps71
      go_wp2_with fail
      refine (c1.out _).mono ?_
      rintro e w1 ⟨rfl, rfl⟩
      go_wp2_with fail
      refine (c2.out _).mono ?_
      rintro e w1 ⟨rfl, rfl⟩
      go_wp2_with fail
      go_ret
      exact ⟨rfl, rfl⟩
  · have e : pointB r = false := by rw [pointB_not]; exact fun h => h1 h.1
    rw [e]
    have c1 := Lib.hid (fun w => l01In_no r 0 1114111 w h1)
    clear e h1
    go_enter Tryd.func71, Tryd.ntmps71
    go_wp2_with fail
    refine (c1.out _).mono ?_
    rintro e w1 ⟨rfl, rfl⟩
    go_wp2_with fail
    go_ret
    exact ⟨rfl, rfl⟩

theorem ret_two {a b c d : Int} (h : a = c) (k : b = d) : Ending.returned (.tuple #[.int .i64 a, .int .i64 b]) = .returned (.tuple #[.int .i64 c, .int .i64 d]) := by rw [h, k]
set_option maxRecDepth 100000 in
set_option maxHeartbeats 400000 in
theorem l02Need_any (b : Nat) (w : World) (h : b < 256) :
    Calls Tryd.prog 69 #[.int .u8 (b : Int)] w fun e w' => e = .returned (.tuple #[.int .i64 ((needN b : Nat) : Int), .int .i64 ((needR b : Nat) : Int)]) ∧ w = w' := by
  have hb0 : (0 : Int) ≤ (b : Int) := by omega
  have hb1 : (b : Int) ≤ 255 := by omega
  have c : b < 128 ∨ (128 ≤ b ∧ b < 194) ∨ (194 ≤ b ∧ b < 224) ∨ (224 ≤ b ∧ b < 240) ∨ (240 ≤ b ∧ b < 245) ∨ 245 ≤ b := by omega
  rcases c with c | c | c | c | c | c
  · have e1 : needN b = 1 := by unfold needN; rw [if_pos c]
    have e2 : needR b = b := by unfold needR; rw [if_pos c]
    have E1 := Lib.hid e1
    have E2 := Lib.hid e2
    have g1 : (b : Int) < 128 := by omega
    clear e1 e2 c h
    go_enter Tryd.func69, Tryd.ntmps69
    go_wp2
    go_ret2
    exact ⟨ret_two (by rw [E1.out]; rfl) (by rw [E2.out]), rfl⟩
  · have e1 : needN b = 0 := by unfold needN; (repeat' split) <;> omega
    have e2 : needR b = 0 := by unfold needR; (repeat' split) <;> omega
    have E1 := Lib.hid e1
    have E2 := Lib.hid e2
    have g1 : ¬ (b : Int) < 128 := by omega
    have g2 : ¬ (194 : Int) ≤ (b : Int) := by omega
    have g3 : ¬ (224 : Int) ≤ (b : Int) := by omega
    have g4 : ¬ (240 : Int) ≤ (b : Int) := by omega
    clear e1 e2 c h
    go_enter Tryd.func69, Tryd.ntmps69
    go_wp2
    go_ret2
    exact ⟨ret_two (by rw [E1.out]; rfl) (by rw [E2.out]; rfl), rfl⟩
  · have e1 : needN b = 2 := by unfold needN; (repeat' split) <;> omega
    have e2 : needR b = b - 192 := by unfold needR; (repeat' split) <;> omega
    have E1 := Lib.hid e1
    have E2 := Lib.hid e2
    have g1 : ¬ (b : Int) < 128 := by omega
    have g2 : (194 : Int) ≤ (b : Int) := by omega
    have g3 : (b : Int) < 224 := by omega
    clear e1 e2 c h
    go_enter Tryd.func69, Tryd.ntmps69
    go_wp2
    go_ret2
    exact ⟨ret_two (by rw [E1.out]; rfl) (by rw [E2.out]; omega), rfl⟩
  · have e1 : needN b = 3 := by unfold needN; (repeat' split) <;> omega
    have e2 : needR b = b - 224 := by unfold needR; (repeat' split) <;> omega
    have E1 := Lib.hid e1
    have E2 := Lib.hid e2
    have g1 : ¬ (b : Int) < 128 := by omega
    have g2 : (194 : Int) ≤ (b : Int) := by omega
    have g3 : ¬ (b : Int) < 224 := by omega
    have g4 : (224 : Int) ≤ (b : Int) := by omega
    have g5 : (b : Int) < 240 := by omega
    clear e1 e2 c h
    go_enter Tryd.func69, Tryd.ntmps69
    go_wp2
    go_ret2
    exact ⟨ret_two (by rw [E1.out]; rfl) (by rw [E2.out]; omega), rfl⟩
  · have e1 : needN b = 4 := by unfold needN; (repeat' split) <;> omega
    have e2 : needR b = b - 240 := by unfold needR; (repeat' split) <;> omega
    have E1 := Lib.hid e1
    have E2 := Lib.hid e2
    have g1 : ¬ (b : Int) < 128 := by omega
    have g2 : (194 : Int) ≤ (b : Int) := by omega
    have g3 : ¬ (b : Int) < 224 := by omega
    have g4 : (224 : Int) ≤ (b : Int) := by omega
    have g5 : ¬ (b : Int) < 240 := by omega
    have g6 : (240 : Int) ≤ (b : Int) := by omega
    have g7 : (b : Int) < 245 := by omega
    clear e1 e2 c h
    go_enter Tryd.func69, Tryd.ntmps69
    go_wp2
    go_ret2
    exact ⟨ret_two (by rw [E1.out]; rfl) (by rw [E2.out]; omega), rfl⟩
  · have e1 : needN b = 0 := by unfold needN; (repeat' split) <;> omega
    have e2 : needR b = 0 := by unfold needR; (repeat' split) <;> omega
    have E1 := Lib.hid e1
    have E2 := Lib.hid e2
    have g1 : ¬ (b : Int) < 128 := by omega
    have g2 : (194 : Int) ≤ (b : Int) := by omega
    have g3 : ¬ (b : Int) < 224 := by omega
    have g4 : (224 : Int) ≤ (b : Int) := by omega
    have g5 : ¬ (b : Int) < 240 := by omega
    have g6 : (240 : Int) ≤ (b : Int) := by omega
    have g7 : ¬ (b : Int) < 245 := by omega
    clear e1 e2 c h
    go_enter Tryd.func69, Tryd.ntmps69
    go_wp2
    go_ret2
    exact ⟨ret_two (by rw [E1.out]; rfl) (by rw [E2.out]; rfl), rfl⟩

set_option maxRecDepth 100000 in
set_option maxHeartbeats 400000 in
theorem l02Least_any (n : Nat) (w : World) (h : n ≤ 4) :
    Calls Tryd.prog 70 #[.int .i64 (n : Int)] w fun e w' => e = .returned (.int .i64 ((leastN n : Nat) : Int)) ∧ Below w.heap.size w w' := by
  have hc : (w.alloc (.cells #[.int .i64 0, .int .i64 0, .int .i64 128, .int .i64 2048, .int .i64 65536] 3)).cell? ⟨w.heap.size, n, none⟩ = some (.int .i64 ((leastN n : Nat) : Int)) := by
    rw [cell_of_row _ w.heap.size n _ 3 (0, 0) (heap_alloc_new w _)]
    match n, h with
    | 0, _ => rfl
    | 1, _ => rfl
    | 2, _ => rfl
    | 3, _ => rfl
    | 4, _ => rfl
    | n + 5, h => omega
  obtain ⟨L, hL⟩ : ∃ L : Int, L = ((leastN n : Nat) : Int) := ⟨_, rfl⟩
  rw [← hL] at hc ⊢
  clear hL
  go_enter Tryd.func70, Tryd.ntmps70
  go_wp2
  go_ret
  exact ⟨rfl, (Below.refl _ _).alloc (Nat.le_refl _) _⟩

/-- How great the bits read so far can be. -/
def bndN : Nat → Nat
  | 0 => 1
  | 1 => 127
  | 2 => 8191
  | 3 => 524287
  | _ => 33554431
theorem bndN_le (j : Nat) : bndN j ≤ 33554431 := by
  match j with
  | 0 => decide
  | 1 => decide
  | 2 => decide
  | 3 => decide
  | j + 4 => exact Nat.le_refl _
theorem bndN_step (j r x : Nat) (h1 : 1 ≤ j) (h : j < 4) (hr : r ≤ bndN j) (hx : x ≤ 191) : 64 * r + x - 128 ≤ bndN (j + 1) := by
  match j, h1, h, hr with
  | 1, _, _, hr => simp only [bndN] at *; omega
  | 2, _, _, hr => simp only [bndN] at *; omega
  | 3, _, _, hr => simp only [bndN] at *; omega
theorem foldC_yes (s : ByteArray) (m p r : Nat) (h : 128 ≤ by8 s p ∧ by8 s p ≤ 191) : foldC s (m + 1) p r = foldC s m (p + 1) (64 * r + by8 s p - 128) := by rw [foldC, if_pos h]
theorem foldC_no (s : ByteArray) (m p r : Nat) (h : ¬ (128 ≤ by8 s p ∧ by8 s p ≤ 191)) : foldC s (m + 1) p r = none := by rw [foldC, if_neg h]

set_option maxRecDepth 100000 in
set_option maxHeartbeats 1000000 in
theorem specDecode (s : ByteArray) (i : Nat) (w : World) (h : i < s.size) (hs : s.size ≤ 1000000000) :
    Calls Tryd.prog 66 #[.string s, .int .i64 (i : Int)] w fun e w' => e = .returned (.tuple #[.int .i64 (ch s i).1, .int .i64 ((ch s i).2 : Int)]) ∧ Below w.heap.size w w' := by
  rw [← specCh_eq s i h]
  have hb : by8 s i = s[i].toNat := by8_of s i h
  have hneed := fun w => l02Need_any s[i].toNat w (s[i].toNat_lt)
  rw [← hb] at hneed
  have HB := Lib.hid hb
  have hN := needN_le (by8 s i)
  have hR := needR_le (by8 s i)
  unfold specCh
  generalize needN (by8 s i) = n at *
  generalize needR (by8 s i) = r at *
  clear hb
  have HND : Hid (∀ w, Calls Tryd.prog 69 #[.int .u8 ((s[i].toNat : Nat) : Int)] w fun e w' => e = .returned (.tuple #[.int .i64 (n : Int), .int .i64 (r : Int)]) ∧ w = w') := Lib.hid (fun w => by rw [← HB.out]; exact hneed w)
  clear hneed
  have hs1 : (i : Int) + n ≤ 9223372036854775807 := by omega
  by_cases h0 : n = 0
  · rw [if_pos (.inl h0)]
    have hz : ((n : Int) == 0) = true := by simp; omega
    clear h0
    go_enter Tryd.func66, Tryd.ntmps66
    go_wp2_with fail
    refine (HND.out _).mono ?_
    rintro e w1 ⟨rfl, rfl⟩
    go_wp2_with fail
    go_ret2
    exact ⟨rfl, Below.refl _ _⟩
  · have hz : ((n : Int) == 0) = false := by simp; omega
    by_cases h1 : s.size < i + n
    · rw [if_pos (.inr h1)]
      have h1' : (s.size : Int) < (i : Int) + (n : Int) := by omega
      clear h0 h1
      go_enter Tryd.func66, Tryd.ntmps66
      go_wp2_with fail
      refine (HND.out _).mono ?_
      rintro e w1 ⟨rfl, rfl⟩
      go_wp2_with fail
      go_ret2
      exact ⟨rfl, Below.refl _ _⟩
    · rw [if_neg (by omega)]
      have h1' : ¬ (s.size : Int) < (i : Int) + (n : Int) := by omega
      obtain ⟨F, hF⟩ : ∃ F, F = foldC s (n - 1) (i + 1) r := ⟨_, rfl⟩
      rw [← hF]
      have HF := Lib.hid hF
      clear hF
      have hn1 : 1 ≤ n := by omega
      clear h0 h1
      go_enter Tryd.func66, Tryd.ntmps66
      go_wp2_with fail
      refine (HND.out _).mono ?_
      rintro e w1 ⟨rfl, rfl⟩
      go_wp2_with fail
      go_loop [7, 8] (fun rr k => ∃ j q : Nat, 1 ≤ j ∧ j ≤ n ∧ k = .int .i64 j ∧ rr = .int .i64 q ∧ q ≤ bndN j ∧ Hid (F = foldC s (n - j) (i + j) q)) (fun _ k => n - (intOf k).toNat)
      case atStart => exact ⟨1, r, Nat.le_refl _, hn1, rfl, rfl, hR, HF⟩
      case round =>
        obtain ⟨j, q, hj1, hjn, rfl, rfl, hq, HQ⟩ := hrel
        have hq2 : q ≤ 33554431 := Nat.le_trans hq (bndN_le j)
        by_cases hlt : j < n
        · have hij : i + j < s.size := by omega
          have hx := by8_of s (i + j) hij
          have hx2 := by8_lt s (i + j)
          have hx3 : ((s[i + j].toNat : Nat) : Int) ≤ 255 := by have := s[i + j].toNat_lt; omega
          have hnj : n - j = (n - (j + 1)) + 1 := by omega
          have HX := Lib.hid hx
          have HNJ := Lib.hid hnj
          clear hx hnj
          have hij' : (i : Int) + (j : Int) < (s.size : Int) := by omega
          by_cases hc : 128 ≤ by8 s (i + j) ∧ by8 s (i + j) ≤ 191
          · have HC := Lib.hid hc
            have g1 : ¬ ((s[i + j].toNat : Nat) : Int) < 128 := by rw [← HX.out]; omega
            have g2 : ¬ (191 : Int) < ((s[i + j].toNat : Nat) : Int) := by rw [← HX.out]; omega
            have hst := bndN_step j q (by8 s (i + j)) hj1 (by omega) hq hc.2
            clear hc
            go_wp2
            go_round
            case rel => exact ⟨j + 1, 64 * q + by8 s (i + j) - 128, by omega, by omega, by go_num, by rw [HX.out] at *; go_num, hst, Lib.hid (by rw [HQ.out, HNJ.out, foldC_yes _ _ _ _ HC.out]; rfl)⟩
            case measure => simp [intOf]; omega
          · have HE : Hid (endC n F = (-1, 1)) := Lib.hid (by rw [HQ.out, HNJ.out, foldC_no _ _ _ _ hc]; rfl)
            by_cases hc1 : by8 s (i + j) < 128
            · have g1 : ((s[i + j].toNat : Nat) : Int) < 128 := by rw [← HX.out]; omega
              clear hc hc1
              go_wp2
              go_ret2
              exact ⟨by rw [HE.out]; rfl, Below.refl _ _⟩
            · have g1 : ¬ ((s[i + j].toNat : Nat) : Int) < 128 := by rw [← HX.out]; omega
              have g2 : (191 : Int) < ((s[i + j].toNat : Nat) : Int) := by rw [← HX.out]; omega
              clear hc hc1
              go_wp2
              go_ret2
              exact ⟨by rw [HE.out]; rfl, Below.refl _ _⟩
        · have hjn2 : n - j = 0 := by omega
          have HE : Hid (endC n F = if q < leastN n ∨ pointB (q : Int) = false then (-1, 1) else ((q : Int), n)) := Lib.hid (by rw [HQ.out, hjn2]; rfl)
          clear hjn2 HQ
          by_cases hl : q < leastN n
          · have HE2 : Hid (endC n F = (-1, 1)) := Lib.hid (by rw [HE.out, if_pos (.inl hl)])
            have hl' : (q : Int) < ((leastN n : Nat) : Int) := by omega
            clear hl
            go_wp2_with fail
            refine (l02Least_any n _ (by omega)).mono ?_
            rintro e w2 ⟨rfl, hb2⟩
            go_wp2_with fail
            go_ret2
            exact ⟨by rw [HE2.out]; rfl, hb2⟩
          · have hl' : ¬ (q : Int) < ((leastN n : Nat) : Int) := by omega
            cases hp : pointB (q : Int) with
            | false =>
              have HE2 : Hid (endC n F = (-1, 1)) := Lib.hid (by rw [HE.out, if_pos (.inr hp)])
              have hpt := fun w => l02Point_any (q : Int) w
              rw [hp] at hpt
              have HPT := Lib.hid hpt
              clear hpt hp hl
              go_wp2_with fail
              refine (l02Least_any n _ (by omega)).mono ?_
              rintro e w2 ⟨rfl, hb2⟩
              go_wp2_with fail
              refine (HPT.out _).mono ?_
              rintro e w3 ⟨rfl, rfl⟩
              go_wp2_with fail
              go_ret2
              exact ⟨by rw [HE2.out]; rfl, hb2⟩
            | true =>
              have HE2 : Hid (endC n F = ((q : Int), n)) := Lib.hid (by rw [HE.out, if_neg (by intro h; rcases h with h | h; exact hl h; rw [hp] at h; cases h)])
              have hpt := fun w => l02Point_any (q : Int) w
              rw [hp] at hpt
              have HPT := Lib.hid hpt
              clear hpt hp hl
              go_wp2_with fail
              refine (l02Least_any n _ (by omega)).mono ?_
              rintro e w2 ⟨rfl, hb2⟩
              go_wp2_with fail
              refine (HPT.out _).mono ?_
              rintro e w3 ⟨rfl, rfl⟩
              go_wp2_with fail
              go_ret2
              exact ⟨by rw [HE2.out]; rfl, hb2⟩

end Go.Proofs.YtionfjofojfaoaaDoor
