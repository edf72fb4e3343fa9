/- The model's CompleteLength. -/
import Derived.Test.YtaigjiiknmgclaaDoorSpecChars
import Derived.Test.YtaigjiiknmgclaaDoorComplPre
namespace Go.Proofs.YtaigjiiknmgclaaDoor
open Go.RowKit
set_option linter.unusedVariables false

/-- The first of the lengths k, k + 1, .. (f of them) at which the ending is a beginning is left out. -/
def complFrom (s : ByteArray) : Nat → Nat → Nat
  | 0, _ => s.size
  | f + 1, k => if k ≤ s.size then (if beginsB (s.extract (s.size - k) s.size) = true then s.size - k else complFrom s f (k + 1)) else s.size
/-- What CompleteLength answers. -/
def complB (s : ByteArray) : Nat := complFrom s 3 1
theorem tail_size (s : ByteArray) (k : Nat) (h : k ≤ s.size) : (s.extract (s.size - k) s.size).size = k := by
  rw [ByteArray.size_extract]; omega
theorem compl_yes (s : ByteArray) (f k : Nat) (h : k ≤ s.size) (hb : beginsB (s.extract (s.size - k) s.size) = true) : complFrom s (f + 1) k = s.size - k := by
  rw [complFrom, if_pos h, if_pos hb]
theorem compl_no (s : ByteArray) (f k : Nat) (h : k ≤ s.size) (hb : beginsB (s.extract (s.size - k) s.size) = false) : complFrom s (f + 1) k = complFrom s f (k + 1) := by
  rw [complFrom, if_pos h, if_neg (by rw [hb]; decide)]
theorem compl_end (s : ByteArray) (f k : Nat) (h : f = 0 ∨ ¬ k ≤ s.size) : complFrom s f k = s.size := by
  cases f with
  | zero => rfl
  | succ f => rw [complFrom, if_neg (by omega)]
theorem run_tail (s : ByteArray) (l : Int) (k : Nat) (hk : k ≤ s.size) (hl : l = (s.size : Int) - (k : Int)) (w : World) :
    (Instr.slice 9 (.string s) (some (.int .i64 l)) none none).run Tryd.prog w = .ok (.string (s.extract (s.size - k) s.size)) w := by
  subst hl
  rw [run_slice_string_l (P := Tryd.prog) (w := w) (t := 9) (s := s) (ht := Tryd.underlying9) .i64 _ (by omega) (by omega)]
  rw [show ((s.size : Int) - (k : Int)).toNat = s.size - k by omega]

theorem bnd_up (k x : Nat) (h1 : 1 ≤ k) (h : k < 4) (hx : x ≤ bndN k) : 64 * x + 63 ≤ bndN (k + 1) := by
  match k, h1, h, hx with
  | 1, _, _, hx => simp only [bndN] at *; omega
  | 2, _, _, hx => simp only [bndN] at *; omega
  | 3, _, _, hx => simp only [bndN] at *; omega
theorem lowE_step (d r : Nat) : lowE (d + 1) r = lowE d (64 * r) := rfl
theorem highE_step (d r : Nat) : highE (d + 1) r = highE d (64 * r + 63) := rfl
theorem leastN_le (n : Nat) : leastN n ≤ 65536 := by
  unfold leastN; (repeat' split) <;> omega
def endB (n d : Nat) : Option Nat → Bool
  | none => false
  | some r => rangeB n (lowE d r) (highE d r)
theorem rangeB_max (n lo hi lo' hi' : Nat) (h1 : lo' = max lo (leastN n)) (h2 : hi' = min hi 1114111) : rangeB n lo hi = (decide (lo' ≤ hi') && !(decide (55296 ≤ lo') && decide (hi' ≤ 57343))) := by
  subst h1; subst h2; rfl

set_option maxRecDepth 100000 in
set_option maxHeartbeats 2000000 in
theorem specBegins (t : ByteArray) (w : World) (h1 : 1 ≤ t.size) (h3 : t.size ≤ 3) :
    Calls Tryd.prog 42 #[.string t] w fun e w' => e = .returned (.bool (beginsB t)) ∧ Below w.heap.size w w' := by
  have hb : by8 t 0 = (t[0]'(by omega)).toNat := by8_of t 0 (by omega)
  have hneed := fun w => l02Need_any (t[0]'(by omega)).toNat w ((t[0]'(by omega)).toNat_lt)
  rw [← hb] at hneed
  have HB := Lib.hid hb
  have hN := needN_le (by8 t 0)
  have hR := needR_le (by8 t 0)
  have hbeg : beginsB t = if needN (by8 t 0) ≤ t.size then false else endB (needN (by8 t 0)) (needN (by8 t 0) - t.size) (foldC t (t.size - 1) 1 (needR (by8 t 0))) := by
    unfold beginsB endB; rfl
  rw [hbeg]
  clear hbeg
  generalize needN (by8 t 0) = n at *
  generalize needR (by8 t 0) = r at *
  clear hb
  have HND : Hid (∀ w, Calls Tryd.prog 49 #[.int .u8 (((t[0]'(by omega)).toNat : Nat) : Int)] w fun e w' => e = .returned (.tuple #[.int .i64 (n : Int), .int .i64 (r : Int)]) ∧ w = w') := Lib.hid (fun w => by rw [← HB.out]; exact hneed w)
  clear hneed
  have hts : (0 : Int) < (t.size : Int) := by omega
  by_cases hn : n ≤ t.size
  · rw [if_pos hn]
    have hn' : (n : Int) ≤ (t.size : Int) := by omega
    clear hn
    go_enter Tryd.func42, Tryd.ntmps42
    go_wp2_with fail
    refine (HND.out _).mono ?_
    rintro e w1 ⟨rfl, rfl⟩
    go_wp2_with fail
    go_ret
    exact ⟨rfl, Below.refl _ _⟩
  · rw [if_neg hn]
    have hn' : ¬ (n : Int) ≤ (t.size : Int) := by omega
    obtain ⟨F, hF⟩ : ∃ F, F = foldC t (t.size - 1) 1 r := ⟨_, rfl⟩
    rw [← hF]
    have HF := Lib.hid hF
    have HNL := Lib.hid hn
    clear hF hn
    go_enter Tryd.func42, Tryd.ntmps42
    go_wp2_with fail
    refine (HND.out _).mono ?_
    rintro e w1 ⟨rfl, rfl⟩
    go_wp2_with fail
    go_loop [4, 5] (fun rr k => ∃ j q : Nat, 1 ≤ j ∧ j ≤ t.size ∧ k = .int .i64 (j : Int) ∧ rr = .int .i64 (q : Int) ∧ q ≤ bndN j ∧ Hid (F = foldC t (t.size - j) j q)) (fun _ k => t.size - (intOf k).toNat)
    case atStart => exact ⟨1, r, Nat.le_refl _, h1, rfl, rfl, hR, HF⟩
    case round =>
      obtain ⟨j, q, hj1, hjn, rfl, rfl, hq, HQ⟩ := hrel
      have hq2 : q ≤ 33554431 := Nat.le_trans hq (bndN_le j)
      by_cases hlt : j < t.size
      · have hx := by8_of t j hlt
        have hx2 := by8_lt t j
        have hx3 : ((t[j].toNat : Nat) : Int) ≤ 255 := by have := t[j].toNat_lt; omega
        have hnj : t.size - j = (t.size - (j + 1)) + 1 := by omega
        have HX := Lib.hid hx
        have HNJ := Lib.hid hnj
        clear hx hnj
        by_cases hc : 128 ≤ by8 t j ∧ by8 t j ≤ 191
        · have HC := Lib.hid hc
          have g1 : ¬ ((t[j].toNat : Nat) : Int) < 128 := by rw [← HX.out]; omega
          have g2 : ¬ (191 : Int) < ((t[j].toNat : Nat) : Int) := by rw [← HX.out]; omega
          have hst := bndN_step j q (by8 t j) hj1 (by omega) hq hc.2
          clear hc
          go_wp2
          go_round
          case rel => exact ⟨j + 1, 64 * q + by8 t j - 128, by omega, by omega, by go_num, by rw [HX.out] at *; go_num, hst, Lib.hid (by rw [HQ.out, HNJ.out, foldC_yes _ _ _ _ HC.out])⟩
          case measure => simp [intOf]; omega
        · have HE : Hid (endB n (n - t.size) F = false) := Lib.hid (by rw [HQ.out, HNJ.out, foldC_no _ _ _ _ hc]; rfl)
          by_cases hc1 : by8 t j < 128
          · have g1 : ((t[j].toNat : Nat) : Int) < 128 := by rw [← HX.out]; omega
            clear hc hc1
            go_wp2
            go_ret
            exact ⟨ret_bool HE.out.symm, Below.refl _ _⟩
          · have g1 : ¬ ((t[j].toNat : Nat) : Int) < 128 := by rw [← HX.out]; omega
            have g2 : (191 : Int) < ((t[j].toNat : Nat) : Int) := by rw [← HX.out]; omega
            clear hc hc1
            go_wp2
            go_ret
            exact ⟨ret_bool HE.out.symm, Below.refl _ _⟩
      · have hjs : j = t.size := by omega
        have HE : Hid (endB n (n - t.size) F = rangeB n (lowE (n - t.size) q) (highE (n - t.size) q)) := Lib.hid (by rw [HQ.out, show t.size - j = 0 by omega]; rfl)
        have hqb : q ≤ bndN t.size := by rw [← hjs]; exact hq
        obtain ⟨LO, hLO⟩ : ∃ LO, LO = lowE (n - t.size) q := ⟨_, rfl⟩
        obtain ⟨HI, hHI⟩ : ∃ HI, HI = highE (n - t.size) q := ⟨_, rfl⟩
        have HE2 : Hid (endB n (n - t.size) F = rangeB n LO HI) := Lib.hid (by rw [HE.out, hLO, hHI])
        have HLO := Lib.hid hLO
        have HHI := Lib.hid hHI
        have HQB := Lib.hid hqb
        clear hjs HE hLO hHI hqb HQ
        go_wp2
        go_loop [7, 8, 9] (fun lo hi k => ∃ a b c : Nat, t.size ≤ c ∧ c ≤ n ∧ k = .int .i64 (c : Int) ∧ lo = .int .i64 (a : Int) ∧ hi = .int .i64 (b : Int) ∧ a ≤ bndN c ∧ b ≤ bndN c ∧ Hid (LO = lowE (n - c) a) ∧ Hid (HI = highE (n - c) b)) (fun _ _ k => n - (intOf k).toNat)
        case atStart => exact ⟨q, q, t.size, Nat.le_refl _, by have := HNL.out; omega, rfl, rfl, rfl, HQB.out, HQB.out, HLO, HHI⟩
        case round =>
          obtain ⟨a, b, c, hc1, hc2, rfl, rfl, rfl, ha, hb, HA, HBB⟩ := hrel
          have ha2 : a ≤ 33554431 := Nat.le_trans ha (bndN_le c)
          have hb2 : b ≤ 33554431 := Nat.le_trans hb (bndN_le c)
          by_cases hlc : c < n
          · have hnc : n - c = (n - (c + 1)) + 1 := by omega
            have hua := bnd_up c a (by omega) (by omega) ha
            have hub := bnd_up c b (by omega) (by omega) hb
            have HA2 : Hid (LO = lowE (n - (c + 1)) (64 * a)) := Lib.hid (by rw [HA.out, hnc]; rfl)
            have HB2 : Hid (HI = highE (n - (c + 1)) (64 * b + 63)) := Lib.hid (by rw [HBB.out, hnc]; rfl)
            have hua2 : 64 * a ≤ bndN (c + 1) := by omega
            clear hnc
            go_wp2
            go_round
            case rel => exact ⟨64 * a, 64 * b + 63, c + 1, by omega, by omega, by go_num, by go_num, by go_num, hua2, hub, HA2, HB2⟩
            case measure => simp [intOf]; omega
          · have hcn : n - c = 0 := by omega
            have hA0 : LO = a := by rw [HA.out, hcn]; rfl
            have hB0 : HI = b := by rw [HBB.out, hcn]; rfl
            have hleast := fun w => l02Least_any n w (by omega)
            have hL := leastN_le n
            obtain ⟨lo, hlo⟩ : ∃ lo : Int, lo = (a : Int) := ⟨_, rfl⟩
            obtain ⟨hi, hhi⟩ : ∃ hi : Int, hi = (b : Int) := ⟨_, rfl⟩
            obtain ⟨L, hLL⟩ : ∃ L : Int, L = ((leastN n : Nat) : Int) := ⟨_, rfl⟩
            rw [← hLL] at hleast
            rw [← hlo, ← hhi]
            have HLS := Lib.hid hleast
            -- what is answered, of the two ends as they are set
            obtain ⟨lo', hlo'⟩ : ∃ lo' : Int, lo' = ((max a (leastN n) : Nat) : Int) := ⟨_, rfl⟩
            obtain ⟨hi', hhi'⟩ : ∃ hi' : Int, hi' = ((min b 1114111 : Nat) : Int) := ⟨_, rfl⟩
            have HR : Hid (endB n (n - t.size) F = (decide (lo' ≤ hi') && !(decide (55296 ≤ lo') && decide (hi' ≤ 57343)))) := Lib.hid (by
              rw [HE2.out, hA0, hB0, rangeB_max n a b _ _ rfl rfl]
              congr 1
              · exact decide_eq_decide.2 (by omega)
              · congr 2
                · exact decide_eq_decide.2 (by omega)
                · exact decide_eq_decide.2 (by omega))
            have q1 : lo < L ∧ lo' = L ∨ ¬ lo < L ∧ lo' = lo := by omega
            have q2 : 1114111 < hi ∧ hi' = 1114111 ∨ ¬ 1114111 < hi ∧ hi' = hi := by omega
            clear hleast hlo hhi hLL hlo' hhi' hA0 hB0 hcn HE2 HA HBB ha hb ha2 hb2 hL
            rcases q1 with ⟨p1, rfl⟩ | ⟨p1, rfl⟩ <;> rcases q2 with ⟨p2, rfl⟩ | ⟨p2, rfl⟩
            · by_cases r1 : lo' ≤ (1114111 : Int)
              · by_cases r2 : 55296 ≤ lo'
                · by_cases r3 : (1114111 : Int) ≤ 57343
                  · have HV : Hid (endB n (n - t.size) F = false) := Lib.hid (by rw [HR.out, decide_eq_true r1, decide_eq_true r2, decide_eq_true r3]; rfl)
                    clear HR
                    go_wp2_with fail
                    refine (HLS.out _).mono ?_
                    rintro e w2 ⟨rfl, hb2⟩
                    have B2 := Lib.hid hb2
                    clear hb2
                    go_wp2_with fail
                    refine (HLS.out _).mono ?_
                    rintro e w3 ⟨rfl, hb3⟩
                    have B3 := Lib.hid (B2.out.trans (hb3.mono B2.out.size))
                    clear hb3
                    go_wp2_with fail
                    all_goals (go_ret; first | exact ⟨ret_bool HV.out.symm, B3.out⟩ | exact ⟨ret_bool (by rw [HV.out, decide_eq_false (by omega)]; rfl), B3.out⟩)
                  · have HV : Hid (endB n (n - t.size) F = true) := Lib.hid (by rw [HR.out, decide_eq_true r1, decide_eq_true r2, decide_eq_false r3]; rfl)
                    clear HR
                    go_wp2_with fail
                    refine (HLS.out _).mono ?_
                    rintro e w2 ⟨rfl, hb2⟩
                    have B2 := Lib.hid hb2
                    clear hb2
                    go_wp2_with fail
                    refine (HLS.out _).mono ?_
                    rintro e w3 ⟨rfl, hb3⟩
                    have B3 := Lib.hid (B2.out.trans (hb3.mono B2.out.size))
                    clear hb3
                    go_wp2_with fail
                    all_goals (go_ret; first | exact ⟨ret_bool HV.out.symm, B3.out⟩ | exact ⟨ret_bool (by rw [HV.out, decide_eq_false (by omega)]; rfl), B3.out⟩)
                · have HV : Hid (endB n (n - t.size) F = true) := Lib.hid (by rw [HR.out, decide_eq_true r1, decide_eq_false r2]; rfl)
                  clear HR
                  go_wp2_with fail
                  refine (HLS.out _).mono ?_
                  rintro e w2 ⟨rfl, hb2⟩
                  have B2 := Lib.hid hb2
                  clear hb2
                  go_wp2_with fail
                  refine (HLS.out _).mono ?_
                  rintro e w3 ⟨rfl, hb3⟩
                  have B3 := Lib.hid (B2.out.trans (hb3.mono B2.out.size))
                  clear hb3
                  go_wp2_with fail
                  all_goals (go_ret; first | exact ⟨ret_bool HV.out.symm, B3.out⟩ | exact ⟨ret_bool (by rw [HV.out, decide_eq_false (by omega)]; rfl), B3.out⟩)
              · have HV : Hid (endB n (n - t.size) F = false) := Lib.hid (by rw [HR.out, decide_eq_false r1]; rfl)
                clear HR
                go_wp2_with fail
                refine (HLS.out _).mono ?_
                rintro e w2 ⟨rfl, hb2⟩
                have B2 := Lib.hid hb2
                clear hb2
                go_wp2_with fail
                refine (HLS.out _).mono ?_
                rintro e w3 ⟨rfl, hb3⟩
                have B3 := Lib.hid (B2.out.trans (hb3.mono B2.out.size))
                clear hb3
                go_wp2_with fail
                all_goals (go_ret; first | exact ⟨ret_bool HV.out.symm, B3.out⟩ | exact ⟨ret_bool (by rw [HV.out, decide_eq_false (by omega)]; rfl), B3.out⟩)
            · by_cases r1 : lo' ≤ hi'
              · by_cases r2 : 55296 ≤ lo'
                · by_cases r3 : hi' ≤ 57343
                  · have HV : Hid (endB n (n - t.size) F = false) := Lib.hid (by rw [HR.out, decide_eq_true r1, decide_eq_true r2, decide_eq_true r3]; rfl)
                    clear HR
                    go_wp2_with fail
                    refine (HLS.out _).mono ?_
                    rintro e w2 ⟨rfl, hb2⟩
                    have B2 := Lib.hid hb2
                    clear hb2
                    go_wp2_with fail
                    refine (HLS.out _).mono ?_
                    rintro e w3 ⟨rfl, hb3⟩
                    have B3 := Lib.hid (B2.out.trans (hb3.mono B2.out.size))
                    clear hb3
                    go_wp2_with fail
                    all_goals (go_ret; first | exact ⟨ret_bool HV.out.symm, B3.out⟩ | exact ⟨ret_bool (by rw [HV.out, decide_eq_false (by omega)]; rfl), B3.out⟩)
                  · have HV : Hid (endB n (n - t.size) F = true) := Lib.hid (by rw [HR.out, decide_eq_true r1, decide_eq_true r2, decide_eq_false r3]; rfl)
                    clear HR
                    go_wp2_with fail
                    refine (HLS.out _).mono ?_
                    rintro e w2 ⟨rfl, hb2⟩
                    have B2 := Lib.hid hb2
                    clear hb2
                    go_wp2_with fail
                    refine (HLS.out _).mono ?_
                    rintro e w3 ⟨rfl, hb3⟩
                    have B3 := Lib.hid (B2.out.trans (hb3.mono B2.out.size))
                    clear hb3
                    go_wp2_with fail
                    all_goals (go_ret; first | exact ⟨ret_bool HV.out.symm, B3.out⟩ | exact ⟨ret_bool (by rw [HV.out, decide_eq_false (by omega)]; rfl), B3.out⟩)
                · have HV : Hid (endB n (n - t.size) F = true) := Lib.hid (by rw [HR.out, decide_eq_true r1, decide_eq_false r2]; rfl)
                  clear HR
                  go_wp2_with fail
                  refine (HLS.out _).mono ?_
                  rintro e w2 ⟨rfl, hb2⟩
                  have B2 := Lib.hid hb2
                  clear hb2
                  go_wp2_with fail
                  refine (HLS.out _).mono ?_
                  rintro e w3 ⟨rfl, hb3⟩
                  have B3 := Lib.hid (B2.out.trans (hb3.mono B2.out.size))
                  clear hb3
                  go_wp2_with fail
                  all_goals (go_ret; first | exact ⟨ret_bool HV.out.symm, B3.out⟩ | exact ⟨ret_bool (by rw [HV.out, decide_eq_false (by omega)]; rfl), B3.out⟩)
              · have HV : Hid (endB n (n - t.size) F = false) := Lib.hid (by rw [HR.out, decide_eq_false r1]; rfl)
                clear HR
                go_wp2_with fail
                refine (HLS.out _).mono ?_
                rintro e w2 ⟨rfl, hb2⟩
                have B2 := Lib.hid hb2
                clear hb2
                go_wp2_with fail
                refine (HLS.out _).mono ?_
                rintro e w3 ⟨rfl, hb3⟩
                have B3 := Lib.hid (B2.out.trans (hb3.mono B2.out.size))
                clear hb3
                go_wp2_with fail
                all_goals (go_ret; first | exact ⟨ret_bool HV.out.symm, B3.out⟩ | exact ⟨ret_bool (by rw [HV.out, decide_eq_false (by omega)]; rfl), B3.out⟩)
            · by_cases r1 : lo' ≤ (1114111 : Int)
              · by_cases r2 : 55296 ≤ lo'
                · by_cases r3 : (1114111 : Int) ≤ 57343
                  · have HV : Hid (endB n (n - t.size) F = false) := Lib.hid (by rw [HR.out, decide_eq_true r1, decide_eq_true r2, decide_eq_true r3]; rfl)
                    clear HR
                    go_wp2_with fail
                    refine (HLS.out _).mono ?_
                    rintro e w2 ⟨rfl, hb2⟩
                    have B2 := Lib.hid hb2
                    clear hb2
                    go_wp2_with fail
                    all_goals (go_ret; first | exact ⟨ret_bool HV.out.symm, B2.out⟩ | exact ⟨ret_bool (by rw [HV.out, decide_eq_false (by omega)]; rfl), B2.out⟩)
                  · have HV : Hid (endB n (n - t.size) F = true) := Lib.hid (by rw [HR.out, decide_eq_true r1, decide_eq_true r2, decide_eq_false r3]; rfl)
                    clear HR
                    go_wp2_with fail
                    refine (HLS.out _).mono ?_
                    rintro e w2 ⟨rfl, hb2⟩
                    have B2 := Lib.hid hb2
                    clear hb2
                    go_wp2_with fail
                    all_goals (go_ret; first | exact ⟨ret_bool HV.out.symm, B2.out⟩ | exact ⟨ret_bool (by rw [HV.out, decide_eq_false (by omega)]; rfl), B2.out⟩)
                · have HV : Hid (endB n (n - t.size) F = true) := Lib.hid (by rw [HR.out, decide_eq_true r1, decide_eq_false r2]; rfl)
                  clear HR
                  go_wp2_with fail
                  refine (HLS.out _).mono ?_
                  rintro e w2 ⟨rfl, hb2⟩
                  have B2 := Lib.hid hb2
                  clear hb2
                  go_wp2_with fail
                  all_goals (go_ret; first | exact ⟨ret_bool HV.out.symm, B2.out⟩ | exact ⟨ret_bool (by rw [HV.out, decide_eq_false (by omega)]; rfl), B2.out⟩)
              · have HV : Hid (endB n (n - t.size) F = false) := Lib.hid (by rw [HR.out, decide_eq_false r1]; rfl)
                clear HR
                go_wp2_with fail
                refine (HLS.out _).mono ?_
                rintro e w2 ⟨rfl, hb2⟩
                have B2 := Lib.hid hb2
                clear hb2
                go_wp2_with fail
                all_goals (go_ret; first | exact ⟨ret_bool HV.out.symm, B2.out⟩ | exact ⟨ret_bool (by rw [HV.out, decide_eq_false (by omega)]; rfl), B2.out⟩)
            · by_cases r1 : lo' ≤ hi'
              · by_cases r2 : 55296 ≤ lo'
                · by_cases r3 : hi' ≤ 57343
                  · have HV : Hid (endB n (n - t.size) F = false) := Lib.hid (by rw [HR.out, decide_eq_true r1, decide_eq_true r2, decide_eq_true r3]; rfl)
                    clear HR
                    go_wp2_with fail
                    refine (HLS.out _).mono ?_
                    rintro e w2 ⟨rfl, hb2⟩
                    have B2 := Lib.hid hb2
                    clear hb2
                    go_wp2_with fail
                    all_goals (go_ret; first | exact ⟨ret_bool HV.out.symm, B2.out⟩ | exact ⟨ret_bool (by rw [HV.out, decide_eq_false (by omega)]; rfl), B2.out⟩)
                  · have HV : Hid (endB n (n - t.size) F = true) := Lib.hid (by rw [HR.out, decide_eq_true r1, decide_eq_true r2, decide_eq_false r3]; rfl)
                    clear HR
                    go_wp2_with fail
                    refine (HLS.out _).mono ?_
                    rintro e w2 ⟨rfl, hb2⟩
                    have B2 := Lib.hid hb2
                    clear hb2
                    go_wp2_with fail
                    all_goals (go_ret; first | exact ⟨ret_bool HV.out.symm, B2.out⟩ | exact ⟨ret_bool (by rw [HV.out, decide_eq_false (by omega)]; rfl), B2.out⟩)
                · have HV : Hid (endB n (n - t.size) F = true) := Lib.hid (by rw [HR.out, decide_eq_true r1, decide_eq_false r2]; rfl)
                  clear HR
                  go_wp2_with fail
                  refine (HLS.out _).mono ?_
                  rintro e w2 ⟨rfl, hb2⟩
                  have B2 := Lib.hid hb2
                  clear hb2
                  go_wp2_with fail
                  all_goals (go_ret; first | exact ⟨ret_bool HV.out.symm, B2.out⟩ | exact ⟨ret_bool (by rw [HV.out, decide_eq_false (by omega)]; rfl), B2.out⟩)
              · have HV : Hid (endB n (n - t.size) F = false) := Lib.hid (by rw [HR.out, decide_eq_false r1]; rfl)
                clear HR
                go_wp2_with fail
                refine (HLS.out _).mono ?_
                rintro e w2 ⟨rfl, hb2⟩
                have B2 := Lib.hid hb2
                clear hb2
                go_wp2_with fail
                all_goals (go_ret; first | exact ⟨ret_bool HV.out.symm, B2.out⟩ | exact ⟨ret_bool (by rw [HV.out, decide_eq_false (by omega)]; rfl), B2.out⟩)

set_option maxRecDepth 100000 in
set_option maxHeartbeats 1000000 in
theorem specCompl (s : ByteArray) (w : World) (hs : s.size ≤ 100000000) :
    Calls Tryd.prog 29 #[.string s] w fun e w' => e = .returned (.int .i64 ((complB s : Nat) : Int)) ∧ Below w.heap.size w w' := by
  obtain ⟨C, hC⟩ : ∃ C, C = complB s := ⟨_, rfl⟩
  rw [← hC]
  have HC := Lib.hid hC
  clear hC
  go_enter Tryd.func29, Tryd.ntmps29
  go_wp2
  go_loopw [3] (fun k wr => ∃ f j : Nat, f + j = 4 ∧ 1 ≤ j ∧ k = .int .i64 (j : Int) ∧ Hid (C = complFrom s f j) ∧ Below w.heap.size w wr) (fun k _ => 4 - (intOf k).toNat)
  case atStart => exact ⟨3, 1, rfl, Nat.le_refl _, rfl, HC, Below.refl _ _⟩
  case round =>
    obtain ⟨f, j, hfj, hj1, rfl, HF, hbel⟩ := hrel
    by_cases h3 : j ≤ 3
    · have h3' : (j : Int) ≤ 3 := by omega
      obtain ⟨f, rfl⟩ : ∃ f', f = f' + 1 := ⟨f - 1, by omega⟩
      by_cases hjs : j ≤ s.size
      · have hjs' : (j : Int) ≤ (s.size : Int) := by omega
        have hsl := run_tail s ((s.size : Int) - (j : Int)) j hjs rfl
        obtain ⟨t, ht⟩ : ∃ t, t = s.extract (s.size - j) s.size := ⟨_, rfl⟩
        have htz : t.size = j := by rw [ht]; exact tail_size s j hjs
        have hbg := fun W => specBegins t W (by omega) (by omega)
        rw [← ht] at hsl
        have hy := compl_yes s f j hjs
        have hn := compl_no s f j hjs
        rw [← ht] at hy hn
        obtain ⟨b, hb⟩ : ∃ b, b = beginsB t := ⟨_, rfl⟩
        rw [← hb] at hbg hy hn
        have HBG := Lib.hid hbg
        have HY := Lib.hid hy
        have HNO := Lib.hid hn
        have BE := Lib.hid hbel
        clear hbg hy hn hb htz ht hbel
        cases b with
        | true =>
          have HE : Hid (C = s.size - j) := Lib.hid (by rw [HF.out, HY.out rfl])
          go_wp2_with fail
          refine (HBG.out _).mono ?_
          rintro e w2 ⟨rfl, hb2⟩
          have B2 := Lib.hid (BE.out.trans (hb2.mono BE.out.size))
          clear hb2
          go_wp2_with fail
          go_ret
          exact ⟨ret_int (by rw [HE.out]; omega), B2.out⟩
        | false =>
          have HE : Hid (C = complFrom s f (j + 1)) := Lib.hid (by rw [HF.out, HNO.out rfl])
          go_wp2_with fail
          refine (HBG.out _).mono ?_
          rintro e w2 ⟨rfl, hb2⟩
          have B2 := Lib.hid (BE.out.trans (hb2.mono BE.out.size))
          clear hb2
          go_wp2_with fail
          go_roundw
          case rel => exact ⟨f, j + 1, by omega, by omega, by go_num, HE, B2.out⟩
          case measure => simp [intOf]; omega
      · have hjs' : ¬ (j : Int) ≤ (s.size : Int) := by omega
        have HE : Hid (C = s.size) := Lib.hid (by rw [HF.out, compl_end s _ j (.inr hjs)])
        go_wp2
        go_ret
        exact ⟨ret_int (by rw [HE.out]), hbel⟩
    · have h3' : ¬ (j : Int) ≤ 3 := by omega
      have HE : Hid (C = s.size) := Lib.hid (by rw [HF.out, compl_end s f j (.inl (by omega))])
      go_wp2
      go_ret
      exact ⟨ret_int (by rw [HE.out]), hbel⟩
end Go.Proofs.YtaigjiiknmgclaaDoor
