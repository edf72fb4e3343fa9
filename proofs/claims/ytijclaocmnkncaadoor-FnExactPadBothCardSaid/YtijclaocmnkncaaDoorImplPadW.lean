/- The program's TextWidth, FitWidth and paddings. -/
import Derived.Test.YtijclaocmnkncaaDoorImplWidth
import Derived.Test.YtijclaocmnkncaaDoorSpecPadW
import Derived.Lib.Repeat
namespace Go.Proofs.YtijclaocmnkncaaDoor
open Go.RowKit
set_option linter.unusedVariables false

/-- The decoder's tables and the table of widths are as they are laid. -/
def WT (w : World) : Prop := Tabs w ∧ WTab w
theorem WT.below {w w' : World} (h : WT w) (hb : Below w.heap.size w w') : WT w' := ⟨h.1.below hb, h.2.below hb⟩

set_option maxHeartbeats 1000000 in
theorem implTextWidth (s : ByteArray) (w : World) (hs : s.size ≤ 100000000) (hT : WT w) :
    Calls Tryd.prog 15 #[.string s] w fun e w' => e = .returned (.int .i64 (textW s : Int)) ∧ Below w.heap.size w w' := by
  have HC := Lib.hid (implRunesOf s w hs hT.1)
  have hlen := runesB_length s
  have hRW := fun r W (h : WTab W) => implRuneWidth r W h
  have HRW := Lib.hid hRW
  have HT := Lib.hid hT.2
  clear hRW hT
  unfold textW
  obtain ⟨L, hL⟩ : ∃ L, L = runesB s := ⟨_, rfl⟩
  rw [← hL] at HC hlen ⊢
  obtain ⟨n, hn⟩ : ∃ n, n = L.length := ⟨_, rfl⟩
  have HN := Lib.hid hn
  rw [← hn] at HC hlen
  clear hL hn
  go_enter Tryd.func15, Tryd.ntmps15
  go_wp2_with fail
  refine HC.out.mono ?_
  rintro e w1 ⟨v, rfl, h1, h2⟩
  obtain ⟨A, c, hv, hcell⟩ := Rd.of_own h1
  rw [ints_length, ← HN.out] at hv
  rw [ints_length, ← HN.out] at hcell
  subst hv
  have HCE := Lib.hid hcell
  have H2 := Lib.hid h2
  have hw1 : w.heap.size ≤ w1.heap.size := h2.size
  clear h1 h2 hcell
  go_wp2_with fail
  go_loopw [3, 9] (fun a k wr => ∃ (q : Nat), q ≤ n ∧ k = .int .i64 (q : Int) ∧ a = .int .i64 (widthL (L.take q) : Int) ∧ Below w1.heap.size w1 wr) (fun _ k _ => n - (intOf k).toNat)
  case atStart => exact ⟨0, Nat.zero_le _, rfl, rfl, Below.refl _ _⟩
  case round =>
    obtain ⟨q, hq, rfl, rfl, hbel⟩ := hrel
    by_cases hlt : q < n
    · have hqL : q < L.length := by rw [← HN.out]; exact hlt
      obtain ⟨g, o, rfl, hgl, hcc⟩ := HCE.out (by omega)
      have hcw : wr.cell? ⟨g, o + q, none⟩ = some (.int .i64 L[q]) := (hbel.cell (p := ⟨g, o + q, none⟩) hgl).trans (hcc q _ (ints_get L q hqL))
      have hst := widthL_take L q hqL
      have hle := widthL_take_le L q
      have hle2 := rw1_le L[q]
      have hle3 : widthL (L.take q) ≤ 200000000 := by have := HN.out; omega
      obtain ⟨x, hx⟩ : ∃ x, x = L[q] := ⟨_, rfl⟩
      rw [← hx] at hcw hst hle2
      obtain ⟨z, hz⟩ : ∃ z, z = rw1 x := ⟨_, rfl⟩
      have hcall := fun W h => HRW.out x W h
      rw [← hz] at hst hle2 hcall
      obtain ⟨t, ht⟩ : ∃ t, t = widthL (L.take q) := ⟨_, rfl⟩
      rw [← ht] at hst hle hle3
      rw [← ht]
      have HST := Lib.hid hst
      have HCL := Lib.hid hcall
      have BE := Lib.hid hbel
      clear hst hcall hx hz ht hcc hbel
      go_wp2_with fail
      refine (HCL.out _ (HT.out.below (H2.out.trans (BE.out.mono hw1)))).mono ?_
      rintro e w2 ⟨rfl, hb2⟩
      have B2 := Lib.hid (BE.out.trans (hb2.mono BE.out.size))
      clear hb2
      go_wp2_with fail
      go_roundw
      case rel => exact ⟨q + 1, by omega, by go_num, by rw [HST.out]; go_num, B2.out⟩
      case measure => simp [intOf]; omega
    · have hw := Lib.hid (widthL_whole L q (by rw [← HN.out]; exact hlt))
      have BE := Lib.hid hbel
      clear hbel
      go_wp2
      go_ret
      exact ⟨ret_int (by rw [hw.out]), H2.out.trans (BE.out.mono hw1)⟩

set_option maxRecDepth 100000 in
set_option maxHeartbeats 1000000 in
theorem implFitWidth (s : ByteArray) (n : Int) (w : World) (hs : s.size ≤ 100000000) (hn2 : n ≤ 9223372036854775807) (hT : WT w) :
    Calls Tryd.prog 14 #[.string s, .int .i64 n] w fun e w' => e = .returned (.string (fitB s n)) ∧ Below w.heap.size w w' := by
  by_cases hneg : n < 0
  · have e : fitB s n = ⟨#[]⟩ := if_pos hneg
    rw [e]
    clear e hT
    go_enter Tryd.func14, Tryd.ntmps14
    go_wp2
    go_ret
    exact ⟨rfl, Below.refl _ _⟩
  · have e : fitB s n = s.extract 0 (fitFrom s n.toNat 0 0) := if_neg hneg
    rw [e]
    clear e
    have HRW := Lib.hid (fun r W (h : WTab W) => implRuneWidth r W h)
    have HT := Lib.hid hT
    obtain ⟨N, hN⟩ : ∃ N, N = n.toNat := ⟨_, rfl⟩
    rw [← hN]
    have HN := Lib.hid hN
    clear hN hT
    go_enter Tryd.func14, Tryd.ntmps14
    go_wp2
    go_loopw [5, 6] (fun b a wr => ∃ (i t : Nat), i ≤ s.size ∧ t ≤ 2 * i ∧ (t : Int) ≤ n ∧ a = .int .i64 (i : Int) ∧ b = .int .i64 (n - (t : Int)) ∧ Below w.heap.size w wr ∧ Hid (fitFrom s N i t = fitFrom s N 0 0)) (fun _ a _ => s.size - (intOf a).toNat)
    case atStart => exact ⟨0, 0, Nat.zero_le _, Nat.zero_le _, by omega, rfl, by go_num, Below.refl _ _, Lib.hid rfl⟩
    case round =>
      obtain ⟨i, t, hi, ht, htn, rfl, rfl, hbel, HF⟩ := hrel
      by_cases hlt : i < s.size
      · have hcl := ch_len s i hlt
        have hca := fun W (h : Tabs W) => implDecodeAt_in s i W hlt (by omega) h
        have hstop := fit_stop s N i t hlt
        have hgo := fit_go s N i t hlt
        have hz2 := rw1_le (ch s i).1
        obtain ⟨c, hc⟩ : ∃ c, c = (ch s i).1 := ⟨_, rfl⟩
        obtain ⟨m, hm⟩ : ∃ m, m = (ch s i).2 := ⟨_, rfl⟩
        rw [← hc] at hz2 hstop
        rw [← hc, ← hm] at hca hgo
        rw [← hm] at hcl
        have hcall := fun W h => HRW.out c W h
        obtain ⟨z, hz⟩ : ∃ z, z = rw1 c := ⟨_, rfl⟩
        rw [← hz] at hz2 hstop hcall hgo
        have HSTOP := Lib.hid hstop
        have HGO := Lib.hid hgo
        have HCA := Lib.hid hca
        have HCL := Lib.hid hcall
        have BE := Lib.hid hbel
        clear hstop hgo hca hcall hc hm hz hbel
        have ht2 : t ≤ 200000000 := by omega
        by_cases hgt : n - (t : Int) - (z : Int) < 0
        · have HE := Lib.hid (HSTOP.out (by have := HN.out; omega))
          go_wp2_with fail
          refine (HCA.out _ (HT.out.below BE.out).1).mono ?_
          rintro e w1 ⟨rfl, hb1⟩
          have B1 := Lib.hid (BE.out.trans (hb1.mono BE.out.size))
          clear hb1
          go_wp2_with fail
          refine (HCL.out _ (HT.out.below B1.out).2).mono ?_
          rintro e w2 ⟨rfl, hb2⟩
          have B2 := Lib.hid (B1.out.trans (hb2.mono B1.out.size))
          clear hb2
          go_wp2_with fail
          go_ret
          exact ⟨ret_string (by rw [← HF.out, HE.out]), B2.out⟩
        · have HE := Lib.hid (HGO.out (by have := HN.out; omega))
          go_wp2_with fail
          refine (HCA.out _ (HT.out.below BE.out).1).mono ?_
          rintro e w1 ⟨rfl, hb1⟩
          have B1 := Lib.hid (BE.out.trans (hb1.mono BE.out.size))
          clear hb1
          go_wp2_with fail
          refine (HCL.out _ (HT.out.below B1.out).2).mono ?_
          rintro e w2 ⟨rfl, hb2⟩
          have B2 := Lib.hid (B1.out.trans (hb2.mono B1.out.size))
          clear hb2
          go_wp2_with fail
          go_roundw
          case rel => exact ⟨i + m, t + z, by omega, by omega, by omega, by go_num, by rw [show n - ((t + z : Nat) : Int) = n - (t : Int) - (z : Int) by omega], B2.out, Lib.hid (HE.out.symm.trans HF.out)⟩
          case measure => simp [intOf]; omega
      · have HE := Lib.hid (fit_end s N i t hlt)
        have BE := Lib.hid hbel
        clear hbel
        go_wp2
        go_ret
        exact ⟨ret_string (by rw [← HF.out, HE.out]), BE.out⟩

set_option maxHeartbeats 400000 in
theorem missing_any (s : ByteArray) (n : Int) (w : World) (hs : s.size ≤ 100000000) (hT : WT w) :
    Calls Tryd.prog 33 #[.string s, .int .i64 n] w fun e w' => e = .returned (.int .i64 (roomB s n : Int)) ∧ Below w.heap.size w w' := by
  by_cases h2 : n < 0
  · rw [show roomB s n = 0 from if_pos (.inr h2)]
    clear hT
    go_enter Tryd.func33, Tryd.ntmps33
    go_wp2
    go_ret
    exact ⟨rfl, Below.refl _ _⟩
  · by_cases h1 : 100000 < n
    · rw [show roomB s n = 0 from if_pos (.inl h1)]
      clear hT
      go_enter Tryd.func33, Tryd.ntmps33
      go_wp2
      go_ret
      exact ⟨rfl, Below.refl _ _⟩
    · rw [show roomB s n = (n - (textW s : Int)).toNat from if_neg (by omega)]
      have htl := textW_le s
      have hc := fun W (h : WT W) => implTextWidth s W hs h
      obtain ⟨t, ht⟩ : ∃ t, t = textW s := ⟨_, rfl⟩
      rw [← ht] at htl hc ⊢
      have hz : max 0 (n - (t : Int)) = (((n - (t : Int)).toNat : Nat) : Int) := by omega
      rw [← hz]
      have HC := Lib.hid (hc _ hT)
      have ht2 : t ≤ 200000000 := by omega
      clear hc hz ht htl hT
      go_enter Tryd.func33, Tryd.ntmps33
      go_wp2_with fail
      refine HC.out.mono ?_
      rintro e w1 ⟨rfl, hb1⟩
      have B1 := Lib.hid hb1
      clear hb1
      go_wp2_with fail
      go_ret
      exact ⟨rfl, B1.out⟩

theorem repeat_spaces (k : Nat) : (⟨(Lib.repeatL (⟨#[32]⟩ : ByteArray).data.toList k).toArray⟩ : ByteArray) = spaces k := by
  have e : ∀ j, Lib.repeatL [32] j = List.replicate j (32 : UInt8) := by
    intro j
    induction j with
    | zero => rfl
    | succ j ih => show [32] ++ Lib.repeatL [32] j = _; rw [ih]; rfl
  unfold spaces
  rw [← e k]
theorem repeat_any (k : Nat) (w : World) (h : k ≤ 1000000) :
    Calls Tryd.prog 44 #[.string ⟨#[32]⟩, .int .i64 (k : Int)] w fun e w' => e = .returned (.string (spaces k)) ∧ Below w.heap.size w w' := by
  have := Tryd.strings_Repeat ⟨#[32]⟩ k w (by omega) (by show 1 * k ≤ _; omega)
  rw [repeat_spaces] at this
  exact this
set_option maxHeartbeats 400000 in
theorem padSides_any (s : ByteArray) (a b : Nat) (w : World) (hs : s.size ≤ 100000000) (ha : a ≤ 1000000) (hb : b ≤ 1000000) :
    Calls Tryd.prog 32 #[.string s, .int .i64 (a : Int), .int .i64 (b : Int)] w fun e w' => e = .returned (.string (spaces a ++ s ++ spaces b)) ∧ Below w.heap.size w w' := by
  have HA := Lib.hid (fun W => repeat_any a W ha)
  have HB := Lib.hid (fun W => repeat_any b W hb)
  have hadd := fun w => pad_add (P := Tryd.prog) (w := w) (spaces a) s (by rw [spaces_size]; omega)
  have hadd2 := fun w => pad_add (P := Tryd.prog) (w := w) (spaces a ++ s) (spaces b) (by rw [ByteArray.size_append, spaces_size, spaces_size]; omega)
  go_enter Tryd.func32, Tryd.ntmps32
  go_wp2_with fail
  refine (HA.out _).mono ?_
  rintro e w1 ⟨rfl, hb1⟩
  have B1 := Lib.hid hb1
  clear hb1
  go_wp2_with fail
  refine (HB.out _).mono ?_
  rintro e w2 ⟨rfl, hb2⟩
  have B2 := Lib.hid (B1.out.trans (hb2.mono B1.out.size))
  clear hb2
  go_wp2_with fail
  go_ret
  exact ⟨rfl, B2.out⟩

theorem spaces_zero : spaces 0 = ⟨#[]⟩ := rfl
theorem empty_pad (s : ByteArray) : (⟨#[]⟩ : ByteArray) ++ s = s := by apply ByteArray.ext; simp
theorem pad_empty (s : ByteArray) : s ++ (⟨#[]⟩ : ByteArray) = s := by apply ByteArray.ext; simp
theorem implPadRight (s : ByteArray) (n : Int) (w : World) (hs : s.size ≤ 100000000) (hT : WT w) :
    Calls Tryd.prog 16 #[.string s, .int .i64 n] w fun e w' => e = .returned (.string (padR s n)) ∧ Below w.heap.size w w' := by
  unfold padR
  have hr := roomB_le s n
  have HM := Lib.hid (missing_any s n w hs hT)
  have hp := fun W => padSides_any s 0 (roomB s n) W hs (by omega) (by omega)
  rw [spaces_zero, empty_pad] at hp
  obtain ⟨m, hm⟩ : ∃ m, m = roomB s n := ⟨_, rfl⟩
  rw [← hm] at HM hp ⊢
  have HP := Lib.hid hp
  clear hp hm hT
  go_enter Tryd.func16, Tryd.ntmps16
  go_wp2_with fail
  refine HM.out.mono ?_
  rintro e w1 ⟨rfl, hb1⟩
  have B1 := Lib.hid hb1
  clear hb1
  go_wp2_with fail
  refine (HP.out _).mono ?_
  rintro e w2 ⟨rfl, hb2⟩
  have B2 := Lib.hid (B1.out.trans (hb2.mono B1.out.size))
  clear hb2
  go_wp2_with fail
  go_ret
  exact ⟨rfl, B2.out⟩
theorem implPadLeft (s : ByteArray) (n : Int) (w : World) (hs : s.size ≤ 100000000) (hT : WT w) :
    Calls Tryd.prog 17 #[.string s, .int .i64 n] w fun e w' => e = .returned (.string (padL s n)) ∧ Below w.heap.size w w' := by
  unfold padL
  have hr := roomB_le s n
  have HM := Lib.hid (missing_any s n w hs hT)
  have hp := fun W => padSides_any s (roomB s n) 0 W hs (by omega) (by omega)
  rw [spaces_zero, pad_empty] at hp
  obtain ⟨m, hm⟩ : ∃ m, m = roomB s n := ⟨_, rfl⟩
  rw [← hm] at HM hp ⊢
  have HP := Lib.hid hp
  clear hp hm hT
  go_enter Tryd.func17, Tryd.ntmps17
  go_wp2_with fail
  refine HM.out.mono ?_
  rintro e w1 ⟨rfl, hb1⟩
  have B1 := Lib.hid hb1
  clear hb1
  go_wp2_with fail
  refine (HP.out _).mono ?_
  rintro e w2 ⟨rfl, hb2⟩
  have B2 := Lib.hid (B1.out.trans (hb2.mono B1.out.size))
  clear hb2
  go_wp2_with fail
  go_ret
  exact ⟨rfl, B2.out⟩
theorem implPadBoth (s : ByteArray) (n : Int) (w : World) (hs : s.size ≤ 100000000) (hT : WT w) :
    Calls Tryd.prog 18 #[.string s, .int .i64 n] w fun e w' => e = .returned (.string (padC s n)) ∧ Below w.heap.size w w' := by
  unfold padC
  have hr := roomB_le s n
  have HM := Lib.hid (missing_any s n w hs hT)
  have hp := fun W => padSides_any s (roomB s n / 2) (roomB s n - roomB s n / 2) W hs (by omega) (by omega)
  obtain ⟨m, hm⟩ : ∃ m, m = roomB s n := ⟨_, rfl⟩
  rw [← hm] at HM hp hr ⊢
  have hc1 : (((m / 2 : Nat)) : Int) = (m : Int) / 2 := by omega
  have hc2 : (((m - m / 2 : Nat)) : Int) = (m : Int) - (m : Int) / 2 := by omega
  rw [hc1, hc2] at hp
  have HP := Lib.hid hp
  clear hp hm hT hc1 hc2
  go_enter Tryd.func18, Tryd.ntmps18
  go_wp2_with fail
  refine HM.out.mono ?_
  rintro e w1 ⟨rfl, hb1⟩
  have B1 := Lib.hid hb1
  clear hb1
  go_wp2_with fail
  refine (HP.out _).mono ?_
  rintro e w2 ⟨rfl, hb2⟩
  have B2 := Lib.hid (B1.out.trans (hb2.mono B1.out.size))
  clear hb2
  go_wp2_with fail
  go_ret
  exact ⟨rfl, B2.out⟩
end Go.Proofs.YtijclaocmnkncaaDoor
