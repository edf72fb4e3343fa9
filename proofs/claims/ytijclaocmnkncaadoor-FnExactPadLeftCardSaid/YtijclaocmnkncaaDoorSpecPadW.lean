/- The model's FitWidth and its paddings. -/
import Derived.Test.YtijclaocmnkncaaDoorSpecWidth
namespace Go.Proofs.YtijclaocmnkncaaDoor
open Go.RowKit
set_option linter.unusedVariables false

set_option maxRecDepth 100000 in
set_option maxHeartbeats 1000000 in
theorem specFitWidth (s : ByteArray) (n : Int) (w : World) (hs : s.size ≤ 100000000) :
    Calls Tryd.prog 21 #[.string s, .int .i64 n] w fun e w' => e = .returned (.string (fitB s n)) ∧ Below w.heap.size w w' := by
  by_cases hneg : n < 0
  · have e : fitB s n = ⟨#[]⟩ := if_pos hneg
    rw [e]
    clear e
    go_enter Tryd.func21, Tryd.ntmps21
    go_wp2
    go_ret
    exact ⟨rfl, Below.refl _ _⟩
  · have e : fitB s n = s.extract 0 (fitFrom s n.toNat 0 0) := if_neg hneg
    rw [e]
    clear e
    have hRW := fun r w => specRuneWidth r w
    have HRW := Lib.hid hRW
    clear hRW
    obtain ⟨N, hN⟩ : ∃ N, N = n.toNat := ⟨_, rfl⟩
    rw [← hN]
    have HN := Lib.hid hN
    clear hN
    go_enter Tryd.func21, Tryd.ntmps21
    go_wp2
    go_loopw [5, 6] (fun a b wr => ∃ (i t : Nat), i ≤ s.size ∧ t ≤ 2 * i ∧ a = .int .i64 (i : Int) ∧ b = .int .i64 (t : Int) ∧ Below w.heap.size w wr ∧ Hid (fitFrom s N i t = fitFrom s N 0 0)) (fun a _ _ => s.size - (intOf a).toNat)
    case atStart => exact ⟨0, 0, Nat.zero_le _, Nat.zero_le _, rfl, rfl, Below.refl _ _, Lib.hid rfl⟩
    case round =>
      obtain ⟨i, t, hi, ht, rfl, rfl, hbel, HF⟩ := hrel
      by_cases hlt : i < s.size
      · have hcl := ch_len s i hlt
        have hca := fun W => specDecode s i W hlt (by omega)
        have hstop := fit_stop s N i t hlt
        have hgo := fit_go s N i t hlt
        have hz2 := rw1_le (ch s i).1
        obtain ⟨c, hc⟩ : ∃ c, c = (ch s i).1 := ⟨_, rfl⟩
        obtain ⟨m, hm⟩ : ∃ m, m = (ch s i).2 := ⟨_, rfl⟩
        rw [← hc] at hz2 hstop
        rw [← hc, ← hm] at hca hgo
        rw [← hm] at hcl
        have hcall := fun w => HRW.out c w
        obtain ⟨z, hz⟩ : ∃ z, z = rw1 c := ⟨_, rfl⟩
        rw [← hz] at hz2 hstop hcall hgo
        have HSTOP := Lib.hid hstop
        have HGO := Lib.hid hgo
        have HCA := Lib.hid hca
        have HCL := Lib.hid hcall
        have BE := Lib.hid hbel
        clear hstop hgo hca hcall hc hm hz hbel
        have ht2 : t ≤ 200000000 := by omega
        by_cases hgt : n < (t : Int) + (z : Int)
        · have HE := Lib.hid (HSTOP.out (by have := HN.out; omega))
          go_wp2_with fail
          refine (HCA.out _).mono ?_
          rintro e w1 ⟨rfl, hb1⟩
          have B1 := Lib.hid (BE.out.trans (hb1.mono BE.out.size))
          clear hb1
          go_wp2_with fail
          refine (HCL.out _).mono ?_
          rintro e w2 ⟨rfl, hb2⟩
          have B2 := Lib.hid (B1.out.trans (hb2.mono B1.out.size))
          clear hb2
          go_wp2_with fail
          go_ret
          exact ⟨ret_string (by rw [← HF.out, HE.out]), B2.out⟩
        · have HE := Lib.hid (HGO.out (by have := HN.out; omega))
          go_wp2_with fail
          refine (HCA.out _).mono ?_
          rintro e w1 ⟨rfl, hb1⟩
          have B1 := Lib.hid (BE.out.trans (hb1.mono BE.out.size))
          clear hb1
          go_wp2_with fail
          refine (HCL.out _).mono ?_
          rintro e w2 ⟨rfl, hb2⟩
          have B2 := Lib.hid (B1.out.trans (hb2.mono B1.out.size))
          clear hb2
          go_wp2_with fail
          refine (HCL.out _).mono ?_
          rintro e w3 ⟨rfl, hb3⟩
          have B3 := Lib.hid (B2.out.trans (hb3.mono B2.out.size))
          clear hb3
          go_wp2_with fail
          go_roundw
          case rel => exact ⟨i + m, t + z, by omega, by omega, by go_num, by go_num, B3.out, Lib.hid (HE.out.symm.trans HF.out)⟩
          case measure => simp [intOf]; omega
      · have HE := Lib.hid (fit_end s N i t hlt)
        have BE := Lib.hid hbel
        clear hbel
        go_wp2
        go_ret
        exact ⟨ret_string (by rw [← HF.out, HE.out]), BE.out⟩

theorem l02Max_pos (a : Int) (w : World) (h : 0 < a) :
    Calls Tryd.prog 49 #[.int .i64 a, .int .i64 0] w fun e w' => e = .returned (.int .i64 a) ∧ w = w' := by
  go_enter Tryd.func49, Tryd.ntmps49
  go_wp2
  go_ret
  exact ⟨rfl, rfl⟩
theorem l02Max_neg (a : Int) (w : World) (h : ¬ 0 < a) :
    Calls Tryd.prog 49 #[.int .i64 a, .int .i64 0] w fun e w' => e = .returned (.int .i64 0) ∧ w = w' := by
  go_enter Tryd.func49, Tryd.ntmps49
  go_wp2
  go_ret
  exact ⟨rfl, rfl⟩
theorem l02Max_any (a : Int) (w : World) :
    Calls Tryd.prog 49 #[.int .i64 a, .int .i64 0] w fun e w' => e = .returned (.int .i64 (a.toNat : Int)) ∧ w = w' := by
  by_cases h : 0 < a
  · rw [show ((a.toNat : Nat) : Int) = a by omega]; exact l02Max_pos a w h
  · rw [show ((a.toNat : Nat) : Int) = 0 by omega]; exact l02Max_neg a w h

set_option maxHeartbeats 400000 in
theorem l03Room_any (s : ByteArray) (n : Int) (w : World) (hs : s.size ≤ 100000000) :
    Calls Tryd.prog 38 #[.string s, .int .i64 n] w fun e w' => e = .returned (.int .i64 (roomB s n : Int)) ∧ Below w.heap.size w w' := by
  by_cases h1 : 100000 < n
  · rw [show roomB s n = 0 from if_pos (.inl h1)]
    go_enter Tryd.func38, Tryd.ntmps38
    go_wp2
    go_ret
    exact ⟨rfl, Below.refl _ _⟩
  · by_cases h2 : n < 0
    · rw [show roomB s n = 0 from if_pos (.inr h2)]
      go_enter Tryd.func38, Tryd.ntmps38
      go_wp2
      go_ret
      exact ⟨rfl, Below.refl _ _⟩
    · rw [show roomB s n = (n - (textW s : Int)).toNat from if_neg (by omega)]
      have htl := textW_le s
      have hc := fun w => specTextWidth s w hs
      obtain ⟨t, ht⟩ : ∃ t, t = textW s := ⟨_, rfl⟩
      rw [← ht] at htl hc ⊢
      have hm := fun w => l02Max_any (n - (t : Int)) w
      obtain ⟨z, hz⟩ : ∃ z : Int, z = ((n - (t : Int)).toNat : Nat) := ⟨_, rfl⟩
      rw [← hz] at hm ⊢
      have HC := Lib.hid hc
      have HM := Lib.hid hm
      have ht2 : t ≤ 200000000 := by omega
      clear hc hm hz ht htl
      go_enter Tryd.func38, Tryd.ntmps38
      go_wp2_with fail
      refine (HC.out _).mono ?_
      rintro e w1 ⟨rfl, hb1⟩
      have B1 := Lib.hid hb1
      clear hb1
      go_wp2_with fail
      refine (HM.out _).mono ?_
      rintro e w2 ⟨rfl, rfl⟩
      go_wp2_with fail
      go_ret
      exact ⟨rfl, B1.out⟩

theorem strCells_spaces (q : Nat) : Lib.strCells (spaces q) = List.replicate q (.int .u8 32) := by
  unfold Lib.strCells spaces
  rw [List.toList_toArray, List.map_replicate]
  rfl
theorem conv_spaces (W : World) (base : Nat) (v : Value) (q : Nat) (h : W.ownsRow base 5 1 v q (Lib.strCells (spaces q))) :
    (convert 22 9 v).run Tryd.prog W = .ok (.string (spaces q)) W := by
  rw [strCells_spaces] at h
  obtain ⟨A, c, hv, hc⟩ := Rd.of_own h
  rw [List.length_replicate] at hv hc
  subst hv
  by_cases h0 : 0 < q
  · obtain ⟨g, o, rfl, _, hcc⟩ := hc h0
    have hr := run_convert_bytes_back (P := Tryd.prog) W 22 9 5 ⟨g, o, none⟩ c (List.replicate q 32) Tryd.underlying22 Tryd.underlying5 Tryd.underlying9 (by
      intro j hj
      rw [List.length_replicate] at hj
      have e1 : ((⟨g, o, none⟩ : Addr).add j) = ⟨g, o + j, none⟩ := by simp [Addr.add_lit]
      rw [e1]
      refine hcc j _ ?_
      rw [List.getElem?_replicate, if_pos hj, List.getElem_replicate]
      rfl)
    rw [List.length_replicate] at hr
    exact hr
  · obtain rfl : q = 0 := by omega
    cases A with
    | none =>
      rw [run_convert_bytes_string W 22 9 5 none 0 c Tryd.underlying22 Tryd.underlying5 Tryd.underlying9]
      rfl
    | some a => exact run_convert_bytes_back (P := Tryd.prog) W 22 9 5 a c [] Tryd.underlying22 Tryd.underlying5 Tryd.underlying9 (fun j hj => by cases hj)
theorem spaces_snoc (q : Nat) : Lib.strCells (spaces q) ++ Lib.strCells ⟨#[32]⟩ = Lib.strCells (spaces (q + 1)) := by
  rw [strCells_spaces, strCells_spaces, List.replicate_succ']
  rfl
theorem Tryd.infoByteW : (Tryd.prog.info? 5).map (fun i => (i.zero, i.size, i.bytes)) = some (some (.int .u8 0), 1, 1) := by kernel_rfl

set_option maxHeartbeats 1000000 in
theorem l02Fill_any (m : Nat) (w : World) (hm : m ≤ 1000000) :
    Calls Tryd.prog 37 #[.string ⟨#[32]⟩, .int .i64 (m : Int)] w fun e w' => e = .returned (.string (spaces m)) ∧ Below w.heap.size w w' := by
  obtain ⟨i0, hi0, hz0, hz1, hz2⟩ := info_parts Tryd.infoByteW
  go_enter Tryd.func37, Tryd.ntmps37
  go_wp2
  go_loopw [1, 5] (fun a b wr => ∃ (q r : Nat) (vo : Value), a = .int .i64 (r : Int) ∧ q + r = m ∧ vo = b ∧ wr.ownsRow w.heap.size 5 1 vo q (Lib.strCells (spaces q)) ∧ Below w.heap.size w wr) (fun a _ _ => (intOf a).toNat)
  case atStart => exact ⟨0, m, _, rfl, by omega, rfl, World.ownsRow_lit w _ 0 (Nat.le_refl _) (by unfold maxLen; omega) rfl, (Below.refl _ _).alloc (Nat.le_refl _) _⟩
  case round =>
    obtain ⟨q, r, vo, rfl, hqr, rfl, hoc, hbel⟩ := hrel
    have hq : q ≤ 1000000 := by omega
    have hr2 : (r : Int) ≤ 1000000 := by omega
    have HQ := Lib.hid hqr
    clear hqr
    have hbase : w.heap.size ≤ wr.heap.size := hbel.size
    by_cases hlt : 0 < (r : Int)
    · have OC := hoc
      have BE := Lib.hid hbel
      clear hoc hbel
      go_wp2_with (at_builtin; refine Lib.wpList_append_own_string _ rfl _ _ 22 9 rfl w.heap.size 5 i0 Tryd.underlying22 Tryd.underlying9 hi0 hz0 hz1 hz2 vo q _ rfl OC ⟨#[32]⟩ rfl (by show q + 1 ≤ _; unfold maxLen; omega) (by show q + 1 ≤ _; omega) hbase ?_; intro v1 w1 hown1 hg1 _; have O1 := Lib.hid hown1; have B1 := Lib.hid (BE.out.trans (below_of_grown OC hg1 hbase)); clear hown1 hg1 OC)
      go_roundw
      case rel => exact ⟨q + 1, r - 1, v1, by go_num, by have := HQ.out; omega, rfl, by have := O1.out; rw [spaces_snoc] at this; exact this, B1.out⟩
      case measure => simp [intOf]; omega
    · have hcv := conv_spaces wr _ vo q hoc
      obtain rfl : r = 0 := by omega
      have BE := Lib.hid hbel
      clear hoc hbel
      go_wp2
      go_ret
      exact ⟨ret_string (by rw [show q = m by have := HQ.out; omega]), BE.out⟩
theorem pad_add {P : Program} {w : World} (a b : ByteArray) (h : a.size + b.size ≤ 9223372036854775807) : (Op.stringOp .add a b).run P w = .ok (.string (a ++ b)) w :=
  run_string_add_sum _ _ _ h
set_option maxHeartbeats 400000 in
theorem specPadRight (s : ByteArray) (n : Int) (w : World) (hs : s.size ≤ 100000000) :
    Calls Tryd.prog 22 #[.string s, .int .i64 n] w fun e w' => e = .returned (.string (padR s n)) ∧ Below w.heap.size w w' := by
  unfold padR
  have hr := roomB_le s n
  have hroom := fun w => l03Room_any s n w hs
  obtain ⟨m, hm⟩ : ∃ m, m = roomB s n := ⟨_, rfl⟩
  rw [← hm] at hr hroom ⊢
  have HR := Lib.hid hroom
  have HF := Lib.hid (fun w => l02Fill_any m w (by omega))
  have hadd := fun w => pad_add (P := Tryd.prog) (w := w) s (spaces m) (by rw [spaces_size]; omega)
  clear hroom hm
  go_enter Tryd.func22, Tryd.ntmps22
  go_wp2_with fail
  refine (HR.out _).mono ?_
  rintro e w1 ⟨rfl, hb1⟩
  have B1 := Lib.hid hb1
  clear hb1
  go_wp2_with fail
  refine (HF.out _).mono ?_
  rintro e w2 ⟨rfl, hb2⟩
  have B2 := Lib.hid (B1.out.trans (hb2.mono B1.out.size))
  clear hb2
  go_wp2_with fail
  go_ret
  exact ⟨rfl, B2.out⟩
set_option maxHeartbeats 400000 in
theorem specPadLeft (s : ByteArray) (n : Int) (w : World) (hs : s.size ≤ 100000000) :
    Calls Tryd.prog 23 #[.string s, .int .i64 n] w fun e w' => e = .returned (.string (padL s n)) ∧ Below w.heap.size w w' := by
  unfold padL
  have hr := roomB_le s n
  have hroom := fun w => l03Room_any s n w hs
  obtain ⟨m, hm⟩ : ∃ m, m = roomB s n := ⟨_, rfl⟩
  rw [← hm] at hr hroom ⊢
  have HR := Lib.hid hroom
  have HF := Lib.hid (fun w => l02Fill_any m w (by omega))
  have hadd := fun w => pad_add (P := Tryd.prog) (w := w) (spaces m) s (by rw [spaces_size]; omega)
  clear hroom hm
  go_enter Tryd.func23, Tryd.ntmps23
  go_wp2_with fail
  refine (HR.out _).mono ?_
  rintro e w1 ⟨rfl, hb1⟩
  have B1 := Lib.hid hb1
  clear hb1
  go_wp2_with fail
  refine (HF.out _).mono ?_
  rintro e w2 ⟨rfl, hb2⟩
  have B2 := Lib.hid (B1.out.trans (hb2.mono B1.out.size))
  clear hb2
  go_wp2_with fail
  go_ret
  exact ⟨rfl, B2.out⟩
set_option maxHeartbeats 400000 in
theorem specPadBoth (s : ByteArray) (n : Int) (w : World) (hs : s.size ≤ 100000000) :
    Calls Tryd.prog 24 #[.string s, .int .i64 n] w fun e w' => e = .returned (.string (padC s n)) ∧ Below w.heap.size w w' := by
  unfold padC
  have hr := roomB_le s n
  have hroom := fun w => l03Room_any s n w hs
  obtain ⟨m, hm⟩ : ∃ m, m = roomB s n := ⟨_, rfl⟩
  rw [← hm] at hr hroom ⊢
  have HR := Lib.hid hroom
  have HF := Lib.hid (fun w => l02Fill_any (m / 2) w (by omega))
  have HG := Lib.hid (fun w => l02Fill_any (m - m / 2) w (by omega))
  have hadd := fun w => pad_add (P := Tryd.prog) (w := w) (spaces (m / 2)) s (by rw [spaces_size]; omega)
  have hadd2 := fun w => pad_add (P := Tryd.prog) (w := w) (spaces (m / 2) ++ s) (spaces (m - m / 2)) (by rw [ByteArray.size_append, spaces_size, spaces_size]; omega)
  have hc1 : (((m / 2 : Nat)) : Int) = (m : Int) / 2 := by omega
  have hc2 : (((m - m / 2 : Nat)) : Int) = (m : Int) - (m : Int) / 2 := by omega
  rw [hc1] at HF
  rw [hc2] at HG
  clear hroom hm hc1 hc2
  go_enter Tryd.func24, Tryd.ntmps24
  go_wp2_with fail
  refine (HR.out _).mono ?_
  rintro e w1 ⟨rfl, hb1⟩
  have B1 := Lib.hid hb1
  clear hb1
  go_wp2_with fail
  refine (HF.out _).mono ?_
  rintro e w2 ⟨rfl, hb2⟩
  have B2 := Lib.hid (B1.out.trans (hb2.mono B1.out.size))
  clear hb2
  go_wp2_with fail
  refine (HG.out _).mono ?_
  rintro e w3 ⟨rfl, hb3⟩
  have B3 := Lib.hid (B2.out.trans (hb3.mono B2.out.size))
  clear hb3
  go_wp2_with fail
  go_ret
  exact ⟨rfl, B3.out⟩
end Go.Proofs.YtijclaocmnkncaaDoor
