/- The model's RunesOf, CutRunes, IsText, DecodeAt. -/
import Derived.Test.YtaigjiiknmgclaaDoorSpecChars
import Derived.Test.YtaigjiiknmgclaaDoorMemI
namespace Go.Proofs.YtaigjiiknmgclaaDoor
open Go.RowKit
set_option linter.unusedVariables false

theorem Tryd.infoIntS : (Tryd.prog.info? 3).map (fun i => (i.zero, i.size, i.bytes)) = some (some (.int .i64 0), 1, 8) := by kernel_rfl
theorem Tryd.infoStrS : (Tryd.prog.info? 9).map (fun i => (i.zero, i.size, i.bytes)) = some (some (.string ByteArray.empty), 1, 16) := by kernel_rfl

set_option maxRecDepth 100000 in
set_option maxHeartbeats 1000000 in
theorem specRunesOf (s : ByteArray) (w : World) (hs : s.size ≤ 100000000) :
    Calls Tryd.prog 20 #[.string s] w fun e w' => ∃ v, e = .returned v ∧ w'.ownsRow w.heap.size 3 1 v (runesB s).length (ints (runesB s)) ∧ Below w.heap.size w w' := by
  obtain ⟨i0, hi0, hz0, hz1, hz2⟩ := info_parts Tryd.infoIntS
  go_enter Tryd.func20, Tryd.ntmps20
  go_wp2
  go_loopw [3, 4] (fun o f wr => ∃ (i : Nat) (oc : List Int) (vo : Value), i ≤ s.size ∧ f = .int .i64 (i : Int) ∧ vo = o ∧ wr.ownsRow w.heap.size 3 1 vo oc.length (ints oc) ∧ Below w.heap.size w wr ∧ Hid (oc ++ runesFrom s i = runesB s)) (fun _ f _ => s.size - (intOf f).toNat)
  case atStart => exact ⟨0, [], _, Nat.zero_le _, rfl, rfl, World.ownsRow_lit w _ 0 (Nat.le_refl _) (by unfold maxLen; omega) rfl, (Below.refl _ _).alloc (Nat.le_refl _) _, Lib.hid rfl⟩
  case round =>
    obtain ⟨i, oc, vo, hi, rfl, rfl, hoc, hbel, HR⟩ := hrel
    have l1 : oc.length ≤ s.size := by have := out_length HR.out; have := runesB_length s; omega
    by_cases hlt : i < s.size
    · have hcl := ch_len s i hlt
      have hca := fun W => specDecode s i W hlt (by omega)
      have hr := runes_step s i oc hlt HR.out
      obtain ⟨c, hc⟩ : ∃ c, c = (ch s i).1 := ⟨_, rfl⟩
      obtain ⟨m, hm⟩ : ∃ m, m = (ch s i).2 := ⟨_, rfl⟩
      rw [← hc, ← hm] at hca
      rw [← hc, ← hm] at hr
      rw [← hm] at hcl
      have HR2 := Lib.hid hr
      have HCA := Lib.hid hca
      have OC := Lib.hid hoc
      have BE := Lib.hid hbel
      clear hr hca hc hm hoc hbel
      go_wp2_with fail
      refine (HCA.out _).mono ?_
      rintro e w1 ⟨rfl, hb1⟩
      have OC1 := own_below OC.out hb1
      have B1 := Lib.hid (BE.out.trans (hb1.mono BE.out.size))
      have hbase : w.heap.size ≤ w1.heap.size := B1.out.size
      clear hb1
      go_wp2_with (at_builtin; refine append_one rfl _ _ 28 rfl w.heap.size 3 i0 _ 8 Tryd.underlying28 hi0 hz0 hz1 hz2 rfl vo _ _ rfl w1 (.int .i64 c) rfl rfl OC1 (by omega) (by omega) hbase ?_; intro v1 w2 hown2 hbel2; have OC2 := Lib.hid hown2; have B2 := Lib.hid (B1.out.trans hbel2); clear hown2 hbel2 OC1)
      go_roundw
      case rel => exact ⟨i + m, oc ++ [c], v1, by omega, by go_num, rfl, by rw [ints_snoc, List.length_append]; exact OC2.out, B2.out, HR2⟩
      case measure => simp [intOf]; omega
    · have HD := Lib.hid (runes_done s i oc hlt HR.out)
      have OC := Lib.hid hoc
      have BE := Lib.hid hbel
      clear hoc hbel
      go_wp2
      go_ret
      have a := HD.out
      subst a
      exact ⟨_, rfl, OC.out, BE.out⟩

set_option maxRecDepth 100000 in
set_option maxHeartbeats 1000000 in
theorem specCutRunes (s : ByteArray) (w : World) (hs : s.size ≤ 100000000) :
    Calls Tryd.prog 24 #[.string s] w fun e w' => ∃ v, e = .returned v ∧ w'.ownsRow w.heap.size 9 1 v (cutsB s).length (strs (cutsB s)) ∧ Below w.heap.size w w' := by
  obtain ⟨i0, hi0, hz0, hz1, hz2⟩ := info_parts Tryd.infoStrS
  go_enter Tryd.func24, Tryd.ntmps24
  go_wp2
  go_loopw [3, 4] (fun o f wr => ∃ (i : Nat) (oc : List ByteArray) (vo : Value), i ≤ s.size ∧ f = .int .i64 (i : Int) ∧ vo = o ∧ wr.ownsRow w.heap.size 9 1 vo oc.length (strs oc) ∧ Below w.heap.size w wr ∧ Hid (oc ++ cutsFrom s i = cutsB s)) (fun _ f _ => s.size - (intOf f).toNat)
  case atStart => exact ⟨0, [], _, Nat.zero_le _, rfl, rfl, World.ownsRow_lit w _ 0 (Nat.le_refl _) (by unfold maxLen; omega) rfl, (Below.refl _ _).alloc (Nat.le_refl _) _, Lib.hid rfl⟩
  case round =>
    obtain ⟨i, oc, vo, hi, rfl, rfl, hoc, hbel, HR⟩ := hrel
    have l1 : oc.length ≤ s.size := by have := outs_length HR.out; have := cutsB_length s; have := runesB_length s; omega
    by_cases hlt : i < s.size
    · have hcl := ch_len s i hlt
      have hca := fun W => specDecode s i W hlt (by omega)
      have hr := cuts_step s i oc hlt HR.out
      obtain ⟨c, hc⟩ : ∃ c, c = (ch s i).1 := ⟨_, rfl⟩
      obtain ⟨m, hm⟩ : ∃ m, m = (ch s i).2 := ⟨_, rfl⟩
      rw [← hc, ← hm] at hca
      rw [← hm] at hcl hr
      have HR2 := Lib.hid hr
      have HCA := Lib.hid hca
      have OC := Lib.hid hoc
      have BE := Lib.hid hbel
      have hsl : ∀ w, (Instr.slice 9 (.string s) (some (.int .i64 (i : Int))) (some (.int .i64 ((i : Int) + (m : Int)))) none).run Tryd.prog w = .ok (.string (s.extract i (i + m))) w := fun w => by
        rw [run_slice_string (P := Tryd.prog) w 9 s .i64 .i64 (i : Int) ((i : Int) + (m : Int)) Tryd.underlying9 (by omega) (by omega) (by omega)]
        simp only [Int.toNat_natCast, show ((i : Int) + (m : Int)).toNat = i + m by omega]
      clear hr hca hc hm hoc hbel
      go_wp2_with fail
      refine (HCA.out _).mono ?_
      rintro e w1 ⟨rfl, hb1⟩
      have OC1 := own_below OC.out hb1
      have B1 := Lib.hid (BE.out.trans (hb1.mono BE.out.size))
      have hbase : w.heap.size ≤ w1.heap.size := B1.out.size
      clear hb1
      go_wp2_with (at_builtin; refine append_one rfl _ _ 26 rfl w.heap.size 9 i0 _ 16 Tryd.underlying26 hi0 hz0 hz1 hz2 rfl vo _ _ rfl w1 (.string (s.extract i (i + m))) rfl rfl OC1 (by omega) (by omega) hbase ?_; intro v1 w2 hown2 hbel2; have OC2 := Lib.hid hown2; have B2 := Lib.hid (B1.out.trans hbel2); clear hown2 hbel2 OC1)
      go_roundw
      case rel => exact ⟨i + m, oc ++ [s.extract i (i + m)], v1, by omega, by go_num, rfl, by rw [strs_snoc2, List.length_append]; exact OC2.out, B2.out, HR2⟩
      case measure => simp [intOf]; omega
    · have HD := Lib.hid (cuts_done s i oc hlt HR.out)
      have OC := Lib.hid hoc
      have BE := Lib.hid hbel
      clear hoc hbel
      go_wp2
      go_ret
      have a := HD.out
      subst a
      exact ⟨_, rfl, OC.out, BE.out⟩

/-- Does the list of codes hold no bad one? -/
def goodB (L : List Int) : Bool := !L.contains (-1)
theorem good_step (L : List Int) (k : Nat) (hk : k < L.length) (h : L[k] ≠ -1) (hb : (L.take k).contains (-1) = false) : (L.take (k + 1)).contains (-1) = false := by
  rw [List.take_succ_eq_append_getElem hk]
  simp only [List.contains_eq_mem, decide_eq_false_iff_not, List.mem_append, List.mem_singleton] at hb ⊢
  intro h2
  rcases h2 with h2 | h2
  · exact hb h2
  · exact h h2.symm
theorem good_no (L : List Int) (k : Nat) (hk : k < L.length) (h : L[k] = -1) : goodB L = false := by
  unfold goodB
  have : L.contains (-1) = true := by rw [List.contains_iff_mem, ← h]; exact List.getElem_mem hk
  rw [this]; rfl
theorem good_yes (L : List Int) (k : Nat) (hk : ¬ k < L.length) (hb : (L.take k).contains (-1) = false) : goodB L = true := by
  rw [List.take_of_length_le (by omega)] at hb
  unfold goodB; rw [hb]; rfl

set_option maxHeartbeats 1000000 in
theorem specIsText (s : ByteArray) (w : World) (hs : s.size ≤ 100000000) :
    Calls Tryd.prog 28 #[.string s] w fun e w' => e = .returned (.bool (goodB (runesB s))) ∧ Below w.heap.size w w' := by
  have hln := runesB_length s
  have HC := Lib.hid (specRunesOf s w hs)
  obtain ⟨L, hL⟩ : ∃ L, L = runesB s := ⟨_, rfl⟩
  rw [← hL] at HC hln ⊢
  clear hL
  obtain ⟨n, hn⟩ : ∃ n, n = L.length := ⟨_, rfl⟩
  rw [← hn] at hln
  have HN := Lib.hid hn
  clear hn
  go_enter Tryd.func28, Tryd.ntmps28
  go_wp2_with fail
  refine HC.out.mono ?_
  rintro e w1 ⟨v, rfl, h1, h2⟩
  obtain ⟨A, c, hv, hcell⟩ := Rd.of_own h1
  rw [ints_length] at hv hcell
  rw [← HN.out] at hv hcell
  subst hv
  have HCE := Lib.hid hcell
  have H2 := Lib.hid h2
  clear h1 h2 hcell
  go_wp2_with fail
  go_loop [8] (fun k => ∃ q : Nat, q ≤ n ∧ k = .int .i64 (q : Int) ∧ Hid ((L.take q).contains (-1) = false)) (fun k => n - (intOf k).toNat)
  case atStart => exact ⟨0, Nat.zero_le _, rfl, Lib.hid rfl⟩
  case round =>
    obtain ⟨q, hq, rfl, HG⟩ := hrel
    by_cases hlt : q < n
    · have hqL : q < L.length := by rw [← HN.out]; exact hlt
      obtain ⟨g, o, rfl, hgl, hcc⟩ := HCE.out (by omega)
      have hc0 := hcc q _ (ints_get L q hqL)
      obtain ⟨x, hx⟩ : ∃ x, x = L[q] := ⟨_, rfl⟩
      rw [← hx] at hc0
      have HX := Lib.hid hx
      clear hx hcc
      by_cases hb : x = -1
      · have hb2 : (x == -1) = true := by simp [hb]
        have HNO := Lib.hid (good_no L q hqL (by rw [← HX.out]; exact hb))
        clear hb
        go_wp2
        go_ret
        exact ⟨ret_bool HNO.out.symm, H2.out⟩
      · have hb2 : (x == -1) = false := by rw [beq_eq_false_iff_ne]; exact hb
        have HST := Lib.hid (good_step L q hqL (by rw [← HX.out]; exact hb) HG.out)
        clear hb
        go_wp2
        go_round
        case rel => exact ⟨q + 1, by omega, by go_num, HST⟩
        case measure => simp [intOf]; omega
    · have HY := Lib.hid (good_yes L q (by rw [← HN.out]; exact hlt) HG.out)
      go_wp2
      go_ret
      exact ⟨ret_bool HY.out.symm, H2.out⟩

set_option maxRecDepth 100000 in
theorem specDecodeAt_in (s : ByteArray) (i : Nat) (w : World) (h : i < s.size) (hs : s.size ≤ 100000000) :
    Calls Tryd.prog 19 #[.string s, .int .i64 (i : Int)] w fun e w' => e = .returned (.tuple #[.int .i64 (ch s i).1, .int .i64 ((ch s i).2 : Int)]) ∧ Below w.heap.size w w' := by
  have HC := Lib.hid (specDecode s i w h (by omega))
  have HI := Lib.hid (fun w => l01In_yes (i : Int) 0 ((s.size : Int) - 1) w ⟨by omega, by omega⟩)
  obtain ⟨c, hc⟩ : ∃ c, c = (ch s i).1 := ⟨_, rfl⟩
  obtain ⟨m, hm⟩ : ∃ m, m = (ch s i).2 := ⟨_, rfl⟩
  rw [← hc, ← hm] at HC
  rw [← hc, ← hm]
  clear hc hm
  go_enter Tryd.func19, Tryd.ntmps19
  go_wp2_with fail
  refine (HI.out _).mono ?_
  rintro e w1 ⟨rfl, rfl⟩
  go_wp2_with fail
  refine HC.out.mono ?_
  rintro e w1 ⟨rfl, hb1⟩
  go_wp2_with fail
  go_ret2
  exact ⟨rfl, hb1⟩
theorem specDecodeAt_out (s : ByteArray) (i : Int) (w : World) (h : i < 0 ∨ (s.size : Int) ≤ i) (hs : s.size ≤ 100000000) :
    Calls Tryd.prog 19 #[.string s, .int .i64 i] w fun e w' => e = .returned (.tuple #[.int .i64 (-1), .int .i64 0]) ∧ w = w' := by
  have HI := Lib.hid (fun w => l01In_no i 0 ((s.size : Int) - 1) w (by omega))
  clear h
  go_enter Tryd.func19, Tryd.ntmps19
  go_wp2_with fail
  refine (HI.out _).mono ?_
  rintro e w1 ⟨rfl, rfl⟩
  go_wp2_with fail
  go_ret2
  exact ⟨rfl, rfl⟩
end Go.Proofs.YtaigjiiknmgclaaDoor
