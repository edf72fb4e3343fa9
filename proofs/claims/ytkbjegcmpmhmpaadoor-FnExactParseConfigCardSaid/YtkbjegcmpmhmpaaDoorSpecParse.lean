/- ParseInt of the model ends as ParseEnd says. -/
import Derived.Test.YtkbjegcmpmhmpaaDoorSpecFmt
import Derived.Test.YtkbjegcmpmhmpaaDoorDigits
import Derived.Test.YtkbjegcmpmhmpaaDoorParsePre
namespace Go.Proofs.YtkbjegcmpmhmpaaDoor
open Go.RowKit Go.Lib

theorem ret_no {s : ByteArray} (h : NoNum s) : ParseEnd s (.returned (.tuple #[.int .i64 0, .bool false])) := .inr ⟨h, rfl⟩
theorem ret_yes {s : ByteArray} {v : Int} (h : IsNum s v) : ParseEnd s (.returned (.tuple #[.int .i64 v, .bool true])) := .inl ⟨v, h, rfl⟩
theorem cut_first (s : ByteArray) (h : 0 < s.size) : s.data.toList = s[0] :: (s.extract 1 s.size).data.toList := by
  have e : (s.extract 1 s.size).data.toList = s.data.toList.drop 1 := by
    rw [ByteArray.data_extract, Array.toList_extract]
    simp [List.take_of_length_le]
  rw [e]
  have := List.drop_eq_getElem_cons (l := s.data.toList) (i := 0) h
  rw [List.drop_zero] at this
  exact this

set_option maxRecDepth 100000 in
set_option maxHeartbeats 1000000 in
theorem specParse_neg (s : ByteArray) (w : World) (hs : s.size ≤ 1048576) (h0 : 0 < s.size) (hm : s[0].toNat = 45) :
    Calls Tryd.prog 35 #[.string s] w fun e w' => ParseEnd s e ∧ Below w.heap.size w w' := by
  have hm1 : ((s[0].toNat : Int) == 45) = true := by simp; omega
  obtain ⟨t, ht⟩ : ∃ t, t = s.extract 1 s.size := ⟨_, rfl⟩
  have hcut : Cut true s t := by
    show s.data.toList = 45 :: t.data.toList
    rw [ht, cut_first s h0]
    congr 1
    exact UInt8.toNat_inj.1 hm
  have hts : t.size ≤ maxLen := by rw [ht, ByteArray.size_extract]; unfold maxLen; omega
  have HC := Lib.hid hcut
  have HT := Lib.hid ht
  clear ht hcut
  cases hd : digB t.data.toList with
  | false =>
    have HD := Lib.hid hd
    clear hd
    go_enter Tryd.func35, Tryd.ntmps35
    go_wp2_with fail
    rw [← HT.out]
    refine (specIsDigits _ _ hts).mono ?_
    rintro e w' ⟨rfl, rfl⟩
    rw [HD.out]
    go_wp2
    go_ret2
    exact ⟨ret_no (no_digits HC.out HD.out), Below.refl _ _⟩
  | true =>
    have HD := Lib.hid hd
    clear hd
    by_cases hl : (19 : Int) < (t.size : Int)
    · go_enter Tryd.func35, Tryd.ntmps35
      go_wp2_with fail
      rw [← HT.out]
      refine (specIsDigits _ _ hts).mono ?_
      rintro e w' ⟨rfl, rfl⟩
      rw [HD.out]
      go_wp2
      go_ret2
      exact ⟨ret_no (no_long HC.out (by omega)), Below.refl _ _⟩
    · have htl : t.size ≤ 19 := by omega
      go_enter Tryd.func35, Tryd.ntmps35
      go_wp2_with fail
      rw [← HT.out]
      refine (specIsDigits _ _ hts).mono ?_
      rintro e w' ⟨rfl, rfl⟩
      rw [HD.out]
      go_wp2
      go_loop [6, 7, 8] (fun n i _ => ∃ (k : Nat) (a : Nat), k ≤ t.size ∧ i = .int .i64 k ∧ n = .int .i64 (-(a : Int)) ∧ (a : Int) ≤ 9223372036854775808 ∧ Hid (a = nval (t.data.toList.take k))) (fun _ i _ => t.size - (intOf i).toNat)
      case atStart => exact ⟨0, 0, Nat.zero_le _, rfl, rfl, by omega, Lib.hid rfl⟩
      case round =>
        obtain ⟨k, a, hk, rfl, rfl, ha, HA⟩ := hrel
        by_cases hlt : k < t.size
        · obtain ⟨d1, d2⟩ := dig_at HD.out k hlt
          have HST := Lib.hid (nval_step t k hlt)
          by_cases hov : -(a : Int) < (-9223372036854775808 + ((t[k].toNat : Int) - 48)).tdiv 10
          · have HOV := Lib.hid (ov_yes (a : Int) ((t[k].toNat : Int) - 48) (by omega) (by omega) hov)
            go_wp2
            go_ret2
            refine ⟨ret_no (no_great HC.out (k + 1) ?_), Below.refl _ _⟩
            have h1 := HST.out
            have h2 := HOV.out
            have h3 := HA.out
            omega
          · have hb := ov_no (a : Int) ((t[k].toNat : Int) - 48) (by omega) (by omega) hov
            have HST2 := Lib.hid (show a * 10 + (t[k].toNat - 48) = nval (t.data.toList.take (k + 1)) from by rw [HST.out, HA.out])
            clear HST
            go_wp2
            go_round
            case rel => exact ⟨k + 1, a * 10 + (t[k].toNat - 48), by omega, by go_num, by go_num, by omega, HST2⟩
            case measure => simp [intOf]; omega
        · have hkt : k = t.size := by omega
          have HAT := Lib.hid (show a = nval t.data.toList from by rw [HA.out, List.take_of_length_le (by rw [hkt]; exact Nat.le_refl _)])
          clear hkt HA
          by_cases he : fmtB (-(a : Int)) = s
          · have hb := sne_no he
            have HE := Lib.hid he
            clear he
            go_wp2_with (go_at_call 32; refine (specFormatInt _ _ (by omega) (by omega)).mono ?_; rintro e w1 ⟨rfl, hb1⟩)
            go_ret2
            exact ⟨ret_yes ⟨⟨by omega, by omega⟩, HE.out⟩, by assumption⟩
          · have hb := sne_yes he
            go_wp2_with (go_at_call 32; refine (specFormatInt _ _ (by omega) (by omega)).mono ?_; rintro e w1 ⟨rfl, hb1⟩)
            go_ret2
            exact ⟨ret_no (no_other HC.out (by rw [← HAT.out]; exact he)), by assumption⟩

set_option maxRecDepth 100000 in
set_option maxHeartbeats 1000000 in
theorem specParse_pos (s : ByteArray) (w : World) (hs : s.size ≤ 1048576) (h0 : 0 < s.size) (hm : s[0].toNat ≠ 45) :
    Calls Tryd.prog 35 #[.string s] w fun e w' => ParseEnd s e ∧ Below w.heap.size w w' := by
  have hm1 : ((s[0].toNat : Int) == 45) = false := by simp; omega
  have hcut : Cut false s s := by
    refine ⟨rfl, fun r hr => ?_⟩
    rw [cut_first s h0] at hr
    injection hr with hr _
    apply hm
    rw [hr]; rfl
  have hts : s.size ≤ maxLen := by unfold maxLen; omega
  have HC := Lib.hid hcut
  clear hcut hm
  cases hd : digB s.data.toList with
  | false =>
    have HD := Lib.hid hd
    clear hd
    go_enter Tryd.func35, Tryd.ntmps35
    go_wp2_with fail
    skip
    refine (specIsDigits _ _ hts).mono ?_
    rintro e w' ⟨rfl, rfl⟩
    rw [HD.out]
    go_wp2
    go_ret2
    exact ⟨ret_no (no_digits HC.out HD.out), Below.refl _ _⟩
  | true =>
    have HD := Lib.hid hd
    clear hd
    by_cases hl : (19 : Int) < (s.size : Int)
    · go_enter Tryd.func35, Tryd.ntmps35
      go_wp2_with fail
      skip
      refine (specIsDigits _ _ hts).mono ?_
      rintro e w' ⟨rfl, rfl⟩
      rw [HD.out]
      go_wp2
      go_ret2
      exact ⟨ret_no (no_long HC.out (by omega)), Below.refl _ _⟩
    · have htl : s.size ≤ 19 := by omega
      go_enter Tryd.func35, Tryd.ntmps35
      go_wp2_with fail
      skip
      refine (specIsDigits _ _ hts).mono ?_
      rintro e w' ⟨rfl, rfl⟩
      rw [HD.out]
      go_wp2
      go_loop [6, 7, 8] (fun n i _ => ∃ (k : Nat) (a : Nat), k ≤ s.size ∧ i = .int .i64 k ∧ n = .int .i64 (-(a : Int)) ∧ (a : Int) ≤ 9223372036854775808 ∧ Hid (a = nval (s.data.toList.take k))) (fun _ i _ => s.size - (intOf i).toNat)
      case atStart => exact ⟨0, 0, Nat.zero_le _, rfl, rfl, by omega, Lib.hid rfl⟩
      case round =>
        obtain ⟨k, a, hk, rfl, rfl, ha, HA⟩ := hrel
        by_cases hlt : k < s.size
        · obtain ⟨d1, d2⟩ := dig_at HD.out k hlt
          have HST := Lib.hid (nval_step s k hlt)
          by_cases hov : -(a : Int) < (-9223372036854775808 + ((s[k].toNat : Int) - 48)).tdiv 10
          · have HOV := Lib.hid (ov_yes (a : Int) ((s[k].toNat : Int) - 48) (by omega) (by omega) hov)
            go_wp2
            go_ret2
            refine ⟨ret_no (no_great HC.out (k + 1) ?_), Below.refl _ _⟩
            have h1 := HST.out
            have h2 := HOV.out
            have h3 := HA.out
            omega
          · have hb := ov_no (a : Int) ((s[k].toNat : Int) - 48) (by omega) (by omega) hov
            have HST2 := Lib.hid (show a * 10 + (s[k].toNat - 48) = nval (s.data.toList.take (k + 1)) from by rw [HST.out, HA.out])
            clear HST
            go_wp2
            go_round
            case rel => exact ⟨k + 1, a * 10 + (s[k].toNat - 48), by omega, by go_num, by go_num, by omega, HST2⟩
            case measure => simp [intOf]; omega
        · have hkt : k = s.size := by omega
          have HAT := Lib.hid (show a = nval s.data.toList from by rw [HA.out, List.take_of_length_le (by rw [hkt]; exact Nat.le_refl _)])
          clear hkt HA
          by_cases hmin : (a : Int) = 9223372036854775808
          · have hb0 : (-(a : Int) == -9223372036854775808) = true := by simp; omega
            have HM := Lib.hid hmin
            clear hmin
            go_wp2
            go_ret2
            exact ⟨ret_no (no_edge HC.out (by have h1 := HM.out; have h2 := HAT.out; omega)), Below.refl _ _⟩
          · have hb0 : (-(a : Int) == -9223372036854775808) = false := by simp; omega
            have ha2 : (a : Int) ≤ 9223372036854775807 := by omega
            clear hmin
            by_cases he : fmtB (a : Int) = s
            · have hb := sne_no he
              have HE := Lib.hid he
              clear he
              go_wp2_with (go_at_call 32; refine (specFormatInt _ _ (by omega) (by omega)).mono ?_; rintro e w1 ⟨rfl, hb1⟩)
              go_ret2
              exact ⟨ret_yes ⟨⟨by omega, by omega⟩, HE.out⟩, by assumption⟩
            · have hb := sne_yes he
              go_wp2_with (go_at_call 32; refine (specFormatInt _ _ (by omega) (by omega)).mono ?_; rintro e w1 ⟨rfl, hb1⟩)
              go_ret2
              exact ⟨ret_no (no_other HC.out (by rw [← HAT.out]; exact he)), by assumption⟩

theorem specParse_empty (s : ByteArray) (w : World) (h0 : s.size = 0) :
    Calls Tryd.prog 35 #[.string s] w fun e w' => ParseEnd s e ∧ Below w.heap.size w w' := by
  have hnil : s.data.toList = [] := List.length_eq_zero_iff.1 (by rw [bytes_length]; exact h0)
  have hd : digB s.data.toList = false := by rw [hnil]; rfl
  have hcut : Cut false s s := ⟨rfl, fun r hr => by rw [hnil] at hr; cases hr⟩
  have hts : s.size ≤ maxLen := by unfold maxLen; omega
  have h1 : ¬ (0 : Int) < (s.size : Int) := by omega
  have HD := Lib.hid hd
  have HC := Lib.hid hcut
  clear hd hcut hnil h0
  go_enter Tryd.func35, Tryd.ntmps35
  go_wp2_with fail
  refine (specIsDigits _ _ hts).mono ?_
  rintro e w' ⟨rfl, rfl⟩
  rw [HD.out]
  go_wp2
  go_ret2
  exact ⟨ret_no (no_digits HC.out HD.out), Below.refl _ _⟩

theorem specParse (s : ByteArray) (w : World) (hs : s.size ≤ 1048576) :
    Calls Tryd.prog 35 #[.string s] w fun e w' => ParseEnd s e ∧ Below w.heap.size w w' := by
  by_cases h0 : 0 < s.size
  · by_cases hm : s[0].toNat = 45
    · exact specParse_neg s w hs h0 hm
    · exact specParse_pos s w hs h0 hm
  · exact specParse_empty s w (by omega)
end Go.Proofs.YtkbjegcmpmhmpaaDoor
