/- The model's RoundWidth and Filling. -/
import Derived.Test.YtkbjegcmpmhmpaaSpecCfg
import Derived.IntWalk
import Derived.Lib.AppendStr
namespace Go.Proofs.Ytkbjegcmpmhmpaa
open Go.RowKit
set_option linter.unusedVariables false

theorem tabs_bounds (n t : Int) (h0 : 0 ≤ n) (h1 : n ≤ 100000) (h2 : 1 ≤ t) (h3 : t ≤ 32) : 0 ≤ (n + t - 1) / t ∧ (n + t - 1) / t ≤ n ∧ 0 ≤ (n + t - 1) / t * t ∧ (n + t - 1) / t * t ≤ 100031 := by
  have e1 := Int.ediv_mul_le (n + t - 1) (show t ≠ 0 by omega)
  have e0 : 0 ≤ (n + t - 1) / t := Int.ediv_nonneg (by omega) (by omega)
  have e2 : (n + t - 1) / t ≤ n := by
    by_cases hn : n = 0
    · have : (n + t - 1) / t = 0 := Int.ediv_eq_zero_of_lt (by omega) (by omega)
      omega
    · refine Int.ediv_le_of_le_mul (by omega) ?_
      obtain ⟨k, rfl⟩ : ∃ k, n = k + 1 := ⟨n - 1, by omega⟩
      obtain ⟨u, rfl⟩ : ∃ u, t = u + 1 := ⟨t - 1, by omega⟩
      have : 0 ≤ k * u := Int.mul_nonneg (by omega) (by omega)
      have e : (k + 1) * (u + 1) = k * u + k + u + 1 := by rw [Int.add_mul, Int.mul_add]; omega
      omega
  have e3 : 0 ≤ (n + t - 1) / t * t := Int.mul_nonneg e0 (by omega)
  exact ⟨e0, e2, e3, by omega⟩
theorem roundC_no (c : Cfg) (n : Int) (h : ¬ (validC c = true ∧ 0 ≤ n ∧ n ≤ 100000)) : roundC c n = 0 := if_neg h
theorem fillC_no (c : Cfg) (n : Int) (h : ¬ (validC c = true ∧ 0 ≤ n ∧ n ≤ 100000)) : fillC c n = ⟨#[]⟩ := if_neg h
theorem fillN_tab (c : Cfg) (n : Int) (h : c.cpad = 9) : fillN c n = ((n + c.ctab - 1) / c.ctab).toNat := if_pos h
theorem fillN_other (c : Cfg) (n : Int) (h : ¬ c.cpad = 9) : fillN c n = n.toNat := if_neg h
theorem fillC_tab (c : Cfg) (n : Int) (hv : validC c = true) (h0 : 0 ≤ n) (h1 : n ≤ 100000) (h : c.cpad = 9) : fillC c n = copies 9 ((n + c.ctab - 1) / c.ctab).toNat := by
  unfold fillC; rw [if_pos ⟨hv, h0, h1⟩, if_pos h, fillN_tab c n h]
theorem fillC_other (c : Cfg) (n : Int) (hv : validC c = true) (h0 : 0 ≤ n) (h1 : n ≤ 100000) (h : ¬ c.cpad = 9) : fillC c n = copies (UInt8.ofNat c.cpad.toNat) n.toNat := by
  unfold fillC; rw [if_pos ⟨hv, h0, h1⟩, if_neg h, fillN_other c n h]
set_option maxHeartbeats 1000000 in
theorem specRound0 (c : Cfg) (n : Int) (w : World) (hv : validC c = true) (h0 : 0 ≤ n) (h1 : n ≤ 100000) :
    Calls Try.prog 19 #[.agg (cfgV c), .int .i64 n] w fun e w' => e = .returned (.int .i64 (roundC c n)) ∧ Below w.heap.size w w' := by
  have ht := (validC_iff c).1 hv
  have hr : roundC c n = if c.cpad = 9 then (n + c.ctab - 1) / c.ctab * c.ctab else n := if_pos ⟨hv, h0, h1⟩
  rw [hr]
  clear hr hv
  obtain ⟨m, t, p, d, fr, fd, fl, fe, fm⟩ := c
  simp only at ht ⊢
  have ht1 : 1 ≤ t := by omega
  have ht2 : t ≤ 32 := by omega
  clear ht
  unfold cfgV
  obtain ⟨b1, b2, b3, b4⟩ := tabs_bounds n t h0 h1 ht1 ht2
  by_cases h9 : d = 9
  · have e9 : (d == 9) = true := by simp [h9]
    rw [if_pos h9]
    clear h9
    go_enter Try.func19, Try.ntmps19
    go_wp2_with fail
    go_quiet (fail)
    go_wp2
    go_ret
    exact ⟨rfl, below_drewN (by go_grown) _⟩
  · have e9 : (d == 9) = false := by simp [h9]
    rw [if_neg h9]
    clear h9
    go_enter Try.func19, Try.ntmps19
    go_wp2
    go_ret
    exact ⟨rfl, by go_grown⟩
set_option maxHeartbeats 1000000 in
theorem specRoundWidth (c : Cfg) (n : Int) (w : World) :
    Calls Try.prog 13 #[.agg (cfgV c), .int .i64 n] w fun e w' => e = .returned (.int .i64 (roundC c n)) ∧ Below w.heap.size w w' := by
  have hS := fun W => specIsConfig c W
  cases hv : validC c with
  | false =>
    rw [roundC_no c n (by rw [hv]; rintro ⟨h, _⟩; cases h)]
    rw [hv] at hS
    have HS := Lib.hid hS
    clear hS hv
    obtain ⟨m, t, p, d, fr, fd, fl, fe, fm⟩ := c
    unfold cfgV at HS ⊢
    simp only at HS ⊢
    go_enter Try.func13, Try.ntmps13
    go_wp2_with fail
    refine (HS.out _).mono ?_
    rintro e w1 ⟨rfl, hb1⟩
    have B1 := Lib.hid ((by go_grown : Below w.heap.size w (w.alloc _)).trans (hb1.mono (by simp)))
    clear hb1
    go_wp2_with fail
    go_ret
    exact ⟨rfl, B1.out⟩
  | true =>
    by_cases hn : 0 ≤ n ∧ n ≤ 100000
    · rw [hv] at hS
      have HS := Lib.hid hS
      have HR := Lib.hid (fun W => specRound0 c n W hv hn.1 hn.2)
      have HIN := Lib.hid (fun W => l01In_yes n 0 100000 W hn)
      clear hS hv
      generalize roundC c n = z at HR ⊢
      obtain ⟨m, t, p, d, fr, fd, fl, fe, fm⟩ := c
      unfold cfgV at HS HR ⊢
      simp only at HS HR ⊢
      clear hn
      go_enter Try.func13, Try.ntmps13
      go_wp2_with fail
      refine (HS.out _).mono ?_
      rintro e w1 ⟨rfl, hb1⟩
      have hbx := (Boxed.new w 25 m t p d fr fd fl fe fm).below hb1 (by simp)
      have B1 := Lib.hid ((by go_grown : Below w.heap.size w (w.alloc _)).trans (hb1.mono (by simp)))
      clear hb1
      obtain ⟨c0, c1, c2, c3, c4, c5, c6, c7, c8⟩ := hbx
      go_wp2_with fail
      refine (HIN.out _).mono ?_
      rintro e w2 ⟨rfl, rfl⟩
      go_wp2_with fail
      refine (HR.out _).mono ?_
      rintro e w3 ⟨rfl, hb3⟩
      have B3 := Lib.hid (B1.out.trans (hb3.mono B1.out.size))
      clear hb3
      go_wp2_with fail
      go_ret
      exact ⟨rfl, B3.out⟩
    · rw [roundC_no c n (by rw [hv]; rintro ⟨_, h⟩; exact hn h)]
      rw [hv] at hS
      have HS := Lib.hid hS
      have HIN := Lib.hid (fun W => l01In_no n 0 100000 W hn)
      clear hS hv hn
      obtain ⟨m, t, p, d, fr, fd, fl, fe, fm⟩ := c
      unfold cfgV at HS ⊢
      simp only at HS ⊢
      go_enter Try.func13, Try.ntmps13
      go_wp2_with fail
      refine (HS.out _).mono ?_
      rintro e w1 ⟨rfl, hb1⟩
      have B1 := Lib.hid ((by go_grown : Below w.heap.size w (w.alloc _)).trans (hb1.mono (by simp)))
      clear hb1
      go_wp2_with fail
      refine (HIN.out _).mono ?_
      rintro e w2 ⟨rfl, rfl⟩
      go_wp2_with fail
      go_ret
      exact ⟨rfl, B1.out⟩
theorem strCells_copies (b : UInt8) (q : Nat) : Lib.strCells (copies b q) = List.replicate q (.int .u8 (b.toNat : Int)) := by
  unfold Lib.strCells copies
  rw [List.toList_toArray, List.map_replicate]
theorem conv_copies (b : UInt8) (W : World) (base : Nat) (v : Value) (q : Nat) (h : W.ownsRow base 5 1 v q (Lib.strCells (copies b q))) :
    (convert 38 9 v).run Try.prog W = .ok (.string (copies b q)) W := by
  rw [strCells_copies] at h
  obtain ⟨A, c, hv, hc⟩ := Rd.of_own h
  rw [List.length_replicate] at hv hc
  subst hv
  by_cases h0 : 0 < q
  · obtain ⟨g, o, rfl, _, hcc⟩ := hc h0
    have hr := run_convert_bytes_back (P := Try.prog) W 38 9 5 ⟨g, o, none⟩ c (List.replicate q b) Try.underlying38 Try.underlying5 Try.underlying9 (by
      intro j hj
      rw [List.length_replicate] at hj
      have e1 : ((⟨g, o, none⟩ : Addr).add j) = ⟨g, o + j, none⟩ := by simp [Addr.add_lit]
      rw [e1]
      refine hcc j _ ?_
      rw [List.getElem?_replicate, if_pos hj, List.getElem_replicate])
    rw [List.length_replicate] at hr
    exact hr
  · obtain rfl : q = 0 := by omega
    cases A with
    | none =>
      rw [run_convert_bytes_string W 38 9 5 none 0 c Try.underlying38 Try.underlying5 Try.underlying9]
      rfl
    | some a => exact run_convert_bytes_back (P := Try.prog) W 38 9 5 a c [] Try.underlying38 Try.underlying5 Try.underlying9 (fun j hj => by cases hj)
theorem copies_snoc (b : UInt8) (q : Nat) : Lib.strCells (copies b q) ++ Lib.strCells ⟨#[b]⟩ = Lib.strCells (copies b (q + 1)) := by
  rw [strCells_copies, strCells_copies, List.replicate_succ']
  rfl
theorem Try.infoByteF : (Try.prog.info? 5).map (fun i => (i.zero, i.size, i.bytes)) = some (some (.int .u8 0), 1, 1) := by kernel_rfl
set_option maxHeartbeats 1000000 in
theorem l02Fill_byte (b : UInt8) (m : Nat) (w : World) (hm : m ≤ 1000000) :
    Calls Try.prog 24 #[.string ⟨#[b]⟩, .int .i64 (m : Int)] w fun e w' => e = .returned (.string (copies b m)) ∧ Below w.heap.size w w' := by
  obtain ⟨i0, hi0, hz0, hz1, hz2⟩ := info_parts Try.infoByteF
  obtain ⟨sb, hsb⟩ : ∃ sb : ByteArray, sb = ⟨#[b]⟩ := ⟨_, rfl⟩
  have hsz : sb.size = 1 := by rw [hsb]; rfl
  have HSB := Lib.hid hsb
  have HSZ := Lib.hid hsz
  rw [← hsb]
  clear hsb hsz
  go_enter Try.func24, Try.ntmps24
  go_wp2
  go_loopw [1, 5] (fun a v wr => ∃ (q r : Nat) (vo : Value), a = .int .i64 (r : Int) ∧ q + r = m ∧ vo = v ∧ wr.ownsRow w.heap.size 5 1 vo q (Lib.strCells (copies b q)) ∧ Below w.heap.size w wr) (fun a _ _ => (intOf a).toNat)
  case atStart => exact ⟨0, m, _, rfl, by omega, rfl, World.ownsRow_lit w _ 0 (Nat.le_refl _) (by unfold maxLen; omega) rfl, (Below.refl _ _).alloc (Nat.le_refl _) _⟩
  case round =>
    obtain ⟨q, r, vo, rfl, hqr, rfl, hoc, hbel⟩ := hrel
    have hq : q ≤ 1000000 := by omega
    have hr2 : (r : Int) ≤ 1000000 := by omega
    have HQ := Lib.hid hqr
    clear hqr
    have hbase : w.heap.size ≤ wr.heap.size := hbel.size
    by_cases hlt : 0 < (r : Int)
    · have OC := hoc
      have BE := Lib.hid hbel
      clear hoc hbel
      go_wp2_with (at_builtin; refine Lib.wpList_append_own_string _ rfl _ _ 38 9 rfl w.heap.size 5 i0 Try.underlying38 Try.underlying9 hi0 hz0 hz1 hz2 vo q _ rfl OC sb rfl (by rw [HSZ.out]; unfold maxLen; omega) (by rw [HSZ.out]; omega) hbase ?_; intro v1 w1 hown1 hg1 _; have O1 := Lib.hid hown1; have B1 := Lib.hid (BE.out.trans (below_of_grown OC hg1 hbase)); clear hown1 hg1 OC)
      go_roundw
      case rel => exact ⟨q + 1, r - 1, v1, by go_num, by have := HQ.out; omega, rfl, by have := O1.out; rw [HSZ.out, HSB.out, copies_snoc] at this; exact this, B1.out⟩
      case measure => simp [intOf]; omega
    · have hcv := conv_copies b wr _ vo q hoc
      obtain rfl : r = 0 := by omega
      have BE := Lib.hid hbel
      clear hoc hbel
      go_wp2
      go_ret
      exact ⟨ret_string (by rw [show q = m by have := HQ.out; omega]), BE.out⟩
theorem byteStrF (W : World) (n : Int) (h0 : 0 ≤ n) (h1 : n ≤ 255) :
    (convert 38 9 (.slice (some ⟨W.heap.size, 0, none⟩) 1 1)).run Try.prog (W.alloc (.cells #[.int .u8 n] 5)) = .ok (.string ⟨#[UInt8.ofNat n.toNat]⟩) (W.alloc (.cells #[.int .u8 n] 5)) := by
  refine run_convert_bytes_back (P := Try.prog) _ 38 9 5 ⟨W.heap.size, 0, none⟩ 1 [UInt8.ofNat n.toNat] Try.underlying38 Try.underlying5 Try.underlying9 ?_
  intro j hj
  match j, hj with
  | 0, _ =>
    have e : (⟨W.heap.size, 0, none⟩ : Addr).add 0 = ⟨W.heap.size, 0, none⟩ := by simp [Addr.add]
    have hc : (W.alloc (.cells #[.int .u8 n] 5)).cell? ⟨W.heap.size, 0, none⟩ = some (.int .u8 n) := by simp
    rw [e, hc]
    simp
    omega
set_option maxHeartbeats 1000000 in
theorem specFilling0 (c : Cfg) (n : Int) (w : World) (hv : validC c = true) (h0 : 0 ≤ n) (h1 : n ≤ 100000) :
    Calls Try.prog 22 #[.agg (cfgV c), .int .i64 n] w fun e w' => e = .returned (.string (fillC c n)) ∧ Below w.heap.size w w' := by
  have ht := (validC_iff c).1 hv
  by_cases h9 : c.cpad = 9
  · rw [fillC_tab c n hv h0 h1 h9]
    have e9 : (c.cpad == 9) = true := by simp [h9]
    clear h9 hv
    obtain ⟨m, t, p, d, fr, fd, fl, fe, fm⟩ := c
    simp only at ht e9 ⊢
    have ht1 : 1 ≤ t := by omega
    have ht2 : t ≤ 32 := by omega
    clear ht
    unfold cfgV
    obtain ⟨b1, b2, b3, b4⟩ := tabs_bounds n t h0 h1 ht1 ht2
    have hF := fun W => l02Fill_byte 9 ((n + t - 1) / t).toNat W (by omega)
    rw [show ((((n + t - 1) / t).toNat : Nat) : Int) = (n + t - 1) / t by omega] at hF
    generalize copies 9 ((n + t - 1) / t).toNat = z at hF ⊢
    have HF := Lib.hid hF
    clear hF
    go_enter Try.func22, Try.ntmps22
    go_wp2_with fail
    refine (HF.out _).mono ?_
    rintro e w1 ⟨rfl, hb1⟩
    have B1 := Lib.hid ((by go_grown : Below w.heap.size w (w.alloc _)).trans (hb1.mono (by simp)))
    clear hb1
    go_wp2_with fail
    go_ret
    exact ⟨rfl, B1.out⟩
  · rw [fillC_other c n hv h0 h1 h9]
    have e9 : (c.cpad == 9) = false := by simp [h9]
    obtain ⟨m, t, p, d, fr, fd, fl, fe, fm⟩ := c
    simp only at ht e9 h9 ⊢
    have hd1 : 32 ≤ d := by omega
    have hd2 : d ≤ 126 := by omega
    clear ht h9 hv
    unfold cfgV
    have hF := fun W => l02Fill_byte (UInt8.ofNat d.toNat) n.toNat W (by omega)
    rw [show ((n.toNat : Nat) : Int) = n by omega] at hF
    have hcv := byteStrF (w.alloc (.cells #[.int .i64 m, .int .i64 t, .int .i64 p, .int .i64 d, .bool fr, .bool fd, .bool fl, .bool fe, .bool fm] 25)) d (by omega) (by omega)
    rw [show (w.alloc (.cells #[.int .i64 m, .int .i64 t, .int .i64 p, .int .i64 d, .bool fr, .bool fd, .bool fl, .bool fe, .bool fm] 25)).heap.size = w.heap.size + 1 by simp] at hcv
    generalize copies (UInt8.ofNat d.toNat) n.toNat = z at hF ⊢
    obtain ⟨x, hx⟩ : ∃ x : ByteArray, x = ⟨#[UInt8.ofNat d.toNat]⟩ := ⟨_, rfl⟩
    rw [← hx] at hF hcv
    have HF := Lib.hid hF
    clear hF hx
    go_enter Try.func22, Try.ntmps22
    go_wp2_with fail
    refine (HF.out _).mono ?_
    rintro e w1 ⟨rfl, hb1⟩
    have B1 := Lib.hid ((by go_grown : Below w.heap.size w ((w.alloc _).alloc _)).trans (hb1.mono (by simp; omega)))
    clear hb1
    go_wp2_with fail
    go_ret
    exact ⟨rfl, B1.out⟩
set_option maxHeartbeats 1000000 in
theorem specFilling (c : Cfg) (n : Int) (w : World) :
    Calls Try.prog 15 #[.agg (cfgV c), .int .i64 n] w fun e w' => e = .returned (.string (fillC c n)) ∧ Below w.heap.size w w' := by
  have hS := fun W => specIsConfig c W
  cases hv : validC c with
  | false =>
    rw [fillC_no c n (by rw [hv]; rintro ⟨h, _⟩; cases h)]
    rw [hv] at hS
    have HS := Lib.hid hS
    clear hS hv
    obtain ⟨m, t, p, d, fr, fd, fl, fe, fm⟩ := c
    unfold cfgV at HS ⊢
    simp only at HS ⊢
    go_enter Try.func15, Try.ntmps15
    go_wp2_with fail
    refine (HS.out _).mono ?_
    rintro e w1 ⟨rfl, hb1⟩
    have B1 := Lib.hid ((by go_grown : Below w.heap.size w (w.alloc _)).trans (hb1.mono (by simp)))
    clear hb1
    go_wp2_with fail
    go_ret
    exact ⟨rfl, B1.out⟩
  | true =>
    by_cases hn : 0 ≤ n ∧ n ≤ 100000
    · rw [hv] at hS
      have HS := Lib.hid hS
      have HR := Lib.hid (fun W => specFilling0 c n W hv hn.1 hn.2)
      have HIN := Lib.hid (fun W => l01In_yes n 0 100000 W hn)
      clear hS hv
      generalize fillC c n = z at HR ⊢
      obtain ⟨m, t, p, d, fr, fd, fl, fe, fm⟩ := c
      unfold cfgV at HS HR ⊢
      simp only at HS HR ⊢
      clear hn
      go_enter Try.func15, Try.ntmps15
      go_wp2_with fail
      refine (HS.out _).mono ?_
      rintro e w1 ⟨rfl, hb1⟩
      have hbx := (Boxed.new w 25 m t p d fr fd fl fe fm).below hb1 (by simp)
      have B1 := Lib.hid ((by go_grown : Below w.heap.size w (w.alloc _)).trans (hb1.mono (by simp)))
      clear hb1
      obtain ⟨c0, c1, c2, c3, c4, c5, c6, c7, c8⟩ := hbx
      go_wp2_with fail
      refine (HIN.out _).mono ?_
      rintro e w2 ⟨rfl, rfl⟩
      go_wp2_with fail
      refine (HR.out _).mono ?_
      rintro e w3 ⟨rfl, hb3⟩
      have B3 := Lib.hid (B1.out.trans (hb3.mono B1.out.size))
      clear hb3
      go_wp2_with fail
      go_ret
      exact ⟨rfl, B3.out⟩
    · rw [fillC_no c n (by rw [hv]; rintro ⟨_, h⟩; exact hn h)]
      rw [hv] at hS
      have HS := Lib.hid hS
      have HIN := Lib.hid (fun W => l01In_no n 0 100000 W hn)
      clear hS hv hn
      obtain ⟨m, t, p, d, fr, fd, fl, fe, fm⟩ := c
      unfold cfgV at HS ⊢
      simp only at HS ⊢
      go_enter Try.func15, Try.ntmps15
      go_wp2_with fail
      refine (HS.out _).mono ?_
      rintro e w1 ⟨rfl, hb1⟩
      have B1 := Lib.hid ((by go_grown : Below w.heap.size w (w.alloc _)).trans (hb1.mono (by simp)))
      clear hb1
      go_wp2_with fail
      refine (HIN.out _).mono ?_
      rintro e w2 ⟨rfl, rfl⟩
      go_wp2_with fail
      go_ret
      exact ⟨rfl, B1.out⟩
end Go.Proofs.Ytkbjegcmpmhmpaa
