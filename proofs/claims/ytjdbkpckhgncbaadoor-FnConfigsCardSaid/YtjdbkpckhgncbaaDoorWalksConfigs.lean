/- The walk of the law: configurations are recovered from their text. -/
import Derived.Test.YtjdbkpckhgncbaaDoorBE
import Derived.Test.YtjdbkpckhgncbaaDoorImplPrsC
import Derived.Test.YtjdbkpckhgncbaaDoorImplFill
namespace Go.Proofs.YtjdbkpckhgncbaaDoor
open Go.RowKit
set_option linter.unusedVariables false

theorem fmtCB_size (c : Cfg) (h : validC c = true) : (fmtCB c).size ≤ 200 := by
  have ht := (validC_iff c).1 h
  have h1 := fmtB_size c.cmin (by omega) (by omega)
  have h2 := fmtB_size c.ctab (by omega) (by omega)
  have h3 := fmtB_size c.cpadding (by omega) (by omega)
  have h4 := fmtB_size c.cpad (by omega) (by omega)
  have h5 := tailB_size c
  have e1 : (⟨#[44]⟩ : ByteArray).size = 1 := rfl
  have e2 : (⟨#[32]⟩ : ByteArray).size = 1 := rfl
  rw [← fmt_sum c h]
  simp only [ByteArray.size_append]
  omega
set_option maxRecDepth 100000 in
set_option maxHeartbeats 4000000 in
theorem law_FnConfigs (w : World) (A : Option Addr) (len cap : Nat) (zs : List Int) (hz : IsBytes w A len cap zs) (hL : Pow w ∧ Errs w) :
    Calls Tryd.prog 3 #[.slice A len cap] w fun e w' => e = .returned (.bool true) ∧ Below w.heap.size w w' := by
  have hlc := hz.1
  have hcm := hz.2.1
  have HZ := Lib.hid hz
  have HL := Lib.hid hL
  clear hz hL
  by_cases h : (1048576 : Int) < (len : Int)
  · go_enter Tryd.func3, Tryd.ntmps3
    go_wp2
    go_ret
    exact ⟨rfl, Below.refl _ _⟩
  · go_enter Tryd.func3, Tryd.ntmps3
    go_wp2_with fail
    refine (makeConfig_any A len cap zs w HZ.out).mono ?_
    rintro e w1 ⟨⟨c, hv, rfl⟩, hb1⟩
    have B1 := Lib.hid (hb1.alloc hb1.size (.cells (cfgV c) 24))
    have HBC := Lib.hid (Blk.new w1 24 (cfgV c))
    have ht := (validC_iff c).1 hv
    have hxs := fmtCB_size c hv
    have HP0 := Lib.hid (show ParseC (fmtCB c) c true from .inl ⟨rfl, hv, rfl⟩)
    have HF := Lib.hid (fun W hp => implFormatConfig c W hp)
    have HPR := Lib.hid (fun W hl => implParseConfig (fmtCB c) W (by omega) hl)
    have HRW := Lib.hid (fun N W => implRoundWidth c N W)
    have HIC := Lib.hid (fun W => (by have := implIsConfig c W; rw [hv] at this; exact this : Calls Tryd.prog 13 #[.agg (cfgV c)] W fun e w' => e = .returned (.bool true) ∧ Below W.heap.size W w'))
    have HID := Lib.hid (fun W => (by have := implIsConfig defC W; rw [def_valid] at this; exact this : Calls Tryd.prog 13 #[.agg (cfgV defC)] W fun e w' => e = .returned (.bool true) ∧ Below W.heap.size W w'))
    have HDC := Lib.hid (fun W => implDefaultConfig W)
    have HFI := Lib.hid (fun N W => implFilling c N W)
    have HRO := Lib.hid (fun N h0 h1 => round_ok c N hv h0 h1)
    have HFO := Lib.hid (fun N h0 h1 h9 => fill_ok c N hv h0 h1 h9)
    have hep := Lib.hid (fun W => (by have := eqCfg c c W; rw [decide_eq_true rfl] at this; exact this : (Op.equalIn 10000 24 (.agg (cfgV c)) (.agg (cfgV c))).run Tryd.prog W = .ok true W))
    have HLA := Lib.hid (show Pow _ ∧ Errs _ from ⟨HL.out.1.below B1.out, HL.out.2.below B1.out⟩)
    generalize fmtCB c = x at HP0 HF HPR
    clear hxs hb1 hv
    have HCV := Lib.hid (show ∀ W, Blk W w1.heap.size 24 (cfgV c) → Boxed W w1.heap.size c.cmin c.ctab c.cpadding c.cpad c.fr c.fd c.fl c.fe c.fm from fun W h => Blk.boxed h)
    have HC2 := Lib.hid (show ∀ W, Blk (W.alloc (.cells (cfgV c) 24)) W.heap.size 24 (cfgV c) from fun W => Blk.new W _ _)
    have HCU := Lib.hid (show cfgV c = #[.int .i64 c.cmin, .int .i64 c.ctab, .int .i64 c.cpadding, .int .i64 c.cpad, .bool c.fr, .bool c.fd, .bool c.fl, .bool c.fe, .bool c.fm] from rfl)
    obtain ⟨K, hK⟩ : ∃ K, K = c := ⟨_, rfl⟩
    rw [← hK] at HP0
    have HK := Lib.hid hK
    clear hK
    obtain ⟨m, t, p, d, fr, fd, fl, fe, fm⟩ := c
    simp only at ht
    unfold cfgV at HF HRW HIC HID HDC HFI hep HBC B1 HLA HC2 HCV ⊢
    simp only at HF HRW HIC HID HDC HFI hep HRO HFO HBC B1 HLA HC2 HCV ⊢
    have hep := hep.out
    have ht1 : 1 ≤ t := by omega
    have ht2 : t ≤ 32 := by omega
    clear ht
    go_wp2_with fail
    refine (HF.out _ HLA.out.1).mono ?_
    rintro e w2 ⟨rfl, hb2⟩
    have B2 := Lib.hid (B1.out.trans (hb2.mono B1.out.size))
    have HB2 := Lib.hid (HBC.out.after hb2)
    have HLB := Lib.hid (show Pow _ ∧ Errs _ from ⟨HL.out.1.below B2.out, HL.out.2.below B2.out⟩)
    clear hb2
    go_wp2_with fail
    refine (HPR.out _ HLB.out).mono ?_
    rintro e w3 ⟨⟨d2, ok, rfl, hp⟩, hb3⟩
    obtain ⟨rfl, rfl⟩ := hp.unique HP0.out
    clear hp
    rw [HK.out]
    unfold cfgV
    simp only
    have B3 := Lib.hid (B2.out.trans (hb3.mono B2.out.size))
    have HB3 := Lib.hid ((HB2.out.after hb3).after ((Below.refl w3.heap.size w3).alloc (Nat.le_refl _) (.cells #[.int .i64 m, .int .i64 t, .int .i64 p, .int .i64 d, .bool fr, .bool fd, .bool fl, .bool fe, .bool fm] 24)))
    have HD3 := Lib.hid (Blk.new w3 24 #[.int .i64 m, .int .i64 t, .int .i64 p, .int .i64 d, .bool fr, .bool fd, .bool fl, .bool fe, .bool fm])
    have B3a := Lib.hid (B3.out.alloc B3.out.size (.cells #[.int .i64 m, .int .i64 t, .int .i64 p, .int .i64 d, .bool fr, .bool fd, .bool fl, .bool fe, .bool fm] 24))
    clear hb3
    go_wp2_with fail
    refine (makeNum_any 5 A len cap zs _ (HZ.out.keep B3a.out) (by omega)).mono ?_
    rintro e w4 ⟨⟨n, hn0, hn1, rfl⟩, hb4⟩
    have B4 := Lib.hid (B3a.out.trans (hb4.mono B3a.out.size))
    have HB4 := Lib.hid (HB3.out.after hb4)
    have HD4 := Lib.hid (HD3.out.after hb4)
    clear hb4
    have hN0 : 0 ≤ n % 50 := by omega
    have hN1 : n % 50 ≤ 49 := by omega
    obtain ⟨c0, c1, c2, c3, c4, c5, c6, c7, c8⟩ := HB4.out.boxed
    go_wp2_with fail
    clear c0 c1 c2 c3 c4 c5 c6 c7 c8
    obtain ⟨N, hN⟩ : ∃ N, N = n % 50 := ⟨_, rfl⟩
    rw [← hN] at hN0 hN1 ⊢
    clear hN
    refine (HRW.out N _).mono ?_
    rintro e w5 ⟨rfl, hb5⟩
    have B5 := Lib.hid (B4.out.trans (hb5.mono B4.out.size))
    have HB5 := Lib.hid (HB4.out.after hb5)
    have HD5 := Lib.hid (HD4.out.after hb5)
    clear hb5
    obtain ⟨hr1, hr2, hr3⟩ := HRO.out N hN0 (by omega)
    generalize roundC ⟨m, t, p, d, fr, fd, fl, fe, fm⟩ N = r at hr1 hr2 hr3 ⊢
    have HDB := Lib.hid HD5.out.boxed
    obtain ⟨c0, c1, c2, c3, c4, c5, c6, c7, c8⟩ := HB5.out.boxed
    obtain ⟨d0, d1, d2, d3, d4, d5, d6, d7, d8⟩ := HDB.out
    go_wp2_with fail
    refine (HIC.out _).mono ?_
    rintro e w6 ⟨rfl, hb6⟩
    have B6 := Lib.hid (B5.out.trans (hb6.mono B5.out.size))
    have HB6 := Lib.hid (HB5.out.after hb6)
    clear hb6 c0 c1 c2 c3 c4 c5 c6 c7 c8 d0 d1 d2 d3 d4 d5 d6 d7 d8
    obtain ⟨c0, c1, c2, c3, c4, c5, c6, c7, c8⟩ := HB6.out.boxed
    by_cases h9 : d = 9
    · have e9 : (d == 9) = true := by simp [h9]
      clear h9 hr3
      go_wp2_with fail
      refine (HDC.out _).mono ?_
      rintro e w7 ⟨rfl, hb7⟩
      have B7 := Lib.hid (B6.out.trans (hb7.mono B6.out.size))
      clear hb7
      go_wp2_with fail
      refine (HID.out _).mono ?_
      rintro e w8 ⟨rfl, hb8⟩
      have B8 := Lib.hid (B7.out.trans (hb8.mono B7.out.size))
      clear hb8
      go_wp2_with fail
      go_ret
      exact ⟨rfl, B8.out⟩
    · have e9 : (d == 9) = false := by simp [h9]
      have hrN : r = N := by rcases hr3 with h | h; exact absurd h h9; exact h
      have hsz := HFO.out N hN0 (by omega) h9
      have HFN := Lib.hid (fun W => HFI.out N W)
      generalize fillC ⟨m, t, p, d, fr, fd, fl, fe, fm⟩ N = z at hsz HFN
      have hq : ((z.size : Int) == N) = true := by simp [hsz]
      subst hrN
      clear h9 hr3 hsz
      go_wp2_with fail
      refine (HFN.out _).mono ?_
      rintro e w7 ⟨rfl, hb7⟩
      have B7 := Lib.hid (B6.out.trans (hb7.mono B6.out.size))
      clear hb7
      go_wp2_with fail
      refine (HDC.out _).mono ?_
      rintro e w8 ⟨rfl, hb8⟩
      have B8 := Lib.hid (B7.out.trans (hb8.mono B7.out.size))
      clear hb8
      go_wp2_with fail
      refine (HID.out _).mono ?_
      rintro e w9 ⟨rfl, hb9⟩
      have B9 := Lib.hid (B8.out.trans (hb9.mono B8.out.size))
      clear hb9
      go_wp2_with fail
      go_ret
      exact ⟨rfl, B9.out⟩
end Go.Proofs.YtjdbkpckhgncbaaDoor
