/- The law on a stream cut into chunks, over contracts of the program's. -/
import Derived.Test.YtdplcbfiidnfcaaDoorMakeChunks
import Derived.Test.YtdplcbfiidnfcaaDoorWr
import Derived.Test.YtdplcbfiidnfcaaDoorBE
import Derived.Test.YtdplcbfiidnfcaaDoorBB
import Derived.Deep.RegionHeld3
namespace Go.Proofs.YtdplcbfiidnfcaaDoor
open Go.RowKit
set_option linter.unusedVariables false

theorem txt_addS {P : Program} {w : World} (a b : ByteArray) (h : a.size + b.size ≤ 9223372036854775807) : (Op.stringOp .add a b).run P w = .ok (.string (a ++ b)) w :=
  run_string_add_sum _ _ _ h
/-- What FnStream asks of the bytes. -/
theorem stream_pack (c : Cfg) (s : ByteArray) (hv : validC c = true) (hs : s.size ≤ 108) : ∃ H P R Y : ByteArray, heldB c s = H ∧ toldB c s = P ∧ layB c H = R ∧ layB c s = Y ∧ P ++ R = Y ∧ H.size ≤ 108 ∧ P.size + R.size ≤ 2000000000000 := by
  refine ⟨_, _, _, _, rfl, rfl, rfl, rfl, told_end c s hv, by have := heldB_size c s; omega, ?_⟩
  have h1 := layB_size c s hv (by omega)
  have h2 := told_end c s hv
  have h3 : (toldB c s ++ layB c (heldB c s)).size = (toldB c s).size + (layB c (heldB c s)).size := ByteArray.size_append
  rw [h2] at h3
  omega
theorem catB_single (s : ByteArray) : catB [s] = s := bytes_ext (by simp [catB])
set_option maxRecDepth 100000 in
set_option maxHeartbeats 8000000 in
theorem stream_law (w : World) (A : Option Addr) (len cap : Nat) (zs : List Int) (hz : IsBytes w A len cap zs)
    (hN : ∀ (c : Cfg) (W : World), validC c = true → Below w.heap.size w W → Calls Tryd.prog 7 #[.agg (cfgV c)] W fun e w' => e = .returned (.tuple #[.agg (wrV c ⟨#[]⟩), .int .i64 0]) ∧ Below W.heap.size W w')
    (hA : ∀ (c : Cfg) (l : List ByteArray) (v : Value) (W : World), validC c = true → (catB l).size ≤ 400 → l.length ≤ 1048576 → Below w.heap.size w W → Rd W v (strs l) → Calls Tryd.prog 9 #[.agg (wrV c ⟨#[]⟩), v] W fun e w' => e = .returned (.tuple #[.agg (wrV c (heldB c (catB l))), .string (toldB c (catB l)), .int .i64 (l.length : Int)]) ∧ Below W.heap.size W w')
    (hF : ∀ (c : Cfg) (h : ByteArray) (W : World), validC c = true → h.size ≤ 400 → Below w.heap.size w W → Calls Tryd.prog 10 #[.agg (wrV c h)] W fun e w' => e = .returned (.tuple #[.agg (wrV c ⟨#[]⟩), .string (layB c h), .int .i64 0]) ∧ Below W.heap.size W w')
    (hL : ∀ (c : Cfg) (s : ByteArray) (W : World), validC c = true → s.size ≤ 50000 → Below w.heap.size w W → Calls Tryd.prog 11 #[.agg (cfgV c), .string s] W fun e w' => e = .returned (.string (layB c s)) ∧ Below W.heap.size W w')
    (hP : ∀ (c : Cfg) (h : ByteArray) (W : World), validC c = true → h.size ≤ 400 → Below w.heap.size w W → Calls Tryd.prog 12 #[.agg (wrV c h)] W fun e w' => e = .returned (.string (layB c h)) ∧ Below W.heap.size W w') :
    Calls Tryd.prog 3 #[.slice A len cap] w fun e w' => e = .returned (.bool true) ∧ Below w.heap.size w w' := by
  have hlc := hz.1
  have hcm := hz.2.1
  have HZ := Lib.hid hz
  have HN0 := Lib.hid hN
  have HA0 := Lib.hid hA
  have HF0 := Lib.hid hF
  have HL0 := Lib.hid hL
  have HP0 := Lib.hid hP
  clear hz hN hA hF hL hP
  by_cases h : (1048576 : Int) < (len : Int)
  · go_enter Tryd.func3, Tryd.ntmps3
    go_wp2
    go_ret
    exact ⟨rfl, Below.refl _ _⟩
  · go_enter Tryd.func3, Tryd.ntmps3
    go_wp2_with fail
    refine (makeConfig_any A len cap zs w HZ.out).mono ?_
    rintro e w1 ⟨⟨c, hv, rfl⟩, hb1⟩
    have B1 := Lib.hid hb1
    have HIN := Lib.hid (fun W (hb : Below w.heap.size w W) => makeInput_any A len cap zs W (HZ.out.keep hb))
    have HCH := Lib.hid (fun s W (hs : s.size ≤ 1000000) (hb : Below w.heap.size w W) => makeChunks_any 40 A len cap zs s W (HZ.out.keep hb) (by omega) hs)
    have HNW := Lib.hid (fun W hb => HN0.out c W hv hb)
    have HWA := Lib.hid (fun l v W h1 h2 hb hr => HA0.out c l v W hv h1 h2 hb hr)
    have HFL := Lib.hid (fun h W hs hb => HF0.out c h W hv hs hb)
    have HLY := Lib.hid (fun s W hs hb => HL0.out c s W hv hs hb)
    have HPN := Lib.hid (fun h W hs hb => HP0.out c h W hv hs hb)
    have HEQ := Lib.hid (fun W => eqCfg c c W)
    have HPK := Lib.hid (fun s hs => stream_pack c s hv hs)
    have HC0 : Hid (∃ c', c' = c) := Lib.hid ⟨c, rfl⟩
    obtain ⟨cc, hcc⟩ := HC0.out
    obtain ⟨m, t, p, d, fr, fd, fl, fe, fm⟩ := c
    rw [← hcc] at HNW HWA HFL HLY HPN HEQ HPK
    have HCV : Hid (cfgV cc = #[.int .i64 m, .int .i64 t, .int .i64 p, .int .i64 d, .bool fr, .bool fd, .bool fl, .bool fe, .bool fm]) := Lib.hid (by rw [hcc]; rfl)
    have HWV : Hid (wrV cc = fun h => #[.int .i64 m, .int .i64 t, .int .i64 p, .int .i64 d, .bool fr, .bool fd, .bool fl, .bool fe, .bool fm, .string h]) := Lib.hid (by rw [hcc]; rfl)
    have hq : ∀ W : World, (Op.equalIn 10000 24 (.agg #[.int .i64 m, .int .i64 t, .int .i64 p, .int .i64 d, .bool fr, .bool fd, .bool fl, .bool fe, .bool fm]) (.agg #[.int .i64 m, .int .i64 t, .int .i64 p, .int .i64 d, .bool fr, .bool fd, .bool fl, .bool fe, .bool fm])).run Tryd.prog W = .ok true W := fun W => by
      have h := HEQ.out W
      rw [HCV.out, decide_eq_true rfl] at h
      exact h
    have HQ := Lib.hid hq
    rw [HCV.out, HWV.out] at HNW
    rw [HWV.out] at HWA HFL HPN
    rw [HCV.out] at HLY
    unfold cfgV
    simp only at HNW HWA HFL HPN ⊢
    have hK2 := Blk.new w1 24 #[.int .i64 m, .int .i64 t, .int .i64 p, .int .i64 d, .bool fr, .bool fd, .bool fl, .bool fe, .bool fm]
    have X2 := Lib.hid hK2
    have B2 := Lib.hid (B1.out.trans (((Below.refl w1.heap.size w1).alloc (Nat.le_refl _) (.cells #[.int .i64 m, .int .i64 t, .int .i64 p, .int .i64 d, .bool fr, .bool fd, .bool fl, .bool fe, .bool fm] 24)).mono B1.out.size))
    clear hb1 hv hcc hK2 hq
    go_wp2_with fail
    refine (HIN.out _ B2.out).mono ?_
    rintro e w3 ⟨⟨s, hs, rfl⟩, hb3⟩
    have B3 := Lib.hid (B2.out.trans (hb3.mono B2.out.size))
    have X3 := Lib.hid (X2.out.after hb3)
    obtain ⟨H, P, R, Y, e1, e2, e3, e4, e5, hH, hPR⟩ := HPK.out s hs
    have HSS : Hid (s.size ≤ 108) := Lib.hid hs
    have hadd := fun W => txt_addS (P := Tryd.prog) (w := W) P R (by omega)
    rw [e5] at hadd
    have HADD := Lib.hid hadd
    have HHH := Lib.hid hH
    have HFLH := Lib.hid (fun W hb => HFL.out H W (by omega) hb)
    have HPNH := Lib.hid (fun W hb => HPN.out H W (by omega) hb)
    have HLYS := Lib.hid (fun W hb => HLY.out s W (by omega) hb)
    rw [e3] at HFLH HPNH
    rw [e4] at HLYS
    have HWA2 := Lib.hid (fun l v W (hl : catB l = s) h2 hb hr => (by
      have hh := HWA.out l v W (by rw [hl]; omega) h2 hb hr
      rw [hl, e1, e2] at hh
      exact hh : Calls Tryd.prog 9 #[.agg #[.int .i64 m, .int .i64 t, .int .i64 p, .int .i64 d, .bool fr, .bool fd, .bool fl, .bool fe, .bool fm, .string ⟨#[]⟩], v] W fun e w' => e = .returned (.tuple #[.agg #[.int .i64 m, .int .i64 t, .int .i64 p, .int .i64 d, .bool fr, .bool fd, .bool fl, .bool fe, .bool fm, .string H], .string P, .int .i64 (l.length : Int)]) ∧ Below W.heap.size W w'))
    obtain ⟨c0, c1, c2, c3, c4, c5, c6, c7, c8⟩ := X3.out.boxed
    clear hb3 e1 e2 e3 e4 e5 hadd hPR hH hs
    go_wp2_with fail
    refine (HNW.out _ B3.out).mono ?_
    rintro e w4 ⟨rfl, hb4⟩
    have B4 := Lib.hid (B3.out.trans (hb4.mono B3.out.size))
    have D4 := Lib.hid ((Below.refl w4.heap.size w4).alloc (Nat.le_refl _) (.cells #[.int .i64 m, .int .i64 t, .int .i64 p, .int .i64 d, .bool fr, .bool fd, .bool fl, .bool fe, .bool fm, .string ⟨#[]⟩] 28))
    have BA4 := Lib.hid (B4.out.trans (D4.out.mono B4.out.size))
    have X4 := Lib.hid ((X3.out.after hb4).after D4.out)
    have V4 := Lib.hid (Blk.new w4 28 #[.int .i64 m, .int .i64 t, .int .i64 p, .int .i64 d, .bool fr, .bool fd, .bool fl, .bool fe, .bool fm, .string ⟨#[]⟩])
    clear hb4 c0 c1 c2 c3 c4 c5 c6 c7 c8
    go_wp2_with fail
    refine (HCH.out s _ (by have := HSS.out; omega) BA4.out).mono ?_
    rintro e w5 ⟨l, v5, hcat, hlen, rfl, ho5, hb5⟩
    have B5 := Lib.hid (BA4.out.trans (hb5.mono BA4.out.size))
    have X5 := Lib.hid (X4.out.after hb5)
    have V5 := Lib.hid (V4.out.after hb5)
    have R5 := Lib.hid (Rd.of_own ho5)
    obtain ⟨A5, k5, hv5, _⟩ := Rd.of_own ho5
    rw [strs_length] at hv5
    subst hv5
    have hcall := HWA2.out l (Value.slice A5 l.length k5) w5 hcat (by have := HSS.out; omega) B5.out R5.out
    obtain ⟨c0, c1, c2, c3, c4, c5, c6, c7, c8, c9⟩ := V5.out.ten
    obtain ⟨n5, hn5⟩ : ∃ n, n = l.length := ⟨_, rfl⟩
    rw [← hn5] at hcall ⊢
    have hn5b : n5 ≤ 108 := by have := HSS.out; omega
    have HC5 := Lib.hid hcall
    clear hcall hcat hlen ho5 hb5 hn5
    go_wp2_with fail
    refine HC5.out.mono ?_
    rintro e w6 ⟨rfl, hb6⟩
    have B6 := Lib.hid (B5.out.trans (hb6.mono B5.out.size))
    have D6 := Lib.hid ((Below.refl w6.heap.size w6).alloc (Nat.le_refl _) (.cells #[.int .i64 m, .int .i64 t, .int .i64 p, .int .i64 d, .bool fr, .bool fd, .bool fl, .bool fe, .bool fm, .string H] 28))
    have BA6 := Lib.hid (B6.out.trans (D6.out.mono B6.out.size))
    have X6 := Lib.hid ((X5.out.after hb6).after D6.out)
    have V6 := Lib.hid ((V5.out.after hb6).after D6.out)
    have U6 := Lib.hid (Blk.new w6 28 #[.int .i64 m, .int .i64 t, .int .i64 p, .int .i64 d, .bool fr, .bool fd, .bool fl, .bool fe, .bool fm, .string H])
    clear hb6 c0 c1 c2 c3 c4 c5 c6 c7 c8 c9
    go_wp2_with fail
    refine (HFLH.out _ BA6.out).mono ?_
    rintro e w7 ⟨rfl, hb7⟩
    have B7 := Lib.hid (BA6.out.trans (hb7.mono BA6.out.size))
    have D7 := Lib.hid ((Below.refl w7.heap.size w7).alloc (Nat.le_refl _) (.cells #[.int .i64 m, .int .i64 t, .int .i64 p, .int .i64 d, .bool fr, .bool fd, .bool fl, .bool fe, .bool fm, .string ⟨#[]⟩] 28))
    have E7 := Lib.hid ((Below.refl (w7.alloc (.cells #[.int .i64 m, .int .i64 t, .int .i64 p, .int .i64 d, .bool fr, .bool fd, .bool fl, .bool fe, .bool fm, .string ⟨#[]⟩] 28)).heap.size (w7.alloc (.cells #[.int .i64 m, .int .i64 t, .int .i64 p, .int .i64 d, .bool fr, .bool fd, .bool fl, .bool fe, .bool fm, .string ⟨#[]⟩] 28))).alloc (Nat.le_refl _) (.cells #[.string s] 9))
    have BA7 := Lib.hid (B7.out.trans (D7.out.mono B7.out.size))
    have BB7 := Lib.hid (BA7.out.trans (E7.out.mono BA7.out.size))
    have X7 := Lib.hid (((X6.out.after hb7).after D7.out).after E7.out)
    have V7 := Lib.hid (((V6.out.after hb7).after D7.out))
    have U7 := Lib.hid (((U6.out.after hb7).after D7.out).after E7.out)
    have T7 := Lib.hid ((Blk.new w7 28 #[.int .i64 m, .int .i64 t, .int .i64 p, .int .i64 d, .bool fr, .bool fd, .bool fl, .bool fe, .bool fm, .string ⟨#[]⟩]).after E7.out)
    have hrd : Rd ((w7.alloc (.cells #[.int .i64 m, .int .i64 t, .int .i64 p, .int .i64 d, .bool fr, .bool fd, .bool fl, .bool fe, .bool fm, .string ⟨#[]⟩] 28)).alloc (.cells #[.string s] 9)) (.slice (some ⟨w7.heap.size + 1, 0, none⟩) 1 1) (strs [s]) := ⟨_, 1, rfl, fun _ => ⟨w7.heap.size + 1, 0, rfl, by simp, fun j u hu => by
      match j, hu with
      | 0, hu =>
        simp [strs] at hu
        subst hu
        have hk := Blk.new (w7.alloc (.cells #[.int .i64 m, .int .i64 t, .int .i64 p, .int .i64 d, .bool fr, .bool fd, .bool fl, .bool fe, .bool fm, .string ⟨#[]⟩] 28)) 9 #[.string s]
        rw [show (w7.alloc (.cells #[.int .i64 m, .int .i64 t, .int .i64 p, .int .i64 d, .bool fr, .bool fd, .bool fl, .bool fe, .bool fm, .string ⟨#[]⟩] 28)).heap.size = w7.heap.size + 1 by simp] at hk
        exact hk.cell 0⟩⟩
    have hcall := HWA2.out [s] _ _ (catB_single s) (by simp) BB7.out hrd
    have HC7 := Lib.hid hcall
    obtain ⟨c0, c1, c2, c3, c4, c5, c6, c7, c8, c9⟩ := V7.out.ten
    clear hb7 hrd hcall
    go_wp2_with fail
    refine HC7.out.mono ?_
    rintro e w8 ⟨rfl, hb8⟩
    have B8 := Lib.hid (BB7.out.trans (hb8.mono BB7.out.size))
    have D8 := Lib.hid ((Below.refl w8.heap.size w8).alloc (Nat.le_refl _) (.cells #[.int .i64 m, .int .i64 t, .int .i64 p, .int .i64 d, .bool fr, .bool fd, .bool fl, .bool fe, .bool fm, .string H] 28))
    have BA8 := Lib.hid (B8.out.trans (D8.out.mono B8.out.size))
    have X8 := Lib.hid ((X7.out.after hb8).after D8.out)
    have U8 := Lib.hid ((U7.out.after hb8).after D8.out)
    have T8 := Lib.hid ((T7.out.after hb8).after D8.out)
    have S8 := Lib.hid (Blk.new w8 28 #[.int .i64 m, .int .i64 t, .int .i64 p, .int .i64 d, .bool fr, .bool fd, .bool fl, .bool fe, .bool fm, .string H])
    clear hb8 c0 c1 c2 c3 c4 c5 c6 c7 c8 c9
    obtain ⟨c0, c1, c2, c3, c4, c5, c6, c7, c8⟩ := X8.out.boxed
    obtain ⟨t0, t1, t2, t3, t4, t5, t6, t7, t8, t9⟩ := T8.out.ten
    have hq := HQ.out
    have hadd := HADD.out
    go_wp2_with fail
    refine (HLYS.out _ BA8.out).mono ?_
    rintro e w9 ⟨rfl, hb9⟩
    have B9 := Lib.hid (BA8.out.trans (hb9.mono BA8.out.size))
    obtain ⟨u0, u1, u2, u3, u4, u5, u6, u7, u8, u9⟩ := (U8.out.after hb9).ten
    have s9 := (S8.out.after hb9).cell 9
    simp at s9
    clear hb9 c0 c1 c2 c3 c4 c5 c6 c7 c8 t0 t1 t2 t3 t4 t5 t6 t7 t8 t9 hq hadd
    go_wp2_with fail
    refine (HPNH.out _ B9.out).mono ?_
    rintro e w10 ⟨rfl, hb10⟩
    have B10 := Lib.hid (B9.out.trans (hb10.mono B9.out.size))
    clear hb10
    go_wp2_with fail
    go_ret
    exact ⟨rfl, B10.out⟩
end Go.Proofs.YtdplcbfiidnfcaaDoor
