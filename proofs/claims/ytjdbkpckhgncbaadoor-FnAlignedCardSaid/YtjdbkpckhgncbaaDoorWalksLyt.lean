/- The walk of the law: a line of a layout is as wide as its slots and its tail; over contracts of the program's functions. -/
import Derived.Test.YtjdbkpckhgncbaaDoorBE
import Derived.Test.YtjdbkpckhgncbaaDoorLytMath
import Derived.Test.YtjdbkpckhgncbaaDoorRowF
import Derived.Deep.RegionLaw
import Derived.Deep.QuietTactic
import Derived.BigQuiet
namespace Go.Proofs.YtjdbkpckhgncbaaDoor
open Go.RowKit
set_option linter.unusedVariables false

theorem valid_dot (c : Cfg) (hv : validC c = true) : validC { c with cpad := 46, fe := false, fm := false } = true := by
  have h := (validC_iff c).1 hv
  exact (validC_iff _).2 ⟨h.1, h.2.1, h.2.2.1, .inr ⟨by show (32 : Int) ≤ 46; decide, by show (46 : Int) ≤ 126; decide⟩⟩
theorem txt_addL {P : Program} {w : World} (a b : ByteArray) (h : a.size + b.size ≤ 9223372036854775807) : (Op.stringOp .add a b).run P w = .ok (.string (a ++ b)) w :=
  run_string_add_sum _ _ _ h
set_option maxRecDepth 100000 in
set_option maxHeartbeats 8000000 in
theorem layout_law (w : World) (A : Option Addr) (len cap : Nat) (zs : List Int) (hz : IsBytes w A len cap zs)
    (hS : ∀ (c : Cfg) (s : ByteArray) (W : World), s.size ≤ 1048576 → Below w.heap.size w W → Calls Tryd.prog 18 #[.agg (cfgV c), .string s] W fun e w' => ∃ v, e = .returned v ∧ OwnL w' W.heap.size none v (splitL c s) ∧ Below W.heap.size W w')
    (hW : ∀ (c : Cfg) (ls : List Ln) (v : Value) (W : World), Below w.heap.size w W → RdL W v ls → FitL ls → Calls Tryd.prog 20 #[.agg (cfgV c), v] W fun e w' => ∃ u, e = .returned u ∧ OwnF w' W.heap.size w'.heap.size u (widN c ls) (widF c ls) ∧ Below W.heap.size W w')
    (hT : ∀ (c : Cfg) (s : ByteArray) (W : World), validC c = true → s.size ≤ 50000 → Below w.heap.size w W → Calls Tryd.prog 17 #[.agg (cfgV c), .string s] W fun e w' => ∃ u, e = .returned u ∧ OwnF w' W.heap.size w'.heap.size u (splitL c s).length (slotF c (splitL c s)) ∧ Below W.heap.size W w')
    (hI : ∀ (c : Cfg) (l : List Cel) (ws : List Int) (x : ByteArray) (m' f : Int) (va vw : Value) (W : World), Below w.heap.size w W → RdC W va l → Rd W vw (ints ws) → l.length + totC l + x.size ≤ 1048576 → ws.length ≤ 1048576 → (∀ c ∈ l, c.wid ≤ 9223372036854775807) → Calls Tryd.prog 21 #[.agg (cfgV c), .agg #[va, .string x, .int .i64 m', .int .i64 f], vw] W fun e w' => e = .returned (.string (layLineB c ⟨l, ⟨x, m'⟩, f⟩ ws)) ∧ Below W.heap.size W w')
    (hX : ∀ (s : ByteArray) (W : World), s.size ≤ 100000000 → Below w.heap.size w W → Calls Tryd.prog 22 #[.string s] W fun e w' => e = .returned (.bool (textB s)) ∧ Below W.heap.size W w')
    (hY : ∀ (s : ByteArray) (W : World), s.size ≤ 100000000 → Below w.heap.size w W → Calls Tryd.prog 23 #[.string s] W fun e w' => e = .returned (.int .i64 (textW s : Int)) ∧ Below W.heap.size W w')
    (hL : ∀ (c : Cfg) (s : ByteArray) (W : World), validC c = true → s.size ≤ 50000 → Below w.heap.size w W → Calls Tryd.prog 24 #[.agg (cfgV c), .string s] W fun e w' => e = .returned (.string (layB c s)) ∧ Below W.heap.size W w')
    (hN : ∀ (c : Cfg) (ls : List Ln) (v : Value) (W : World), Below w.heap.size w W → RdL W v ls → FitL ls → Calls Tryd.prog 25 #[.agg (cfgV c), v] W fun e w' => e = .returned (.string (layLinesB c ls)) ∧ Below W.heap.size W w')
    (hM : ∀ (c : Cfg) (s : ByteArray) (W : World), validC c = true → s.size ≤ 50000 → Below w.heap.size w W → Calls Tryd.prog 26 #[.agg (cfgV c), .string s] W fun e w' => e = .returned (.int .i64 (mostW c s)) ∧ Below W.heap.size W w') :
    Calls Tryd.prog 5 #[.slice A len cap] w fun e w' => e = .returned (.bool true) ∧ Below w.heap.size w w' := by
  have hlc := hz.1
  have hcm := hz.2.1
  have HZ := Lib.hid hz
  have HS0 := Lib.hid hS
  have HW0 := Lib.hid hW
  have HT0 := Lib.hid hT
  have HI0 := Lib.hid hI
  have HX0 := Lib.hid hX
  have HY0 := Lib.hid hY
  have HL0 := Lib.hid hL
  have HN0 := Lib.hid hN
  have HM0 := Lib.hid hM
  clear hz hS hW hT hI hX hY hL hN hM
  by_cases h : (1048576 : Int) < (len : Int)
  · go_enter Tryd.func5, Tryd.ntmps5
    go_wp2
    go_ret
    exact ⟨rfl, Below.refl _ _⟩
  · go_enter Tryd.func5, Tryd.ntmps5
    go_wp2_with fail
    refine (makeConfig_any A len cap zs w HZ.out).mono ?_
    rintro e w1 ⟨⟨c, hv, rfl⟩, hb1⟩
    have B1 := Lib.hid hb1
    have HIN := Lib.hid (fun W (hb : Below w.heap.size w W) => makeInput_any A len cap zs W (HZ.out.keep hb))
    have hv2 := valid_dot c hv
    obtain ⟨m, t, p, d, fr, fd, fl, fe, fm⟩ := c
    simp only at hv2
    obtain ⟨cc, hcc⟩ : ∃ c' : Cfg, c' = ⟨m, t, p, 46, fr, fd, fl, false, false⟩ := ⟨_, rfl⟩
    rw [← hcc] at hv2
    have h46 : cc.cpad = 46 := by rw [hcc]
    have hfm : cc.fm = false := by rw [hcc]
    have hfe : cc.fe = false := by rw [hcc]
    have HSP := Lib.hid (fun s W hs hb => HS0.out cc s W hs hb)
    have HWD := Lib.hid (fun ls v W hb hr hf => HW0.out cc ls v W hb hr hf)
    have HSL := Lib.hid (fun s W hs hb => HT0.out cc s W hv2 hs hb)
    have HLN := Lib.hid (fun l ws x m' f va vw W => HI0.out cc l ws x m' f va vw W)
    have HLY := Lib.hid (fun s W hs hb => HL0.out cc s W hv2 hs hb)
    have HLL := Lib.hid (fun ls v W hb hr hf => HN0.out cc ls v W hb hr hf)
    have HMX := Lib.hid (fun s W hs hb => HM0.out cc s W hv2 hs hb)
    have HPK := Lib.hid (fun s hs => layout_pack cc s hv2 h46 hfm hfe hs)
    have HCV : Hid (cfgV cc = #[.int .i64 m, .int .i64 t, .int .i64 p, .int .i64 46, .bool fr, .bool fd, .bool fl, .bool false, .bool false]) := Lib.hid (by rw [hcc]; rfl)
    rw [HCV.out] at HSP HWD HSL HLN HLY HLL HMX
    unfold cfgV
    simp only
    obtain ⟨W2, hW2⟩ : ∃ W, W = w1.alloc (.cells #[.int .i64 m, .int .i64 t, .int .i64 p, .int .i64 46, .bool fr, .bool fd, .bool fl, .bool false, .bool false] 24) := ⟨_, rfl⟩
    have HK2 : Hid (Blk W2 w1.heap.size 24 #[.int .i64 m, .int .i64 t, .int .i64 p, .int .i64 46, .bool fr, .bool fd, .bool fl, .bool false, .bool false]) := Lib.hid (by rw [hW2]; exact Blk.new _ _ _)
    have hb2 : Below w1.heap.size w1 W2 := by rw [hW2]; go_grown
    have B2 := Lib.hid (B1.out.trans (hb2.mono B1.out.size))
    have HW2 := Lib.hid hW2
    clear hb1 hv hv2 hcc h46 hfm hfe hb2 hW2
    go_wp2_with fail
    rw [← HW2.out]
    refine (HIN.out _ B2.out).mono ?_
    rintro e w3 ⟨⟨s, hs, rfl⟩, hb3⟩
    have B3 := Lib.hid (B2.out.trans (hb3.mono B2.out.size))
    have HK3 := Lib.hid (HK2.out.after hb3)
    obtain ⟨gc, hgc⟩ : ∃ g, g = w1.heap.size := ⟨_, rfl⟩
    rw [← hgc] at HK3 ⊢
    obtain ⟨ls, fW, fS, BB, TT, NN, e1, e2, e3, e4, hfit, hl0, hfl, e5, e6, e7, e8, hmo, hrow⟩ := HPK.out s hs
    have hs1 : s.size ≤ 50000 := by omega
    have hs2 : s.size ≤ 1048576 := by omega
    have hs3 : s.size ≤ 100000000 := by omega
    have HSP2 := Lib.hid (fun W hb => HSP.out s W hs2 hb)
    have HSL2 := Lib.hid (fun W hb => HSL.out s W hs1 hb)
    have HLY2 := Lib.hid (fun W hb => HLY.out s W hs1 hb)
    have HMX2 := Lib.hid (fun W hb => HMX.out s W hs1 hb)
    have HWD2 := Lib.hid (fun v W hb hr => HWD.out ls v W hb hr hfl)
    have HLL2 := Lib.hid (fun v W hb hr => HLL.out ls v W hb hr hfl)
    have HTX := Lib.hid (fun W hb => HX0.out s W hs3 hb)
    obtain ⟨tb, htb⟩ : ∃ b, b = textB s := ⟨_, rfl⟩
    rw [← htb] at HTX hrow
    rw [e1] at HSP2 HSL2
    rw [e3] at HSL2
    rw [← e6] at HLY2
    rw [← e7] at HLL2
    rw [e8] at HMX2
    rw [e4, e2] at HWD2
    have HLINE : Hid (∀ (k : Nat) (hk : k < ls.length) (va vw : Value) (W : World), Below w.heap.size w W → RdC W va ls[k].cells → Rd W vw (ints (fW k)) → Calls Tryd.prog 21 #[.agg #[.int .i64 m, .int .i64 t, .int .i64 p, .int .i64 46, .bool fr, .bool fd, .bool fl, .bool false, .bool false], .agg #[va, .string ls[k].tail.txt, .int .i64 ls[k].tail.wid, .int .i64 ls[k].fin], vw] W fun e w' => e = .returned (.string (BB k)) ∧ Below W.heap.size W w') := Lib.hid (fun k hk va vw W hb hr hw => by
      obtain ⟨r1, r2, r3, r4, r5, r6, z, r7, r8, r9, _⟩ := hrow k hk
      have ht := totL_mem ls _ (List.getElem_mem hk)
      have hc := HLN.out ls[k].cells (fW k) ls[k].tail.txt ls[k].tail.wid ls[k].fin va vw W hb hr hw (by omega) (by omega) r9
      rw [show (⟨ls[k].cells, ⟨ls[k].tail.txt, ls[k].tail.wid⟩, ls[k].fin⟩ : Ln) = ls[k] from rfl, r1] at hc
      exact hc)
    have HROW := Lib.hid hrow
    have HT00 := Lib.hid e5
    have HMO := Lib.hid hmo
    obtain ⟨n, hn⟩ : ∃ n, n = ls.length := ⟨_, rfl⟩
    have HN := Lib.hid hn
    rw [← hn] at HSL2 HWD2 HLY2 HLL2 HMX2 hfit hl0
    have HMO2 := Lib.hid (fun k (hk : k ≤ n) => hmo k (by omega))
    obtain ⟨c0, c1, c2, c3, c4, c5, c6, c7, c8⟩ := HK3.out.boxed
    have hgc0 := Lib.hid hgc
    clear htb hb3 hrow hmo e1 e2 e3 e4 e5 e6 e7 e8 hn hs hs1 hs2 hs3 hfl HSP HSL HLY HMX HWD HLL HLN HPK hgc HMO
    go_wp2_with fail
    refine (HSP2.out _ B3.out).mono ?_
    rintro e w4 ⟨v4, rfl, ho4, hb4⟩
    have B4 := Lib.hid (B3.out.trans (hb4.mono B3.out.size))
    have HK4 := Lib.hid (HK3.out.after hb4)
    have HR4 := Lib.hid ho4.rd
    clear hb4 ho4 c0 c1 c2 c3 c4 c5 c6 c7 c8
    obtain ⟨c0, c1, c2, c3, c4, c5, c6, c7, c8⟩ := HK4.out.boxed
    go_wp2_with fail
    refine (HWD2.out _ _ B4.out HR4.out).mono ?_
    rintro e w5 ⟨u5, rfl, ho5, hb5⟩
    have B5 := Lib.hid (B4.out.trans (hb5.mono B4.out.size))
    have HK5 := Lib.hid (HK4.out.after hb5)
    have HR5 := Lib.hid (HR4.out.below hb5)
    have HFW5 := Lib.hid ho5
    obtain ⟨Aw, cw, hAw⟩ := ho5.len
    subst hAw
    clear hb5 ho5 c0 c1 c2 c3 c4 c5 c6 c7 c8
    obtain ⟨c0, c1, c2, c3, c4, c5, c6, c7, c8⟩ := HK5.out.boxed
    go_wp2_with fail
    refine (HSL2.out _ B5.out).mono ?_
    rintro e w6 ⟨u6, rfl, ho6, hb6⟩
    have B6 := Lib.hid (B5.out.trans (hb6.mono B5.out.size))
    have HK6 := Lib.hid (HK5.out.after hb6)
    have HR6 := Lib.hid (HR5.out.below hb6)
    have HFW6 := Lib.hid (HFW5.out.below hb6)
    have HFS6 := Lib.hid ho6
    obtain ⟨As, cs, hAs⟩ := ho6.len
    subst hAs
    obtain ⟨Al, cl0, hv6, hin6⟩ := HR6.out
    subst hv6
    have HRL := Lib.hid hin6
    rw [← HN.out] at HRL HR6 ⊢
    have hn2 : ((n : Int) != (n : Int)) = false := by simp
    clear hb6 ho6 hin6 c0 c1 c2 c3 c4 c5 c6 c7 c8
    go_wp2_with fail
    go_loopw [8, 9, 10, 11, 12, 13, 47] (fun al mo _ _ _ _ i wr => ∃ (k : Nat), k ≤ n ∧ i = .int .i64 (k : Int) ∧ al = .string (TT k) ∧ mo = .int .i64 (mostN NN k) ∧ Hid (Below w6.heap.size w6 wr)) (fun _ _ _ _ _ _ i _ => n - (intOf i).toNat)
    case atStart => exact ⟨0, Nat.zero_le _, rfl, by rw [HT00.out], rfl, Lib.hid (Below.refl _ _)⟩
    case round =>
      obtain ⟨k, hk, rfl, rfl, rfl, HBE⟩ := hrel
      have BE := Lib.hid (B6.out.trans (HBE.out.mono B6.out.size))
      by_cases hlt : k < n
      · obtain ⟨ga, oa, rfl, hga, hca⟩ := HRL.out (by omega)
        have hkl : k < ls.length := by rw [← HN.out]; exact hlt
        obtain ⟨⟨va, p0, hra⟩, p1, p2, p3⟩ := hca k _ (List.getElem?_eq_getElem hkl)
        have a0 := (HBE.out.cell (p := ⟨ga, oa + k * 4, none⟩) hga).trans p0
        have a1 := (HBE.out.cell (p := ⟨ga, oa + k * 4 + 1, none⟩) hga).trans p1
        have a2 := (HBE.out.cell (p := ⟨ga, oa + k * 4 + 2, none⟩) hga).trans p2
        have a3 := (HBE.out.cell (p := ⟨ga, oa + k * 4 + 3, none⟩) hga).trans p3
        have HRA := Lib.hid (hra.below HBE.out)
        have HCALL := Lib.hid (HLINE.out k hkl)
        obtain ⟨r1, r2, r3, r4, r5, r6, z, r7, r8, r9, q, r10, r11, r12, r13, r14, r15⟩ := HROW.out k hkl
        have hzl : z ≤ 1000 := by have := totL_mem ls _ (List.getElem_mem hkl); omega
        obtain ⟨gw, cow, uw, hvw, hcw, hgw, hrw⟩ := HFW6.out.row k hlt
        injection hvw with e1 e2 e3
        subst e1
        obtain ⟨gs, cos, us, hvs, hcs, hgs, hrs⟩ := HFS6.out.row k hlt
        injection hvs with e4 e5 e6
        subst e4
        have hmk := HMO2.out k hk
        have hmk1 := HMO2.out (k + 1) hlt
        have HMS : Hid (mostN NN (k + 1) = if mostN NN k < NN k then NN k else mostN NN k) := Lib.hid rfl
        generalize ls[k] = l at a0 a1 a2 a3 HRA HCALL r11 r14 r15
        obtain ⟨cl, ⟨x, m'⟩, f⟩ := l
        simp only at a1 a2 a3 HRA HCALL r11 r14 r15
        have hbN : 0 ≤ NN k ∧ NN k ≤ 1000000 := by omega
        obtain ⟨NK, hNK⟩ : ∃ x, x = NN k := ⟨_, rfl⟩
        obtain ⟨MO, hMO⟩ : ∃ x, x = mostN NN k := ⟨_, rfl⟩
        obtain ⟨BK, hBK⟩ : ∃ x, x = BB k := ⟨_, rfl⟩
        obtain ⟨TK, hTK⟩ : ∃ x, x = TT k := ⟨_, rfl⟩
        rw [← hNK] at HMS r6 r11 hbN
        rw [← hMO] at HMS hmk ⊢
        rw [← hBK] at HCALL r2 r4 r6
        rw [← hTK] at r3 r4 ⊢
        have hadd := fun W => txt_addL (P := Tryd.prog) (w := W) TK BK (by omega)
        rw [← r4] at hadd
        have HADD := Lib.hid hadd
        have HTW := Lib.hid r6
        have HBS := Lib.hid r2
        obtain ⟨Va, lv, cv, hva⟩ : ∃ a l c, va = .slice a l c := by
          obtain ⟨a, b, h, _⟩ := HRA.out
          exact ⟨a, _, b, h⟩
        subst hva
        obtain ⟨W4, hW4⟩ : ∃ W, W = wr.alloc (.cells #[.slice Va lv cv, .string x, .int .i64 m', .int .i64 f] 46) := ⟨_, rfl⟩
        have hb4 : Below wr.heap.size wr W4 := by rw [hW4]; exact (Below.refl _ _).alloc (Nat.le_refl _) _
        have HL4 : Hid (Blk W4 wr.heap.size 46 #[.slice Va lv cv, .string x, .int .i64 m', .int .i64 f]) := Lib.hid (by rw [hW4]; exact Blk.new _ _ _)
        have E4 := Lib.hid (HBE.out.trans (hb4.mono HBE.out.size))
        have EW4 := Lib.hid (BE.out.trans (hb4.mono BE.out.size))
        have HRA4 := Lib.hid (HRA.out.below hb4)
        have HRW4 := Lib.hid (hrw.below E4.out)
        have HHW := Lib.hid hW4
        obtain ⟨gl, hgl⟩ : ∃ g, g = wr.heap.size := ⟨_, rfl⟩
        rw [← hgl] at HL4
        have HGL := Lib.hid hgl
        have HCS := Lib.hid hcs
        have HRS := Lib.hid hrs
        have HR7 := Lib.hid r7
        have HR10 := Lib.hid r10
        have HCW := Lib.hid hcw
        clear hca p0 p1 p2 p3 hra hrw hcs hrs hcw hadd r1 r2 r3 r4 r5 r6 r7 r8 r9 r10 hb4 hW4 hgl hNK hMO hBK hTK e2 e3 e5 e6
        go_wp2_with fail
        rw [← HHW.out, ← HGL.out]
        clear a0 a1 a2 a3
        obtain ⟨c0, c1, c2, c3, c4, c5, c6, c7, c8⟩ := (HK6.out.after E4.out).boxed
        have q0 := HL4.out.cell 0
        have q1 := HL4.out.cell 1
        have q2 := HL4.out.cell 2
        have q3 := HL4.out.cell 3
        simp at q0 q1 q2 q3
        have b0 := (E4.out.cell (p := ⟨gw, k, none⟩) hgw).trans HCW.out
        go_region_law
          ((go_simp; go_at_call 21; refine (HCALL.out _ uw W4.drew EW4.out.drew (HRA4.out.below (Below.drew (Below.refl _ W4))) (HRW4.out.below (Below.drew (Below.refl _ W4)))).mono ?_; rintro e w8 ⟨rfl, hb8⟩; have B8 := Lib.hid ((Below.drew (Below.refl W4.heap.size W4)).trans hb8); clear hb8; (try dsimp only)))
        all_goals
          have E8 := Lib.hid (E4.out.trans (B8.out.mono E4.out.size))
          have EW8 := Lib.hid (EW4.out.trans (B8.out.mono EW4.out.size))
          have HL8 := Lib.hid (HL4.out.after B8.out)
          clear c0 c1 c2 c3 c4 c5 c6 c7 c8 q0 q1 q2 q3 b0
          have q2 := HL8.out.cell 2
          simp at q2
          have b0 := (E8.out.cell (p := ⟨gs, k, none⟩) hgs).trans HCS.out
          obtain ⟨Ar, cr, hvr, hrc⟩ := HRS.out.below E8.out
          subst hvr
          rw [ints_length, HR7.out] at hrc b0
          obtain ⟨gr, gor, hAr, hgr, hrcc⟩ := hrc (by omega)
          subst hAr
          have r0 := hrcc z (.int .i64 q) (by have hj := (List.getElem?_eq_some_iff.1 HR10.out).1; have hx := HR10.out; rw [ints_get _ z hj]; rw [List.getElem?_eq_getElem hj] at hx; simpa using hx)
          have hadd := HADD.out
          have hw1 : IntKind.i64.wrap ((z : Int) + 1 - 1) = (z : Int) := by rw [Int.add_sub_cancel]; exact IntWalk.i64_in _ (by omega)
          have hw2 : IntKind.i64.wrap (z : Int) = (z : Int) := IntWalk.i64_in _ (by omega)
          have hw3 : IntKind.i64.wrap (q + m') = NK := by rw [r11]; exact IntWalk.i64_in _ (by omega)
          clear hrc hrcc
          go_wp2_with fail
          clear hadd
          go_quiet (fail)
          clear hw1 hw2 hw3 q2 b0 r0
          by_cases hgt : MO < NK
          · have HMN : Hid (NK = mostN NN (k + 1)) := Lib.hid (by rw [HMS.out, if_pos hgt])
            go_wp2_with fail
            refine (HTX.out _ (below_drewN EW8.out _)).mono ?_
            rintro e w9 ⟨rfl, hb9⟩
            have EW9 := Lib.hid ((below_drewN EW8.out _).trans (hb9.mono (below_drewN EW8.out _).size))
            have E9 := Lib.hid ((below_drewN E8.out _).trans (hb9.mono (below_drewN E8.out _).size))
            clear hb9
            cases tb with
            | false =>
              go_wp2_with fail
              go_roundw
              case rel => exact ⟨k + 1, by omega, by go_num, rfl, by rw [← HMN.out], E9⟩
              case measure => simp [intOf]; omega
            | true =>
              have HYK := Lib.hid (fun W hb => HY0.out BK W HBS.out hb)
              rw [HTW.out rfl] at HYK
              have hne : (NK != NK) = false := by simp
              go_wp2_with fail
              refine (HYK.out _ EW9.out).mono ?_
              rintro e w10 ⟨rfl, hb10⟩
              have E10 := Lib.hid (E9.out.trans (hb10.mono E9.out.size))
              clear hb10
              go_wp2_with fail
              go_roundw
              case rel => exact ⟨k + 1, by omega, by go_num, rfl, by rw [← HMN.out], E10⟩
              case measure => simp [intOf]; omega
          · have HMN : Hid (MO = mostN NN (k + 1)) := Lib.hid (by rw [HMS.out, if_neg hgt])
            go_wp2_with fail
            refine (HTX.out _ (below_drewN EW8.out _)).mono ?_
            rintro e w9 ⟨rfl, hb9⟩
            have EW9 := Lib.hid ((below_drewN EW8.out _).trans (hb9.mono (below_drewN EW8.out _).size))
            have E9 := Lib.hid ((below_drewN E8.out _).trans (hb9.mono (below_drewN E8.out _).size))
            clear hb9
            cases tb with
            | false =>
              go_wp2_with fail
              go_roundw
              case rel => exact ⟨k + 1, by omega, by go_num, rfl, by rw [← HMN.out], E9⟩
              case measure => simp [intOf]; omega
            | true =>
              have HYK := Lib.hid (fun W hb => HY0.out BK W HBS.out hb)
              rw [HTW.out rfl] at HYK
              have hne : (NK != NK) = false := by simp
              go_wp2_with fail
              refine (HYK.out _ EW9.out).mono ?_
              rintro e w10 ⟨rfl, hb10⟩
              have E10 := Lib.hid (E9.out.trans (hb10.mono E9.out.size))
              clear hb10
              go_wp2_with fail
              go_roundw
              case rel => exact ⟨k + 1, by omega, by go_num, rfl, by rw [← HMN.out], E10⟩
              case measure => simp [intOf]; omega
      · obtain rfl : k = n := by omega
        have HK9 := Lib.hid (HK6.out.after HBE.out)
        have HR9 := Lib.hid (HR6.out.below HBE.out)
        obtain ⟨c0, c1, c2, c3, c4, c5, c6, c7, c8⟩ := HK9.out.boxed
        have h0 : decide (0 < (k : Int)) = true := by simp; omega
        clear hn2
        go_wp2_with fail
        refine (HLY2.out _ BE.out).mono ?_
        rintro e w9 ⟨rfl, hb9⟩
        have B9 := Lib.hid (BE.out.trans (hb9.mono BE.out.size))
        have HK10 := Lib.hid (HK9.out.after hb9)
        have HR10 := Lib.hid (HR9.out.below hb9)
        clear hb9 c0 c1 c2 c3 c4 c5 c6 c7 c8
        obtain ⟨c0, c1, c2, c3, c4, c5, c6, c7, c8⟩ := HK10.out.boxed
        go_wp2_with fail
        refine (HLL2.out _ _ B9.out HR10.out).mono ?_
        rintro e w10 ⟨rfl, hb10⟩
        have B10 := Lib.hid (B9.out.trans (hb10.mono B9.out.size))
        have HK11 := Lib.hid (HK10.out.after hb10)
        clear hb10 c0 c1 c2 c3 c4 c5 c6 c7 c8
        obtain ⟨c0, c1, c2, c3, c4, c5, c6, c7, c8⟩ := HK11.out.boxed
        go_wp2_with fail
        refine (HMX2.out _ B10.out).mono ?_
        rintro e w11 ⟨rfl, hb11⟩
        have B11 := Lib.hid (B10.out.trans (hb11.mono B10.out.size))
        clear hb11 c0 c1 c2 c3 c4 c5 c6 c7 c8
        go_wp2_with fail
        go_ret
        exact ⟨rfl, B11.out⟩
end Go.Proofs.YtjdbkpckhgncbaaDoor
