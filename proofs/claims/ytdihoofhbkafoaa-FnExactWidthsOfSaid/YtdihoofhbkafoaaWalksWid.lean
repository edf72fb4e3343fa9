/- WidthsOf: the law, over a contract of the program's function. -/
import Derived.Test.YtdihoofhbkafoaaSpecWid
import Derived.Test.YtdihoofhbkafoaaInts2
import Derived.Test.YtdihoofhbkafoaaBB
import Derived.Test.YtdihoofhbkafoaaBF
namespace Go.Proofs.Ytdihoofhbkafoaa
open Go.RowKit
set_option linter.unusedVariables false

set_option maxRecDepth 100000 in
set_option maxHeartbeats 2000000 in
theorem widthsOf_law (w : World) (c : Cfg) (A : Option Addr) (len cap : Nat) (ls : List Ln) (hr : RdL w (.slice A len cap) ls) (hi : InL ls)
    (hI : ∀ v W, Below w.heap.size w W → RdL W v ls → FitL ls → Calls Try.prog 19 #[.agg (cfgV c), v] W fun e w' => ∃ u, e = .returned u ∧ OwnF w' W.heap.size w'.heap.size u (widN c ls) (widF c ls) ∧ Below W.heap.size W w') :
    Calls Try.prog 5 #[.agg (cfgV c), .slice A len cap] w fun e w' => e = .returned (.bool true) ∧ Below w.heap.size w w' := by
  have HS := Lib.hid (fun W hW => szLineS_any ls (.slice A len cap) 1048576 W (hr.below (w' := W) hW) (by omega) (by omega) hi)
  have HR := Lib.hid hr
  have HTC := Lib.hid (fun W => toConfig_any c W)
  have HC0 := Lib.hid (fun v W (hv : RdL W v ls) hfit => specWidthsOf c ls v W hv hfit)
  have HI0 := Lib.hid hI
  have hbl := widN_len c ls
  have hbw := widF_len c ls
  have hbs := widS_len c ls
  generalize widN c ls = n at HC0 HI0 hbl hbs
  generalize widF c ls = z at HC0 HI0 hbw hbs
  obtain ⟨m, t, p, d, fr, fd, fl, fe, fm⟩ := c
  unfold cfgV at HTC HC0 HI0 ⊢
  simp only at HTC HC0 HI0 ⊢
  clear hr hi hI
  go_enter Try.func5, Try.ntmps5
  have HBX := Lib.hid (Boxed.new w 23 m t p d fr fd fl fe fm)
  have B0 : Hid (Below w.heap.size w (w.alloc (.cells #[.int .i64 m, .int .i64 t, .int .i64 p, .int .i64 d, .bool fr, .bool fd, .bool fl, .bool fe, .bool fm] 23))) := Lib.hid (by go_grown)
  go_wp2_with fail
  refine (HS.out _ B0.out).mono ?_
  rintro e w1 ⟨⟨r, rfl, hsz⟩, hb1⟩
  have B1 := Lib.hid (B0.out.trans (hb1.mono B0.out.size))
  have hlt1 : w.heap.size < w1.heap.size := by have := hb1.size; simp at this; omega
  have HX1 := Lib.hid (HBX.out.below hb1 (by simp))
  clear hb1
  rcases hsz with rfl | ⟨h0, h1⟩
  · go_wp2_with fail
    go_ret
    exact ⟨rfl, B1.out⟩
  · have hfit : FitL ls := ⟨by omega, by omega⟩
    have hzn : n ≤ 1048576 := by omega
    have hzw : ∀ i, (z i).length ≤ 1048576 := fun i => by have := hbw i; omega
    have hzs : sumF z n ≤ 1048576 := by omega
    have HT := Lib.hid (fun W (hW : Below w.heap.size w W) => toLineS_own ls _ W (HR.out.below hW) hfit)
    have HC := Lib.hid (fun v W (hv : RdL W v ls) => HC0.out v W hv hfit.wide)
    have HI := Lib.hid (fun v W (hW : Below w.heap.size w W) (hv : RdL W v ls) => HI0.out v W hW hv hfit)
    have HEL := Lib.hid (fun va vb W (ha : RdL W va ls) (hb : RdL W vb ls) => eqLineS_same ls va vb W ha hb hfit.wide)
    have HEB := Lib.hid (fun b1 b2 t1 t2 va vb W (ha : OwnF W b1 t1 va n z) (hb : OwnF W b2 t2 vb n z) => eqIntSS_same n b1 b2 t1 t2 z va vb W ha hb (by omega) (fun i => by have := hzw i; omega))
    have HMK := Lib.hid (fun base v W (ho : OwnL W base none v ls) (hb : base ≤ W.heap.size) => markLineS_any base 1 v ls W ho hb (by omega) (by have := hfit.1; have := hfit.2; omega))
    have HMB := Lib.hid (fun base top v W (ho : OwnF W base top v n z) (hb : base ≤ W.heap.size) => markIntSS_any base top n 1 z v W ho hb (by omega) (by omega))
    have HHD := Lib.hid (fun base top v W (hr : OwnF W base top v n (markF 1 z)) => heldIntSS_any base top n 1 z v W hr (by omega) (by omega))
    obtain ⟨y, hy⟩ : ∃ y, y = endK 1 ls := ⟨_, rfl⟩
    have hy0 : ((y : Int) < 0) = False := by simp
    rw [← hy] at HMK
    obtain ⟨x, hx⟩ : ∃ x, x = 1 + sumF z n := ⟨_, rfl⟩
    have hx0 : ((x : Int) < 0) = False := by simp
    rw [← hx] at HMB HHD
    clear h1 hfit hbl hzn hzw hzs hbw hbs hy hx
    obtain ⟨c0, c1, c2, c3, c4, c5, c6, c7, c8⟩ := HX1.out
    go_wp2_with fail
    refine (HTC.out _).mono ?_
    rintro e w2 ⟨rfl, hb2⟩
    have B2 := Lib.hid (B1.out.trans (hb2.mono B1.out.size))
    have HX2 := Lib.hid (HX1.out.below hb2 hlt1)
    have hlt2 : w.heap.size < w2.heap.size := Nat.lt_of_lt_of_le hlt1 hb2.size
    clear hb2 c0 c1 c2 c3 c4 c5 c6 c7 c8
    go_wp2_with fail
    refine (HT.out _ B2.out).mono ?_
    rintro e w3 ⟨⟨u, rfl, hu⟩, hb3⟩
    have B3 := Lib.hid (B2.out.trans (hb3.mono B2.out.size))
    have HX3 := Lib.hid (HX2.out.below hb3 hlt2)
    have hlt3 : w.heap.size < w3.heap.size := Nat.lt_of_lt_of_le hlt2 hb3.size
    have hur := hu.rd
    clear hb3 hu
    go_wp2_with fail
    refine (HC.out _ _ hur).mono ?_
    rintro e w4 ⟨v0, rfl, ho4, hb4⟩
    have B4 := Lib.hid (B3.out.trans (hb4.mono B3.out.size))
    have HX4 := Lib.hid (HX3.out.below hb4 hlt3)
    have hlt4 : w.heap.size < w4.heap.size := Nat.lt_of_lt_of_le hlt3 hb4.size
    have V4 := Lib.hid ho4
    clear hb4 hur ho4
    go_wp2_with fail
    refine (HT.out _ B4.out).mono ?_
    rintro e w5 ⟨⟨x1, rfl, hx⟩, hb5⟩
    have B5 := Lib.hid (B4.out.trans (hb5.mono B4.out.size))
    have V5 := Lib.hid (V4.out.keeps (.below _ hb5) (.below _ hb5))
    have HX5 := Lib.hid (HX4.out.below hb5 hlt4)
    have hlt5 : w.heap.size < w5.heap.size := Nat.lt_of_lt_of_le hlt4 hb5.size
    have X5 := Lib.hid hx
    have s5 := hb5.size
    obtain ⟨c0, c1, c2, c3, c4, c5, c6, c7, c8⟩ := HX5.out
    clear hb5 hx
    go_wp2_with fail
    refine (HTC.out _).mono ?_
    rintro e w6 ⟨rfl, hb6⟩
    have B6 := Lib.hid (B5.out.trans (hb6.mono B5.out.size))
    have s6 := hb6.size
    have V6 := Lib.hid (V5.out.keeps (.below _ hb6) (.below _ hb6))
    have X6 := Lib.hid (X5.out.keeps (.below _ hb6) (.below _ hb6))
    have HX6 := Lib.hid (HX5.out.below hb6 hlt5)
    have hlt6 : w.heap.size < w6.heap.size := Nat.lt_of_lt_of_le hlt5 hb6.size
    clear hb6 c0 c1 c2 c3 c4 c5 c6 c7 c8
    go_wp2_with fail
    refine (HI.out _ _ B6.out X6.out.rd).mono ?_
    rintro e w7 ⟨g0, rfl, ho7, hb7⟩
    have B7 := Lib.hid (B6.out.trans (hb7.mono B6.out.size))
    have s7 := hb7.size
    have V7 := Lib.hid (V6.out.keeps (.below _ hb7) (.below _ hb7))
    have X7 := Lib.hid (X6.out.keeps (.below _ hb7) (.below _ hb7))
    have HX7 := Lib.hid (HX6.out.below hb7 hlt6)
    have hlt7 : w.heap.size < w7.heap.size := Nat.lt_of_lt_of_le hlt6 hb7.size
    have G7 := Lib.hid ho7
    clear hb7 ho7
    go_wp2_with fail
    refine (HEB.out _ _ _ _ _ _ _ G7.out V7.out).mono ?_
    rintro e w8 ⟨rfl, hb8⟩
    have B8 := Lib.hid (B7.out.trans (hb8.mono B7.out.size))
    have s8 := hb8.size
    have V8 := Lib.hid (V7.out.keeps (.below _ hb8) (.below _ hb8))
    have X8 := Lib.hid (X7.out.keeps (.below _ hb8) (.below _ hb8))
    have HX8 := Lib.hid (HX7.out.below hb8 hlt7)
    have hlt8 : w.heap.size < w8.heap.size := Nat.lt_of_lt_of_le hlt7 hb8.size
    have G8 := Lib.hid (G7.out.keeps (.below _ hb8) (.below _ hb8))
    clear hb8
    go_wp2_with fail
    refine (HT.out _ B8.out).mono ?_
    rintro e w9 ⟨⟨x2, rfl, hx2⟩, hb9⟩
    have B9 := Lib.hid (B8.out.trans (hb9.mono B8.out.size))
    have s9 := hb9.size
    have V9 := Lib.hid (V8.out.keeps (.below _ hb9) (.below _ hb9))
    have X9 := Lib.hid (X8.out.keeps (.below _ hb9) (.below _ hb9))
    have HX9 := Lib.hid (HX8.out.below hb9 hlt8)
    have hlt9 : w.heap.size < w9.heap.size := Nat.lt_of_lt_of_le hlt8 hb9.size
    have G9 := Lib.hid (G8.out.keeps (.below _ hb9) (.below _ hb9))
    have hx2r := hx2.rd
    clear hb9 hx2
    go_wp2_with fail
    refine (HEL.out _ _ _ X9.out.rd hx2r).mono ?_
    rintro e w10 ⟨rfl, hb10⟩
    have B10 := Lib.hid (B9.out.trans (hb10.mono B9.out.size))
    have s10 := hb10.size
    have V10 := Lib.hid (V9.out.keeps (.below _ hb10) (.below _ hb10))
    have X10 := Lib.hid (X9.out.keeps (.below _ hb10) (.below _ hb10))
    have HX10 := Lib.hid (HX9.out.below hb10 hlt9)
    have hlt10 : w.heap.size < w10.heap.size := Nat.lt_of_lt_of_le hlt9 hb10.size
    have G10 := Lib.hid (G9.out.keeps (.below _ hb10) (.below _ hb10))
    clear hb10 hx2r
    go_wp2_with fail
    refine (HMK.out _ _ _ X10.out (by omega)).mono ?_
    rintro e w11 ⟨rfl, _, hb11, hk11⟩
    have B11 := Lib.hid (B10.out.trans (hb11.mono B4.out.size))
    have s11 := hb11.size
    have V11 := Lib.hid (V10.out.keeps (hk11 _ (by decide) (by decide)) (hk11 _ (by decide) (by decide)))
    have HX11 := Lib.hid (HX10.out.below hb11 hlt4)
    have G11 := Lib.hid (G10.out.keeps (hk11 _ (by decide) (by decide)) (hk11 _ (by decide) (by decide)))
    clear hb11 hk11
    go_wp2_with fail
    refine (HEB.out _ _ _ _ _ _ _ G11.out V11.out).mono ?_
    rintro e w12 ⟨rfl, hb12⟩
    have B12 := Lib.hid (B11.out.trans (hb12.mono B11.out.size))
    have s12 := hb12.size
    have V12 := Lib.hid (V11.out.keeps (.below _ hb12) (.below _ hb12))
    have HX12 := Lib.hid (HX11.out.below hb12 (by omega))
    have G12 := Lib.hid (G11.out.keeps (.below _ hb12) (.below _ hb12))
    clear hb12
    go_wp2_with fail
    refine (HMB.out _ _ _ _ G12.out (by omega)).mono ?_
    rintro e w13 ⟨rfl, ho13, hb13, _⟩
    have s13 := hb13.size
    have B13 := Lib.hid (B12.out.trans (hb13.mono B6.out.size))
    have HX13 := Lib.hid (HX12.out.below hb13 (by omega))
    have V13 := Lib.hid (V12.out.below (hb13.mono (by omega)))
    have G13 := Lib.hid ho13
    clear hb13 ho13
    go_wp2_with fail
    refine (HHD.out _ _ _ _ G13.out).mono ?_
    rintro e w13h ⟨rfl, hb13h⟩
    have B13h := Lib.hid (B13.out.trans (hb13h.mono B13.out.size))
    have V13h := Lib.hid (V13.out.keeps (.below _ hb13h) (.below _ hb13h))
    have G13h := Lib.hid (G13.out.keeps (.below _ hb13h) (.below _ hb13h))
    obtain ⟨c0, c1, c2, c3, c4, c5, c6, c7, c8⟩ := HX13.out.below hb13h (by omega)
    clear hb13h
    go_wp2_with fail
    refine (HTC.out _).mono ?_
    rintro e w14 ⟨rfl, hb14⟩
    have B14 := Lib.hid (B13h.out.trans (hb14.mono B13h.out.size))
    have V14 := Lib.hid (V13h.out.keeps (.below _ hb14) (.below _ hb14))
    have G14 := Lib.hid (G13h.out.keeps (.below _ hb14) (.below _ hb14))
    clear hb14 c0 c1 c2 c3 c4 c5 c6 c7 c8
    go_wp2_with fail
    refine (HT.out _ B14.out).mono ?_
    rintro e w15 ⟨⟨x3, rfl, hx3⟩, hb15⟩
    have B15 := Lib.hid (B14.out.trans (hb15.mono B14.out.size))
    have V15 := Lib.hid (V14.out.keeps (.below _ hb15) (.below _ hb15))
    have G15 := Lib.hid (G14.out.keeps (.below _ hb15) (.below _ hb15))
    have hx3r := hx3.rd
    clear hb15 hx3
    go_wp2_with fail
    refine (HI.out _ _ B15.out hx3r).mono ?_
    rintro e w16 ⟨h0v, rfl, ho16, hb16⟩
    have B16 := Lib.hid (B15.out.trans (hb16.mono B15.out.size))
    have V16 := Lib.hid (V15.out.keeps (.below _ hb16) (.below _ hb16))
    have G16 := Lib.hid (G15.out.keeps (.below _ hb16) (.below _ hb16))
    have N16 := ho16
    clear hb16 ho16 hx3r
    go_wp2_with fail
    refine (HEB.out _ _ _ _ _ _ _ N16 V16.out).mono ?_
    rintro e w17 ⟨rfl, hb17⟩
    have B17 := Lib.hid (B16.out.trans (hb17.mono B16.out.size))
    have G17 := Lib.hid (G16.out.keeps (.below _ hb17) (.below _ hb17))
    clear hb17 N16
    go_wp2_with fail
    refine (HHD.out _ _ _ _ G17.out).mono ?_
    rintro e w18 ⟨rfl, hb18⟩
    have B18 := Lib.hid (B17.out.trans (hb18.mono B17.out.size))
    clear hb18
    go_wp2_with fail
    go_ret
    exact ⟨rfl, B18.out⟩
end Go.Proofs.Ytdihoofhbkafoaa
