/- The exact law on OpsOf, over a contract of the program's. -/
import Derived.Test.YtooanejiadbngaaOpLaws
import Derived.Test.YtooanejiadbngaaSpecOps
import Derived.Test.YtooanejiadbngaaCfgRead
import Derived.Test.YtooanejiadbngaaTextIn
namespace Go.Proofs.Ytooanejiadbngaa
open Go.RowKit
set_option linter.unusedVariables false

theorem apartO {W W' : World} {b : Nat} {v g : Value} {l l' : List Opn} (h : OwnO W b v l) (h' : OwnO W' W.heap.size g l') : v.ownBlock = none ∨ v.ownBlock ≠ g.ownBlock := by
  cases hv : v.ownBlock with
  | none => exact .inl rfl
  | some k =>
    right
    intro he
    have h1 := (World.ownsRow.lt h k hv).2
    have h2 := (World.ownsRow.lt h' k he.symm).1
    omega
theorem OwnO.kept {W W' : World} {b : Nat} {v g : Value} {l : List Opn} (h : OwnO W b v l) (hg : W.grownBy W' g.ownBlock) (ha : v.ownBlock = none ∨ v.ownBlock ≠ g.ownBlock) : OwnO W' b v l := by
  unfold OwnO at h ⊢
  exact h.kept hg ha
theorem OwnO.marked {W W' : World} {b : Nat} {v : Value} {l : List Opn} (ho : OwnO W b v l) (hb : b ≤ W.heap.size) (hg : W.grownBy W' v.ownBlock) : Below b W W' :=
  (Below.refl b W).grown hg hb (fun k hk => (World.ownsRow.lt ho k hk).1)
theorem OwnO.keeps {W W' : World} {base : Nat} {v : Value} {l : List Opn} (h : OwnO W base v l) (hk : Keeps W W' 51) : OwnO W' base v l := own_keeps h hk
set_option maxRecDepth 100000 in
set_option maxHeartbeats 8000000 in
theorem opsOf_law (w : World) (c : Cfg) (A : Option Addr) (len cap : Nat) (xs : List ByteArray) (hx : IsStrs w A len cap xs)
    (hI : ∀ v W, Below w.heap.size w W → Rd W v (strs xs) → xs.length ≤ 1048576 → Calls Try.prog 9 #[.agg (cfgV c), v] W fun e w' => ∃ u, e = .returned u ∧ OwnO w' W.heap.size u (opsL c xs) ∧ Below W.heap.size W w') :
    Calls Try.prog 3 #[.agg (cfgV c), .slice A len cap] w fun e w' => e = .returned (.bool true) ∧ Below w.heap.size w w' := by
  obtain ⟨hlen, hlc, hcm, hrd, hws⟩ := hx
  unfold maxLen at hcm hws
  have HRD := Lib.hid hrd
  have hsz := fun W hb => szStringS_any xs 1048576 (.slice A len cap) W (hrd.below (w' := W) hb) (by omega) (by omega) (by omega) (fun x hx => hws x hx)
  obtain ⟨r, hr⟩ : ∃ r, r = szL xs 1048576 := ⟨_, rfl⟩
  rw [← hr] at hsz
  have HSZ := Lib.hid hsz
  have HR := Lib.hid hr
  have HTC := Lib.hid (fun W => toConfig_any c W)
  have HC0 := Lib.hid (fun v W (hv : Rd W v (strs xs)) hl => specOpsOf c xs v W hv hl)
  have HI0 := Lib.hid hI
  have hzl := opsL_len c xs
  generalize opsL c xs = z at HC0 HI0 hzl
  obtain ⟨m, t, p, d, fr, fd, fl, fe, fm⟩ := c
  unfold cfgV at HTC HC0 HI0 ⊢
  simp only at HTC HC0 HI0 ⊢
  have HBX := Lib.hid (Boxed.new w 23 m t p d fr fd fl fe fm)
  have B0 : Hid (Below w.heap.size w (w.alloc (.cells #[.int .i64 m, .int .i64 t, .int .i64 p, .int .i64 d, .bool fr, .bool fd, .bool fl, .bool fe, .bool fm] 23))) := Lib.hid (by go_grown)
  clear hsz hr hrd hws hlen hI
  go_enter Try.func3, Try.ntmps3
  go_wp2_with fail
  refine (HSZ.out _ B0.out).mono ?_
  rintro e w1 ⟨rfl, rfl⟩
  by_cases hneg : r < 0
  · go_wp2_with fail
    go_ret
    exact ⟨rfl, B0.out⟩
  · have hle := szL_le xs 1048576 (by rw [← HR.out]; omega)
    have hn : xs.length ≤ 1048576 := by omega
    have HT := Lib.hid (fun W (hW : Below w.heap.size w W) => toStringS_any xs _ W (HRD.out.below hW) hn)
    have HC := Lib.hid (fun v W (hv : Rd W v (strs xs)) => HC0.out v W hv hn)
    have HI := Lib.hid (fun v W (hW : Below w.heap.size w W) (hv : Rd W v (strs xs)) => HI0.out v W hW hv hn)
    have HEL := Lib.hid (fun va vb W (ha : Rd W va (strs xs)) (hb : Rd W vb (strs xs)) => eqStringS_any xs xs va vb W ha hb (by omega))
    have HEB := Lib.hid (fun va vb W (ha : RdO W va z) (hb : RdO W vb z) => eqOpS_same z va vb W ha hb (by omega))
    have HMK := Lib.hid (fun base v W (ho : W.ownsRow base 9 1 v xs.length (strs xs)) => markStringS_any base xs.length 1 v (strs xs) W ho (by omega) (by omega))
    have HMB := Lib.hid (fun base v W (ho : OwnO W base v z) => markOpS_any base 1 v z W ho (by omega) (by omega))
    have HHD := Lib.hid (fun v W (hr : RdO W v (mkOs 1 z.length)) => heldOpS_any 1 z.length v W hr (by omega) (by omega))
    rw [decide_eq_true rfl] at HEL
    obtain ⟨y, hy⟩ : ∃ y, y = 1 + xs.length := ⟨_, rfl⟩
    have hy0 : ((y : Int) < 0) = False := by simp
    rw [← hy] at HMK
    obtain ⟨x, hx⟩ : ∃ x, x = 1 + 11 * z.length := ⟨_, rfl⟩
    have hx0 : ((x : Int) < 0) = False := by simp
    rw [← hx] at HMB HHD
    clear hle hzl hy hx
    obtain ⟨c0, c1, c2, c3, c4, c5, c6, c7, c8⟩ := HBX.out
    have hlt1 : w.heap.size < (w.alloc (.cells #[.int .i64 m, .int .i64 t, .int .i64 p, .int .i64 d, .bool fr, .bool fd, .bool fl, .bool fe, .bool fm] 23)).heap.size := by simp
    go_wp2_with fail
    refine (HTC.out _).mono ?_
    rintro e w2 ⟨rfl, hb2⟩
    have B2 := Lib.hid (B0.out.trans (hb2.mono B0.out.size))
    have HX2 := Lib.hid (HBX.out.below hb2 hlt1)
    have hlt2 : w.heap.size < w2.heap.size := Nat.lt_of_lt_of_le hlt1 hb2.size
    clear hb2 c0 c1 c2 c3 c4 c5 c6 c7 c8
    go_wp2_with fail
    refine (HT.out _ B2.out).mono ?_
    rintro e w3 ⟨u, rfl, hu, hb3⟩
    have B3 := Lib.hid (B2.out.trans (hb3.mono B2.out.size))
    have HX3 := Lib.hid (HX2.out.below hb3 hlt2)
    have hlt3 : w.heap.size < w3.heap.size := Nat.lt_of_lt_of_le hlt2 hb3.size
    have hur := Rd.of_own hu
    clear hb3 hu
    go_wp2_with fail
    refine (HC.out _ _ hur).mono ?_
    rintro e w4 ⟨v0, rfl, ho4, hb4⟩
    have B4 := Lib.hid (B3.out.trans (hb4.mono B3.out.size))
    have HX4 := Lib.hid (HX3.out.below hb4 hlt3)
    have hlt4 : w.heap.size < w4.heap.size := Nat.lt_of_lt_of_le hlt3 hb4.size
    have V4 := Lib.hid ho4
    clear hb4 hur ho4
    go_wp2_with fail
    refine (HT.out _ B4.out).mono ?_
    rintro e w5 ⟨x1, rfl, hx, hb5⟩
    have B5 := Lib.hid (B4.out.trans (hb5.mono B4.out.size))
    have V5 := Lib.hid (V4.out.keeps (.below _ hb5))
    have HX5 := Lib.hid (HX4.out.below hb5 hlt4)
    have hlt5 : w.heap.size < w5.heap.size := Nat.lt_of_lt_of_le hlt4 hb5.size
    have X5 := Lib.hid hx
    have s5 := hb5.size
    obtain ⟨c0, c1, c2, c3, c4, c5, c6, c7, c8⟩ := HX5.out
    clear hb5 hx
    go_wp2_with fail
    refine (HTC.out _).mono ?_
    rintro e w6 ⟨rfl, hb6⟩
    have B6 := Lib.hid (B5.out.trans (hb6.mono B5.out.size))
    have s6 := hb6.size
    have V6 := Lib.hid (V5.out.keeps (.below _ hb6))
    have X6 := Lib.hid (own_below X5.out hb6)
    have HX6 := Lib.hid (HX5.out.below hb6 hlt5)
    have hlt6 : w.heap.size < w6.heap.size := Nat.lt_of_lt_of_le hlt5 hb6.size
    clear hb6 c0 c1 c2 c3 c4 c5 c6 c7 c8
    go_wp2_with fail
    refine (HI.out _ _ B6.out (Rd.of_own X6.out)).mono ?_
    rintro e w7 ⟨g0, rfl, ho7, hb7⟩
    have B7 := Lib.hid (B6.out.trans (hb7.mono B6.out.size))
    have s7 := hb7.size
    have V7 := Lib.hid (V6.out.keeps (.below _ hb7))
    have X7 := Lib.hid (own_below X6.out hb7)
    have HX7 := Lib.hid (HX6.out.below hb7 hlt6)
    have hlt7 : w.heap.size < w7.heap.size := Nat.lt_of_lt_of_le hlt6 hb7.size
    have G7 := Lib.hid ho7
    have AP := Lib.hid (apartO V6.out ho7)
    clear hb7 ho7
    go_wp2_with fail
    refine (HEB.out _ _ _ G7.out.rd V7.out.rd).mono ?_
    rintro e w8 ⟨rfl, hb8⟩
    have B8 := Lib.hid (B7.out.trans (hb8.mono B7.out.size))
    have s8 := hb8.size
    have V8 := Lib.hid (V7.out.keeps (.below _ hb8))
    have X8 := Lib.hid (own_below X7.out hb8)
    have HX8 := Lib.hid (HX7.out.below hb8 hlt7)
    have hlt8 : w.heap.size < w8.heap.size := Nat.lt_of_lt_of_le hlt7 hb8.size
    have G8 := Lib.hid (G7.out.keeps (.below _ hb8))
    clear hb8
    go_wp2_with fail
    refine (HT.out _ B8.out).mono ?_
    rintro e w9 ⟨x2, rfl, hx2, hb9⟩
    have B9 := Lib.hid (B8.out.trans (hb9.mono B8.out.size))
    have s9 := hb9.size
    have V9 := Lib.hid (V8.out.keeps (.below _ hb9))
    have X9 := Lib.hid (own_below X8.out hb9)
    have HX9 := Lib.hid (HX8.out.below hb9 hlt8)
    have hlt9 : w.heap.size < w9.heap.size := Nat.lt_of_lt_of_le hlt8 hb9.size
    have G9 := Lib.hid (G8.out.keeps (.below _ hb9))
    have hx2r := Rd.of_own hx2
    clear hb9 hx2
    go_wp2_with fail
    refine (HEL.out _ _ _ (Rd.of_own X9.out) hx2r).mono ?_
    rintro e w10 ⟨rfl, nd, rfl⟩
    have hb10 : Below w9.heap.size w9 (w9.drewN nd) := below_drewN (Below.refl _ _) nd
    have B10 := Lib.hid (B9.out.trans (hb10.mono B9.out.size))
    have s10 := hb10.size
    have V10 := Lib.hid (V9.out.keeps (.below _ hb10))
    have X10 := Lib.hid (own_below X9.out hb10)
    have HX10 := Lib.hid (HX9.out.below hb10 hlt9)
    have hlt10 : w.heap.size < (w9.drewN nd).heap.size := Nat.lt_of_lt_of_le hlt9 hb10.size
    have G10 := Lib.hid (G9.out.keeps (.below _ hb10))
    clear hb10 hx2r
    generalize w9.drewN nd = w10 at B10 s10 V10 X10 HX10 hlt10 G10 ⊢
    go_wp2_with fail
    refine (HMK.out _ _ _ X10.out).mono ?_
    rintro e w11 ⟨rfl, _, hg11⟩
    have hb11 := (Below.refl w4.heap.size w10).grown hg11 (by omega) (fun k hk => (World.ownsRow.lt X10.out k hk).1)
    have hk11 : Keeps w10 w11 51 := Keeps.grown X10.out (by decide) hg11
    have B11 := Lib.hid (B10.out.trans (hb11.mono B4.out.size))
    have s11 := hb11.size
    have V11 := Lib.hid (V10.out.keeps hk11)
    have HX11 := Lib.hid (HX10.out.below hb11 hlt4)
    have G11 := Lib.hid (G10.out.keeps hk11)
    clear hb11 hk11 hg11
    go_wp2_with fail
    refine (HEB.out _ _ _ G11.out.rd V11.out.rd).mono ?_
    rintro e w12 ⟨rfl, hb12⟩
    have B12 := Lib.hid (B11.out.trans (hb12.mono B11.out.size))
    have s12 := hb12.size
    have V12 := Lib.hid (V11.out.keeps (.below _ hb12))
    have HX12 := Lib.hid (HX11.out.below hb12 (by omega))
    have G12 := Lib.hid (G11.out.keeps (.below _ hb12))
    clear hb12
    go_wp2_with fail
    refine (HMB.out _ _ _ G12.out).mono ?_
    rintro e w13 ⟨rfl, ho13, hg13⟩
    have hb13 := OwnO.marked G12.out (by omega) hg13
    have s13 := hb13.size
    have B13 := Lib.hid (B12.out.trans (hb13.mono B6.out.size))
    have HX13 := Lib.hid (HX12.out.below hb13 (by omega))
    have V13 := Lib.hid (V12.out.kept hg13 AP.out)
    have G13 := Lib.hid ho13.rd
    clear hb13 hg13 ho13
    go_wp2_with fail
    refine (HHD.out _ _ G13.out).mono ?_
    rintro e w13' ⟨rfl, hb13'⟩
    have B13' := Lib.hid (B13.out.trans (hb13'.mono B13.out.size))
    have V13' := Lib.hid (V13.out.keeps (.below _ hb13'))
    have G13' := Lib.hid (G13.out.below hb13')
    have HX13' := Lib.hid (HX13.out.below hb13' (by omega))
    obtain ⟨c0, c1, c2, c3, c4, c5, c6, c7, c8⟩ := HX13'.out
    clear hb13'
    go_wp2_with fail
    refine (HTC.out _).mono ?_
    rintro e w14 ⟨rfl, hb14⟩
    have B14 := Lib.hid (B13'.out.trans (hb14.mono B13'.out.size))
    have V14 := Lib.hid (V13'.out.keeps (.below _ hb14))
    have G14 := Lib.hid (G13'.out.below hb14)
    clear hb14 c0 c1 c2 c3 c4 c5 c6 c7 c8
    go_wp2_with fail
    refine (HT.out _ B14.out).mono ?_
    rintro e w15 ⟨x3, rfl, hx3, hb15⟩
    have B15 := Lib.hid (B14.out.trans (hb15.mono B14.out.size))
    have V15 := Lib.hid (V14.out.keeps (.below _ hb15))
    have G15 := Lib.hid (G14.out.below hb15)
    have hx3r := Rd.of_own hx3
    clear hb15 hx3
    go_wp2_with fail
    refine (HI.out _ _ B15.out hx3r).mono ?_
    rintro e w16 ⟨h0v, rfl, ho16, hb16⟩
    have B16 := Lib.hid (B15.out.trans (hb16.mono B15.out.size))
    have V16 := Lib.hid (V15.out.keeps (.below _ hb16))
    have G16 := Lib.hid (G15.out.below hb16)
    have N16 := ho16.rd
    clear hb16 ho16 hx3r
    go_wp2_with fail
    refine (HEB.out _ _ _ N16 V16.out.rd).mono ?_
    rintro e w17 ⟨rfl, hb17⟩
    have B17 := Lib.hid (B16.out.trans (hb17.mono B16.out.size))
    have G17 := Lib.hid (G16.out.below hb17)
    clear hb17 N16
    go_wp2_with fail
    refine (HHD.out _ _ G17.out).mono ?_
    rintro e w18 ⟨rfl, hb18⟩
    have B18 := Lib.hid (B17.out.trans (hb18.mono B17.out.size))
    clear hb18
    go_wp2_with fail
    go_ret
    exact ⟨rfl, B18.out⟩
end Go.Proofs.Ytooanejiadbngaa
