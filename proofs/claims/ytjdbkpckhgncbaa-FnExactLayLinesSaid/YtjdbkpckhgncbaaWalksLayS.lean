/- LayLines: the law, over a contract of the program's function. -/
import Derived.Test.YtjdbkpckhgncbaaSpecLayS
import Derived.Test.YtjdbkpckhgncbaaBB
namespace Go.Proofs.Ytjdbkpckhgncbaa
open Go.RowKit
set_option linter.unusedVariables false

set_option maxRecDepth 100000 in
set_option maxHeartbeats 1000000 in
theorem layLines_law (w : World) (c : Cfg) (A : Option Addr) (len cap : Nat) (ls : List Ln) (hr : RdL w (.slice A len cap) ls) (hi : InL ls)
    (hI : ∀ v W, Below w.heap.size w W → RdL W v ls → FitL ls → Calls Try.prog 19 #[.agg (cfgV c), v] W fun e w' => e = .returned (.string (layLinesB c ls)) ∧ Below W.heap.size W w') :
    Calls Try.prog 5 #[.agg (cfgV c), .slice A len cap] w fun e w' => e = .returned (.bool true) ∧ Below w.heap.size w w' := by
  have HS := Lib.hid (fun W hW => szLineS_any ls (.slice A len cap) 1048576 W (hr.below (w' := W) hW) (by omega) (by omega) hi)
  have HR := Lib.hid hr
  have HTC := Lib.hid (fun W => toConfig_any c W)
  have HC0 := Lib.hid (fun v W (hv : RdL W v ls) hfit => specLayLines c ls v W hv hfit)
  have HI0 := Lib.hid hI
  generalize layLinesB c ls = z at HC0 HI0
  obtain ⟨m, t, p, d, fr, fd, fl, fe, fm⟩ := c
  unfold cfgV at HTC HC0 HI0 ⊢
  simp only at HTC HC0 HI0 ⊢
  clear hr hi hI
  go_enter Try.func5, Try.ntmps5
  have HBX := Lib.hid (Boxed.new w 23 m t p d fr fd fl fe fm)
  have B0 : Hid (Below w.heap.size w (w.alloc (.cells #[.int .i64 m, .int .i64 t, .int .i64 p, .int .i64 d, .bool fr, .bool fd, .bool fl, .bool fe, .bool fm] 23))) := Lib.hid (by go_grown)
  go_wp2_with fail
  refine (HS.out _ B0.out).mono ?_
  rintro e w1 ⟨⟨r, rfl, hsz⟩, hb1⟩
  have B1 := Lib.hid (B0.out.trans (hb1.mono B0.out.size))
  have hlt1 : w.heap.size < w1.heap.size := by have := hb1.size; simp at this; omega
  have HX1 := Lib.hid (HBX.out.below hb1 (by simp))
  clear hb1
  rcases hsz with rfl | ⟨h0, h1⟩
  · go_wp2_with fail
    go_ret
    exact ⟨rfl, B1.out⟩
  · have hfit : FitL ls := ⟨by omega, by omega⟩
    have HT := Lib.hid (fun W (hW : Below w.heap.size w W) => toLineS_any ls _ W (HR.out.below hW) hfit)
    have HC := Lib.hid (fun v W (hv : RdL W v ls) => HC0.out v W hv hfit)
    have HI := Lib.hid (fun v W (hW : Below w.heap.size w W) (hv : RdL W v ls) => HI0.out v W hW hv hfit)
    have HE := Lib.hid (fun va vb W (ha : RdL W va ls) (hb : RdL W vb ls) => eqLineS_same ls va vb W ha hb hfit.wide)
    clear h1 hfit
    obtain ⟨c0, c1, c2, c3, c4, c5, c6, c7, c8⟩ := HX1.out
    go_wp2_with fail
    refine (HTC.out _).mono ?_
    rintro e w2 ⟨rfl, hb2⟩
    have B2 := Lib.hid (B1.out.trans (hb2.mono B1.out.size))
    have HX2 := Lib.hid (HX1.out.below hb2 hlt1)
    have hlt2 : w.heap.size < w2.heap.size := Nat.lt_of_lt_of_le hlt1 hb2.size
    clear hb2 c0 c1 c2 c3 c4 c5 c6 c7 c8
    go_wp2_with fail
    refine (HT.out _ B2.out).mono ?_
    rintro e w3 ⟨⟨u, rfl, hu⟩, hb3⟩
    have B3 := Lib.hid (B2.out.trans (hb3.mono B2.out.size))
    have HX3 := Lib.hid (HX2.out.below hb3 hlt2)
    have hlt3 : w.heap.size < w3.heap.size := Nat.lt_of_lt_of_le hlt2 hb3.size
    clear hb3
    go_wp2_with fail
    refine (HC.out _ _ hu).mono ?_
    rintro e w4 ⟨rfl, hb4⟩
    have B4 := Lib.hid (B3.out.trans (hb4.mono B3.out.size))
    have HX4 := Lib.hid (HX3.out.below hb4 hlt3)
    have hlt4 : w.heap.size < w4.heap.size := Nat.lt_of_lt_of_le hlt3 hb4.size
    clear hb4 hu
    go_wp2_with fail
    refine (HT.out _ B4.out).mono ?_
    rintro e w5 ⟨⟨x, rfl, hx⟩, hb5⟩
    have B5 := Lib.hid (B4.out.trans (hb5.mono B4.out.size))
    obtain ⟨c0, c1, c2, c3, c4, c5, c6, c7, c8⟩ := HX4.out.below hb5 hlt4
    have HX := Lib.hid hx
    clear hb5 hx
    go_wp2_with fail
    refine (HTC.out _).mono ?_
    rintro e w6 ⟨rfl, hb6⟩
    have B6 := Lib.hid (B5.out.trans (hb6.mono B5.out.size))
    have HX6 := Lib.hid (HX.out.below hb6)
    clear hb6 c0 c1 c2 c3 c4 c5 c6 c7 c8
    go_wp2_with fail
    refine (HI.out _ _ B6.out HX6.out).mono ?_
    rintro e w7 ⟨rfl, hb7⟩
    have B7 := Lib.hid (B6.out.trans (hb7.mono B6.out.size))
    have HX7 := Lib.hid (HX6.out.below hb7)
    clear hb7
    go_wp2_with fail
    refine (HT.out _ B7.out).mono ?_
    rintro e w8 ⟨⟨y, rfl, hy⟩, hb8⟩
    have B8 := Lib.hid (B7.out.trans (hb8.mono B7.out.size))
    have HX8 := Lib.hid (HX7.out.below hb8)
    clear hb8
    go_wp2_with fail
    refine (HE.out _ _ _ HX8.out hy).mono ?_
    rintro e w9 ⟨rfl, hb9⟩
    have B9 := Lib.hid (B8.out.trans (hb9.mono B8.out.size))
    clear hb9 hy
    go_wp2_with fail
    go_ret
    exact ⟨rfl, B9.out⟩
end Go.Proofs.Ytjdbkpckhgncbaa
