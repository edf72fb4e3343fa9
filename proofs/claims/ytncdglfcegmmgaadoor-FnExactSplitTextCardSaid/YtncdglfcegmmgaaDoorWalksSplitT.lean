/- SplitText: the model's, behind its test of the configuration; the law. -/
import Derived.Test.YtncdglfcegmmgaaDoorSpecSplitW
import Derived.Test.YtncdglfcegmmgaaDoorImplSplitT
import Derived.Test.YtncdglfcegmmgaaDoorMarkLn
namespace Go.Proofs.YtncdglfcegmmgaaDoor
open Go.RowKit
set_option linter.unusedVariables false

theorem OwnL.base {W : World} {base base' : Nat} {K : Option Nat} {v : Value} {ls : List Ln} (h : OwnL W base K v ls) (hb : base' ≤ base) : OwnL W base' K v ls := by
  obtain ⟨vs, h1, h2, h3⟩ := h
  refine ⟨vs, h1, own_base h2 hb, fun j u l hu hl => ⟨?_, (h3.1 j u l hu hl).2⟩, h3.2⟩
  have h4 : W.ownsRow base 32 2 u l.cells.length (celVals l.cells) := (h3.1 j u l hu hl).1
  exact own_base h4 hb
set_option maxRecDepth 100000 in
set_option maxHeartbeats 1000000 in
theorem specSplitText (c : Cfg) (s : ByteArray) (w : World) (hs : s.size ≤ 1048576) :
    Calls Tryd.prog 14 #[.agg (cfgV c), .string s] w fun e w' => ∃ v, e = .returned v ∧ OwnL w' w.heap.size none v (splitL c s) ∧ Below w.heap.size w w' := by
  have hS := fun W => specIsConfig c W
  cases hv : validC c with
  | false =>
    rw [splitL_no s hv]
    rw [hv] at hS
    have HS := Lib.hid hS
    clear hS hv
    obtain ⟨m, t, p, d, fr, fd, fl, fe, fm⟩ := c
    unfold cfgV at HS ⊢
    simp only at HS ⊢
    go_enter Tryd.func14, Tryd.ntmps14
    go_wp2_with fail
    refine (HS.out _).mono ?_
    rintro e w1 ⟨rfl, hb1⟩
    have B1 := Lib.hid ((by go_grown : Below w.heap.size w (w.alloc _)).trans (hb1.mono (by simp)))
    clear hb1
    go_wp2_with fail
    go_ret
    exact ⟨_, rfl, OwnL.nilAt _ _ _ _ (World.ownsRow_nil _ _ _ _), B1.out⟩
  | true =>
    rw [splitL_yes s hv]
    rw [hv] at hS
    have HS := Lib.hid hS
    have HR := Lib.hid (fun W => specSplit c s W hs)
    clear hS hv
    generalize linesOf c.fe (fun b => (celW c.fm b 0 : Int)) s.data.toList = L at HR ⊢
    obtain ⟨m, t, p, d, fr, fd, fl, fe, fm⟩ := c
    unfold cfgV at HS HR ⊢
    simp only at HS HR ⊢
    go_enter Tryd.func14, Tryd.ntmps14
    go_wp2_with fail
    refine (HS.out _).mono ?_
    rintro e w1 ⟨rfl, hb1⟩
    have hbx := (Boxed.new w 24 m t p d fr fd fl fe fm).below hb1 (by simp)
    have B1 := Lib.hid ((by go_grown : Below w.heap.size w (w.alloc _)).trans (hb1.mono (by simp)))
    clear hb1
    obtain ⟨c0, c1, c2, c3, c4, c5, c6, c7, c8⟩ := hbx
    go_wp2_with fail
    refine (HR.out _).mono ?_
    rintro e w2 ⟨v, rfl, ho2, hb2⟩
    have HO := Lib.hid (ho2.base B1.out.size)
    have B2 := Lib.hid (B1.out.trans (hb2.mono B1.out.size))
    clear hb2 ho2
    go_wp2_with fail
    go_ret
    exact ⟨_, rfl, HO.out, B2.out⟩
set_option maxRecDepth 100000 in
set_option maxHeartbeats 2000000 in
theorem law_FnExactSplitText (c : Cfg) (hc : CfgFits c) (s : ByteArray) (hs : s.size ≤ maxLen) (w : World) (hT : WT w) :
    Calls Tryd.prog 5 #[.agg (cfgV c), .string s] w fun e w' => e = .returned (.bool true) ∧ Below w.heap.size w w' := by
  unfold maxLen at hs
  by_cases hbig : s.size ≤ 1048576
  · have HT := Lib.hid (fun W => toConfig_any c W)
    have HP := Lib.hid (fun W => specSplitText c s W hbig)
    have HI := Lib.hid (fun W (h : WT W) => implSplitText c s W hbig h)
    have HW := Lib.hid hT
    have hsz := splitL_size c s
    have hb : (decide ((1048576 : Int) < (s.size : Int))) = false := by simp; omega
    generalize splitL c s = ls at HP HI hsz
    have HE := Lib.hid (fun va vb W (ha : RdL W va ls) (hb : RdL W vb ls) => eqLineS_same ls va vb W ha hb ⟨by omega, by omega⟩)
    have HMK := Lib.hid (fun base v W (ho : OwnL W base none v ls) (hb : base ≤ W.heap.size) => markLineS_any base 1 v ls W ho hb (by omega) (by omega))
    have HHD := Lib.hid (fun v W (hr : RdL W v (mkLs 1 ls)) => heldLineS_any 1 v ls W hr (by omega) (by omega))
    obtain ⟨z, hz⟩ : ∃ z, z = endK 1 ls := ⟨_, rfl⟩
    have hz0 : ((z : Int) < 0) = False := by simp
    rw [← hz] at HMK HHD
    obtain ⟨m, t, p, d, fr, fd, fl, fe, fm⟩ := c
    unfold cfgV at HT HP HI ⊢
    simp only at HT HP HI ⊢
    clear hbig hc hT hz hsz
    go_enter Tryd.func5, Tryd.ntmps5
    go_wp2_with fail
    refine (HT.out _).mono ?_
    rintro e w1 ⟨rfl, hb1⟩
    have X1 := Lib.hid ((Boxed.new w 38 m t p d fr fd fl fe fm).below hb1 (by simp))
    have B1 := Lib.hid ((by go_grown : Below w.heap.size w (w.alloc _)).trans (hb1.mono (by simp)))
    have hlt1 : w.heap.size < w1.heap.size := by have := hb1.size; simp at this; omega
    clear hb1
    go_wp2_with fail
    refine (HP.out _).mono ?_
    rintro e w2 ⟨v0, rfl, ho2, hb2⟩
    have B2 := Lib.hid (B1.out.trans (hb2.mono B1.out.size))
    have X2 := Lib.hid (X1.out.below hb2 hlt1)
    have hlt2 : w.heap.size < w2.heap.size := Nat.lt_of_lt_of_le hlt1 hb2.size
    have R2 := Lib.hid ho2.rd
    obtain ⟨c0, c1, c2, c3, c4, c5, c6, c7, c8⟩ := X2.out
    clear hb2 ho2
    go_wp2_with fail
    refine (HT.out _).mono ?_
    rintro e w3 ⟨rfl, hb3⟩
    have B3 := Lib.hid (B2.out.trans (hb3.mono B2.out.size))
    have X3 := Lib.hid (X2.out.below hb3 hlt2)
    have hlt3 : w.heap.size < w3.heap.size := Nat.lt_of_lt_of_le hlt2 hb3.size
    have R3 := Lib.hid (R2.out.below hb3)
    clear hb3 c0 c1 c2 c3 c4 c5 c6 c7 c8
    go_wp2_with fail
    refine (HI.out _ (HW.out.below B3.out)).mono ?_
    rintro e w4 ⟨v, rfl, ho4, hb4⟩
    have B4 := Lib.hid (B3.out.trans (hb4.mono B3.out.size))
    have D4 := Lib.hid hb4
    have O4 := Lib.hid ho4
    clear hb4 ho4
    go_wp2_with fail
    refine (HE.out _ _ _ O4.out.rd (R3.out.below D4.out)).mono ?_
    rintro e w5 ⟨rfl, hb5⟩
    have D5 := Lib.hid (D4.out.trans (hb5.mono D4.out.size))
    have O5 := Lib.hid (O4.out.keeps (.below _ hb5) (.below _ hb5))
    clear hb5
    go_wp2_with fail
    refine (HMK.out _ _ _ O5.out D5.out.size).mono ?_
    rintro e w6 ⟨rfl, ho6, hb6⟩
    have D6 := Lib.hid (D5.out.trans hb6)
    have R6 := Lib.hid ho6.rd
    clear ho6 hb6
    go_wp2_with fail
    refine (HHD.out _ _ R6.out).mono ?_
    rintro e w7 ⟨rfl, hb7⟩
    have D7 := Lib.hid (D6.out.trans (hb7.mono D6.out.size))
    have R7 := Lib.hid (R6.out.below hb7)
    have X7 := Lib.hid (X3.out.below D7.out hlt3)
    have hlt7 : w.heap.size < w7.heap.size := Nat.lt_of_lt_of_le hlt3 D7.out.size
    have B7 := Lib.hid (B3.out.trans (D7.out.mono B3.out.size))
    obtain ⟨c0, c1, c2, c3, c4, c5, c6, c7, c8⟩ := X7.out
    clear hb7
    go_wp2_with fail
    refine (HT.out _).mono ?_
    rintro e w8 ⟨rfl, hb8⟩
    have D8 := Lib.hid (D7.out.trans (hb8.mono D7.out.size))
    have R8 := Lib.hid (R7.out.below hb8)
    have B8 := Lib.hid (B7.out.trans (hb8.mono B7.out.size))
    clear hb8 c0 c1 c2 c3 c4 c5 c6 c7 c8
    go_wp2_with fail
    refine (HI.out _ (HW.out.below B8.out)).mono ?_
    rintro e w9 ⟨v9, rfl, ho9, hb9⟩
    have D9 := Lib.hid (D8.out.trans (hb9.mono D8.out.size))
    have R9 := Lib.hid (R8.out.below hb9)
    have B9 := Lib.hid (B8.out.trans (hb9.mono B8.out.size))
    have Q9 := Lib.hid ho9.rd
    clear hb9 ho9
    go_wp2_with fail
    refine (HE.out _ _ _ Q9.out (R3.out.below D9.out)).mono ?_
    rintro e w10 ⟨rfl, hb10⟩
    have R10 := Lib.hid (R9.out.below hb10)
    have B10 := Lib.hid (B9.out.trans (hb10.mono B9.out.size))
    clear hb10
    go_wp2_with fail
    refine (HHD.out _ _ R10.out).mono ?_
    rintro e w11 ⟨rfl, hb11⟩
    have B11 := Lib.hid (B10.out.trans (hb11.mono B10.out.size))
    clear hb11
    go_wp2_with fail
    go_ret
    exact ⟨rfl, B11.out⟩
  · go_enter Tryd.func5, Tryd.ntmps5
    go_wp2
    go_ret
    exact ⟨rfl, by go_grown⟩
end Go.Proofs.YtncdglfcegmmgaaDoor
