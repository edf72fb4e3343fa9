/- The exact law on NaturalWidths. -/
import Derived.Test.YtionfjofojfaoaaDoorSpecWid
import Derived.Test.YtionfjofojfaoaaDoorWalksSameT
import Derived.Test.YtionfjofojfaoaaDoorLawCol
import Derived.Test.YtionfjofojfaoaaDoorMarkTab
namespace Go.Proofs.YtionfjofojfaoaaDoor
open Go.RowKit
set_option linter.unusedVariables false

set_option maxRecDepth 100000 in
set_option maxHeartbeats 8000000 in
theorem naturalWidths_law (w : World) (h : List ByteArray) (n : Nat) (f : Nat → List ByteArray) (hv rv : Value) (ha : TArg w hv rv h n f) (L : List Int) (hL : TabFits h n f → L.length ≤ 1048576)
    (hS : ∀ W b hv rv, Below w.heap.size w W → OwnTab W b W.heap.size hv rv h n f → TabFits h n f → Calls Tryd.prog 16 #[.agg #[hv, rv]] W fun e w' => ∃ v, e = .returned v ∧ w'.ownsRow W.heap.size 3 1 v L.length (ints L) ∧ Below W.heap.size W w')
    (hI : ∀ W b hv rv, Below w.heap.size w W → OwnTab W b W.heap.size hv rv h n f → TabFits h n f → Calls Tryd.prog 8 #[.agg #[hv, rv]] W fun e w' => ∃ v, e = .returned v ∧ w'.ownsRow W.heap.size 3 1 v L.length (ints L) ∧ Below W.heap.size W w') :
    Calls Tryd.prog 4 #[.agg #[hv, rv]] w fun e w' => e = .returned (.bool true) ∧ Below w.heap.size w w' := by
  obtain ⟨ta, a1, a2, a3, a4, a5⟩ := ha
  have HLA := Lib.hid (fun W (hb : Below w.heap.size w W) => szTable_any h n f 1048576 hv rv W (ta.1.below hb) (ta.2.below hb) (by omega) (by omega) a1 a2 a3 a4)
  have HFA := Lib.hid (fun (hz : 0 ≤ szTab h n f 1048576) => tab_fits hz a5)
  have HSU := Lib.hid (fun (hz : 0 ≤ szTab h n f 1048576) => tab_sum hz)
  have HT := Lib.hid (fun (hf : TabFits h n f) W (hb : Below w.heap.size w W) => toTable_any h n f hv rv W (ta.1.below hb) (ta.2.below hb) hf.1 hf.2.2.1 (fun i _ => (hf.2.2.2 i).1))
  have HS := Lib.hid hS
  have HI := Lib.hid hI
  have HQ := Lib.hid (fun (hl : L.length ≤ 1048576) va vb W (x : Rd W va (ints L)) (y : Rd W vb (ints L)) => (eqIntS_any L L va vb W x y (by omega)).mono (R' := fun e w' => e = .returned (.bool true) ∧ Below W.heap.size W w') fun _ _ ⟨h1, k, h2⟩ => ⟨by rw [h1, decide_eq_true rfl], by rw [h2]; exact below_drewN (Below.refl _ _) k⟩)
  have HM := Lib.hid (fun (hl : L.length ≤ 1048576) b v W (ho : W.ownsRow b 3 1 v L.length (ints L)) => markIntS_any b L.length 1 v (ints L) W ho (by omega) (by omega))
  have HH := Lib.hid (fun (hl : L.length ≤ 1048576) b v W (ho : W.ownsRow b 3 1 v L.length (ints (imarks 1 L.length))) => heldIntS_any b L.length 1 v W ho (by omega) (by omega))
  have HLL := Lib.hid hL
  obtain ⟨A, c, rfl, _⟩ := ta.1
  obtain ⟨B, d, rfl⟩ := ta.2.slc
  obtain ⟨hl, hhl⟩ : ∃ k, k = (strs h).length := ⟨_, rfl⟩
  rw [← hhl] at HLA HT ⊢
  obtain ⟨r, hre⟩ : ∃ r, r = szTab h n f 1048576 := ⟨_, rfl⟩
  rw [← hre] at HLA HFA HSU
  clear hhl hre ta a1 a2 a3 a4 a5 hS hI hL
  have HA := Lib.hid (Blk.new w 40 #[.slice A hl c, .slice B n d])
  have B0 := Lib.hid (by go_grown : Below w.heap.size w (w.alloc (.cells #[.slice A hl c, .slice B n d] 40)))
  obtain ⟨k0, k1⟩ := HA.out.two
  go_enter Tryd.func4, Tryd.ntmps4
  go_wp2_with fail
  refine (HLA.out _ B0.out).mono ?_
  rintro e w1 ⟨rfl, hb1⟩
  have B1 := Lib.hid (B0.out.trans (hb1.mono B0.out.size))
  have HA1 := Lib.hid (HA.out.after hb1)
  clear hb1 k0 k1
  by_cases hneg : r < 0
  · go_wp2_with fail
    go_ret
    exact ⟨rfl, B1.out⟩
  · have hfit := HFA.out (by omega)
    have hsu := HSU.out (by omega)
    have HFT := Lib.hid hfit
    have hl1 := HLL.out hfit
    have HTT := Lib.hid (HT.out hfit)
    have HQQ := Lib.hid (HQ.out hl1)
    have HMM := Lib.hid (HM.out hl1)
    have HHH := Lib.hid (HH.out hl1)
    have HMT := Lib.hid (fun b t hv rv W (ho : OwnTab W b t hv rv h n f) (ht : t ≤ W.heap.size) => markTable_any b t n 1 h f hv rv W ho ht (by omega) (by omega))
    obtain ⟨sx, hsx⟩ : ∃ s, s = 1 + h.length + sumG f n := ⟨_, rfl⟩
    obtain ⟨sg, hsg⟩ : ∃ s, s = 1 + L.length := ⟨_, rfl⟩
    rw [← hsx] at HMT
    rw [← hsg] at HMM HHH
    have hsx0 : ¬ ((sx : Nat) : Int) < 0 := by omega
    have hsg0 : ¬ ((sg : Nat) : Int) < 0 := by omega
    clear hfit hl1 hsu hsx hsg HT HFA HSU HQ HM HH HLL HLA
    obtain ⟨k0, k1⟩ := HA1.out.two
    go_wp2_with fail
    refine (HTT.out _ B1.out).mono ?_
    rintro e w2 ⟨hv2, rv2, rfl, ho2, hb2⟩
    have B2 := Lib.hid (B1.out.trans (hb2.mono B1.out.size))
    have HA2 := Lib.hid (HA1.out.after hb2)
    have HO2 := Lib.hid ho2
    clear hb2 k0 k1 ho2
    go_wp2_with fail
    refine (HS.out _ _ _ _ B2.out HO2.out HFT.out).mono ?_
    rintro e w3 ⟨v3, rfl, ho3, hb3⟩
    have B3 := Lib.hid (B2.out.trans (hb3.mono B2.out.size))
    have HA3 := Lib.hid (HA2.out.after hb3)
    have V3 := Lib.hid ho3
    have VL3 := Lib.hid (fun q (hq : v3.ownBlock = some q) => (World.ownsRow.lt ho3 q hq).2)
    have z3 := hb3.size
    obtain ⟨A3, c3, rfl, _⟩ := Rd.of_own ho3
    obtain ⟨l3, hl3⟩ : ∃ k, k = (ints L).length := ⟨_, rfl⟩
    rw [← hl3] at V3 VL3 ⊢
    clear hb3 HO2 ho3 hl3
    obtain ⟨k0, k1⟩ := HA3.out.two
    go_wp2_with fail
    refine (HTT.out _ B3.out).mono ?_
    rintro e w4 ⟨hv4, rv4, rfl, ho4, hb4⟩
    have B4 := Lib.hid (B3.out.trans (hb4.mono B3.out.size))
    have HA4 := Lib.hid (HA3.out.after hb4)
    have V4 := Lib.hid (own_below V3.out hb4)
    have HO4 := Lib.hid ho4
    have z4 := hb4.size
    obtain ⟨A4, c4, rfl, _⟩ := Rd.of_own ho4.head
    obtain ⟨D4, d4, rfl⟩ := ho4.rows.len
    obtain ⟨l4, hl4⟩ : ∃ k, k = (strs h).length := ⟨_, rfl⟩
    rw [← hl4] at HO4 ⊢
    clear hb4 k0 k1 ho4 hl4
    have hG := Blk.new w4 26 #[.slice none 0 0, .slice none 0 0]
    have s5 : Below w4.heap.size w4 ((w4.alloc (.cells #[.slice none 0 0, .slice none 0 0] 26)).setRow w4.heap.size #[.slice A4 l4 c4, .slice D4 n d4]) := below_row ((Below.refl w4.heap.size w4).alloc (Nat.le_refl _) _) (Nat.le_refl _)
    have hG5 := hG.row (cs' := #[.slice A4 l4 c4, .slice D4 n d4])
    obtain ⟨w5, hw5⟩ : ∃ W, W = (w4.alloc (.cells #[.slice none 0 0, .slice none 0 0] 26)).setRow w4.heap.size #[.slice A4 l4 c4, .slice D4 n d4] := ⟨_, rfl⟩
    rw [← hw5] at s5 hG5
    have HW5 := Lib.hid hw5
    have HG5 := Lib.hid hG5
    have B5 := Lib.hid (B4.out.trans (s5.mono B4.out.size))
    have HA5 := Lib.hid (HA4.out.after s5)
    have V5 := Lib.hid (own_below V4.out s5)
    have HO5 := Lib.hid (own_tab_below HO4.out s5)
    have z5 := s5.size
    clear s5 hw5 hG5
    obtain ⟨k0, k1⟩ := HG5.out.two
    go_wp2_with (refine wpList_store_row rfl _ _ _ rfl w4.heap.size #[.slice A4 l4 c4, .slice D4 n d4] rfl rfl 26 _ hG size_tab rfl (one_tab _ _ _ _ _ _) ?_; rw [← HW5.out])
    refine (HI.out _ _ _ _ B5.out HO5.out HFT.out).mono ?_
    rintro e w6 ⟨v6, rfl, ho6, hb6⟩
    have B6 := Lib.hid (B5.out.trans (hb6.mono B5.out.size))
    have HA6 := Lib.hid (HA5.out.after hb6)
    have HG6 := Lib.hid (HG5.out.after hb6)
    have V6 := Lib.hid (own_below V5.out hb6)
    have HO6 := Lib.hid (HO5.out.below hb6)
    have X6 := Lib.hid ho6
    have XL6 := Lib.hid (fun q (hq : v6.ownBlock = some q) => (World.ownsRow.lt ho6 q hq).1)
    have z6 := hb6.size
    obtain ⟨A6, c6, rfl, _⟩ := Rd.of_own ho6
    obtain ⟨l6, hl6⟩ : ∃ k, k = (ints L).length := ⟨_, rfl⟩
    rw [← hl6] at X6 XL6 ⊢
    clear hb6 k0 k1 hG ho6 hl6 HO4 HO5 HG5
    go_wp2_with fail
    refine (HQQ.out _ _ _ (Rd.of_own X6.out) (Rd.of_own V6.out)).mono ?_
    rintro e w7 ⟨rfl, hb7⟩
    have B7 := Lib.hid (B6.out.trans (hb7.mono B6.out.size))
    have HA7 := Lib.hid (HA6.out.after hb7)
    have HG7 := Lib.hid (HG6.out.after hb7)
    have V7 := Lib.hid (own_below V6.out hb7)
    have X7 := Lib.hid (own_below X6.out hb7)
    have HO7 := Lib.hid (HO6.out.below (hb7.mono z6))
    have z7 := hb7.size
    have HEQ := Lib.hid (fun W b t hv' rv' (hbW : Below w7.heap.size w7 W) (ob : OwnTab W b t hv' rv' h n f) => eqTable_same n _ b _ t h f _ _ hv' rv' W (HO7.out.below (hbW.mono (by omega))) ob (by have := HFT.out.1; omega) (by have := HFT.out.2.2.1; omega) (fun i => by have := (HFT.out.2.2.2 i).1; omega))
    clear hb7
    obtain ⟨k0, k1⟩ := HA7.out.two
    obtain ⟨k2, k3⟩ := HG7.out.two
    go_wp2_with fail
    go_region_held3 (fun W => W.cell? ⟨w.heap.size, 0, none⟩ = some (.slice A hl c) ∧ W.cell? ⟨w.heap.size, 1, none⟩ = some (.slice B n d) ∧ W.cell? ⟨w4.heap.size, 0, none⟩ = some (.slice A4 l4 c4) ∧ W.cell? ⟨w4.heap.size, 1, none⟩ = some (.slice D4 n d4) ∧ w.heap.size < W.heap.size ∧ w4.heap.size < W.heap.size ∧ Below w7.heap.size w7 W)
      (first | exact tb_start HA7.out HG7.out | exact tb_below (by assumption) (by assumption))
      (first
        | (go_at_call 17; refine (HTT.out _ (B7.out.trans ((tb_new (X := w7) (by assumption)).mono B7.out.size))).mono ?_; rintro e w8 ⟨hv8, rv8, rfl, ho8, hb8⟩)
        | (go_at_call 19; refine (HEQ.out _ _ _ _ _ (tb_new (X := w7) (by assumption)) (by assumption)).mono ?_; rintro e w9 ⟨rfl, hb9⟩))
    all_goals
      have hx9 := tb_new (X := w7) (W := w9) (by assumption)
      have B9 := Lib.hid (B7.out.trans (hx9.mono B7.out.size))
      have HA9 := Lib.hid (HA7.out.after hx9)
      have HG9 := Lib.hid (HG7.out.after hx9)
      have V9 := Lib.hid (own_below V7.out hx9)
      have X9 := Lib.hid (own_below X7.out hx9)
      have HO9 := Lib.hid (HO7.out.below (hx9.mono (by omega)))
      have z9 := hx9.size
      clear hx9 k0 k1 k2 k3
      obtain ⟨k2, k3⟩ := HG9.out.two
      go_wp2_with fail
      refine (HMT.out _ _ _ _ _ HO9.out (by omega)).mono ?_
      rintro e w10 ⟨rfl, _, hb10, hf10⟩
      have B10 := Lib.hid (B9.out.trans (hb10.mono (by have := B3.out.size; omega)))
      have HA10 := Lib.hid (HA9.out.below hb10 (by have := HA3.out.lt; omega))
      have V10 := Lib.hid (hf10 _ _ _ _ _ _ V9.out (fun q hq => .inl (VL3.out q hq)))
      have X10 := Lib.hid (hf10 _ _ _ _ _ _ X9.out (fun q hq => .inr (XL6.out q hq)))
      have z10 := hb10.size
      clear hb10 hf10 k2 k3
      go_wp2_with fail
      refine (HQQ.out _ _ _ (Rd.of_own X10.out) (Rd.of_own V10.out)).mono ?_
      rintro e w11 ⟨rfl, hb11⟩
      have B11 := Lib.hid (B10.out.trans (hb11.mono B10.out.size))
      have HA11 := Lib.hid (HA10.out.after hb11)
      have V11 := Lib.hid (own_below V10.out hb11)
      have X11 := Lib.hid (own_below X10.out hb11)
      have z11 := hb11.size
      clear hb11
      go_wp2_with fail
      refine (HMM.out _ _ _ X11.out).mono ?_
      rintro e w12 ⟨rfl, ho12, hg12⟩
      have hb12 : Below w5.heap.size w11 w12 := (Below.refl w5.heap.size w11).grown hg12 (by omega) (fun q hq => XL6.out q hq)
      have B12 := Lib.hid (B11.out.trans (hb12.mono (by have := B5.out.size; omega)))
      have HA12 := Lib.hid (HA11.out.below hb12 (by have := HA5.out.lt; omega))
      have V12 := Lib.hid (V11.out.kept hg12 (by
        cases hv : (Value.slice A3 l3 c3).ownBlock with
        | none => exact .inl rfl
        | some q =>
          refine .inr fun he => ?_
          have h1 := VL3.out q hv
          have h2 := XL6.out q he.symm
          omega))
      have X12 := Lib.hid ho12
      have z12 := hb12.size
      clear hb12 hg12 ho12
      go_wp2_with fail
      refine (HHH.out _ _ _ X12.out).mono ?_
      rintro e w13 ⟨rfl, hb13⟩
      have B13 := Lib.hid (B12.out.trans (hb13.mono B12.out.size))
      have HA13 := Lib.hid (HA12.out.after hb13)
      have V13 := Lib.hid (own_below V12.out hb13)
      have X13 := Lib.hid (own_below X12.out hb13)
      clear hb13
      obtain ⟨k0, k1⟩ := HA13.out.two
      go_wp2_with fail
      refine (HTT.out _ B13.out).mono ?_
      rintro e w14 ⟨hv14, rv14, rfl, ho14, hb14⟩
      have B14 := Lib.hid (B13.out.trans (hb14.mono B13.out.size))
      have V14 := Lib.hid (own_below V13.out hb14)
      have X14 := Lib.hid (own_below X13.out hb14)
      have HO14 := Lib.hid ho14
      clear hb14 ho14 k0 k1
      go_wp2_with fail
      refine (HI.out _ _ _ _ B14.out HO14.out HFT.out).mono ?_
      rintro e w15 ⟨v15, rfl, ho15, hb15⟩
      have B15 := Lib.hid (B14.out.trans (hb15.mono B14.out.size))
      have V15 := Lib.hid (own_below V14.out hb15)
      have X15 := Lib.hid (own_below X14.out hb15)
      have Y15 := Lib.hid ho15
      obtain ⟨A15, c15, rfl, _⟩ := Rd.of_own ho15
      obtain ⟨l15, hl15⟩ : ∃ k, k = (ints L).length := ⟨_, rfl⟩
      rw [← hl15] at Y15 ⊢
      clear hb15 ho15 hl15
      go_wp2_with fail
      refine (HQQ.out _ _ _ (Rd.of_own Y15.out) (Rd.of_own V15.out)).mono ?_
      rintro e w16 ⟨rfl, hb16⟩
      have B16 := Lib.hid (B15.out.trans (hb16.mono B15.out.size))
      have X16 := Lib.hid (own_below X15.out hb16)
      clear hb16
      go_wp2_with fail
      refine (HHH.out _ _ _ X16.out).mono ?_
      rintro e w17 ⟨rfl, hb17⟩
      have B17 := Lib.hid (B16.out.trans (hb17.mono B16.out.size))
      clear hb17
      go_wp2_with fail
      go_ret
      exact ⟨rfl, B17.out⟩

theorem natW_le {h : List ByteArray} {n : Nat} {f : Nat → List ByteArray} (hf : TabFits h n f) : (natW h n f).length ≤ 1048576 := by
  unfold natW
  have := hf.1
  split
  · rw [natWs_length]; omega
  · simp
theorem law_FnExactNaturalWidths (w : World) (hv rv : Value) (h : List ByteArray) (n : Nat) (f : Nat → List ByteArray) (hi : TabIn w hv rv h n f) (hT : WT w) :
    Calls Tryd.prog 4 #[.agg #[hv, rv]] w fun e w' => e = .returned (.bool true) ∧ Below w.heap.size w w' :=
  naturalWidths_law w h n f hv rv ⟨⟨hi.1, hi.2.1⟩, hi.2.2.1, hi.2.2.2.1, hi.2.2.2.2.1, fun i _ => hi.2.2.2.2.2.1 i, hi.2.2.2.2.2.2⟩ (natW h n f) natW_le
    (fun W b hv rv _ ho hz => specNatural h n f hv rv W (Rd.of_own ho.head) ho.rows.rd (own_slc ho.rows) hz)
    (fun W b hv rv hb ho hz => implNatural h n f hv rv W (Rd.of_own ho.head) ho.rows.rd (own_slc ho.rows) hz (hT.below hb))
end Go.Proofs.YtionfjofojfaoaaDoor
