/- The law on tables. -/
import Derived.Test.YtionfjofojfaoaaDoorTabMath
import Derived.Test.YtionfjofojfaoaaDoorImplSame
import Derived.RegionTactic
namespace Go.Proofs.YtionfjofojfaoaaDoor
open Go.RowKit
set_option linter.unusedVariables false

theorem wk_keep {X W W' : World} {g o : Nat} {u : Value} (hg : g < X.heap.size) (hb : Below W.heap.size W W') (h : W.cell? ⟨g, o, none⟩ = some u ∧ Below X.heap.size X W) : W'.cell? ⟨g, o, none⟩ = some u ∧ Below X.heap.size X W' :=
  ⟨(hb.cell (p := ⟨g, o, none⟩) (Nat.lt_of_lt_of_le hg h.2.size)).trans h.1, h.2.trans (hb.mono h.2.size)⟩
theorem wk_new {X W : World} {g o : Nat} {u : Value} (h : W.cell? ⟨g, o, none⟩ = some u ∧ Below X.heap.size X W) : Below X.heap.size X W := h.2
set_option maxRecDepth 100000 in
set_option maxHeartbeats 16000000 in
theorem law_FnTables (w : World) (A : Option Addr) (len cap : Nat) (zs : List Int) (hz : IsBytes w A len cap zs) (hT : WT w) :
    Calls Tryd.prog 3 #[.slice A len cap] w fun e w' => e = .returned (.bool true) ∧ Below w.heap.size w w' := by
  obtain ⟨iI, hiI, hzI0, hzI1, hzI2⟩ := info_parts Tryd.infoIntW
  have HM := Lib.hid (makeTable_any A len cap zs w hz)
  have HWT := Lib.hid (fun W (hb : Below w.heap.size w W) => hT.below hb)
  have hcap := hz.1
  have hcap2 := hz.2.1
  clear hz hT
  by_cases hbig : (1048576 : Int) < (len : Int)
  · go_enter Tryd.func3, Tryd.ntmps3
    go_wp2_with fail
    go_ret
    exact ⟨rfl, Below.refl _ _⟩
  · go_enter Tryd.func3, Tryd.ntmps3
    go_wp2_with fail
    refine HM.out.mono ?_
    rintro e w1 ⟨hv, rv, hd, n, f, rfl, ht1, hs1, hd1, hb1⟩
    obtain ⟨dz1, dz2, dn4, _⟩ := id hd1
    have HSel := Lib.hid (fun W (hb : Below w1.heap.size w1 W) lv (hL : Rd W lv (ints (upTo hd.length))) => (implSelect hd n f hv rv lv (upTo hd.length) W (ht1.1.below hb) (ht1.2.below hb) hs1 hd1.fits hL (by rw [upTo_length]; omega)).mono (R' := fun e w' => ∃ hv' rv', e = .returned (.tuple #[.agg #[hv', rv'], .bool true]) ∧ TRd w' hv' rv' (selH hd n f (upTo hd.length)) n (selF f (upTo hd.length)) ∧ Below W.heap.size W w') fun _ _ ⟨hv', rv', a, b, c⟩ => ⟨hv', rv', by rw [a, hd1.ok], by have := b.trd; rw [hd1.selN] at this; exact this, c⟩)
    have HTr1 := Lib.hid (fun W (hb : Below w1.heap.size w1 W) => implTranspose n f rv W (ht1.2.below hb) (by omega) (fun i => by have := (hd1.fits.2.2.2 i).1; omega))
    have hlt1 : leastT f n ≤ 4 := by
      rcases Nat.eq_zero_or_pos n with h0 | h0
      · rw [h0]; exact Nat.zero_le _
      · rw [leastT_same f hd.length n hd1.2.2.2.1 h0]; omega
    have HTr2 := Lib.hid (fun v W b t (ho : OwnT W b t v (leastT f n) (colT f n)) => (implTranspose (leastT f n) (colT f n) v W ho.rd (by omega) (fun i => by rw [colT_length]; omega)).mono (R' := fun e w' => ∃ A c, e = .returned (.slice A n c) ∧ Below W.heap.size W w') fun _ _ ⟨v', a, b, c⟩ => by
      obtain ⟨B, d, hB⟩ := b.len
      rw [hd1.twice] at hB
      exact ⟨B, d, by rw [a, hB], c⟩)
    have HNat := Lib.hid (fun W (hb : Below w1.heap.size w1 W) => (implNatural hd n f hv rv W (ht1.1.below hb) (ht1.2.below hb) hs1 hd1.fits (HWT.out W (hb1.trans (hb.mono hb1.size)))).mono (R' := fun e w' => ∃ v, e = .returned v ∧ Rd w' v (ints (natWs (rowsA hd f) (1 + n) hd.length)) ∧ Below W.heap.size W w') fun _ _ ⟨v, a, b, c⟩ => ⟨v, a, by have := Rd.of_own b; rw [hd1.natW] at this; exact this, c⟩)
    have HIs := Lib.hid (fun W (hb : Below w1.heap.size w1 W) => (implIsTable hd n f hv rv W (ht1.1.below hb) (ht1.2.below hb) hs1 hd1.fits).mono (R' := fun e w' => e = .returned (.bool true) ∧ Below W.heap.size W w') fun _ _ ⟨a, b⟩ => ⟨by rw [a, hd1.tab], b⟩)
    have HCode := Lib.hid (fun W (hb : Below w1.heap.size w1 W) => (implTableCode hd n f hv rv W (ht1.1.below hb) (ht1.2.below hb) hs1 hd1.fits).mono (R' := fun e w' => e = .returned (.int .i64 0) ∧ Below W.heap.size W w') fun _ _ ⟨a, b⟩ => ⟨by rw [a, hd1.code], b⟩)
    have hsame := hd1.same
    rw [hd1.selN] at hsame
    have hsl : (selH hd n f (upTo hd.length)).length ≤ 1048576 := by
      unfold selH
      rw [hd1.ok, if_pos rfl, pick_all hd _ rfl]
      omega
    have hsf : ∀ i, (selF f (upTo hd.length) i).length ≤ 1048576 := fun i => by
      show (pickB (f i) _).length ≤ _
      simp only [pickB, List.length_map, upTo_length]
      omega
    have HSame := Lib.hid (fun va vb W (x : TRd W va vb (selH hd n f (upTo hd.length)) n (selF f (upTo hd.length))) (hb : Below w1.heap.size w1 W) => (implSameTable _ hd n n _ f va vb hv rv W x.1 x.2 (ht1.1.below hb) (ht1.2.below hb) hsl (by omega) (by omega) hsf).mono (R' := fun e w' => e = .returned (.bool true) ∧ Below W.heap.size W w') fun _ _ ⟨a, b⟩ => ⟨by rw [a, hsame], b⟩)
    have HCol := Lib.hid (fun k (hk : k < hd.length) W (hb : Below w1.heap.size w1 W) => (implColumnOf hd n f hv rv (k : Int) W (ht1.1.below hb) (ht1.2.below hb) hs1 hd1.fits).mono (R' := fun e w' => ∃ v, e = .returned v ∧ Rd w' v (strs (colT f n k)) ∧ Below W.heap.size W w') fun _ _ ⟨v, a, b, c⟩ => ⟨v, a, by have := Rd.of_own b; rw [hd1.colOf k hk] at this; exact this, c⟩)
    have HCQ := Lib.hid (fun k q hk hq => hd1.cell k q hk hq)
    have HTW := Lib.hid (fun s (hs : s.size ≤ 1000) W (hb : Below w1.heap.size w1 W) => implTextWidth s W (by omega) (HWT.out W (hb1.trans (hb.mono hb1.size))))
    have HCT := Lib.hid (fun s (hs : s.size ≤ 1000) (hc : cellB s = true) W => (implIsCellText s W (by omega)).mono (R' := fun e w' => e = .returned (.bool true) ∧ Below W.heap.size W w') fun _ _ ⟨a, b⟩ => ⟨by rw [a, hc], by rw [← b]; exact Below.refl _ _⟩)
    have B1 := Lib.hid hb1
    obtain ⟨A1, c1, rfl, _⟩ := ht1.1
    obtain ⟨A2, c2, rfl⟩ := ht1.2.slc
    rw [strs_length] at HSel HNat HIs HCode HSame HCol ⊢
    obtain ⟨SH, hSH⟩ : ∃ x, x = selH hd n f (upTo hd.length) := ⟨_, rfl⟩
    obtain ⟨SF, hSF⟩ : ∃ x, x = selF f (upTo hd.length) := ⟨_, rfl⟩
    rw [← hSH, ← hSF] at HSel HSame
    obtain ⟨z, hzz⟩ : ∃ z, z = hd.length := ⟨_, rfl⟩
    rw [← hzz] at HSel HNat HIs HCode HSame HCol HCQ dz1 dz2 ⊢
    clear ht1 hs1 hd1 hb1 hsame hsl hsf hSH hSF hlt1 hzz HM
    have hG := Blk.new w1 26 #[.slice none 0 0, .slice none 0 0]
    have s2 : Below w1.heap.size w1 ((w1.alloc (.cells #[.slice none 0 0, .slice none 0 0] 26)).setRow w1.heap.size #[.slice A1 z c1, .slice A2 n c2]) := below_row ((Below.refl w1.heap.size w1).alloc (Nat.le_refl _) _) (Nat.le_refl _)
    have hG2 := hG.row (cs' := #[.slice A1 z c1, .slice A2 n c2])
    obtain ⟨w2, hw2⟩ : ∃ W, W = (w1.alloc (.cells #[.slice none 0 0, .slice none 0 0] 26)).setRow w1.heap.size #[.slice A1 z c1, .slice A2 n c2] := ⟨_, rfl⟩
    rw [← hw2] at s2 hG2
    have HW2 := Lib.hid hw2
    have GT2 := Lib.hid hG2
    have X2 := Lib.hid s2
    have HO2 := Lib.hid (own_empty w2 w2.heap.size 3 (Nat.le_refl _))
    have sE : Below w2.heap.size w2 (w2.alloc (.cells #[] 3)) := (Below.refl _ _).alloc (Nat.le_refl _) _
    have BE := Lib.hid sE
    obtain ⟨k0, k1⟩ := (GT2.out.after sE).two
    clear s2 hw2 hG2 sE
    go_wp2_with (refine wpList_store_row rfl _ _ _ rfl w1.heap.size #[.slice A1 z c1, .slice A2 n c2] rfl rfl 26 _ hG size_tab rfl (one_tab _ _ _ _ _ _) ?_; rw [← HW2.out])
    go_loopw [4, 22] (fun v i wr => ∃ k : Nat, k ≤ z ∧ i = .int .i64 (k : Int) ∧ Hid (wr.ownsRow w2.heap.size 3 1 v k (ints (upTo k))) ∧ Hid (Below w2.heap.size w2 wr)) (fun _ i _ => z - (intOf i).toNat)
    case atStart => exact ⟨0, Nat.zero_le _, rfl, HO2, BE⟩
    case round =>
      obtain ⟨k, hk, rfl, HOW, HBE⟩ := hrel
      obtain ⟨Av, cv, rfl⟩ : ∃ A c, u4 = .slice A k c := by
        obtain ⟨A, c, h, _⟩ := Rd.of_own HOW.out
        exact ⟨A, c, by rw [h, own_len HOW.out]⟩
      have hbs := HBE.out.size
      by_cases hlt : k < z
      · have HSN := Lib.hid (upTo_snoc k)
        go_wp2_with (at_builtin; refine append_one rfl _ _ 28 rfl w2.heap.size 3 iI _ 8 Tryd.underlying28 hiI hzI0 hzI1 hzI2 rfl (.slice Av k cv) _ _ rfl wr (.int .i64 (k : Int)) rfl rfl HOW.out (by omega) (by omega) hbs ?_; intro v3 w3 hown3 hbel3; have HO3 := Lib.hid hown3; have HB3 := Lib.hid (HBE.out.trans hbel3); clear hown3 hbel3)
        go_roundw
        case rel => exact ⟨k + 1, by omega, by go_num, Lib.hid (by rw [HSN.out]; exact HO3.out), HB3⟩
        case measure => simp [intOf]; omega
      · obtain rfl : k = z := by omega
        obtain ⟨w3, rfl⟩ : ∃ x : World, x = wr := ⟨_, rfl⟩
        have X3 := Lib.hid (X2.out.trans (HBE.out.mono X2.out.size))
        have GT3 := Lib.hid (GT2.out.after HBE.out)
        have HL3 := Lib.hid (Rd.of_own HOW.out)
        clear hG k0 k1
        obtain ⟨k0, k1⟩ := GT3.out.two
        go_wp2_with fail
        refine (HSel.out _ X3.out _ HL3.out).mono ?_
        rintro e w4 ⟨hv4, rv4, rfl, ht4, hb4⟩
        have X4 := Lib.hid (X3.out.trans (hb4.mono X3.out.size))
        have GT4 := Lib.hid (GT3.out.after hb4)
        obtain ⟨A4, c4, rfl, _⟩ := id ht4.1
        obtain ⟨B4, d4, rfl⟩ := ht4.2.slc
        obtain ⟨l4, hl4⟩ : ∃ l, l = (strs SH).length := ⟨_, rfl⟩
        rw [← hl4] at ht4 ⊢
        have T4 := Lib.hid ht4
        clear hb4 ht4 hl4 k0 k1
        have hG := Blk.new w4 26 #[.slice none 0 0, .slice none 0 0]
        have s5 : Below w4.heap.size w4 ((w4.alloc (.cells #[.slice none 0 0, .slice none 0 0] 26)).setRow w4.heap.size #[.slice A4 l4 c4, .slice B4 n d4]) := below_row ((Below.refl w4.heap.size w4).alloc (Nat.le_refl _) _) (Nat.le_refl _)
        have hG5 := hG.row (cs' := #[.slice A4 l4 c4, .slice B4 n d4])
        obtain ⟨w5, hw5⟩ : ∃ W, W = (w4.alloc (.cells #[.slice none 0 0, .slice none 0 0] 26)).setRow w4.heap.size #[.slice A4 l4 c4, .slice B4 n d4] := ⟨_, rfl⟩
        rw [← hw5] at s5 hG5
        have HW5 := Lib.hid hw5
        have GX5 := Lib.hid hG5
        have X5 := Lib.hid (X4.out.trans (s5.mono X4.out.size))
        have GT5 := Lib.hid (GT4.out.after s5)
        have T5 := Lib.hid (⟨T4.out.1.below s5, T4.out.2.below s5⟩ : TRd w5 _ _ _ _ _)
        clear s5 hw5 hG5
        obtain ⟨k0, k1⟩ := GT5.out.two
        go_wp2_with (refine wpList_store_row rfl _ _ _ rfl w4.heap.size #[.slice A4 l4 c4, .slice B4 n d4] rfl rfl 26 _ hG size_tab rfl (one_tab _ _ _ _ _ _) ?_; rw [← HW5.out])
        refine (HTr1.out _ X5.out).mono ?_
        rintro e w6 ⟨v6, rfl, ho6, hb6⟩
        have X6 := Lib.hid (X5.out.trans (hb6.mono X5.out.size))
        have GT6 := Lib.hid (GT5.out.after hb6)
        have GX6 := Lib.hid (GX5.out.after hb6)
        have T6 := Lib.hid (⟨T5.out.1.below hb6, T5.out.2.below hb6⟩ : TRd w6 _ _ _ _ _)
        have O6 := Lib.hid ho6
        clear hb6 ho6 hG k0 k1
        go_wp2_with fail
        refine (HTr2.out _ _ _ _ O6.out).mono ?_
        rintro e w7 ⟨A7, c7, rfl, hb7⟩
        have X7 := Lib.hid (X6.out.trans (hb7.mono X6.out.size))
        have GT7 := Lib.hid (GT6.out.after hb7)
        have GX7 := Lib.hid (GX6.out.after hb7)
        have T7 := Lib.hid (⟨T6.out.1.below hb7, T6.out.2.below hb7⟩ : TRd w7 _ _ _ _ _)
        clear hb7
        obtain ⟨k0, k1⟩ := GT7.out.two
        go_wp2_with fail
        refine (HNat.out _ X7.out).mono ?_
        rintro e w8 ⟨v8, rfl, hr8, hb8⟩
        have X8 := Lib.hid (X7.out.trans (hb8.mono X7.out.size))
        have GT8 := Lib.hid (GT7.out.after hb8)
        have GX8 := Lib.hid (GX7.out.after hb8)
        have T8 := Lib.hid (⟨T7.out.1.below hb8, T7.out.2.below hb8⟩ : TRd w8 _ _ _ _ _)
        obtain ⟨A8, c8, rfl, hA8⟩ := hr8
        rw [ints_length, natWs_length] at hA8 ⊢
        have HA8 : Hid (∀ j, j < k → ∃ g o, A8 = some ⟨g, o, none⟩ ∧ g < w8.heap.size ∧ w8.cell? ⟨g, o + j, none⟩ = some (.int .i64 (gwT (rowsA hd f) j (1 + n)))) := Lib.hid (fun j hj => by
          obtain ⟨g, o, h1, h2, h3⟩ := hA8 (by omega)
          refine ⟨g, o, h1, h2, h3 j _ ?_⟩
          rw [ints_get _ j (by rw [natWs_length]; exact hj)]
          simp [natWs])
        clear hb8 hA8 k0 k1
        obtain ⟨k0, k1⟩ := GT8.out.two
        go_wp2_with fail
        refine (HIs.out _ X8.out).mono ?_
        rintro e w9 ⟨rfl, hb9⟩
        have Y9 := Lib.hid hb9
        have X9 := Lib.hid (X8.out.trans (hb9.mono X8.out.size))
        have GT9 := Lib.hid (GT8.out.after hb9)
        have GX9 := Lib.hid (GX8.out.after hb9)
        have T9 := Lib.hid (⟨T8.out.1.below hb9, T8.out.2.below hb9⟩ : TRd w9 _ _ _ _ _)
        clear hb9 k0 k1
        obtain ⟨k0, k1⟩ := GT9.out.two
        obtain ⟨k2, k3⟩ := GX9.out.two
        go_wp2_with fail
        refine (HSame.out _ _ _ T9.out X9.out).mono ?_
        rintro e w10 ⟨rfl, hb10⟩
        have Y10 := Lib.hid (Y9.out.trans (hb10.mono Y9.out.size))
        have X10 := Lib.hid (X9.out.trans (hb10.mono X9.out.size))
        have GT10 := Lib.hid (GT9.out.after hb10)
        clear hb10 k0 k1 k2 k3
        obtain ⟨k0, k1⟩ := GT10.out.two
        go_wp2_with fail
        refine (HCode.out _ X10.out).mono ?_
        rintro e w11 ⟨rfl, hb11⟩
        have Y11 := Lib.hid (Y10.out.trans (hb11.mono Y10.out.size))
        have X11 := Lib.hid (X10.out.trans (hb11.mono X10.out.size))
        have GT11 := Lib.hid (GT10.out.after hb11)
        clear hb11 k0 k1
        obtain ⟨k0, k1⟩ := GT11.out.two
        go_wp2_with fail
        go_loopw [71] (fun i wr => ∃ q : Nat, q ≤ k ∧ i = .int .i64 (q : Int) ∧ Hid (Below w11.heap.size w11 wr)) (fun i _ => k - (intOf i).toNat)
        case atStart => exact ⟨0, Nat.zero_le _, rfl, Lib.hid (Below.refl _ _)⟩
        case round =>
          obtain ⟨q, hq, rfl, HB⟩ := hrel
          have X12 := Lib.hid (X11.out.trans (HB.out.mono X11.out.size))
          have GT12 := Lib.hid (GT11.out.after HB.out)
          clear k0 k1
          obtain ⟨k0, k1⟩ := GT12.out.two
          by_cases hltq : q < k
          · obtain ⟨wo, rfl⟩ : ∃ x : World, x = wr := ⟨_, rfl⟩
            have hltq2 : (q : Int) < (k : Int) := by omega
            go_wp2_with fail
            refine (HCol.out q hltq _ X12.out).mono ?_
            rintro e w13 ⟨v13, rfl, hr13, hb13⟩
            have X13 := Lib.hid (X12.out.trans (hb13.mono X12.out.size))
            have Y13 := Lib.hid (HB.out.trans (hb13.mono HB.out.size))
            obtain ⟨A13, c13, rfl, hA13⟩ := hr13
            rw [strs_length, colT_length] at hA13 ⊢
            obtain ⟨g8, o8, hA8e, hg8, hc8⟩ := HA8.out q hltq
            subst hA8e
            have HA13 : Hid (∀ p (hp : p < n), ∃ g o, A13 = some ⟨g, o, none⟩ ∧ g < w13.heap.size ∧ w13.cell? ⟨g, o + p, none⟩ = some (.string ((f p).getD q ByteArray.empty))) := Lib.hid (fun p hp => by
              obtain ⟨g, o, h1, h2, h3⟩ := hA13 (by omega)
              refine ⟨g, o, h1, h2, h3 p _ ?_⟩
              rw [strs_get _ p (by rw [colT_length]; exact hp), colT_get f n q p hp])
            have hc8 := ((Y11.out.trans (Y13.out.mono Y11.out.size)).cell (p := ⟨g8, o8 + q, none⟩) hg8).trans hc8
            have hg8 := Nat.lt_of_lt_of_le hg8 (Nat.le_trans Y11.out.size Y13.out.size)
            have HQ := Lib.hid (fun p hp => HCQ.out q p hltq hp)
            obtain ⟨wk, hwk⟩ : ∃ x, x = gwT (rowsA hd f) q (1 + n) := ⟨_, rfl⟩
            rw [← hwk] at hc8 HQ
            clear hb13 hA13 hwk k0 k1
            go_wp2_with fail
            go_loopw [78] (fun i wr => ∃ p : Nat, p ≤ n ∧ i = .int .i64 (p : Int) ∧ Hid (Below w13.heap.size w13 wr)) (fun i _ => n - (intOf i).toNat)
            case atStart => exact ⟨0, Nat.zero_le _, rfl, Lib.hid (Below.refl _ _)⟩
            case round =>
              obtain ⟨p, hp, rfl, HB14⟩ := hrel
              have X14 := Lib.hid (X13.out.trans (HB14.out.mono X13.out.size))
              by_cases hltp : p < n
              · obtain ⟨g, o, rfl, hg, hc⟩ := HA13.out p hltp
                have hc := (HB14.out.cell (p := ⟨g, o + p, none⟩) hg).trans hc
                have hc8 := (HB14.out.cell (p := ⟨g8, o8 + q, none⟩) hg8).trans hc8
                have hg8 := Nat.lt_of_lt_of_le hg8 HB14.out.size
                obtain ⟨hs1, hs2, hs3⟩ := HQ.out p hltp
                obtain ⟨s, hs⟩ : ∃ x, x = (f p).getD q ByteArray.empty := ⟨_, rfl⟩
                rw [← hs] at hc hs1 hs2 hs3
                have HTW2 := Lib.hid (fun W hb => HTW.out s hs2 W hb)
                have HCT2 := Lib.hid (fun W => HCT.out s hs2 hs1 W)
                obtain ⟨t, ht⟩ : ∃ x : Int, x = (textW s : Int) := ⟨_, rfl⟩
                rw [← ht] at HTW2 hs3
                have hs4 : ¬ wk < t := by omega
                have hs5 : decide (wk < t) = false := decide_eq_false hs4
                clear hs ht hs1 hs2
                go_wp2_with fail
                go_region_held3 (fun W => W.cell? ⟨g8, o8 + q, none⟩ = some (.int .i64 wk) ∧ Below wr.heap.size wr W)
                  (first | exact ⟨hc8, below_drewN (Below.refl _ _) 1⟩ | exact wk_keep hg8 (by assumption) (by assumption))
                  (first
                    | (go_at_call 13; refine (HTW2.out _ (X14.out.trans ((wk_new (X := wr) (by assumption)).mono X14.out.size))).mono ?_; rintro e w15 ⟨rfl, hb15⟩)
                    | (go_at_call 14; refine (HCT2.out _).mono ?_; rintro e w16 ⟨rfl, hb16⟩))
                all_goals
                  have hx := wk_new (X := wr) (W := w16) (by assumption)
                  have HN := Lib.hid (HB14.out.trans (hx.mono HB14.out.size))
                  clear hx
                  go_wp2_with fail
                  go_roundw
                  case rel => first | exact ⟨p + 1, by omega, by go_num, HN⟩ | ((repeat apply Exists.intro); exact ⟨⟨p + 1, by omega, by go_num, HN⟩, rfl⟩)
                  case measure => simp [intOf]; omega
              · obtain rfl : p = n := by omega
                have HN := Lib.hid (Y13.out.trans (HB14.out.mono Y13.out.size))
                go_wp2_with fail
                go_roundw
                case rel => exact ⟨q + 1, by omega, by go_num, HN⟩
                case measure => simp [intOf]; omega
          · obtain rfl : q = k := by omega
            go_wp2_with fail
            go_ret
            exact ⟨rfl, B1.out.trans (X12.out.mono B1.out.size)⟩
end Go.Proofs.YtionfjofojfaoaaDoor
