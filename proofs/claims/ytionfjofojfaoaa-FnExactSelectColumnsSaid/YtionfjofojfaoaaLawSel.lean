/- The exact law on SelectColumns. -/
import Derived.Test.YtionfjofojfaoaaImplSel
import Derived.Test.YtionfjofojfaoaaSpecSel
import Derived.Test.YtionfjofojfaoaaLawCol
import Derived.Test.YtionfjofojfaoaaLawSameT
import Derived.Test.YtionfjofojfaoaaToIntsT
import Derived.Test.YtionfjofojfaoaaOpenI
namespace Go.Proofs.Ytionfjofojfaoaa
open Go.RowKit
set_option linter.unusedVariables false

theorem ResT.far {W W' : World} {base top b : Nat} {hv rv : Value} {h : List ByteArray} {n : Nat} {f : Nat → List ByteArray} (ho : ResT W b hv rv h n f) (hf : FarKept base top W W') (hk : ∀ e, 9 ≠ e → Keeps W W' e) (hb : top ≤ b) : ResT W' b hv rv h n f := by
  obtain ⟨us, h1, h2, h3, h4⟩ := ho
  exact ⟨us, h1, h2, fun W2 hk2 => h3 W2 ((hk _ (by decide)).trans hk2), fun i u hu => hf _ _ _ _ _ _ (h4.1 i u hu) (fun q hq => .inr (Nat.le_trans hb (World.ownsRow.lt (h4.1 i u hu) q hq).1)), h4.2⟩
theorem TRd.keepB {W W' : World} {t : Nat} {hv rv : Value} {h : List ByteArray} {n : Nat} {f : Nat → List ByteArray} (ht : TRd W hv rv h n f) (hs : W.heap.size ≤ t) (hb : Below t W W') : TRd W' hv rv h n f := ht.below (hb.mono hs)
theorem selOk_facts {h : List ByteArray} {n : Nat} {f : Nat → List ByteArray} {ks : List Int} (ho : selOk h n f ks = true) : n ≤ 60 ∧ ks.length ≤ 8 := by
  unfold selOk at ho
  rw [Bool.and_eq_true, Bool.and_eq_true, decide_eq_true_eq] at ho
  have := (isTab_facts ho.1.1).2.2.1
  omega
theorem sel_small (h : List ByteArray) (n : Nat) (f : Nat → List ByteArray) (ks : List Int) : (selH h n f ks).length ≤ 8 ∧ selN h n f ks ≤ 60 ∧ sumG (selF f ks) (selN h n f ks) ≤ 480 := by
  have key : ∀ m, sumG (selF f ks) m = m * ks.length := by
    intro m
    induction m with
    | zero => simp [sumG]
    | succ m ih => rw [sumG, ih, Nat.succ_mul]; show _ + (pickB (f m) ks).length = _; rw [pickB_length]
  by_cases ho : selOk h n f ks = true
  · obtain ⟨a, b⟩ := selOk_facts ho
    rw [key]
    unfold selH selN
    rw [if_pos ho, if_pos ho, pickB_length]
    refine ⟨b, a, ?_⟩
    calc n * ks.length ≤ 60 * 8 := Nat.mul_le_mul a b
      _ = 480 := rfl
  · unfold selH selN
    rw [if_neg ho, if_neg ho]
    exact ⟨Nat.zero_le _, Nat.zero_le _, Nat.zero_le _⟩
theorem ownTab_resT {W : World} {base top : Nat} {hv rv : Value} {h : List ByteArray} {n : Nat} {f : Nat → List ByteArray} (ho : OwnTab W base top hv rv h n f) : TRd W hv rv h n f := ho.trd
set_option maxRecDepth 100000 in
set_option maxHeartbeats 16000000 in
theorem law_FnExactSelectColumns (w : World) (hv rv : Value) (h : List ByteArray) (n : Nat) (f : Nat → List ByteArray) (hi : TabIn w hv rv h n f) (L : Option Addr) (ll lc : Nat) (ks : List Int) (hkl : ks.length = ll) (hk : Rd w (.slice L ll lc) (ints ks)) (hkm : ll ≤ maxLen) :
    Calls Try.prog 8 #[.agg #[hv, rv], .slice L ll lc] w fun e w' => e = .returned (.bool true) ∧ Below w.heap.size w w' := by
  subst hkl
  unfold maxLen at hkm
  obtain ⟨ta, a1, a2, a3, a4, a5⟩ := targ_of hi
  have HLA := Lib.hid (fun W (hb : Below w.heap.size w W) => szTable_any h n f 1048576 hv rv W (ta.1.below hb) (ta.2.below hb) (by omega) (by omega) a1 a2 a3 a4)
  have HFA := Lib.hid (fun (hz : 0 ≤ szTab h n f 1048576) => tab_fits hz a5)
  have HSU := Lib.hid (fun (hz : 0 ≤ szTab h n f 1048576) => tab_sum hz)
  have HT := Lib.hid (fun (hf : TabFits h n f) W (hb : Below w.heap.size w W) => toTable_any h n f hv rv W (ta.1.below hb) (ta.2.below hb) hf.1 hf.2.2.1 (fun i _ => (hf.2.2.2 i).1))
  have HTI := Lib.hid (fun (hl : ks.length ≤ 1048576) W (hb : Below w.heap.size w W) => toIntS_any ks _ W (hk.below hb) hl)
  have HS := Lib.hid (fun (hf : TabFits h n f) (hl : ks.length ≤ 1048576) W b hv rv lv (ho : OwnTab W b W.heap.size hv rv h n f) (hL : Rd W lv (ints ks)) => specSelect h n f hv rv lv ks W (Rd.of_own ho.head) ho.rows.rd (own_slc ho.rows) hf hL hl)
  have HI := Lib.hid (fun (hf : TabFits h n f) (hl : ks.length ≤ 1048576) W b hv rv lv (ho : OwnTab W b W.heap.size hv rv h n f) (hL : Rd W lv (ints ks)) => implSelect h n f hv rv lv ks W (Rd.of_own ho.head) ho.rows.rd (own_slc ho.rows) hf hL hl)
  have HEI := Lib.hid (fun (hl : ks.length ≤ 1048576) va vb W (x : Rd W va (ints ks)) (y : Rd W vb (ints ks)) => (eqIntS_any ks ks va vb W x y (by omega)).mono (R' := fun e w' => e = .returned (.bool true) ∧ Below W.heap.size W w') fun _ _ ⟨h1, k, h2⟩ => ⟨by rw [h1, decide_eq_true rfl], by rw [h2]; exact below_drewN (Below.refl _ _) k⟩)
  obtain ⟨ss1, ss2, ss3⟩ := sel_small h n f ks
  have HER := Lib.hid (fun va vb vc vd W (x : TRd W va vb (selH h n f ks) (selN h n f ks) (selF f ks)) (y : TRd W vc vd (selH h n f ks) (selN h n f ks) (selF f ks)) => eqTable_rd (selN h n f ks) (selH h n f ks) (selF f ks) va vb vc vd W x y (by omega) (by omega) (fun i hi => by
    show (pickB (f i) ks).length ≤ _
    rw [pickB_length]
    have ho : selOk h n f ks = true := by
      cases hc : selOk h n f ks with
      | true => rfl
      | false => unfold selN at hi; rw [hc, if_neg (by decide)] at hi; omega
    have := (selOk_facts ho).2
    omega))
  have HMR := Lib.hid (fun b va vb W (x : ResT W b va vb (selH h n f ks) (selN h n f ks) (selF f ks)) (hb : b ≤ W.heap.size) => markResT b (selN h n f ks) 1 (selH h n f ks) (selF f ks) va vb W x hb (by omega) (by omega) (by omega))
  have HHR := Lib.hid (fun b va vb W (x : ResT W b va vb (marks 1 (selH h n f ks).length) (selN h n f ks) (markG (1 + (selH h n f ks).length) (selF f ks))) => heldResT b (selN h n f ks) 1 (selH h n f ks).length (selF f ks) va vb W x (by omega) (by omega) (by omega))
  obtain ⟨A, c, rfl, _⟩ := ta.1
  obtain ⟨B, d, rfl⟩ := ta.2.slc
  obtain ⟨hl, hhl⟩ : ∃ k, k = (strs h).length := ⟨_, rfl⟩
  rw [← hhl] at HLA HT ⊢
  obtain ⟨r, hre⟩ : ∃ r, r = szTab h n f 1048576 := ⟨_, rfl⟩
  rw [← hre] at HLA HFA HSU
  obtain ⟨ok, hok⟩ : ∃ b, b = selOk h n f ks := ⟨_, rfl⟩
  obtain ⟨SH, hSH⟩ : ∃ x, x = selH h n f ks := ⟨_, rfl⟩
  obtain ⟨SN, hSN⟩ : ∃ x, x = selN h n f ks := ⟨_, rfl⟩
  obtain ⟨SF, hSF⟩ : ∃ x, x = selF f ks := ⟨_, rfl⟩
  rw [← hok, ← hSH, ← hSN, ← hSF] at HS HI
  rw [← hSH, ← hSN, ← hSF] at HER HMR HHR
  obtain ⟨sg, hsg⟩ : ∃ s, s = 1 + SH.length + sumG SF SN := ⟨_, rfl⟩
  rw [← hsg] at HMR HHR
  have hokk : (ok != ok) = false := by cases ok <;> rfl
  have hsg0 : ¬ ((sg : Nat) : Int) < 0 := by omega
  clear hhl hre ta a1 a2 a3 a4 a5 hi hk hok hSH hSN hSF hsg ss1 ss2 ss3
  have HA := Lib.hid (Blk.new w 26 #[.slice A hl c, .slice B n d])
  have B0 := Lib.hid (by go_grown : Below w.heap.size w (w.alloc (.cells #[.slice A hl c, .slice B n d] 26)))
  by_cases hbig : (1048576 : Int) < (ks.length : Int)
  · go_enter Try.func8, Try.ntmps8
    go_wp2_with fail
    go_ret
    exact ⟨rfl, B0.out⟩
  · have hkl : ks.length ≤ 1048576 := by omega
    have HTI2 := Lib.hid (HTI.out hkl)
    have HEI2 := Lib.hid (HEI.out hkl)
    have HS2 := Lib.hid (fun hf => HS.out hf hkl)
    have HI2 := Lib.hid (fun hf => HI.out hf hkl)
    have HMI := Lib.hid (fun b k v W (ho : W.ownsRow b 3 1 v ks.length (ints ks)) (h0 : 0 < k) (hk : k + ks.length ≤ 1000000000) => markIntS_any b ks.length k v (ints ks) W ho h0 hk)
    obtain ⟨k0, k1⟩ := HA.out.two
    clear HTI HEI HS HI
    go_enter Try.func8, Try.ntmps8
    go_wp2_with fail
    refine (HLA.out _ B0.out).mono ?_
    rintro e w1 ⟨rfl, hb1⟩
    have B1 := Lib.hid (B0.out.trans (hb1.mono B0.out.size))
    have HA1 := Lib.hid (HA.out.after hb1)
    clear hb1 k0 k1
    by_cases hneg : r < 0
    · go_wp2_with fail
      go_ret
      exact ⟨rfl, B1.out⟩
    · have hfit := HFA.out (by omega)
      have hsu := HSU.out (by omega)
      have HFT := Lib.hid hfit
      have HTT := Lib.hid (HT.out hfit)
      have HSS := Lib.hid (HS2.out hfit)
      have HII := Lib.hid (HI2.out hfit)
      have HMT := Lib.hid (fun b t hv rv W (ho : OwnTab W b t hv rv h n f) (ht : t ≤ W.heap.size) => markTable_all b t n 1 h f hv rv W ho ht (by omega) (by omega))
      obtain ⟨sx, hsx⟩ : ∃ s, s = 1 + h.length + sumG f n := ⟨_, rfl⟩
      rw [← hsx] at HMT
      have hsx1 : 0 < sx := by omega
      have hsx2 : sx ≤ 2000000 := by omega
      have HMI2 := Lib.hid (fun b v W ho => HMI.out b sx v W ho hsx1 (by omega))
      obtain ⟨sy, hsy⟩ : ∃ s, s = sx + ks.length := ⟨_, rfl⟩
      rw [← hsy] at HMI2
      have hsy0 : ¬ ((sy : Nat) : Int) < 0 := by omega
      clear hfit hsu hsx hsy hsx1 hsx2 HT HFA HSU HLA HS2 HI2 HMI
      obtain ⟨k0, k1⟩ := HA1.out.two
      go_wp2_with fail
      refine (HTT.out _ B1.out).mono ?_
      rintro e w2 ⟨hv2, rv2, rfl, ho2, hb2⟩
      have B2 := Lib.hid (B1.out.trans (hb2.mono B1.out.size))
      have HA2 := Lib.hid (HA1.out.after hb2)
      have HO2 := Lib.hid ho2
      clear hb2 k0 k1 ho2
      go_wp2_with fail
      refine (HTI2.out _ B2.out).mono ?_
      rintro e w3 ⟨⟨v3, rfl, ho3⟩, hb3⟩
      have B3 := Lib.hid (B2.out.trans (hb3.mono B2.out.size))
      have HA3 := Lib.hid (HA2.out.after hb3)
      have HO3 := Lib.hid (own_tab_below HO2.out hb3)
      have HL3 := Lib.hid (Rd.of_own ho3)
      obtain ⟨A3, c3, rfl, _⟩ := Rd.of_own ho3
      rw [ints_length] at HL3 ⊢
      clear hb3 ho3 HO2
      go_wp2_with fail
      refine (HSS.out _ _ _ _ _ HO3.out HL3.out).mono ?_
      rintro e w4 ⟨hs4, rs4, rfl, ht4, hb4⟩
      have B4 := Lib.hid (B3.out.trans (hb4.mono B3.out.size))
      have HA4 := Lib.hid (HA3.out.after hb4)
      have W04 := Lib.hid ht4
      obtain ⟨As, cs, rfl, _⟩ := ht4.1
      obtain ⟨Bs, ds, rfl⟩ := ht4.2.slc
      obtain ⟨ls, hls⟩ : ∃ k, k = (strs SH).length := ⟨_, rfl⟩
      rw [← hls] at W04 ⊢
      clear hb4 ht4 hls HO3 HL3
      have hG := Blk.new w4 29 #[.slice none 0 0, .slice none 0 0]
      have s5 : Below w4.heap.size w4 ((w4.alloc (.cells #[.slice none 0 0, .slice none 0 0] 29)).setRow w4.heap.size #[.slice As ls cs, .slice Bs SN ds]) := below_row ((Below.refl w4.heap.size w4).alloc (Nat.le_refl _) _) (Nat.le_refl _)
      have hG5 := hG.row (cs' := #[.slice As ls cs, .slice Bs SN ds])
      obtain ⟨w5, hw5⟩ : ∃ W, W = (w4.alloc (.cells #[.slice none 0 0, .slice none 0 0] 29)).setRow w4.heap.size #[.slice As ls cs, .slice Bs SN ds] := ⟨_, rfl⟩
      rw [← hw5] at s5 hG5
      have HW5 := Lib.hid hw5
      have GS5 := Lib.hid hG5
      have B5 := Lib.hid (B4.out.trans (s5.mono B4.out.size))
      have HA5 := Lib.hid (HA4.out.after s5)
      have W05 := Lib.hid (W04.out.below s5)
      clear s5 hw5 hG5 W04
      have C5 := Lib.hid (Below.refl w5.heap.size w5)
      obtain ⟨k0, k1⟩ := HA5.out.two
      go_wp2_with (refine wpList_store_row rfl _ _ _ rfl w4.heap.size #[.slice As ls cs, .slice Bs SN ds] rfl rfl 29 _ hG size_tab rfl (one_tab _ _ _ _ _ _) ?_; rw [← HW5.out])
      refine (HTT.out _ B5.out).mono ?_
      rintro e w6 ⟨hv6, rv6, rfl, ho6, hb6⟩
      have z6 := hb6.size
      have B6 := Lib.hid (B5.out.trans (hb6.mono B5.out.size))
      have C6 := Lib.hid (C5.out.trans (hb6.mono C5.out.size))
      have HA6 := Lib.hid (HA5.out.after hb6)
      have GS6 := Lib.hid (GS5.out.after hb6)
      have HO6 := Lib.hid ho6
      obtain ⟨A6, c6, rfl, _⟩ := Rd.of_own ho6.head
      obtain ⟨D6, d6, rfl⟩ := ho6.rows.len
      obtain ⟨l6, hl6⟩ : ∃ k, k = (strs h).length := ⟨_, rfl⟩
      rw [← hl6] at HO6 ⊢
      clear hb6 k0 k1 ho6 hl6 hG
      have hG := Blk.new w6 29 #[.slice none 0 0, .slice none 0 0]
      have s7 : Below w6.heap.size w6 ((w6.alloc (.cells #[.slice none 0 0, .slice none 0 0] 29)).setRow w6.heap.size #[.slice A6 l6 c6, .slice D6 n d6]) := below_row ((Below.refl w6.heap.size w6).alloc (Nat.le_refl _) _) (Nat.le_refl _)
      have hG7 := hG.row (cs' := #[.slice A6 l6 c6, .slice D6 n d6])
      obtain ⟨w7, hw7⟩ : ∃ W, W = (w6.alloc (.cells #[.slice none 0 0, .slice none 0 0] 29)).setRow w6.heap.size #[.slice A6 l6 c6, .slice D6 n d6] := ⟨_, rfl⟩
      rw [← hw7] at s7 hG7
      have HW7 := Lib.hid hw7
      have z7 := s7.size
      have GX7 := Lib.hid hG7
      have B7 := Lib.hid (B6.out.trans (s7.mono B6.out.size))
      have C7 := Lib.hid (C6.out.trans (s7.mono C6.out.size))
      have HA7 := Lib.hid (HA6.out.after s7)
      have GS7 := Lib.hid (GS6.out.after s7)
      have HO7 := Lib.hid (own_tab_below HO6.out s7)
      clear s7 hw7 hG7 HO6
      go_wp2_with (refine wpList_store_row rfl _ _ _ rfl w6.heap.size #[.slice A6 l6 c6, .slice D6 n d6] rfl rfl 29 _ hG size_tab rfl (one_tab _ _ _ _ _ _) ?_; rw [← HW7.out])
      refine (HTI2.out _ B7.out).mono ?_
      rintro e w8 ⟨⟨v8, rfl, ho8⟩, hb8⟩
      have z8 := hb8.size
      have B8 := Lib.hid (B7.out.trans (hb8.mono B7.out.size))
      have C8 := Lib.hid (C7.out.trans (hb8.mono C7.out.size))
      have HA8 := Lib.hid (HA7.out.after hb8)
      have GS8 := Lib.hid (GS7.out.after hb8)
      have GX8 := Lib.hid (GX7.out.after hb8)
      have HO8 := Lib.hid (HO7.out.below hb8)
      have HX8 := Lib.hid ho8
      have XL8 := Lib.hid (fun q (hq : v8.ownBlock = some q) => (World.ownsRow.lt ho8 q hq).1)
      obtain ⟨A8, c8, rfl, _⟩ := Rd.of_own ho8
      rw [ints_length] at HX8 XL8 ⊢
      clear hb8 ho8 hG HO7
      obtain ⟨k0, k1⟩ := GX8.out.two
      go_wp2_with fail
      refine (HII.out _ _ _ _ _ (HO8.out.retop (by omega)) (Rd.of_own HX8.out)).mono ?_
      rintro e w9 ⟨hv9, rv9, rfl, hr9, hb9⟩
      have z9 := hb9.size
      have B9 := Lib.hid (B8.out.trans (hb9.mono B8.out.size))
      have C9 := Lib.hid (C8.out.trans (hb9.mono C8.out.size))
      have HA9 := Lib.hid (HA8.out.after hb9)
      have GS9 := Lib.hid (GS8.out.after hb9)
      have GX9 := Lib.hid (GX8.out.after hb9)
      have HO9 := Lib.hid (HO8.out.below (hb9.mono (by omega)))
      have HX9 := Lib.hid (own_below HX8.out hb9)
      have R9 := Lib.hid hr9
      obtain ⟨A9, c9, rfl, _⟩ := Rd.of_own hr9.head
      obtain ⟨D9, d9, rfl⟩ := hr9.slc
      obtain ⟨l9, hl9⟩ : ∃ k, k = (strs SH).length := ⟨_, rfl⟩
      rw [← hl9] at R9 ⊢
      clear hb9 hr9 hl9 k0 k1
      have hG := Blk.new w9 29 #[.slice none 0 0, .slice none 0 0]
      have s10 : Below w9.heap.size w9 ((w9.alloc (.cells #[.slice none 0 0, .slice none 0 0] 29)).setRow w9.heap.size #[.slice A9 l9 c9, .slice D9 SN d9]) := below_row ((Below.refl w9.heap.size w9).alloc (Nat.le_refl _) _) (Nat.le_refl _)
      have hG10 := hG.row (cs' := #[.slice A9 l9 c9, .slice D9 SN d9])
      obtain ⟨w10, hw10⟩ : ∃ W, W = (w9.alloc (.cells #[.slice none 0 0, .slice none 0 0] 29)).setRow w9.heap.size #[.slice A9 l9 c9, .slice D9 SN d9] := ⟨_, rfl⟩
      rw [← hw10] at s10 hG10
      have HW10 := Lib.hid hw10
      have z10 := s10.size
      have GR10 := Lib.hid hG10
      have B10 := Lib.hid (B9.out.trans (s10.mono B9.out.size))
      have C10 := Lib.hid (C9.out.trans (s10.mono C9.out.size))
      have HA10 := Lib.hid (HA9.out.after s10)
      have GS10 := Lib.hid (GS9.out.after s10)
      have GX10 := Lib.hid (GX9.out.after s10)
      have HO10 := Lib.hid (HO9.out.below (s10.mono (by omega)))
      have HX10 := Lib.hid (own_below HX9.out s10)
      have R10 := Lib.hid (R9.out.below s10)
      clear s10 hw10 hG10
      obtain ⟨k0, k1⟩ := GR10.out.two
      obtain ⟨k2, k3⟩ := GS10.out.two
      go_wp2_with (refine wpList_store_row rfl _ _ _ rfl w9.heap.size #[.slice A9 l9 c9, .slice D9 SN d9] rfl rfl 29 _ hG size_tab rfl (one_tab _ _ _ _ _ _) ?_; rw [← HW10.out])
      refine (HER.out _ _ _ _ _ R10.out.trd (W05.out.below C10.out)).mono ?_
      rintro e w11 ⟨rfl, hb11⟩
      have z11 := hb11.size
      have B11 := Lib.hid (B10.out.trans (hb11.mono B10.out.size))
      have C11 := Lib.hid (C10.out.trans (hb11.mono C10.out.size))
      have HA11 := Lib.hid (HA10.out.after hb11)
      have GS11 := Lib.hid (GS10.out.after hb11)
      have GX11 := Lib.hid (GX10.out.after hb11)
      have GR11 := Lib.hid (GR10.out.after hb11)
      have HO11 := Lib.hid (HO10.out.below (hb11.mono (by omega)))
      have HX11 := Lib.hid (own_below HX10.out hb11)
      have R11 := Lib.hid (R10.out.below hb11)
      have HEQ := Lib.hid (fun W b t hv' rv' (hbW : Below w11.heap.size w11 W) (ob : OwnTab W b t hv' rv' h n f) => eqTable_same n _ b _ t h f _ _ hv' rv' W (HO11.out.below (hbW.mono (by omega))) ob (by have := HFT.out.1; omega) (by have := HFT.out.2.2.1; omega) (fun i => by have := (HFT.out.2.2.2 i).1; omega))
      clear hb11 k0 k1 k2 k3 hG
      obtain ⟨k0, k1⟩ := HA11.out.two
      obtain ⟨k2, k3⟩ := GX11.out.two
      go_wp2_with fail
      go_region_held3 (fun W => W.cell? ⟨w.heap.size, 0, none⟩ = some (.slice A hl c) ∧ W.cell? ⟨w.heap.size, 1, none⟩ = some (.slice B n d) ∧ W.cell? ⟨w6.heap.size, 0, none⟩ = some (.slice A6 l6 c6) ∧ W.cell? ⟨w6.heap.size, 1, none⟩ = some (.slice D6 n d6) ∧ w.heap.size < W.heap.size ∧ w6.heap.size < W.heap.size ∧ Below w11.heap.size w11 W)
        (first | exact tb_start HA11.out GX11.out | exact tb_below (by assumption) (by assumption))
        (first
          | (go_at_call 14; refine (HTT.out _ (B11.out.trans ((tb_new (X := w11) (by assumption)).mono B11.out.size))).mono ?_; rintro e w12 ⟨hv12, rv12, rfl, ho12, hb12⟩)
          | (go_at_call 16; refine (HEQ.out _ _ _ _ _ (tb_new (X := w11) (by assumption)) (by assumption)).mono ?_; rintro e w13 ⟨rfl, hb13⟩))
      all_goals
        have hx13 := tb_new (X := w11) (W := w13) (by assumption)
        have B13 := Lib.hid (B11.out.trans (hx13.mono B11.out.size))
        have C13 := Lib.hid (C11.out.trans (hx13.mono C11.out.size))
        have HA13 := Lib.hid (HA11.out.after hx13)
        have GS13 := Lib.hid (GS11.out.after hx13)
        have GX13 := Lib.hid (GX11.out.after hx13)
        have GR13 := Lib.hid (GR11.out.after hx13)
        have HO13 := Lib.hid (HO11.out.below (hx13.mono (by omega)))
        have HX13 := Lib.hid (own_below HX11.out hx13)
        have R13 := Lib.hid (R11.out.below hx13)
        have z13 := hx13.size
        clear hx13 k0 k1 k2 k3
        go_wp2_with fail
        refine (HTI2.out _ B13.out).mono ?_
        rintro e w14 ⟨⟨v14, rfl, ho14⟩, hb14⟩
        have z14 := hb14.size
        have B14 := Lib.hid (B13.out.trans (hb14.mono B13.out.size))
        have C14 := Lib.hid (C13.out.trans (hb14.mono C13.out.size))
        have HA14 := Lib.hid (HA13.out.after hb14)
        have GS14 := Lib.hid (GS13.out.after hb14)
        have GX14 := Lib.hid (GX13.out.after hb14)
        have GR14 := Lib.hid (GR13.out.after hb14)
        have HO14 := Lib.hid (HO13.out.below (hb14.mono (by omega)))
        have HX14 := Lib.hid (own_below HX13.out hb14)
        have R14 := Lib.hid (R13.out.below hb14)
        have Y14 := Lib.hid ho14
        obtain ⟨A14, c14, rfl, _⟩ := Rd.of_own ho14
        rw [ints_length] at Y14 ⊢
        clear hb14 ho14
        go_wp2_with fail
        refine (HEI2.out _ _ _ (Rd.of_own HX14.out) (Rd.of_own Y14.out)).mono ?_
        rintro e w15 ⟨rfl, hb15⟩
        have z15 := hb15.size
        have B15 := Lib.hid (B14.out.trans (hb15.mono B14.out.size))
        have C15 := Lib.hid (C14.out.trans (hb15.mono C14.out.size))
        have HA15 := Lib.hid (HA14.out.after hb15)
        have GS15 := Lib.hid (GS14.out.after hb15)
        have GX15 := Lib.hid (GX14.out.after hb15)
        have GR15 := Lib.hid (GR14.out.after hb15)
        have HO15 := Lib.hid (HO14.out.below (hb15.mono (by omega)))
        have HX15 := Lib.hid (own_below HX14.out hb15)
        have R15 := Lib.hid (R14.out.below hb15)
        clear hb15 Y14
        obtain ⟨k0, k1⟩ := GX15.out.two
        go_wp2_with fail
        refine (HMT.out _ _ _ _ _ HO15.out (by omega)).mono ?_
        rintro e w16 ⟨rfl, _, hb16, hf16, hk16⟩
        have z16 := hb16.size
        have B16 := Lib.hid (B15.out.trans (hb16.mono B5.out.size))
        have C16 := Lib.hid (C15.out.trans hb16)
        have HA16 := Lib.hid (HA15.out.below hb16 HA5.out.lt)
        have GS16 := Lib.hid (GS15.out.below hb16 GS5.out.lt)
        have GR16 : Hid (Blk w16 w9.heap.size 29 #[.slice A9 l9 c9, .slice D9 SN d9]) := Lib.hid (hk16 _ (by decide) _ _ GR15.out)
        have HX16 := Lib.hid (hf16 _ _ _ _ _ _ HX15.out (fun q hq => .inr (XL8.out q hq)))
        have R16 := Lib.hid (R15.out.far hf16 hk16 (by omega))
        clear hb16 hf16 hk16 k0 k1 HO15
        go_wp2_with fail
        refine (HMI2.out _ _ _ HX16.out).mono ?_
        rintro e w17 ⟨rfl, _, hg17⟩
        have hb17 : Below w7.heap.size w16 w17 := (Below.refl w7.heap.size w16).grown hg17 (by omega) (fun q hq => XL8.out q hq)
        have z17 := hb17.size
        have B17 := Lib.hid (B16.out.trans (hb17.mono B7.out.size))
        have C17 := Lib.hid (C16.out.trans (hb17.mono C7.out.size))
        have HA17 := Lib.hid (HA16.out.below hb17 HA7.out.lt)
        have GS17 := Lib.hid (GS16.out.below hb17 GS7.out.lt)
        have GR17 : Hid (Blk w17 w9.heap.size 29 #[.slice A9 l9 c9, .slice D9 SN d9]) := Lib.hid (Keeps.grown HX16.out (by decide) hg17 _ _ GR16.out)
        have R17 := Lib.hid (R16.out.keep (Keeps.grown HX16.out (by decide) hg17) (Keeps.grown HX16.out (by decide) hg17))
        clear hb17 hg17 HX16
        obtain ⟨k0, k1⟩ := GR17.out.two
        obtain ⟨k2, k3⟩ := GS17.out.two
        go_wp2_with fail
        refine (HER.out _ _ _ _ _ R17.out.trd (W05.out.below C17.out)).mono ?_
        rintro e w18 ⟨rfl, hb18⟩
        have z18 := hb18.size
        have B18 := Lib.hid (B17.out.trans (hb18.mono B17.out.size))
        have C18 := Lib.hid (C17.out.trans (hb18.mono C17.out.size))
        have HA18 := Lib.hid (HA17.out.after hb18)
        have GS18 := Lib.hid (GS17.out.after hb18)
        have GR18 := Lib.hid (GR17.out.after hb18)
        have R18 := Lib.hid (R17.out.below hb18)
        clear hb18 k0 k1 k2 k3
        obtain ⟨k0, k1⟩ := GR18.out.two
        go_wp2_with fail
        refine (HMR.out _ _ _ _ R18.out (by omega)).mono ?_
        rintro e w19 ⟨rfl, hr19, hb19, hk19⟩
        have z19 := hb19.size
        have B19 := Lib.hid (B18.out.trans (hb19.mono B8.out.size))
        have C19 := Lib.hid (C18.out.trans (hb19.mono C8.out.size))
        have HA19 := Lib.hid (HA18.out.below hb19 HA8.out.lt)
        have GS19 := Lib.hid (GS18.out.below hb19 GS8.out.lt)
        have GR19 : Hid (Blk w19 w9.heap.size 29 #[.slice A9 l9 c9, .slice D9 SN d9]) := Lib.hid (hk19 _ (by decide) _ _ GR18.out)
        have Q19 := Lib.hid hr19
        clear hb19 hk19 hr19 k0 k1
        obtain ⟨k0, k1⟩ := GR19.out.two
        go_wp2_with fail
        refine (HHR.out _ _ _ _ Q19.out).mono ?_
        rintro e w20 ⟨rfl, hb20⟩
        have z20 := hb20.size
        have B20 := Lib.hid (B19.out.trans (hb20.mono B19.out.size))
        have C20 := Lib.hid (C19.out.trans (hb20.mono C19.out.size))
        have HA20 := Lib.hid (HA19.out.after hb20)
        have GS20 := Lib.hid (GS19.out.after hb20)
        have GR20 := Lib.hid (GR19.out.after hb20)
        have Q20 := Lib.hid (Q19.out.below hb20)
        clear hb20 k0 k1
        obtain ⟨k0, k1⟩ := HA20.out.two
        go_wp2_with fail
        refine (HTT.out _ B20.out).mono ?_
        rintro e w21 ⟨hv21, rv21, rfl, ho21, hb21⟩
        have z21 := hb21.size
        have B21 := Lib.hid (B20.out.trans (hb21.mono B20.out.size))
        have C21 := Lib.hid (C20.out.trans (hb21.mono C20.out.size))
        have GS21 := Lib.hid (GS20.out.after hb21)
        have GR21 := Lib.hid (GR20.out.after hb21)
        have Q21 := Lib.hid (Q20.out.below hb21)
        have HO21 := Lib.hid ho21
        clear hb21 ho21 k0 k1
        go_wp2_with fail
        refine (HTI2.out _ B21.out).mono ?_
        rintro e w22 ⟨⟨v22, rfl, ho22⟩, hb22⟩
        have z22 := hb22.size
        have B22 := Lib.hid (B21.out.trans (hb22.mono B21.out.size))
        have C22 := Lib.hid (C21.out.trans (hb22.mono C21.out.size))
        have GS22 := Lib.hid (GS21.out.after hb22)
        have GR22 := Lib.hid (GR21.out.after hb22)
        have Q22 := Lib.hid (Q21.out.below hb22)
        have HO22 := Lib.hid (own_tab_below HO21.out hb22)
        have HX22 := Lib.hid ho22
        obtain ⟨A22, c22, rfl, _⟩ := Rd.of_own ho22
        rw [ints_length] at HX22 ⊢
        clear hb22 ho22
        go_wp2_with fail
        refine (HII.out _ _ _ _ _ HO22.out (Rd.of_own HX22.out)).mono ?_
        rintro e w23 ⟨hv23, rv23, rfl, hr23, hb23⟩
        have z23 := hb23.size
        have B23 := Lib.hid (B22.out.trans (hb23.mono B22.out.size))
        have C23 := Lib.hid (C22.out.trans (hb23.mono C22.out.size))
        have GS23 := Lib.hid (GS22.out.after hb23)
        have GR23 := Lib.hid (GR22.out.after hb23)
        have Q23 := Lib.hid (Q22.out.below hb23)
        have R23 := Lib.hid hr23
        obtain ⟨A23, c23, rfl, _⟩ := Rd.of_own hr23.head
        obtain ⟨D23, d23, rfl⟩ := hr23.slc
        obtain ⟨l23, hl23⟩ : ∃ k, k = (strs SH).length := ⟨_, rfl⟩
        rw [← hl23] at R23 ⊢
        clear hb23 hr23 hl23 HO22 HX22 HO21
        have hG := Blk.new w23 29 #[.slice none 0 0, .slice none 0 0]
        have s24 : Below w23.heap.size w23 ((w23.alloc (.cells #[.slice none 0 0, .slice none 0 0] 29)).setRow w23.heap.size #[.slice A23 l23 c23, .slice D23 SN d23]) := below_row ((Below.refl w23.heap.size w23).alloc (Nat.le_refl _) _) (Nat.le_refl _)
        have hG24 := hG.row (cs' := #[.slice A23 l23 c23, .slice D23 SN d23])
        obtain ⟨w24, hw24⟩ : ∃ W, W = (w23.alloc (.cells #[.slice none 0 0, .slice none 0 0] 29)).setRow w23.heap.size #[.slice A23 l23 c23, .slice D23 SN d23] := ⟨_, rfl⟩
        rw [← hw24] at s24 hG24
        have HW24 := Lib.hid hw24
        have z24 := s24.size
        have GT24 := Lib.hid hG24
        have B24 := Lib.hid (B23.out.trans (s24.mono B23.out.size))
        have C24 := Lib.hid (C23.out.trans (s24.mono C23.out.size))
        have GS24 := Lib.hid (GS23.out.after s24)
        have GR24 := Lib.hid (GR23.out.after s24)
        have Q24 := Lib.hid (Q23.out.below s24)
        have R24 := Lib.hid (R23.out.below s24)
        clear s24 hw24 hG24
        obtain ⟨k0, k1⟩ := GT24.out.two
        obtain ⟨k2, k3⟩ := GS24.out.two
        go_wp2_with (refine wpList_store_row rfl _ _ _ rfl w23.heap.size #[.slice A23 l23 c23, .slice D23 SN d23] rfl rfl 29 _ hG size_tab rfl (one_tab _ _ _ _ _ _) ?_; rw [← HW24.out])
        refine (HER.out _ _ _ _ _ R24.out.trd (W05.out.below C24.out)).mono ?_
        rintro e w25 ⟨rfl, hb25⟩
        have B25 := Lib.hid (B24.out.trans (hb25.mono B24.out.size))
        have GR25 := Lib.hid (GR24.out.after hb25)
        have Q25 := Lib.hid (Q24.out.below hb25)
        clear hb25 k0 k1 k2 k3 hG
        obtain ⟨k0, k1⟩ := GR25.out.two
        go_wp2_with fail
        refine (HHR.out _ _ _ _ Q25.out).mono ?_
        rintro e w26 ⟨rfl, hb26⟩
        have B26 := Lib.hid (B25.out.trans (hb26.mono B25.out.size))
        clear hb26 k0 k1
        go_wp2_with fail
        go_ret
        exact ⟨rfl, B26.out⟩
end Go.Proofs.Ytionfjofojfaoaa
