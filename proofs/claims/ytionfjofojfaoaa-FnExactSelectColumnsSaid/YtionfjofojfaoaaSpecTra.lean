/- The model's TransposeRows, l10Column, ColumnOf. -/
import Derived.Test.YtionfjofojfaoaaImplCol
import Derived.Test.YtionfjofojfaoaaSpecTab
namespace Go.Proofs.Ytionfjofojfaoaa
open Go.RowKit
set_option linter.unusedVariables false

theorem strs_more (f : Nat → List ByteArray) (m k q : Nat) (h : q < m) (hk : k < (f q).length) : strs ((colT f m k).take (q + 1)) = strs ((colT f m k).take q) ++ [.string (f q)[k]] := by
  have hl : q < (colT f m k).length := by rw [colT_length]; exact h
  rw [List.take_succ_eq_append_getElem hl, colT_get f m k q h, getD_col _ _ hk, strs_snoc2]
theorem own_empty (W : World) (base : Nat) (e : TypeId) (hb : base ≤ W.heap.size) : (W.alloc (.cells #[] e)).ownsRow base e 1 (.slice (some ⟨W.heap.size, 0, none⟩) 0 0) 0 [] := by
  have h := World.ownsRow_lit (base := base) (e := e) (size := 1) W #[] 0 hb (by unfold maxLen; omega) rfl
  exact h
set_option maxRecDepth 100000 in
theorem specMin (a b : Int) (w : World) :
    Calls Try.prog 48 #[.int .i64 a, .int .i64 b] w fun e w' => e = .returned (.int .i64 (min a b)) ∧ w = w' := by
  by_cases h : a < b
  · have HE := Lib.hid (show min a b = a by omega)
    go_enter Try.func48, Try.ntmps48
    go_wp2
    go_ret
    exact ⟨ret_int HE.out.symm, rfl⟩
  · have HE := Lib.hid (show min a b = b by omega)
    go_enter Try.func48, Try.ntmps48
    go_wp2
    go_ret
    exact ⟨ret_int HE.out.symm, rfl⟩
set_option maxRecDepth 100000 in
set_option maxHeartbeats 2000000 in
theorem specColumn (h : List ByteArray) (n : Nat) (f : Nat → List ByteArray) (hv rv : Value) (k : Nat) (w : World) (hh : Rd w hv (strs h)) (hr : RdT w rv n f) (hn : n ≤ 1048576) (hk : ∀ i, i < n → k < (f i).length) (hf : ∀ i, (f i).length ≤ 1048576) :
    Calls Try.prog 45 #[.agg #[hv, rv], .int .i64 (k : Int)] w fun e w' => ∃ v, e = .returned v ∧ w'.ownsRow w.heap.size 9 1 v n (strs (colT f n k)) ∧ Below w.heap.size w w' := by
  obtain ⟨i0, hi0, hz0, hz1, hz2⟩ := info_parts Try.infoStrCo
  obtain ⟨A, c, rfl, _⟩ := hh
  obtain ⟨B, d, rfl, hc⟩ := hr
  obtain ⟨hl, hhl⟩ : ∃ k, k = (strs h).length := ⟨_, rfl⟩
  rw [← hhl]
  have HC := Lib.hid hc
  have HKL := Lib.hid hk
  have HFL := Lib.hid hf
  have hO := own_empty (w.alloc (.cells #[.slice A hl c, .slice B n d] 29)) w.heap.size 9 (by simp)
  rw [show (w.alloc (.cells #[.slice A hl c, .slice B n d] 29)).heap.size = w.heap.size + 1 by simp] at hO
  have HO := Lib.hid hO
  have B0 := Lib.hid (by go_grown : Below w.heap.size w ((w.alloc (.cells #[.slice A hl c, .slice B n d] 29)).alloc (.cells #[] 9)))
  have HK := Lib.hid ((Blk.new w 29 #[.slice A hl c, .slice B n d]).after ((Below.refl _ _).alloc (Nat.le_refl _) (.cells #[] 9)))
  clear hhl hc hk hf hO
  obtain ⟨k0, k1⟩ := HK.out.two
  go_enter Try.func45, Try.ntmps45
  go_wp2_with fail
  go_loopw [5, 12] (fun v i wr => ∃ q : Nat, q ≤ n ∧ i = .int .i64 (q : Int) ∧ Hid (wr.ownsRow w.heap.size 9 1 v q (strs ((colT f n k).take q))) ∧ Hid (Below w.heap.size w wr)) (fun _ i _ => n - (intOf i).toNat)
  case atStart => exact ⟨0, Nat.zero_le _, rfl, HO, B0⟩
  case round =>
    obtain ⟨q, hq, rfl, HOW, HBE⟩ := hrel
    obtain ⟨Av, cv, rfl⟩ : ∃ A c, u5 = .slice A q c := by
      obtain ⟨A, c, h, _⟩ := Rd.of_own HOW.out
      exact ⟨A, c, by rw [h, own_len HOW.out]⟩
    by_cases hlt : q < n
    · obtain ⟨g, o, rfl, hg, hcell⟩ := HC.out (by omega)
      obtain ⟨u, hu, hru⟩ := hcell q hlt
      have hcu := (HBE.out.cell (p := ⟨g, o + q, none⟩) hg).trans hu
      have hru := hru.below HBE.out
      have hkl := HKL.out q hlt
      have hfl := HFL.out q
      obtain ⟨A', c', rfl, hA'⟩ := hru
      rw [strs_length] at hcu hA'
      obtain ⟨g', o', rfl, hg', hcell'⟩ := hA' (by omega)
      have hcx := hcell' k _ (strs_get _ k hkl)
      have HMO := Lib.hid (strs_more f n k q hlt hkl)
      obtain ⟨x, hxe⟩ : ∃ x, x = (f q)[k] := ⟨_, rfl⟩
      rw [← hxe] at hcx HMO
      obtain ⟨z, hz⟩ : ∃ z, z = (f q).length := ⟨_, rfl⟩
      rw [← hz] at hcu hkl hfl
      have hkl2 : (k : Int) < (z : Int) := by omega
      have hbs := HBE.out.size
      clear hxe hz hcell hcell' hA' hu
      go_wp2_with (at_builtin; refine append_one rfl _ _ 23 rfl w.heap.size 9 i0 _ 16 Try.underlying23 hi0 hz0 hz1 hz2 rfl (.slice Av q cv) _ _ rfl wr (.string x) rfl rfl HOW.out (by omega) (by omega) hbs ?_; intro v3 w3 hown3 hbel3; have HO3 := Lib.hid hown3; have HB3 := Lib.hid (HBE.out.trans hbel3); clear hown3 hbel3)
      go_roundw
      case rel => exact ⟨q + 1, by omega, by go_num, Lib.hid (by rw [HMO.out]; exact HO3.out), HB3⟩
      case measure => simp [intOf]; omega
    · obtain rfl : q = n := by omega
      have HFIN : Hid (strs ((colT f q k).take q) = strs (colT f q k)) := Lib.hid (by rw [List.take_of_length_le (by rw [colT_length]; exact Nat.le_refl _)])
      go_wp2_with fail
      go_ret
      exact ⟨_, rfl, by rw [← HFIN.out]; exact HOW.out, HBE.out⟩
set_option maxRecDepth 100000 in
set_option maxHeartbeats 2000000 in
theorem specColumnOf (h : List ByteArray) (n : Nat) (f : Nat → List ByteArray) (hv rv : Value) (kk : Int) (w : World) (hh : Rd w hv (strs h)) (hr : RdT w rv n f) (hs : SlcOk rv n) (hfit : TabFits h n f) :
    Calls Try.prog 19 #[.agg #[hv, rv], .int .i64 kk] w fun e w' => ∃ v, e = .returned v ∧ w'.ownsRow w.heap.size 9 1 v (colOf h n f kk).length (strs (colOf h n f kk)) ∧ Below w.heap.size w w' := by
  have HIS := Lib.hid (fun W (hb : Below w.heap.size w W) => specIsTable h n f hv rv W (hh.below hb) (hr.below hb) hs hfit)
  have HCL := Lib.hid (fun (k : Nat) (hk : ∀ i, i < n → k < (f i).length) W (hb : Below w.heap.size w W) => specColumn h n f hv rv k W (hh.below hb) (hr.below hb) hfit.2.2.1 hk (fun i => (hfit.2.2.2 i).1))
  have hlen : h.length ≤ 1048576 := hfit.1
  obtain ⟨A, c, rfl, _⟩ := hh
  obtain ⟨B, d, rfl⟩ := hr.slc
  rw [strs_length] at *
  have HA := Lib.hid (Blk.new w 29 #[.slice A h.length c, .slice B n d])
  have B0 := Lib.hid (by go_grown : Below w.heap.size w (w.alloc (.cells #[.slice A h.length c, .slice B n d] 29)))
  clear hr hs hfit
  obtain ⟨k0, k1⟩ := HA.out.two
  cases hit : isTab h n f with
  | false =>
    have HE : Hid (colOf h n f kk = []) := Lib.hid (by unfold colOf; rw [if_neg (by rw [hit]; exact fun hh => by cases hh.1)])
    rw [hit] at HIS
    clear hit
    go_enter Try.func19, Try.ntmps19
    go_wp2_with fail
    refine (HIS.out _ B0.out).mono ?_
    rintro e w1 ⟨rfl, hb1⟩
    have B1 := Lib.hid (B0.out.trans (hb1.mono B0.out.size))
    clear hb1 k0 k1
    go_wp2_with fail
    go_ret
    exact ⟨_, rfl, by rw [HE.out]; exact World.ownsRow_nil _ _ _ _, B1.out⟩
  | true =>
    obtain ⟨_, hrows, _⟩ := isTab_facts hit
    have HRW := Lib.hid hrows
    by_cases hin : 0 ≤ kk ∧ kk ≤ (h.length : Int) - 1
    · have HE : Hid (colOf h n f kk = colT f n kk.toNat) := Lib.hid (by unfold colOf; rw [if_pos ⟨hit, by omega⟩])
      obtain ⟨k, rfl⟩ : ∃ k : Nat, kk = (k : Int) := ⟨kk.toNat, by omega⟩
      have HC2 := Lib.hid (HCL.out k (fun i hi => by rw [HRW.out i hi]; omega))
      have HL := Lib.hid (fun W => l01In_yes (k : Int) 0 ((h.length : Int) - 1) W hin)
      rw [hit] at HIS
      clear hit hrows hin
      go_enter Try.func19, Try.ntmps19
      go_wp2_with fail
      refine (HIS.out _ B0.out).mono ?_
      rintro e w1 ⟨rfl, hb1⟩
      have B1 := Lib.hid (B0.out.trans (hb1.mono B0.out.size))
      have HA1 := Lib.hid (HA.out.after hb1)
      clear hb1 k0 k1
      obtain ⟨k0, k1⟩ := HA1.out.two
      go_wp2_with fail
      refine (HL.out _).mono ?_
      rintro e w2 ⟨rfl, rfl⟩
      go_wp2_with fail
      refine (HC2.out _ B1.out).mono ?_
      rintro e w3 ⟨v3, rfl, ho3, hb3⟩
      have B3 := Lib.hid (B1.out.trans (hb3.mono B1.out.size))
      have HO3 := Lib.hid (own_base ho3 B1.out.size)
      obtain ⟨A3, c3, rfl, _⟩ := Rd.of_own ho3
      clear ho3 hb3 k0 k1
      go_wp2_with fail
      go_ret
      exact ⟨_, rfl, by rw [HE.out, colT_length]; exact HO3.out, B3.out⟩
    · have HE : Hid (colOf h n f kk = []) := Lib.hid (by unfold colOf; rw [if_neg (fun hh => hin ⟨hh.2.1, by omega⟩)])
      have HL := Lib.hid (fun W => l01In_no kk 0 ((h.length : Int) - 1) W hin)
      rw [hit] at HIS
      clear hit hrows hin
      go_enter Try.func19, Try.ntmps19
      go_wp2_with fail
      refine (HIS.out _ B0.out).mono ?_
      rintro e w1 ⟨rfl, hb1⟩
      have B1 := Lib.hid (B0.out.trans (hb1.mono B0.out.size))
      have HA1 := Lib.hid (HA.out.after hb1)
      clear hb1 k0 k1
      obtain ⟨k0, k1⟩ := HA1.out.two
      go_wp2_with fail
      refine (HL.out _).mono ?_
      rintro e w2 ⟨rfl, rfl⟩
      go_wp2_with fail
      go_ret
      exact ⟨_, rfl, by rw [HE.out]; exact World.ownsRow_nil _ _ _ _, B1.out⟩
set_option maxRecDepth 100000 in
set_option maxHeartbeats 4000000 in
theorem specTranspose (m : Nat) (f : Nat → List ByteArray) (rv : Value) (w : World) (hr : RdT w rv m f) (hm : m ≤ 4194304) (hf : ∀ i, (f i).length ≤ 4194304) :
    Calls Try.prog 26 #[rv] w fun e w' => ∃ v, e = .returned v ∧ OwnT w' w.heap.size w'.heap.size v (leastT f m) (colT f m) ∧ Below w.heap.size w w' := by
  obtain ⟨i0, hi0, hz0, hz1, hz2⟩ := info_parts Try.infoStrCo
  obtain ⟨iR, hiR, hzR0, hzR1, hzR2⟩ := info_parts Try.infoRowTr
  obtain ⟨B, d, rfl, hc⟩ := hr
  have HO := Lib.hid (own_empty w w.heap.size 23 (Nat.le_refl _))
  have B0 := Lib.hid (by go_grown : Below w.heap.size w (w.alloc (.cells #[] 23)))
  rcases Nat.eq_zero_or_pos m with rfl | h0
  · have HR : Hid (leastT f 0 = 0) := Lib.hid rfl
    clear hc hf
    go_enter Try.func26, Try.ntmps26
    go_wp2
    go_ret
    exact ⟨_, rfl, by rw [HR.out]; exact OwnT.nil _ _ _ _ _ (World.ownsRow_nil _ _ _ _) (fun k hk => by cases hk), B0.out⟩
  · obtain ⟨g, o, rfl, hg, hcell⟩ := hc h0
    have HCE := Lib.hid hcell
    have HFL := Lib.hid hf
    obtain ⟨u0, hu0, hr0⟩ := hcell 0 h0
    have hu0 := (B0.out.cell (p := ⟨g, o, none⟩) hg).trans hu0
    obtain ⟨A0, c0, rfl, _⟩ := hr0
    rw [strs_length] at hu0
    have HLT := Lib.hid (fun i hi => leastT_le f m i hi)
    have HLM : Hid (leastT f m = minTo f m) := Lib.hid (by unfold leastT; rw [if_neg (by omega)])
    have hlz : leastT f m ≤ 4194304 := Nat.le_trans (leastT_le f m 0 h0) (hf 0)
    have HMB : Hid (∀ k, minTo f k ≤ 4194304) := Lib.hid (fun k => Nat.le_trans (minTo_first f k) (hf 0))
    clear hc hcell hf
    have hne : ((m : Int) == 0) = false := by simp; omega
    go_enter Try.func26, Try.ntmps26
    go_wp2_with fail
    go_loopw [4, 21] (fun z i wr => ∃ k : Nat, k ≤ m ∧ i = .int .i64 (k : Int) ∧ z = .int .i64 ((minTo f k : Nat) : Int) ∧ wr = w.alloc (.cells #[] 23)) (fun _ i _ => m - (intOf i).toNat)
    case atStart => exact ⟨0, Nat.zero_le _, rfl, rfl, rfl⟩
    case round =>
      obtain ⟨k, hk, rfl, rfl, rfl⟩ := hrel
      by_cases hlt : k < m
      · obtain ⟨u, hu, hru⟩ := HCE.out k hlt
        have hu := (B0.out.cell (p := ⟨g, o + k, none⟩) hg).trans hu
        obtain ⟨A', c', rfl, _⟩ := hru
        rw [strs_length] at hu
        have HMN : Hid (((minTo f (k + 1) : Nat) : Int) = min ((minTo f k : Nat) : Int) ((f k).length : Int)) := Lib.hid (by rw [minTo]; exact cast_min _ _)
        obtain ⟨z, hz⟩ : ∃ z, z = (f k).length := ⟨_, rfl⟩
        obtain ⟨y, hy⟩ : ∃ y, y = minTo f k := ⟨_, rfl⟩
        rw [← hz] at hu HMN
        rw [← hy] at HMN ⊢
        have HCM := Lib.hid (fun W => specMin (y : Int) (z : Int) W)
        obtain ⟨mn, hmn⟩ : ∃ mn, mn = min (y : Int) (z : Int) := ⟨_, rfl⟩
        rw [← hmn] at HMN HCM
        clear hz hy hmn
        go_wp2_with fail
        refine (HCM.out _).mono ?_
        rintro e w1 ⟨rfl, rfl⟩
        go_wp2_with fail
        go_roundw
        case rel => exact ⟨k + 1, by omega, by go_num, by rw [HMN.out], trivial⟩
        case measure => simp [intOf]; omega
      · obtain rfl : k = m := by omega
        rw [← HLM.out]
        obtain ⟨z, hz⟩ : ∃ z, z = leastT f k := ⟨_, rfl⟩
        rw [← hz] at HLT hlz ⊢
        have HZ := Lib.hid hz
        clear hz HLM HMB hu0
        go_wp2_with fail
        go_loopw [3, 7] (fun v i wr => ∃ (q : Nat) (vs : List Value), q ≤ z ∧ i = .int .i64 (q : Int) ∧ Hid (wr.ownsRow w.heap.size 23 1 v q vs) ∧ Hid (OwnRs wr w.heap.size vs (colT f k)) ∧ Hid (Below w.heap.size w wr)) (fun _ i _ => z - (intOf i).toNat)
        case atStart => exact ⟨0, [], Nat.zero_le _, rfl, HO, Lib.hid ⟨fun i u hu => by simp at hu, Distinct.nil⟩, B0⟩
        case round =>
          obtain ⟨q, vs, hq, rfl, HOW, HRS, HBE⟩ := hrel
          obtain ⟨Aq, cq, rfl⟩ : ∃ A c, u3 = .slice A q c := by
            obtain ⟨A, c, h, _⟩ := Rd.of_own HOW.out
            exact ⟨A, c, by rw [h, own_len HOW.out]⟩
          by_cases hltq : q < z
          · obtain ⟨wo, rfl⟩ : ∃ wo : World, wo = wr := ⟨_, rfl⟩
            have HIO := Lib.hid (own_empty wo wo.heap.size 9 (Nat.le_refl _))
            have HIB := Lib.hid (by go_grown : Below wo.heap.size wo (wo.alloc (.cells #[] 9)))
            have hbs := HBE.out.size
            go_wp2_with fail
            go_loopw [8, 38] (fun l i wr => ∃ p : Nat, p ≤ k ∧ i = .int .i64 (p : Int) ∧ Hid (wr.ownsRow wo.heap.size 9 1 l p (strs ((colT f k q).take p))) ∧ Hid (Below wo.heap.size wo wr)) (fun _ i _ => k - (intOf i).toNat)
            case atStart => exact ⟨0, Nat.zero_le _, rfl, HIO, HIB⟩
            case round =>
              obtain ⟨p, hp, rfl, HPO, HPB⟩ := hrel
              obtain ⟨Al, cl, rfl⟩ : ∃ A c, u8 = .slice A p c := by
                obtain ⟨A, c, h, _⟩ := Rd.of_own HPO.out
                exact ⟨A, c, by rw [h, own_len HPO.out]⟩
              have hps := HPB.out.size
              by_cases hltp : p < k
              · obtain ⟨u, hu, hru⟩ := HCE.out p hltp
                have HBW := Lib.hid (HBE.out.trans (HPB.out.mono hbs))
                have hcu := (HBW.out.cell (p := ⟨g, o + p, none⟩) hg).trans hu
                have hru := hru.below HBW.out
                have hkl : q < (f p).length := by have := HLT.out p hltp; omega
                have hfl := HFL.out p
                obtain ⟨A', c', rfl, hA'⟩ := hru
                rw [strs_length] at hcu hA'
                obtain ⟨g', o', rfl, hg', hcell'⟩ := hA' (by omega)
                have hcx := hcell' q _ (strs_get _ q hkl)
                have HMO := Lib.hid (strs_more f k q p hltp hkl)
                obtain ⟨x, hxe⟩ : ∃ x, x = (f p)[q] := ⟨_, rfl⟩
                rw [← hxe] at hcx HMO
                obtain ⟨y, hy⟩ : ∃ y, y = (f p).length := ⟨_, rfl⟩
                rw [← hy] at hcu hkl hfl
                have hkl2 : (q : Int) < (y : Int) := by omega
                clear hxe hy hcell' hA' hu
                go_wp2_with (at_builtin; refine append_one rfl _ _ 23 rfl wo.heap.size 9 i0 _ 16 Try.underlying23 hi0 hz0 hz1 hz2 rfl (.slice Al p cl) _ _ rfl wr (.string x) rfl rfl HPO.out (by omega) (by omega) hps ?_; intro v3 w3 hown3 hbel3; have HO3 := Lib.hid hown3; have HB3 := Lib.hid (HPB.out.trans hbel3); clear hown3 hbel3)
                go_roundw
                case rel =>
                  first
                    | exact ⟨p + 1, by omega, by go_num, Lib.hid (by rw [HMO.out]; exact HO3.out), HB3⟩
                    | ((repeat apply Exists.intro); exact ⟨⟨p + 1, by omega, by go_num, Lib.hid (by rw [HMO.out]; exact HO3.out), HB3⟩, rfl⟩)
                case measure => simp [intOf]; omega
              · obtain rfl : p = k := by omega
                have HFIN : Hid (strs ((colT f p q).take p) = strs (colT f p q)) := Lib.hid (by rw [List.take_of_length_le (by rw [colT_length]; exact Nat.le_refl _)])
                have hol := HPO.out
                rw [HFIN.out] at hol
                have HOL := Lib.hid hol
                have HOQ := Lib.hid (own_below HOW.out HPB.out)
                have hbw := HPB.out.size
                have hbb : w.heap.size ≤ wr.heap.size := by omega
                have HVL := Lib.hid (own_len HOW.out)
                have HBW := Lib.hid (HBE.out.trans (HPB.out.mono hbs))
                clear hol
                go_wp2_with (at_builtin; refine append_el rfl _ _ 24 rfl w.heap.size 23 iR _ 1 24 Try.underlying24 hiR hzR0 hzR1 hzR2 rfl (by decide) (.slice Aq q cq) _ _ rfl wr #[.slice Al p cl] rfl rfl (row_oneT _ _ _) HOQ.out (by omega) (by omega) hbb ?_; intro v1 w7 ho1 hg1 _; have HO7 := Lib.hid ho1; have HG7 := Lib.hid hg1; clear ho1 hg1)
                have HRS7 : Hid (OwnRs w7 w.heap.size (vs ++ [.slice Al p cl]) (colT f p)) := Lib.hid (HRS.out.snoc HVL.out ((Keeps.below _ HPB.out).trans (Keeps.grown HOQ.out (by decide) HG7.out)) (by rw [colT_length]; exact own_keeps HOL.out (Keeps.grown HOQ.out (by decide) HG7.out)) hbs)
                have HB7 : Hid (Below w.heap.size w w7) := Lib.hid (HBW.out.grown HG7.out hbb (fun j hj => (World.ownsRow.lt HOQ.out j hj).1))
                go_roundw
                case rel => exact ⟨q + 1, vs ++ [.slice Al p cl], by omega, by go_num, HO7, HRS7, HB7⟩
                case measure => simp [intOf]; omega
          · obtain rfl : q = z := by omega
            go_wp2_with fail
            go_ret
            exact ⟨.slice Aq q cq, rfl, by rw [← HZ.out]; exact ownT_of HOW.out HRS.out, HBE.out⟩
end Go.Proofs.Ytionfjofojfaoaa
