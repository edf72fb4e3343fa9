/- The program's IsCellText, TableCode, IsTable (chapter 11). -/
import Derived.Test.YtionfjofojfaoaaDoorConcat
namespace Go.Proofs.YtionfjofojfaoaaDoor
open Go.RowKit
set_option linter.unusedVariables false

theorem cell_long (s : ByteArray) (h : (200 : Int) < s.size) : cellB s = false := by
  unfold cellB
  rw [Bool.and_eq_false_iff]
  right
  rw [decide_eq_false_iff_not]
  omega
theorem cell_short (s : ByteArray) (h : ¬ (200 : Int) < s.size) (k : Nat) (hk : ¬ k < s.size) (ha : (s.data.toList.take k).all okByte = true) : cellB s = true := by
  have h3 := all_whole _ s k hk ha
  unfold cellB okCellL
  rw [h3, Bool.true_and, decide_eq_true]
  omega
set_option maxRecDepth 100000 in
set_option maxHeartbeats 1000000 in
theorem implIsCellText (s : ByteArray) (w : World) (hs : s.size ≤ 1048576) :
    Calls Tryd.prog 14 #[.string s] w fun e w' => e = .returned (.bool (cellB s)) ∧ w = w' := by
  by_cases hl : (200 : Int) < s.size
  · have HR := Lib.hid (cell_long s hl)
    go_enter Tryd.func14, Tryd.ntmps14
    go_wp2
    go_ret
    exact ⟨ret_bool HR.out.symm, rfl⟩
  · go_enter Tryd.func14, Tryd.ntmps14
    go_wp2
    go_loop [9] (fun i => ∃ k : Nat, k ≤ s.size ∧ i = .int .i64 k ∧ Hid ((s.data.toList.take k).all okByte = true)) (fun i => s.size - (intOf i).toNat)
    case atStart => exact ⟨0, Nat.zero_le _, rfl, Lib.hid rfl⟩
    case round =>
      obtain ⟨k, hk, rfl, HA⟩ := hrel
      by_cases hlt : k < s.size
      · by_cases h1 : (s[k].toNat : Int) < 32
        · go_wp2
          go_ret
          exact ⟨ret_bool (okCell_no s k hlt (okByte_low _ h1)).symm, rfl⟩
        · by_cases h2 : (s[k].toNat : Int) = 127
          · go_wp2
            go_ret
            exact ⟨ret_bool (okCell_no s k hlt (okByte_del _ h2)).symm, rfl⟩
          · go_wp2
            go_round
            case rel => exact ⟨k + 1, by omega, by go_num, Lib.hid (all_snoc _ s k hlt HA.out (okByte_yes _ h1 h2))⟩
            case measure => simp [intOf]; omega
      · have HR := Lib.hid (cell_short s (by omega) k hlt HA.out)
        go_wp2
        go_ret
        exact ⟨ret_bool HR.out.symm, rfl⟩
set_option maxRecDepth 100000 in
theorem implColCount (n : Int) (w : World) :
    Calls Tryd.prog 25 #[.int .i64 n] w fun e w' => e = .returned (.bool (decide (1 ≤ n ∧ n ≤ 8))) ∧ w = w' := by
  obtain ⟨b, hbe⟩ : ∃ b, b = decide (1 ≤ n ∧ n ≤ 8) := ⟨_, rfl⟩
  rw [← hbe]
  by_cases h1 : 1 ≤ n
  · by_cases h8 : n ≤ 8
    · have HE := Lib.hid (show b = true from hbe.trans <| decide_eq_true ⟨h1, h8⟩)
      clear hbe
      go_enter Tryd.func25, Tryd.ntmps25
      go_wp2
      go_ret
      exact ⟨ret_bool HE.out.symm, rfl⟩
    · have HE := Lib.hid (show b = false from hbe.trans <| decide_eq_false (fun h => h8 h.2))
      clear hbe
      go_enter Tryd.func25, Tryd.ntmps25
      go_wp2
      go_ret
      exact ⟨ret_bool HE.out.symm, rfl⟩
  · have HE := Lib.hid (show b = false from hbe.trans <| decide_eq_false (fun h => h1 h.1))
    clear hbe
    go_enter Tryd.func25, Tryd.ntmps25
    go_wp2
    go_ret
    exact ⟨ret_bool HE.out.symm, rfl⟩
def shapeB (h : List ByteArray) (n : Nat) (f : Nat → List ByteArray) : Bool := !anyR (wrongRow h.length) f n && decide (1 ≤ (h.length : Int) ∧ (h.length : Int) ≤ 8)
set_option maxRecDepth 100000 in
set_option maxHeartbeats 2000000 in
theorem implShape (h : List ByteArray) (n : Nat) (f : Nat → List ByteArray) (hv rv : Value) (w : World) (hh : Rd w hv (strs h)) (hr : RdT w rv n f) (hm : h.length ≤ 1048576) (hn : n ≤ 1048576) (hf : ∀ i, (f i).length ≤ 1048576) :
    Calls Tryd.prog 31 #[.agg #[hv, rv]] w fun e w' => e = .returned (.bool (shapeB h n f)) ∧ Below w.heap.size w w' := by
  have hrow := hr
  obtain ⟨A, c, rfl, _⟩ := hh
  rw [strs_length] at *
  obtain ⟨B, d, rfl, hc⟩ := hr
  have HC := Lib.hid hc
  have HFL := Lib.hid hf
  have hK := Blk.new w 26 #[.slice A h.length c, .slice B n d]
  have B0 := Lib.hid (by go_grown : Below w.heap.size w (w.alloc (.cells #[.slice A h.length c, .slice B n d] 26)))
  clear hc hrow hf
  go_enter Tryd.func31, Tryd.ntmps31
  go_wp2_with fail
  go_loopw [8] (fun i wr => ∃ k : Nat, k ≤ n ∧ i = .int .i64 (k : Int) ∧ Hid (∀ j, j < k → (f j).length = h.length) ∧ wr = w.alloc (.cells #[.slice A h.length c, .slice B n d] 26)) (fun i _ => n - (intOf i).toNat)
  case atStart => exact ⟨0, Nat.zero_le _, rfl, Lib.hid (fun j hj => by omega), rfl⟩
  case round =>
    obtain ⟨k, hk, rfl, HK, rfl⟩ := hrel
    by_cases hlt : k < n
    · obtain ⟨g, o, rfl, hg, hcell⟩ := HC.out (by omega)
      obtain ⟨u, hu, hru⟩ := hcell k hlt
      have hcu := (B0.out.cell (p := ⟨g, o + k, none⟩) hg).trans hu
      obtain ⟨A', c', rfl, _⟩ := hru
      rw [strs_length] at hcu
      clear hu hcell
      by_cases hne : (f k).length = h.length
      · have HK1 : Hid (∀ j, j < k + 1 → (f j).length = h.length) := Lib.hid (fun j hj => by
          rcases Nat.lt_or_ge j k with h1 | h1
          · exact HK.out j h1
          · obtain rfl : j = k := by omega
            exact hne)
        rw [hne] at hcu
        clear hne
        go_wp2_with fail
        go_roundw
        case rel => exact ⟨k + 1, by omega, by go_num, HK1, trivial⟩
        case measure => simp [intOf]; omega
      · have HR : Hid (shapeB h n f = false) := Lib.hid (by
          unfold shapeB
          rw [anyR_yes _ _ _ k hlt (by unfold wrongRow; exact decide_eq_true hne)]
          rfl)
        have hne2 : ¬ ((f k).length : Int) = (h.length : Int) := by omega
        obtain ⟨z, hz⟩ : ∃ z, z = (f k).length := ⟨_, rfl⟩
        rw [← hz] at hcu hne2
        clear hz hne
        go_wp2_with fail
        go_ret
        exact ⟨ret_bool HR.out.symm, B0.out⟩
    · obtain rfl : k = n := by omega
      have HR : Hid (shapeB h k f = decide (1 ≤ (h.length : Int) ∧ (h.length : Int) ≤ 8)) := Lib.hid (by
        unfold shapeB
        rw [anyR_none _ _ _ fun i hi => by unfold wrongRow; rw [HK.out i hi]; simp]
        rfl)
      have HCA := Lib.hid (fun W => implColCount h.length W)
      obtain ⟨b, hbe⟩ : ∃ b, b = decide (1 ≤ (h.length : Int) ∧ (h.length : Int) ≤ 8) := ⟨_, rfl⟩
      rw [← hbe] at HR HCA
      clear hbe
      go_wp2_with fail
      refine (HCA.out _).mono ?_
      rintro e w4 ⟨rfl, rfl⟩
      go_wp2_with fail
      go_ret
      exact ⟨ret_bool HR.out.symm, B0.out⟩
def onlyB (h : List ByteArray) (n : Nat) (f : Nat → List ByteArray) : Bool := !anyR badRow (rowsA h f) (1 + n)
set_option maxRecDepth 100000 in
set_option maxHeartbeats 4000000 in
theorem implOnly (h : List ByteArray) (n : Nat) (f : Nat → List ByteArray) (hv rv : Value) (w : World) (hh : Rd w hv (strs h)) (hr : RdT w rv n f) (hs : SlcOk rv n) (hfit : TabFits h n f) :
    Calls Tryd.prog 32 #[.agg #[hv, rv]] w fun e w' => e = .returned (.bool (onlyB h n f)) ∧ Below w.heap.size w w' := by
  obtain ⟨hm, hx, hn, hf⟩ := hfit
  have HHR := Lib.hid (fun W (hb : Below w.heap.size w W) => implHeadRows h n f hv rv W (hh.below hb) (hr.below hb) hs hn)
  have HFA : Hid (∀ i, (rowsA h f i).length ≤ 1048576 ∧ ∀ x ∈ rowsA h f i, x.size ≤ 1048576) := Lib.hid (by
    intro i
    cases i with
    | zero => exact ⟨hm, hx⟩
    | succ i => exact hf i)
  obtain ⟨A, c, rfl, _⟩ := hh
  obtain ⟨B, d, rfl⟩ := hr.slc
  obtain ⟨hl, hhl⟩ : ∃ k, k = (strs h).length := ⟨_, rfl⟩
  rw [← hhl] at HHR ⊢
  have B0 := Lib.hid (by go_grown : Below w.heap.size w (w.alloc (.cells #[.slice A hl c, .slice B n d] 26)))
  have HK0 := Lib.hid (Blk.new w 26 #[.slice A hl c, .slice B n d]).two
  clear hhl hr hs hm hx hf
  obtain ⟨k0, k1⟩ := HK0.out
  go_enter Tryd.func32, Tryd.ntmps32
  go_wp2_with fail
  refine (HHR.out _ B0.out).mono ?_
  rintro e w3 ⟨A3, c3, rfl, hr3, hb3⟩
  have B3 := Lib.hid (B0.out.trans (hb3.mono B0.out.size))
  obtain ⟨A3', c3', he3, hc3⟩ := hr3
  simp at he3
  obtain ⟨rfl, rfl⟩ := he3
  have HC3 := Lib.hid hc3
  clear hb3 hc3 k0 k1
  go_wp2_with fail
  go_loopw [10] (fun i wr => ∃ q : Nat, q ≤ 1 + n ∧ i = .int .i64 (q : Int) ∧ Hid (∀ j, j < q → badRow (rowsA h f j) = false) ∧ wr = w3) (fun i _ => 1 + n - (intOf i).toNat)
  case atStart => exact ⟨0, Nat.zero_le _, rfl, Lib.hid (fun j hj => by omega), rfl⟩
  case round =>
    obtain ⟨q, hq, rfl, HQ, rfl⟩ := hrel
    by_cases hlt1 : q < 1 + n
    · obtain ⟨g, o, rfl, hg, hcell⟩ := HC3.out (by omega)
      obtain ⟨u, hcu, hru⟩ := hcell q hlt1
      obtain ⟨A', c', rfl, hA'⟩ := hru
      rw [strs_length] at hcu hA'
      have HA' := Lib.hid hA'
      obtain ⟨hfl, hfx⟩ := HFA.out q
      have HFX := Lib.hid hfx
      clear hA' hfx hcell
      go_wp2_with fail
      go_loopw [16] (fun i wr' => ∃ p : Nat, p ≤ (rowsA h f q).length ∧ i = .int .i64 (p : Int) ∧ Hid (∀ j (hj : j < (rowsA h f q).length), j < p → cellB (rowsA h f q)[j] = true) ∧ wr' = wr) (fun i _ => (rowsA h f q).length - (intOf i).toNat)
      case atStart => exact ⟨0, Nat.zero_le _, rfl, Lib.hid (fun j hj h0 => by omega), rfl⟩
      case round =>
        obtain ⟨p, hp, rfl, HP, rfl⟩ := hrel
        by_cases hlt2 : p < (rowsA h f q).length
        · obtain ⟨g', o', rfl, hg', hcell⟩ := HA'.out (by omega)
          have hcs := hcell p _ (strs_get _ p hlt2)
          obtain ⟨s, hs⟩ : ∃ s, s = (rowsA h f q)[p] := ⟨_, rfl⟩
          rw [← hs] at hcs
          have hsz : s.size ≤ 1048576 := by rw [hs]; exact HFX.out _ (List.getElem_mem _)
          have hcall := implIsCellText s wr hsz
          have HS := Lib.hid hs
          clear hcell hs
          cases hcb : cellB s with
          | true =>
            rw [hcb] at hcall
            have HCA := Lib.hid hcall
            have HP1 : Hid (∀ j (hj : j < (rowsA h f q).length), j < p + 1 → cellB (rowsA h f q)[j] = true) := Lib.hid (fun j hj h1 => by
              rcases Nat.lt_or_ge j p with h2 | h2
              · exact HP.out j hj h2
              · obtain rfl : j = p := by omega
                rw [← HS.out]
                exact hcb)
            clear hcall hcb
            go_wp2_with fail
            refine HCA.out.mono ?_
            rintro e w4 ⟨rfl, rfl⟩
            go_wp2_with fail
            go_roundw
            case rel =>
              rw [show decide ((q : Int) < 1 + (n : Int)) = true from decide_eq_true (by omega)]
              first
                | exact ⟨p + 1, by omega, by go_num, HP1, trivial⟩
                | ((repeat apply Exists.intro); exact ⟨⟨p + 1, by omega, by go_num, HP1, trivial⟩, rfl⟩)
            case measure => simp [intOf]; omega
          | false =>
            rw [hcb] at hcall
            have HCA := Lib.hid hcall
            have HTW : Hid (onlyB h n f = false) := Lib.hid (by
              unfold onlyB
              rw [anyR_yes _ _ _ q hlt1 (bad_at _ p hlt2 (by rw [← HS.out]; exact hcb))]
              rfl)
            clear hcall hcb
            go_wp2_with fail
            refine HCA.out.mono ?_
            rintro e w4 ⟨rfl, rfl⟩
            go_wp2_with fail
            go_ret
            exact ⟨ret_bool HTW.out.symm, B3.out⟩
        · have HNB : Hid (badRow (rowsA h f q) = false) := Lib.hid (bad_not _ fun j hj => HP.out j hj (by omega))
          go_wp2_with fail
          go_roundw
          case rel => exact ⟨q + 1, by omega, by go_num, Lib.hid (fun j hj => by
            rcases Nat.lt_or_ge j q with h1 | h1
            · exact HQ.out j h1
            · obtain rfl : j = q := by omega
              exact HNB.out), trivial⟩
          case measure => simp [intOf]; omega
    · have HTW : Hid (onlyB h n f = true) := Lib.hid (by
        unfold onlyB
        rw [anyR_none _ _ _ fun i hi => HQ.out i (by omega)]
        rfl)
      go_wp2_with fail
      go_ret
      exact ⟨ret_bool HTW.out.symm, B3.out⟩
theorem code_shape {h : List ByteArray} {n : Nat} {f : Nat → List ByteArray} (hs : shapeB h n f = false) : tabCode h n f = 1 := by
  unfold shapeB at hs
  unfold tabCode
  by_cases h1 : h.length < 1 ∨ 8 < h.length
  · rw [if_pos h1]
  · rw [if_neg h1]
    rw [decide_eq_true (by omega), Bool.and_true, Bool.not_eq_false'] at hs
    rw [if_pos hs]
theorem code_only {h : List ByteArray} {n : Nat} {f : Nat → List ByteArray} (hs : shapeB h n f = true) (hb : onlyB h n f = false) : tabCode h n f = 2 := by
  unfold shapeB at hs
  rw [Bool.and_eq_true, decide_eq_true_eq, Bool.not_eq_true'] at hs
  unfold onlyB at hb
  rw [Bool.not_eq_false'] at hb
  have h1 : ¬ (h.length < 1 ∨ 8 < h.length) := by omega
  have : ∃ k, k < 1 + n ∧ badRow (rowsA h f k) = true := by
    apply Classical.byContradiction
    intro hno
    rw [anyR_none _ _ _ fun i hi => by
      cases hc : badRow (rowsA h f i) with
      | false => rfl
      | true => exact absurd ⟨i, hi, hc⟩ hno] at hb
    cases hb
  obtain ⟨k, hk, hbk⟩ := this
  refine tab_two h1 (fun j hj => ?_) k hk hbk
  have := anyR_no _ _ _ hs.1 j hj
  unfold wrongRow at this
  rw [decide_eq_false_iff_not] at this
  omega
theorem code_more {h : List ByteArray} {n : Nat} {f : Nat → List ByteArray} (hs : shapeB h n f = true) (hb : onlyB h n f = true) : tabCode h n f = if 60 < n then 3 else 0 := by
  unfold shapeB at hs
  rw [Bool.and_eq_true, decide_eq_true_eq, Bool.not_eq_true'] at hs
  unfold onlyB at hb
  rw [Bool.not_eq_true'] at hb
  refine tab_more (by omega) (fun j hj => ?_) (fun k hk => anyR_no _ _ _ hb k hk)
  have := anyR_no _ _ _ hs.1 j hj
  unfold wrongRow at this
  rw [decide_eq_false_iff_not] at this
  omega
set_option maxRecDepth 100000 in
set_option maxHeartbeats 4000000 in
theorem implTableCode (h : List ByteArray) (n : Nat) (f : Nat → List ByteArray) (hv rv : Value) (w : World) (hh : Rd w hv (strs h)) (hr : RdT w rv n f) (hs : SlcOk rv n) (hfit : TabFits h n f) :
    Calls Tryd.prog 11 #[.agg #[hv, rv]] w fun e w' => e = .returned (.int .i64 (tabCode h n f)) ∧ Below w.heap.size w w' := by
  have HSH := Lib.hid (fun W (hb : Below w.heap.size w W) => implShape h n f hv rv W (hh.below hb) (hr.below hb) hfit.1 hfit.2.2.1 (fun i => (hfit.2.2.2 i).1))
  have HON := Lib.hid (fun W (hb : Below w.heap.size w W) => implOnly h n f hv rv W (hh.below hb) (hr.below hb) hs hfit)
  obtain ⟨A, c, rfl, _⟩ := hh
  obtain ⟨B, d, rfl⟩ := hr.slc
  obtain ⟨hl, hhl⟩ : ∃ k, k = (strs h).length := ⟨_, rfl⟩
  rw [← hhl] at HSH HON ⊢
  have B0 := Lib.hid (by go_grown : Below w.heap.size w (w.alloc (.cells #[.slice A hl c, .slice B n d] 26)))
  have HA := Lib.hid (Blk.new w 26 #[.slice A hl c, .slice B n d])
  obtain ⟨k0, k1⟩ := HA.out.two
  have HN := Lib.hid hfit.2.2.1
  clear hhl hr hs hfit
  cases hsb : shapeB h n f with
  | false =>
    have HR := Lib.hid (code_shape hsb)
    rw [hsb] at HSH
    clear hsb
    go_enter Tryd.func11, Tryd.ntmps11
    go_wp2_with fail
    refine (HSH.out _ B0.out).mono ?_
    rintro e w1 ⟨rfl, hb1⟩
    have B1 := Lib.hid (B0.out.trans (hb1.mono B0.out.size))
    clear hb1
    go_wp2_with fail
    go_ret
    exact ⟨ret_int HR.out.symm, B1.out⟩
  | true =>
    cases hob : onlyB h n f with
    | false =>
      have HR := Lib.hid (code_only hsb hob)
      rw [hsb] at HSH
      rw [hob] at HON
      clear hsb hob
      go_enter Tryd.func11, Tryd.ntmps11
      go_wp2_with fail
      refine (HSH.out _ B0.out).mono ?_
      rintro e w1 ⟨rfl, hb1⟩
      have B1 := Lib.hid (B0.out.trans (hb1.mono B0.out.size))
      have HA1 := Lib.hid (HA.out.after hb1)
      clear hb1 k0 k1
      obtain ⟨k0, k1⟩ := HA1.out.two
      go_wp2_with fail
      refine (HON.out _ B1.out).mono ?_
      rintro e w2 ⟨rfl, hb2⟩
      have B2 := Lib.hid (B1.out.trans (hb2.mono B1.out.size))
      clear hb2 k0 k1
      go_wp2_with fail
      go_ret
      exact ⟨ret_int HR.out.symm, B2.out⟩
    | true =>
      have hmo := code_more hsb hob
      rw [hsb] at HSH
      rw [hob] at HON
      clear hsb hob
      by_cases h60 : 60 < n
      · rw [if_pos h60] at hmo
        have HR := Lib.hid hmo
        clear hmo
        go_enter Tryd.func11, Tryd.ntmps11
        go_wp2_with fail
        refine (HSH.out _ B0.out).mono ?_
        rintro e w1 ⟨rfl, hb1⟩
        have B1 := Lib.hid (B0.out.trans (hb1.mono B0.out.size))
        have HA1 := Lib.hid (HA.out.after hb1)
        clear hb1 k0 k1
        obtain ⟨k0, k1⟩ := HA1.out.two
        go_wp2_with fail
        refine (HON.out _ B1.out).mono ?_
        rintro e w2 ⟨rfl, hb2⟩
        have B2 := Lib.hid (B1.out.trans (hb2.mono B1.out.size))
        have HA2 := Lib.hid (HA1.out.after hb2)
        clear hb2 k0 k1
        obtain ⟨k0, k1⟩ := HA2.out.two
        go_wp2_with fail
        go_ret
        exact ⟨ret_int HR.out.symm, B2.out⟩
      · rw [if_neg h60] at hmo
        have HR := Lib.hid hmo
        clear hmo
        go_enter Tryd.func11, Tryd.ntmps11
        go_wp2_with fail
        refine (HSH.out _ B0.out).mono ?_
        rintro e w1 ⟨rfl, hb1⟩
        have B1 := Lib.hid (B0.out.trans (hb1.mono B0.out.size))
        have HA1 := Lib.hid (HA.out.after hb1)
        clear hb1 k0 k1
        obtain ⟨k0, k1⟩ := HA1.out.two
        go_wp2_with fail
        refine (HON.out _ B1.out).mono ?_
        rintro e w2 ⟨rfl, hb2⟩
        have B2 := Lib.hid (B1.out.trans (hb2.mono B1.out.size))
        have HA2 := Lib.hid (HA1.out.after hb2)
        clear hb2 k0 k1
        obtain ⟨k0, k1⟩ := HA2.out.two
        go_wp2_with fail
        go_ret
        exact ⟨ret_int HR.out.symm, B2.out⟩
set_option maxRecDepth 100000 in
set_option maxHeartbeats 2000000 in
theorem implIsTable (h : List ByteArray) (n : Nat) (f : Nat → List ByteArray) (hv rv : Value) (w : World) (hh : Rd w hv (strs h)) (hr : RdT w rv n f) (hs : SlcOk rv n) (hfit : TabFits h n f) :
    Calls Tryd.prog 9 #[.agg #[hv, rv]] w fun e w' => e = .returned (.bool (isTab h n f)) ∧ Below w.heap.size w w' := by
  have HC := Lib.hid (fun W (hb : Below w.heap.size w W) => implTableCode h n f hv rv W (hh.below hb) (hr.below hb) hs hfit)
  obtain ⟨A, c, rfl, _⟩ := hh
  obtain ⟨B, d, rfl⟩ := hr.slc
  obtain ⟨hl, hhl⟩ : ∃ k, k = (strs h).length := ⟨_, rfl⟩
  rw [← hhl] at HC ⊢
  have B0 := Lib.hid (by go_grown : Below w.heap.size w (w.alloc (.cells #[.slice A hl c, .slice B n d] 26)))
  clear hhl hr hs hfit
  unfold isTab
  obtain ⟨q, hq⟩ : ∃ q, q = tabCode h n f := ⟨_, rfl⟩
  rw [← hq] at HC ⊢
  clear hq
  go_enter Tryd.func9, Tryd.ntmps9
  go_wp2_with fail
  refine (HC.out _ B0.out).mono ?_
  rintro e w1 ⟨rfl, hb1⟩
  have B1 := Lib.hid (B0.out.trans (hb1.mono B0.out.size))
  clear hb1
  go_wp2_with fail
  go_ret
  refine ⟨?_, B1.out⟩
  by_cases h0 : q = 0
  · subst h0; rfl
  · simp [h0]
end Go.Proofs.YtionfjofojfaoaaDoor
