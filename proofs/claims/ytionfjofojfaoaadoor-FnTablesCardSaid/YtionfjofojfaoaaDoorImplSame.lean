/- The program's SameTable, over slices.Equal and slices.EqualFunc. -/
import Derived.Test.YtionfjofojfaoaaDoorSpecSame
namespace Go.Proofs.YtionfjofojfaoaaDoor
open Go.RowKit
set_option linter.unusedVariables false

set_option maxRecDepth 100000 in
set_option maxHeartbeats 400000 in
theorem implTexts (xs ys : List ByteArray) (va vb : Value) (w : World) (ha : Rd w va (strs xs)) (hb : Rd w vb (strs ys)) (hm : xs.length ≤ 9223372036854775807) :
    Calls Tryd.prog 29 #[va, vb] w fun e w' => e = .returned (.bool (decide (xs = ys))) ∧ ∃ n, w' = w.drewN n := by
  obtain ⟨A, c, rfl, hA⟩ := ha
  obtain ⟨B, d, rfl, hB⟩ := hb
  rw [strs_length] at hA hB
  simp only [strs_length]
  by_cases hl : xs.length = ys.length
  · by_cases h0 : ys.length = 0
    · have e1 : xs = [] := List.length_eq_zero_iff.1 (by omega)
      have e2 : ys = [] := List.length_eq_zero_iff.1 h0
      subst e1; subst e2
      clear hA hB
      go_enter Tryd.func29, Tryd.ntmps29
      go_wp2
      refine wp_loop_rounds 1 ?_
      rw [rounds_succ]
      go_wp2
      go_ret
      exact ⟨rfl, 0, rfl⟩
    · obtain ⟨ga, oa, rfl, _, hca⟩ := hA (by omega)
      obtain ⟨gb, ob, rfl, _, hcb⟩ := hB (by omega)
      have HL := Lib.hid hl
      obtain ⟨n, hn⟩ : ∃ n, n = xs.length := ⟨_, rfl⟩
      have hne : ((xs.length : Int) != (ys.length : Int)) = false := by simp; omega
      rw [← hn] at hm hne ⊢
      have HN := Lib.hid hn
      have hb' : ys.length = n := by omega
      rw [hb'] at hne ⊢
      have HB := Lib.hid hb'
      clear hA hB hl hn hb' h0 hne
      go_enter Tryd.func29, Tryd.ntmps29
      go_wp2
      go_loopw [13] (fun i wr => ∃ k m : Nat, k ≤ n ∧ i = .int .i64 k ∧ wr = w.drewN m ∧ Hid (xs.take k = ys.take k)) (fun i _ => n - (intOf i).toNat)
      case atStart => exact ⟨0, 0, Nat.zero_le _, rfl, rfl, Lib.hid rfl⟩
      case round =>
        obtain ⟨k, m, hk, rfl, rfl, HT⟩ := hrel
        by_cases hlt : k < n
        · have hka : k < xs.length := by rw [← HN.out]; exact hlt
          have hkb : k < ys.length := by rw [HB.out]; exact hlt
          have ca : w.cell? ⟨ga, oa + k, none⟩ = some (.string xs[k]) := hca k _ (strs_get xs k hka)
          have cb : w.cell? ⟨gb, ob + k, none⟩ = some (.string ys[k]) := hcb k _ (strs_get ys k hkb)
          obtain ⟨x, hx⟩ : ∃ x, x = xs[k] := ⟨_, rfl⟩
          obtain ⟨y, hy⟩ : ∃ y, y = ys[k] := ⟨_, rfl⟩
          rw [← hx] at ca
          rw [← hy] at cb
          have HX := Lib.hid hx
          have HY := Lib.hid hy
          clear hx hy hca hcb
          go_wp2
          go_quiet (fail)
          go_wp2
          · have hb : (!x.toList == y.toList) = true := by assumption
            go_ret
            exact ⟨ret_bool (decide_eq_false (list_ne k hka hkb (by rw [← HX.out, ← HY.out]; exact str_ne_of hb))).symm, _, World.drewN_drewN ..⟩
          · have hb : (!x.toList == y.toList) = false := by assumption
            go_roundw
            case rel => exact ⟨k + 1, _, by omega, by go_num, rfl, Lib.hid (take_snoc_eq k hka hkb HT.out (by rw [← HX.out, ← HY.out]; exact str_eq_of hb))⟩
            case measure => simp [intOf]; omega
        · go_wp2
          go_ret
          exact ⟨ret_bool (decide_eq_true (list_eq_of_take k (by have := HN.out; omega) (by have := HB.out; omega) HT.out)).symm, _, rfl⟩
  · have hne : ((xs.length : Int) != (ys.length : Int)) = true := by simp; omega
    clear hA hB
    go_enter Tryd.func29, Tryd.ntmps29
    go_wp2
    go_ret
    exact ⟨ret_bool (decide_eq_false (by rintro rfl; exact hl rfl)).symm, 0, rfl⟩

theorem implTexts_b (xs ys : List ByteArray) (va vb : Value) (w : World) (ha : Rd w va (strs xs)) (hb : Rd w vb (strs ys)) (hm : xs.length ≤ 9223372036854775807) :
    Calls Tryd.prog 29 #[va, vb] w fun e w' => e = .returned (.bool (decide (xs = ys))) ∧ Below w.heap.size w w' :=
  (implTexts xs ys va vb w ha hb hm).mono fun _ _ ⟨h1, k, h2⟩ => ⟨h1, by rw [h2]; exact below_drewN (Below.refl _ _) k⟩
set_option maxRecDepth 100000 in
set_option maxHeartbeats 1000000 in
theorem implRows (n m : Nat) (f g : Nat → List ByteArray) (va vb : Value) (w : World) (ha : RdT w va n f) (hb : RdT w vb m g) (hn : n ≤ 1048576) (hm : m ≤ 1048576) (hf : ∀ i, (f i).length ≤ 1048576) :
    Calls Tryd.prog 30 #[va, vb, .func (.func 29) #[] #[]] w fun e w' => e = .returned (.bool (sameRows n m f g)) ∧ Below w.heap.size w w' := by
  have HC := Lib.hid (fun i va vb W (hb : Below w.heap.size w W) h1 h2 => implTexts_b (f i) (g i) va vb W h1 h2 (by have := hf i; omega))
  obtain ⟨A, c, rfl, hA⟩ := ha
  obtain ⟨B, d, rfl, hB⟩ := hb
  have HA := Lib.hid hA
  have HB := Lib.hid hB
  clear hA hB hf
  by_cases hl : n = m
  · subst hl
    have HS : Hid (sameRows n n f g = eqR f g n) := Lib.hid (by unfold sameRows; rw [decide_eq_true rfl, Bool.true_and])
    go_enter Tryd.func30, Tryd.ntmps30
    go_wp2
    go_loopw [17] (fun i wr => ∃ k : Nat, k ≤ n ∧ i = .int .i64 k ∧ Hid (Below w.heap.size w wr) ∧ Hid (eqR f g k = true)) (fun i _ => n - (intOf i).toNat)
    case atStart => exact ⟨0, Nat.zero_le _, rfl, Lib.hid (Below.refl _ _), Lib.hid rfl⟩
    case round =>
      obtain ⟨k, hk, rfl, HBE, HT⟩ := hrel
      by_cases hlt : k < n
      · obtain ⟨ga, oa, rfl, hga, hca⟩ := HA.out (by omega)
        obtain ⟨gb, ob, rfl, hgb, hcb⟩ := HB.out (by omega)
        obtain ⟨ua, hua, hra⟩ := hca k hlt
        obtain ⟨ub, hub, hrb⟩ := hcb k hlt
        have hua := (HBE.out.cell (p := ⟨ga, oa + k, none⟩) hga).trans hua
        have hub := (HBE.out.cell (p := ⟨gb, ob + k, none⟩) hgb).trans hub
        have hcall := HC.out k ua ub wr HBE.out (hra.below HBE.out) (hrb.below HBE.out)
        clear hca hcb hra hrb
        by_cases he : f k = g k
        · rw [decide_eq_true he] at hcall
          have HCA := Lib.hid hcall
          have HT1 := Lib.hid (eqR_step f g k HT.out he)
          clear hcall he
          go_wp2_with fail
          refine HCA.out.mono ?_
          rintro e w1 ⟨rfl, hb1⟩
          have HB1 := Lib.hid (HBE.out.trans (hb1.mono HBE.out.size))
          clear hb1
          go_wp2_with fail
          go_roundw
          case rel => exact ⟨k + 1, by omega, by go_num, HB1, HT1⟩
          case measure => simp [intOf]; omega
        · rw [decide_eq_false he] at hcall
          have HCA := Lib.hid hcall
          have HN := Lib.hid (eqR_no f g n k hlt he)
          clear hcall he
          go_wp2_with fail
          refine HCA.out.mono ?_
          rintro e w1 ⟨rfl, hb1⟩
          have HB1 := Lib.hid (HBE.out.trans (hb1.mono HBE.out.size))
          clear hb1
          go_wp2_with fail
          go_ret
          exact ⟨ret_bool (by rw [HS.out, HN.out]), HB1.out⟩
      · obtain rfl : k = n := by omega
        go_wp2_with fail
        go_ret
        exact ⟨ret_bool (by rw [HS.out, HT.out]), HBE.out⟩
  · have hne : ((n : Int) != (m : Int)) = true := by simp; omega
    go_enter Tryd.func30, Tryd.ntmps30
    go_wp2
    go_ret
    exact ⟨ret_bool (by unfold sameRows; rw [decide_eq_false hl, Bool.false_and]), Below.refl _ _⟩
set_option maxRecDepth 100000 in
set_option maxHeartbeats 2000000 in
theorem implSameTable (h h' : List ByteArray) (n m : Nat) (f g : Nat → List ByteArray) (ha va hb vb : Value) (w : World) (h1 : Rd w ha (strs h)) (h2 : RdT w va n f) (h3 : Rd w hb (strs h')) (h4 : RdT w vb m g)
    (hl : h.length ≤ 1048576) (hn : n ≤ 1048576) (hm : m ≤ 1048576) (hf : ∀ i, (f i).length ≤ 1048576) :
    Calls Tryd.prog 10 #[.agg #[ha, va], .agg #[hb, vb]] w fun e w' => e = .returned (.bool (tabSame h h' n m f g)) ∧ Below w.heap.size w w' := by
  have HT := Lib.hid (fun W (hb' : Below w.heap.size w W) => implTexts_b h h' ha hb W (h1.below hb') (h3.below hb') (by omega))
  have HR := Lib.hid (fun W (hb' : Below w.heap.size w W) => implRows n m f g va vb W (h2.below hb') (h4.below hb') hn hm hf)
  obtain ⟨A, c, rfl, _⟩ := h1
  obtain ⟨B, d, rfl⟩ := h2.slc
  obtain ⟨A1, c1, rfl, _⟩ := h3
  obtain ⟨B1, d1, rfl⟩ := h4.slc
  obtain ⟨l0, hl0⟩ : ∃ k, k = (strs h).length := ⟨_, rfl⟩
  obtain ⟨l1, hl1⟩ : ∃ k, k = (strs h').length := ⟨_, rfl⟩
  rw [← hl0, ← hl1] at HT
  rw [← hl0, ← hl1]
  have B0 := Lib.hid (by go_grown : Below w.heap.size w ((w.alloc (.cells #[.slice A l0 c, .slice B n d] 26)).alloc (.cells #[.slice A1 l1 c1, .slice B1 m d1] 26)))
  obtain ⟨r, hr⟩ : ∃ r, r = sameRows n m f g := ⟨_, rfl⟩
  unfold tabSame
  rw [← hr] at HR ⊢
  clear h2 h4 hl hn hm hf hl0 hl1 hr
  have s1 : Below (w.alloc (.cells #[.slice A l0 c, .slice B n d] 26)).heap.size (w.alloc (.cells #[.slice A l0 c, .slice B n d] 26)) ((w.alloc (.cells #[.slice A l0 c, .slice B n d] 26)).alloc (.cells #[.slice A1 l1 c1, .slice B1 m d1] 26)) := (Below.refl _ _).alloc (Nat.le_refl _) _
  have hKA := (Blk.new w 26 #[.slice A l0 c, .slice B n d]).after s1
  have hKB := Blk.new (w.alloc (.cells #[.slice A l0 c, .slice B n d] 26)) 26 #[.slice A1 l1 c1, .slice B1 m d1]
  rw [show (w.alloc (.cells #[.slice A l0 c, .slice B n d] 26)).heap.size = w.heap.size + 1 by simp] at hKB
  have HKA := Lib.hid hKA
  have HKB := Lib.hid hKB
  obtain ⟨a0, a1⟩ := hKA.two
  obtain ⟨b0, b1⟩ := hKB.two
  clear hKA hKB s1
  by_cases he : h = h'
  · rw [decide_eq_true he] at HT ⊢
    clear he
    go_enter Tryd.func10, Tryd.ntmps10
    go_wp2_with fail
    refine (HT.out _ B0.out).mono ?_
    rintro e w1 ⟨rfl, hb1⟩
    have B1' := Lib.hid (B0.out.trans (hb1.mono B0.out.size))
    have hA1 := HKA.out.after hb1
    have hB1 := HKB.out.after hb1
    clear hb1 a0 a1 b0 b1
    obtain ⟨a0, a1⟩ := hA1.two
    obtain ⟨b0, b1⟩ := hB1.two
    clear hA1 hB1
    go_wp2_with fail
    refine (HR.out _ B1'.out).mono ?_
    rintro e w2 ⟨rfl, hb2⟩
    have B2' := Lib.hid (B1'.out.trans (hb2.mono B1'.out.size))
    clear hb2 a0 a1 b0 b1
    go_wp2_with fail
    go_ret
    exact ⟨by simp, B2'.out⟩
  · rw [decide_eq_false he] at HT ⊢
    clear he
    go_enter Tryd.func10, Tryd.ntmps10
    go_wp2_with fail
    refine (HT.out _ B0.out).mono ?_
    rintro e w1 ⟨rfl, hb1⟩
    have B1' := Lib.hid (B0.out.trans (hb1.mono B0.out.size))
    clear hb1 a0 a1 b0 b1
    go_wp2_with fail
    go_ret
    exact ⟨by simp, B1'.out⟩
end Go.Proofs.YtionfjofojfaoaaDoor
