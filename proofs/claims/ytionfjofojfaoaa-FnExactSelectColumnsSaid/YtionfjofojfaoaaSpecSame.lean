/- The model's equality of texts, of rows and of tables. -/
import Derived.Test.YtionfjofojfaoaaTabT
namespace Go.Proofs.Ytionfjofojfaoaa
open Go.RowKit
set_option linter.unusedVariables false

set_option maxRecDepth 100000 in
set_option maxHeartbeats 400000 in
theorem specTexts (xs ys : List ByteArray) (va vb : Value) (w : World) (ha : Rd w va (strs xs)) (hb : Rd w vb (strs ys)) (hm : xs.length ≤ 9223372036854775807) :
    Calls Try.prog 51 #[va, vb] w fun e w' => e = .returned (.bool (decide (xs = ys))) ∧ w = w' := by
  obtain ⟨A, c, rfl, hA⟩ := ha
  obtain ⟨B, d, rfl, hB⟩ := hb
  rw [strs_length] at hA hB
  simp only [strs_length]
  by_cases hl : xs.length = ys.length
  · by_cases h0 : ys.length = 0
    · have e1 : xs = [] := List.length_eq_zero_iff.1 (by omega)
      have e2 : ys = [] := List.length_eq_zero_iff.1 h0
      subst e1; subst e2
      clear hA hB
      go_enter Try.func51, Try.ntmps51
      go_wp2
      refine wp_loop_rounds 1 ?_
      rw [rounds_succ]
      go_wp2
      go_ret
      exact ⟨rfl, rfl⟩
    · obtain ⟨ga, oa, rfl, _, hca⟩ := hA (by omega)
      obtain ⟨gb, ob, rfl, _, hcb⟩ := hB (by omega)
      have HL := Lib.hid hl
      obtain ⟨n, hn⟩ : ∃ n, n = xs.length := ⟨_, rfl⟩
      have hne : ((xs.length : Int) != (ys.length : Int)) = false := by simp; omega
      rw [← hn] at hm hne ⊢
      have HN := Lib.hid hn
      have hb' : ys.length = n := by omega
      rw [hb'] at hne ⊢
      have HB := Lib.hid hb'
      clear hA hB hl hn hb' h0 hne
      go_enter Try.func51, Try.ntmps51
      go_wp2
      go_loopw [14] (fun i wr => ∃ k : Nat, k ≤ n ∧ i = .int .i64 k ∧ wr = w ∧ Hid (xs.take k = ys.take k)) (fun i _ => n - (intOf i).toNat)
      case atStart => exact ⟨0, Nat.zero_le _, rfl, rfl, Lib.hid rfl⟩
      case round =>
        obtain ⟨k, hk, rfl, rfl, HT⟩ := hrel
        by_cases hlt : k < n
        · have hka : k < xs.length := by rw [← HN.out]; exact hlt
          have hkb : k < ys.length := by rw [HB.out]; exact hlt
          have ca : wr.cell? ⟨ga, oa + k, none⟩ = some (.string xs[k]) := hca k _ (strs_get xs k hka)
          have cb : wr.cell? ⟨gb, ob + k, none⟩ = some (.string ys[k]) := hcb k _ (strs_get ys k hkb)
          obtain ⟨x, hx⟩ : ∃ x, x = xs[k] := ⟨_, rfl⟩
          obtain ⟨y, hy⟩ : ∃ y, y = ys[k] := ⟨_, rfl⟩
          rw [← hx] at ca
          rw [← hy] at cb
          have HX := Lib.hid hx
          have HY := Lib.hid hy
          clear hx hy hca hcb
          go_wp2
          · have hb : (!x.toList == y.toList) = true := by assumption
            go_ret
            exact ⟨ret_bool (decide_eq_false (list_ne k hka hkb (by rw [← HX.out, ← HY.out]; exact str_ne_of hb))).symm, rfl⟩
          · have hb : (!x.toList == y.toList) = false := by assumption
            go_roundw
            case rel => exact ⟨k + 1, by omega, by go_num, trivial, Lib.hid (take_snoc_eq k hka hkb HT.out (by rw [← HX.out, ← HY.out]; exact str_eq_of hb))⟩
            case measure => simp [intOf]; omega
        · go_wp2
          go_ret
          exact ⟨ret_bool (decide_eq_true (list_eq_of_take k (by have := HN.out; omega) (by have := HB.out; omega) HT.out)).symm, rfl⟩
  · have hne : ((xs.length : Int) != (ys.length : Int)) = true := by simp; omega
    clear hA hB
    go_enter Try.func51, Try.ntmps51
    go_wp2
    go_ret
    exact ⟨ret_bool (decide_eq_false (by rintro rfl; exact hl rfl)).symm, rfl⟩
def eqR (f g : Nat → List ByteArray) : Nat → Bool
  | 0 => true
  | j + 1 => eqR f g j && decide (f j = g j)
theorem eqR_no (f g : Nat → List ByteArray) (n k : Nat) (hk : k < n) (h : f k ≠ g k) : eqR f g n = false := by
  induction n with
  | zero => omega
  | succ n ih =>
    rw [eqR]
    rcases Nat.lt_or_ge k n with h1 | h1
    · rw [ih h1]; rfl
    · obtain rfl : k = n := by omega
      rw [decide_eq_false h, Bool.and_false]
theorem eqR_step (f g : Nat → List ByteArray) (k : Nat) (h1 : eqR f g k = true) (h : f k = g k) : eqR f g (k + 1) = true := by
  rw [eqR, h1, decide_eq_true h]; rfl
def sameRows (n m : Nat) (f g : Nat → List ByteArray) : Bool := decide (n = m) && eqR f g n
set_option maxRecDepth 100000 in
set_option maxHeartbeats 1000000 in
theorem specRows (n m : Nat) (f g : Nat → List ByteArray) (va vb : Value) (w : World) (ha : RdT w va n f) (hb : RdT w vb m g) (hn : n ≤ 1048576) (hm : m ≤ 1048576) (hf : ∀ i, (f i).length ≤ 1048576) :
    Calls Try.prog 52 #[va, vb] w fun e w' => e = .returned (.bool (sameRows n m f g)) ∧ w = w' := by
  have HC := Lib.hid (fun i va vb h1 h2 => specTexts (f i) (g i) va vb w h1 h2 (by have := hf i; omega))
  obtain ⟨A, c, rfl, hA⟩ := ha
  obtain ⟨B, d, rfl, hB⟩ := hb
  have HA := Lib.hid hA
  have HB := Lib.hid hB
  clear hA hB hf
  by_cases hl : n = m
  · subst hl
    have HS : Hid (sameRows n n f g = eqR f g n) := Lib.hid (by unfold sameRows; rw [decide_eq_true rfl, Bool.true_and])
    go_enter Try.func52, Try.ntmps52
    go_wp2
    go_loopw [14] (fun i wr => ∃ k : Nat, k ≤ n ∧ i = .int .i64 k ∧ wr = w ∧ Hid (eqR f g k = true)) (fun i _ => n - (intOf i).toNat)
    case atStart => exact ⟨0, Nat.zero_le _, rfl, rfl, Lib.hid rfl⟩
    case round =>
      obtain ⟨k, hk, rfl, rfl, HT⟩ := hrel
      by_cases hlt : k < n
      · obtain ⟨ga, oa, rfl, hga, hca⟩ := HA.out (by omega)
        obtain ⟨gb, ob, rfl, hgb, hcb⟩ := HB.out (by omega)
        obtain ⟨ua, hua, hra⟩ := hca k hlt
        obtain ⟨ub, hub, hrb⟩ := hcb k hlt
        have hcall := HC.out k ua ub hra hrb
        clear hca hcb hra hrb
        by_cases he : f k = g k
        · rw [decide_eq_true he] at hcall
          have HCA := Lib.hid hcall
          have HT1 := Lib.hid (eqR_step f g k HT.out he)
          clear hcall he
          go_wp2_with fail
          refine HCA.out.mono ?_
          rintro e w1 ⟨rfl, rfl⟩
          go_wp2_with fail
          go_roundw
          case rel => exact ⟨k + 1, by omega, by go_num, trivial, HT1⟩
          case measure => simp [intOf]; omega
        · rw [decide_eq_false he] at hcall
          have HCA := Lib.hid hcall
          have HN := Lib.hid (eqR_no f g n k hlt he)
          clear hcall he
          go_wp2_with fail
          refine HCA.out.mono ?_
          rintro e w1 ⟨rfl, rfl⟩
          go_wp2_with fail
          go_ret
          exact ⟨ret_bool (by rw [HS.out, HN.out]), rfl⟩
      · obtain rfl : k = n := by omega
        go_wp2_with fail
        go_ret
        exact ⟨ret_bool (by rw [HS.out, HT.out]), rfl⟩
  · have hne : ((n : Int) != (m : Int)) = true := by simp; omega
    go_enter Try.func52, Try.ntmps52
    go_wp2
    go_ret
    exact ⟨ret_bool (by unfold sameRows; rw [decide_eq_false hl, Bool.false_and]), rfl⟩
def tabSame (h h' : List ByteArray) (n m : Nat) (f g : Nat → List ByteArray) : Bool := decide (h = h') && sameRows n m f g
set_option maxRecDepth 100000 in
set_option maxHeartbeats 2000000 in
theorem specSameTable (h h' : List ByteArray) (n m : Nat) (f g : Nat → List ByteArray) (ha va hb vb : Value) (w : World) (h1 : Rd w ha (strs h)) (h2 : RdT w va n f) (h3 : Rd w hb (strs h')) (h4 : RdT w vb m g)
    (hl : h.length ≤ 1048576) (hn : n ≤ 1048576) (hm : m ≤ 1048576) (hf : ∀ i, (f i).length ≤ 1048576) :
    Calls Try.prog 38 #[.agg #[ha, va], .agg #[hb, vb]] w fun e w' => e = .returned (.bool (tabSame h h' n m f g)) ∧ Below w.heap.size w w' := by
  have HT := Lib.hid (fun W (hb' : Below w.heap.size w W) => specTexts h h' ha hb W (h1.below hb') (h3.below hb') (by omega))
  have HR := Lib.hid (fun W (hb' : Below w.heap.size w W) => specRows n m f g va vb W (h2.below hb') (h4.below hb') hn hm hf)
  obtain ⟨A, c, rfl, _⟩ := h1
  obtain ⟨B, d, rfl⟩ := h2.slc
  obtain ⟨A1, c1, rfl, _⟩ := h3
  obtain ⟨B1, d1, rfl⟩ := h4.slc
  obtain ⟨l0, hl0⟩ : ∃ k, k = (strs h).length := ⟨_, rfl⟩
  obtain ⟨l1, hl1⟩ : ∃ k, k = (strs h').length := ⟨_, rfl⟩
  rw [← hl0, ← hl1] at HT
  rw [← hl0, ← hl1]
  have B0 := Lib.hid (by go_grown : Below w.heap.size w ((w.alloc (.cells #[.slice A l0 c, .slice B n d] 29)).alloc (.cells #[.slice A1 l1 c1, .slice B1 m d1] 29)))
  obtain ⟨r, hr⟩ : ∃ r, r = sameRows n m f g := ⟨_, rfl⟩
  unfold tabSame
  rw [← hr] at HR ⊢
  clear h2 h4 hl hn hm hf hl0 hl1 hr
  by_cases he : h = h'
  · rw [decide_eq_true he] at HT ⊢
    go_enter Try.func38, Try.ntmps38
    go_wp2_with fail
    refine (HT.out _ B0.out).mono ?_
    rintro e w1 ⟨rfl, rfl⟩
    go_wp2_with fail
    refine (HR.out _ B0.out).mono ?_
    rintro e w1 ⟨rfl, rfl⟩
    go_wp2_with fail
    go_ret
    exact ⟨by simp, B0.out⟩
  · rw [decide_eq_false he] at HT ⊢
    go_enter Try.func38, Try.ntmps38
    go_wp2_with fail
    refine (HT.out _ B0.out).mono ?_
    rintro e w1 ⟨rfl, rfl⟩
    go_wp2_with fail
    go_ret
    exact ⟨by simp, B0.out⟩
end Go.Proofs.Ytionfjofojfaoaa
