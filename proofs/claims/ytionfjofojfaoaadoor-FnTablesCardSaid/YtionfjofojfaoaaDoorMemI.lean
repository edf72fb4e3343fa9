/- Words on slices of integers: what the law's own helpers do with them (eqIntS, markIntS, heldIntS). -/
import Derived.Test.YtionfjofojfaoaaDoorMem
namespace Go.Proofs.YtionfjofojfaoaaDoor
open Go.RowKit

/-- The cells of a list of integers. -/
def ints (l : List Int) : List Value := l.map (Value.int .i64)
theorem ints_length (l : List Int) : (ints l).length = l.length := List.length_map _
theorem ints_get (l : List Int) (k : Nat) (h : k < l.length) : (ints l)[k]? = some (.int .i64 l[k]) := by simp [ints, h]
theorem ints_snoc (l : List Int) (x : Int) : ints (l ++ [x]) = ints l ++ [.int .i64 x] := by simp [ints]
theorem int_ne_of {x y : Int} (h : (x != y) = true) : x ≠ y := by simpa using h
theorem int_eq_of {x y : Int} (h : (x != y) = false) : x = y := by simpa using h

set_option maxRecDepth 100000 in
set_option maxHeartbeats 400000 in
theorem eqIntS_any (xs ys : List Int) (va vb : Value) (w : World) (ha : Rd w va (ints xs)) (hb : Rd w vb (ints ys)) (hm : xs.length ≤ 9223372036854775807) :
    Calls Tryd.prog 18 #[va, vb] w fun e w' => e = .returned (.bool (decide (xs = ys))) ∧ ∃ n, w' = w.drewN n := by
  obtain ⟨A, c, rfl, hA⟩ := ha
  obtain ⟨B, d, rfl, hB⟩ := hb
  rw [ints_length] at hA hB
  simp only [ints_length]
  by_cases hl : xs.length = ys.length
  · by_cases h0 : ys.length = 0
    · have e1 : xs = [] := List.length_eq_zero_iff.1 (by omega)
      have e2 : ys = [] := List.length_eq_zero_iff.1 h0
      subst e1; subst e2
      clear hA hB
      go_enter Tryd.func18, Tryd.ntmps18
      go_wp2
      refine wp_loop_rounds 1 ?_
      rw [rounds_succ]
      go_wp2
      go_ret
      exact ⟨rfl, 0, rfl⟩
    · obtain ⟨ga, oa, rfl, _, hca⟩ := hA (by omega)
      obtain ⟨gb, ob, rfl, _, hcb⟩ := hB (by omega)
      have HL := Lib.hid hl
      obtain ⟨n, hn⟩ : ∃ n, n = xs.length := ⟨_, rfl⟩
      have hne : ((xs.length : Int) != (ys.length : Int)) = false := by simp; omega
      rw [← hn] at hm hne ⊢
      have HN := Lib.hid hn
      have hb' : ys.length = n := by omega
      rw [hb'] at hne ⊢
      have HB := Lib.hid hb'
      clear hA hB hl hn hb' h0 hne
      go_enter Tryd.func18, Tryd.ntmps18
      go_wp2
      go_loopw [5] (fun i wr => ∃ k m : Nat, k ≤ n ∧ i = .int .i64 k ∧ wr = w.drewN m ∧ Hid (xs.take k = ys.take k)) (fun i _ => n - (intOf i).toNat)
      case atStart => exact ⟨0, 0, Nat.zero_le _, rfl, rfl, Lib.hid rfl⟩
      case round =>
        obtain ⟨k, m, hk, rfl, rfl, HT⟩ := hrel
        by_cases hlt : k < n
        · have hka : k < xs.length := by rw [← HN.out]; exact hlt
          have hkb : k < ys.length := by rw [HB.out]; exact hlt
          have ca : w.cell? ⟨ga, oa + k, none⟩ = some (.int .i64 xs[k]) := hca k _ (ints_get xs k hka)
          have cb : w.cell? ⟨gb, ob + k, none⟩ = some (.int .i64 ys[k]) := hcb k _ (ints_get ys k hkb)
          obtain ⟨x, hx⟩ : ∃ x, x = xs[k] := ⟨_, rfl⟩
          obtain ⟨y, hy⟩ : ∃ y, y = ys[k] := ⟨_, rfl⟩
          rw [← hx] at ca
          rw [← hy] at cb
          have HX := Lib.hid hx
          have HY := Lib.hid hy
          clear hx hy hca hcb
          go_wp2
          go_quiet (fail)
          go_wp2
          · have hb : (x != y) = true := by assumption
            go_ret
            exact ⟨ret_bool (decide_eq_false (list_ne k hka hkb (by rw [← HX.out, ← HY.out]; exact int_ne_of hb))).symm, _, World.drewN_drewN ..⟩
          · have hb : (x != y) = false := by assumption
            go_roundw
            case rel => exact ⟨k + 1, _, by omega, by go_num, rfl, Lib.hid (take_snoc_eq k hka hkb HT.out (by rw [← HX.out, ← HY.out]; exact int_eq_of hb))⟩
            case measure => simp [intOf]; omega
        · go_wp2
          go_ret
          exact ⟨ret_bool (decide_eq_true (list_eq_of_take k (by have := HN.out; omega) (by have := HB.out; omega) HT.out)).symm, _, rfl⟩
  · have hne : ((xs.length : Int) != (ys.length : Int)) = true := by simp; omega
    clear hA hB
    go_enter Tryd.func18, Tryd.ntmps18
    go_wp2
    go_ret
    exact ⟨ret_bool (decide_eq_false (by rintro rfl; exact hl rfl)).symm, 0, rfl⟩

/-- The numbers k, k + 1, .. of n cells. -/
def imarks (k n : Nat) : List Int := (List.range n).map fun j => ((k + j : Nat) : Int)
theorem imarks_length (k n : Nat) : (imarks k n).length = n := by simp [imarks]
theorem imarks_get (k n j : Nat) (h : j < n) : (ints (imarks k n))[j]? = some (.int .i64 ((k + j : Nat) : Int)) := by simp [ints, imarks, h]
/-- j cells marked, the others as they were. -/
def imarked (k j : Nat) (xs : List Value) : List Value := ints (imarks k j) ++ xs.drop j
theorem imarked_zero (k : Nat) (xs : List Value) : imarked k 0 xs = xs := by simp [imarked, imarks, ints]
theorem imarked_all (k : Nat) (xs : List Value) : imarked k xs.length xs = ints (imarks k xs.length) := by simp [imarked]
theorem imarked_step (k j : Nat) (xs : List Value) (h : j < xs.length) : (imarked k j xs).set j (.int .i64 ((k + j : Nat) : Int)) = imarked k (j + 1) xs := by
  unfold imarked
  have hl : (ints (imarks k j)).length = j := by rw [ints_length, imarks_length]
  rw [List.set_append_right _ _ (by omega), hl, Nat.sub_self, List.drop_eq_getElem_cons h, List.set_cons_zero]
  have e : ints (imarks k (j + 1)) = ints (imarks k j) ++ [.int .i64 ((k + j : Nat) : Int)] := by simp [ints, imarks, List.range_succ]
  rw [e]; simp
theorem ionly_trans {a b c : World} {row : Option Nat} (h : a.grownBy b row) (k : b.grownBy c row) : a.grownBy c row :=
  ⟨k.os.trans h.os, k.tape.trans h.tape, k.output.trans h.output, Nat.le_trans h.size k.size, fun i hi hn => (k.block i (Nat.lt_of_lt_of_le hi h.size) hn).trans (h.block i hi hn)⟩

set_option maxRecDepth 100000 in
set_option maxHeartbeats 400000 in
theorem markIntS_any (base n k : Nat) (v : Value) (xs : List Value) (w : World) (hown : w.ownsRow base 3 1 v n xs) (h0 : 0 < k) (hk : k + n ≤ 1000000000) :
    Calls Tryd.prog 21 #[v, .int .i64 k] w fun e w' => e = .returned (.int .i64 ((k + n : Nat) : Int)) ∧ w'.ownsRow base 3 1 v n (ints (imarks k n)) ∧ w.grownBy w' v.ownBlock := by
  have hlen := own_len hown
  rcases hown.2 with ⟨rfl, rfl⟩ | ⟨g, cap, cur, rfl, hb, hh, hn, hc, hs, ht⟩
  · have he : xs = [] := List.length_eq_zero_iff.1 hlen
    subst he
    have HO := Lib.hid hown
    clear hown
    go_enter Tryd.func21, Tryd.ntmps21
    go_wp2
    refine wp_loop_rounds 1 ?_
    rw [rounds_succ]
    go_wp2
    go_ret
    exact ⟨rfl, HO.out, World.grownBy.refl _ _⟩
  · have HL := Lib.hid hlen
    have hmx : cap ≤ 9223372036854775807 := hc
    clear hh hs ht hlen
    go_enter Tryd.func21, Tryd.ntmps21
    go_wp2
    go_loopw [1, 5] (fun m i wr => ∃ j : Nat, j ≤ n ∧ i = .int .i64 j ∧ m = .int .i64 ((k + j : Nat) : Int) ∧ wr.ownsRow base 3 1 (.slice (some ⟨g, 0, none⟩) n cap) n (imarked k j xs) ∧ w.grownBy wr (some g)) (fun _ i _ => n - (intOf i).toNat)
    case atStart => exact ⟨0, Nat.zero_le _, rfl, rfl, by rw [imarked_zero]; exact hown, World.grownBy.refl _ _⟩
    case round =>
      obtain ⟨j, hj, rfl, rfl, hownr, hgr⟩ := hrel
      by_cases hlt : j < n
      · have hl1 := own_len hownr
        obtain ⟨u, hc1⟩ : ∃ u, wr.cell? ⟨g, j, none⟩ = some u := ⟨_, (hownr.cellAt j (by omega)).trans (List.getElem?_eq_getElem (by omega))⟩
        have hf1 : wr.frozen? ⟨g, j, none⟩ = false := hownr.frozenAt j
        have hst := hownr.stored j (.int .i64 ((k + j : Nat) : Int))
        rw [imarked_step k j xs (by have := HL.out; omega)] at hst
        have HST := Lib.hid hst
        have HG := Lib.hid hgr
        clear hst hgr hownr hl1
        go_wp2
        go_roundw
        case rel => exact ⟨j + 1, by omega, by go_num, by go_num, HST.out.1, ionly_trans HG.out HST.out.2⟩
        case measure => simp [intOf]; omega
      · have hjn : j = n := by omega
        have HJ := Lib.hid hjn
        have HO := Lib.hid hownr
        have HG := Lib.hid hgr
        clear hownr hgr hjn hown
        go_wp2
        go_ret
        obtain rfl := HJ.out
        have hf := HO.out
        have hl := HL.out
        subst hl
        rw [imarked_all] at hf
        exact ⟨rfl, hf, HG.out⟩

set_option maxRecDepth 100000 in
set_option maxHeartbeats 400000 in
theorem heldIntS_any (base n k : Nat) (v : Value) (w : World) (hown : w.ownsRow base 3 1 v n (ints (imarks k n))) (h0 : 0 < k) (hk : k + n ≤ 1000000000) :
    Calls Tryd.prog 22 #[v, .int .i64 k] w fun e w' => e = .returned (.int .i64 ((k + n : Nat) : Int)) ∧ Below w.heap.size w w' := by
  rcases hown.2 with ⟨rfl, rfl⟩ | ⟨g, cap, cur, rfl, hb, hh, hn, hc, hs, ht⟩
  · clear hown
    go_enter Tryd.func22, Tryd.ntmps22
    go_wp2
    refine wp_loop_rounds 1 ?_
    rw [rounds_succ]
    go_wp2
    go_ret
    exact ⟨rfl, by first | exact Below.refl _ _ | exact below_drewN (Below.refl _ _) _⟩
  · have hmx : cap ≤ 9223372036854775807 := hc
    clear hh hs ht
    go_enter Tryd.func22, Tryd.ntmps22
    go_wp2
    go_loopw [1, 5] (fun m i wr => ∃ j q : Nat, j ≤ n ∧ i = .int .i64 j ∧ m = .int .i64 ((k + j : Nat) : Int) ∧ wr = w.drewN q) (fun _ i _ => n - (intOf i).toNat)
    case atStart => exact ⟨0, 0, Nat.zero_le _, rfl, rfl, rfl⟩
    case round =>
      obtain ⟨j, q, hj, rfl, rfl, rfl⟩ := hrel
      by_cases hlt : j < n
      · have hcr : w.cell? ⟨g, j, none⟩ = some (.int .i64 ((k + j : Nat) : Int)) := (hown.cellAt j (by omega)).trans (imarks_get k n j hlt)
        have HH := Lib.hid hown
        clear hown
        go_wp2
        go_roundw
        case rel => exact ⟨j + 1, _, by omega, by go_num, by go_num, rfl⟩
        case measure => simp [intOf]; omega
      · have hjn : j = n := by omega
        have HJ := Lib.hid hjn
        clear hjn hown
        go_wp2
        go_ret
        obtain rfl := HJ.out
        exact ⟨rfl, by first | exact below_drewN (Below.refl _ _) _ | exact Below.refl _ _⟩

end Go.Proofs.YtionfjofojfaoaaDoor
