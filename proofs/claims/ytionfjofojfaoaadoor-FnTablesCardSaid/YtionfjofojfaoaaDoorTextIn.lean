/- Lists of texts that come in: how much they are, their copies. -/
import Derived.Test.YtionfjofojfaoaaDoorMem
import Derived.Test.YtionfjofojfaoaaDoorSplit
namespace Go.Proofs.YtionfjofojfaoaaDoor
open Go.RowKit
set_option linter.unusedVariables false

/-- All the bytes of a list of texts. -/
def tot : List ByteArray → Nat
  | [] => 0
  | x :: r => x.size + tot r
theorem tot_take (xs : List ByteArray) : ∀ k, tot (xs.take k) ≤ tot xs := by
  induction xs with
  | nil => intro k; simp [tot]
  | cons x r ih =>
    intro k
    cases k with
    | zero => simp [tot]
    | succ k => have := ih k; simp only [List.take_succ_cons, tot]; omega
theorem tot_mem (xs : List ByteArray) (x : ByteArray) (h : x ∈ xs) : x.size ≤ tot xs := by
  induction xs with
  | nil => cases h
  | cons y r ih =>
    cases h with
    | head => simp only [tot]; omega
    | tail _ h => have := ih h; simp only [tot]; omega
/-- What szStringS gives. -/
def szGo : List ByteArray → Int → Int
  | [], l => l
  | x :: r, l => if l - x.size < 0 then -1 else szGo r (l - x.size)
def szL (xs : List ByteArray) (left : Int) : Int := if left - xs.length < 0 then -1 else szGo xs (left - xs.length)
theorem szGo_le (xs : List ByteArray) : ∀ l : Int, 0 ≤ szGo xs l → (tot xs : Int) ≤ l := by
  induction xs with
  | nil => intro l h; simpa [szGo, tot] using h
  | cons x r ih =>
    intro l h
    unfold szGo at h
    split at h
    · omega
    · have := ih _ h
      simp only [tot]
      omega
theorem szL_le (xs : List ByteArray) (l : Int) (h : 0 ≤ szL xs l) : (xs.length : Int) ≤ l ∧ (tot xs : Int) ≤ l := by
  unfold szL at h
  split at h
  · omega
  · have := szGo_le xs _ h
    omega

set_option maxRecDepth 100000 in
set_option maxHeartbeats 400000 in
theorem szStringS_any (xs : List ByteArray) (left : Int) (v : Value) (w : World) (hr : Rd w v (strs xs)) (h0 : 0 ≤ left) (h1 : left ≤ 1048576) (hm : xs.length ≤ 9223372036854775807) (hx : ∀ x ∈ xs, x.size ≤ 9223372036854775807) :
    Calls Tryd.prog 35 #[v, .int .i64 left] w fun e w' => e = .returned (.int .i64 (szL xs left)) ∧ w = w' := by
  obtain ⟨A, c, rfl, hA⟩ := hr
  rw [strs_length] at hA
  simp only [strs_length]
  obtain ⟨n, hn⟩ : ∃ n, n = xs.length := ⟨_, rfl⟩
  rw [← hn] at hm ⊢
  by_cases hneg : left - (n : Int) < 0
  · have HF : Hid (szL xs left = -1) := Lib.hid (by unfold szL; rw [← hn, if_pos hneg])
    clear hA hx hn
    go_enter Tryd.func35, Tryd.ntmps35
    go_wp2
    go_ret
    exact ⟨ret_int HF.out.symm, rfl⟩
  · have HF : Hid (szL xs left = szGo xs (left - n)) := Lib.hid (by unfold szL; rw [← hn, if_neg hneg])
    by_cases hz : n = 0
    · subst hz
      have hnil : xs = [] := List.length_eq_zero_iff.1 hn.symm
      subst hnil
      clear hA hn hx
      go_enter Tryd.func35, Tryd.ntmps35
      go_wp2
      refine wp_loop_rounds 1 ?_
      rw [rounds_succ]
      go_wp2
      go_ret
      exact ⟨ret_int (by rw [HF.out]; simp [szGo]), rfl⟩
    · obtain ⟨g, o, rfl, _, hc⟩ := hA (by omega)
      have HN := Lib.hid hn
      have HX := Lib.hid hx
      clear hA hn hx hz
      go_enter Tryd.func35, Tryd.ntmps35
      go_wp2
      go_loop [1, 5] (fun l i => ∃ (k : Nat) (m : Int), k ≤ n ∧ i = .int .i64 k ∧ l = .int .i64 m ∧ 0 ≤ m ∧ m ≤ left ∧ Hid (szGo (xs.drop k) m = szGo xs (left - n))) (fun _ i => n - (intOf i).toNat)
      case atStart => exact ⟨0, left - n, Nat.zero_le _, rfl, rfl, by omega, by omega, Lib.hid rfl⟩
      case round =>
        obtain ⟨k, m, hk, rfl, rfl, hm0, hm1, HG⟩ := hrel
        by_cases hlt : k < n
        · have hkl : k < xs.length := by rw [← HN.out]; exact hlt
          have ck : w.cell? ⟨g, o + k, none⟩ = some (.string xs[k]) := hc k _ (strs_get xs k hkl)
          have hdrop : xs.drop k = xs[k] :: xs.drop (k + 1) := List.drop_eq_getElem_cons hkl
          have hgo := HG.out
          rw [hdrop] at hgo
          obtain ⟨x, hxe⟩ : ∃ x, x = xs[k] := ⟨_, rfl⟩
          have hxs : x.size ≤ 9223372036854775807 := by rw [hxe]; exact HX.out _ (List.getElem_mem _)
          rw [← hxe] at ck hgo
          have HGO := Lib.hid hgo
          clear hgo hdrop hxe HG hkl
          by_cases hs : m - (x.size : Int) < 0
          · go_wp2
            go_ret
            exact ⟨ret_int (by rw [HF.out, ← HGO.out, szGo, if_pos hs]), rfl⟩
          · go_wp2
            go_round
            case rel => exact ⟨k + 1, m - x.size, by omega, by go_num, by go_num, by omega, by omega, Lib.hid (by rw [← HGO.out, szGo, if_neg (by omega)])⟩
            case measure => simp [intOf]; omega
        · go_wp2
          go_ret
          have hge : xs.length ≤ k := by rw [← HN.out]; omega
          have hgo := HG.out
          rw [List.drop_of_length_le hge] at hgo
          exact ⟨ret_int (by rw [HF.out, ← hgo, szGo]), rfl⟩

/-- j cells copied, the others as they were. -/
def copied (j : Nat) (xs ys : List Value) : List Value := xs.take j ++ ys.drop j
theorem copied_zero (xs ys : List Value) : copied 0 xs ys = ys := by simp [copied]
theorem copied_all (xs ys : List Value) (h : ys.length = xs.length) : copied xs.length xs ys = xs := by
  unfold copied
  rw [List.take_length, ← h, List.drop_length, List.append_nil]
theorem copied_step (j : Nat) (xs ys : List Value) (h : ys.length = xs.length) (hj : j < xs.length) : (copied j xs ys).set j xs[j] = copied (j + 1) xs ys := by
  unfold copied
  have hl : (xs.take j).length = j := by rw [List.length_take]; omega
  rw [List.set_append_right _ _ (by omega), hl, Nat.sub_self, List.drop_eq_getElem_cons (by omega), List.set_cons_zero, List.take_succ_eq_append_getElem hj, List.append_assoc]
  rfl

set_option maxRecDepth 100000 in
set_option maxHeartbeats 400000 in
theorem toStringS_any (xs : List ByteArray) (v : Value) (w : World) (hr : Rd w v (strs xs)) (hm : xs.length ≤ 1048576) :
    Calls Tryd.prog 41 #[v] w fun e w' => ∃ v', e = .returned v' ∧ w'.ownsRow w.heap.size 9 1 v' xs.length (strs xs) ∧ Below w.heap.size w w' := by
  obtain ⟨i0, hi0, hz0, hz1, hz2⟩ := info_parts Tryd.infoStr
  obtain ⟨A, c, rfl, hA⟩ := hr
  rw [strs_length] at hA
  simp only [strs_length]
  obtain ⟨n, hn⟩ : ∃ n, n = xs.length := ⟨_, rfl⟩
  rw [← hn] at hm ⊢
  have HN := Lib.hid hn
  obtain ⟨Z, hZ⟩ : ∃ Z, Z = (madeCells (Value.string ByteArray.empty).cells (n * 1)).toList := ⟨_, rfl⟩
  have hZl : Z.length = n := by rw [hZ]; simp [madeCells]
  have HZ := Lib.hid hZl
  have HE := Lib.hid hZ
  clear hZl hZ
  by_cases hz : n = 0
  · subst hz
    have hnil : xs = [] := List.length_eq_zero_iff.1 hn.symm
    subst hnil
    have hZ0 : Z = [] := List.length_eq_zero_iff.1 HZ.out
    clear hA hn
    go_enter Tryd.func41, Tryd.ntmps41
    go_wp2_with (at_make; refine wpList_make_full _ rfl _ _ 23 rfl w.heap.size 9 i0 _ 1 Tryd.underlying23 hi0 hz0 hz1 _ _ _ _ 0 rfl rfl rfl rfl (by omega) (by unfold maxLen; omega) (Nat.le_refl _) ?_; intro w1 hown1 hgr1)
    have HO := Lib.hid hown1
    have HB := Lib.hid ((Below.refl w.heap.size w).grown hgr1 (Nat.le_refl _) (by intro k hk; cases hk))
    clear hown1 hgr1
    refine wp_loop_rounds 1 ?_
    rw [rounds_succ]
    go_wp2
    go_ret
    exact ⟨_, rfl, by have := HO.out; rw [← HE.out, hZ0] at this; exact this, HB.out⟩
  · obtain ⟨g, o, rfl, hgl, hc⟩ := hA (by omega)
    clear hA hz hn
    go_enter Tryd.func41, Tryd.ntmps41
    go_wp2_with (at_make; refine wpList_make_full _ rfl _ _ 23 rfl w.heap.size 9 i0 _ 1 Tryd.underlying23 hi0 hz0 hz1 _ _ _ _ n rfl rfl rfl rfl (by rw [hz2]; omega) (by unfold maxLen; omega) (Nat.le_refl _) ?_; intro w1 hown1 hgr1)
    rw [← HE.out] at hown1
    have HB1 := Lib.hid ((Below.refl w.heap.size w).grown hgr1 (Nat.le_refl _) (by intro k hk; cases hk))
    clear hgr1
    go_loopw [4] (fun i wr => ∃ k : Nat, k ≤ n ∧ i = .int .i64 k ∧ wr.ownsRow w.heap.size 9 1 (.slice (some ⟨w.heap.size, 0, none⟩) n n) n (copied k (strs xs) Z) ∧ Below w.heap.size w wr) (fun i _ => n - (intOf i).toNat)
    case atStart => exact ⟨0, Nat.zero_le _, rfl, by rw [copied_zero]; exact hown1, HB1.out⟩
    case round =>
      obtain ⟨k, hk, rfl, hown, hbel⟩ := hrel
      by_cases hlt : k < n
      · have hkl : k < xs.length := by rw [← HN.out]; exact hlt
        have ck : wr.cell? ⟨g, o + k, none⟩ = some (.string xs[k]) := (hbel.cell (p := ⟨g, o + k, none⟩) hgl).trans (hc k _ (strs_get xs k hkl))
        obtain ⟨u, hu⟩ : ∃ u, wr.cell? ⟨w.heap.size, k, none⟩ = some u := ⟨_, (hown.cellAt k (by omega)).trans (List.getElem?_eq_getElem (by rw [own_len hown]; exact hlt))⟩
        have hf : wr.frozen? ⟨w.heap.size, k, none⟩ = false := hown.frozenAt k
        have hst := hown.stored k (.string xs[k])
        have hcs := copied_step k (strs xs) Z (by rw [strs_length, HZ.out, HN.out]) (by rw [strs_length]; exact hkl)
        have hgk : (strs xs)[k]'(by rw [strs_length]; exact hkl) = .string xs[k] := by simp [strs]
        rw [hgk] at hcs
        rw [hcs] at hst
        have HST := Lib.hid hst.1
        clear hst hcs hgk hown
        obtain ⟨x, hxe⟩ : ∃ x, x = xs[k] := ⟨_, rfl⟩
        rw [← hxe] at ck HST
        clear hxe
        go_wp2
        go_roundw
        case rel => exact ⟨k + 1, by omega, by go_num, HST.out, hbel.setCell (Nat.le_refl _) _⟩
        case measure => simp [intOf]; omega
      · have hkn : k = n := by omega
        have HK := Lib.hid hkn
        have HO := Lib.hid hown
        clear hkn hown
        go_wp2
        go_ret
        refine ⟨_, rfl, ?_, hbel⟩
        have ho := HO.out
        have e : k = (strs xs).length := by rw [strs_length, ← HN.out]; exact HK.out
        rw [e, copied_all _ _ (by rw [strs_length, HZ.out, HN.out])] at ho
        exact ho

end Go.Proofs.YtionfjofojfaoaaDoor
