/- Join: the model's and the program's give the same text; the law's helpers szStringS and toStringS. -/
import Derived.Test.YtfbkefgabkiakaaPad
import Derived.Test.YtfbkefgabkiakaaMem
import Derived.Test.YtfbkefgabkiakaaSplit
namespace Go.Proofs.Ytfbkefgabkiakaa
open Go.RowKit

/-- All the bytes of a list of texts. -/
def tot : List ByteArray → Nat
  | [] => 0
  | x :: r => x.size + tot r
theorem tot_take (xs : List ByteArray) : ∀ k, tot (xs.take k) ≤ tot xs := by
  induction xs with
  | nil => intro k; simp [tot]
  | cons x r ih =>
    intro k
    cases k with
    | zero => simp [tot]
    | succ k => have := ih k; simp only [List.take_succ_cons, tot]; omega
theorem tot_mem (xs : List ByteArray) (x : ByteArray) (h : x ∈ xs) : x.size ≤ tot xs := by
  induction xs with
  | nil => cases h
  | cons y r ih =>
    cases h with
    | head => simp only [tot]; omega
    | tail _ h => have := ih h; simp only [tot]; omega
theorem lens_tot (xs : List ByteArray) : Lib.lens (xs.map (·.data.toList)) = tot xs := by
  induction xs with
  | nil => rfl
  | cons x r ih =>
    simp only [Lib.lens, List.map_cons, List.sum_cons, tot] at ih ⊢
    rw [ih]; rfl
theorem joinB_size (xs : List ByteArray) (sep : ByteArray) : (joinB xs sep).size ≤ tot xs + xs.length * sep.size := by
  cases xs with
  | nil => simp [joinB, Lib.join_nil, tot]; rfl
  | cons x r =>
    have h := Lib.join_length x.data.toList (r.map (·.data.toList)) sep.data.toList
    have e : (joinB (x :: r) sep).size = (Lib.join ((x :: r).map (·.data.toList)) sep.data.toList).length := rfl
    rw [e, List.map_cons, h]
    have h2 := lens_tot (x :: r)
    rw [List.map_cons] at h2
    rw [h2, List.length_map, List.length_cons, Nat.add_mul]
    have h3 : sep.data.toList.length = sep.size := rfl
    rw [h3, Nat.mul_comm]
    omega
theorem joinB_nil (sep : ByteArray) : joinB [] sep = ⟨#[]⟩ := rfl
theorem joinB_one (x sep : ByteArray) : joinB [x] sep = x := by
  apply ByteArray.ext; simp [joinB, Lib.join_one]
theorem joinB_snoc (xs : List ByteArray) (x sep : ByteArray) (h : xs ≠ []) : joinB (xs ++ [x]) sep = joinB xs sep ++ sep ++ x := by
  cases xs with
  | nil => exact absurd rfl h
  | cons y r =>
    apply ByteArray.ext
    simp [joinB, Lib.join_cons, Lib.joinTail]

/-- What szStringS gives. -/
def szGo : List ByteArray → Int → Int
  | [], l => l
  | x :: r, l => if l - x.size < 0 then -1 else szGo r (l - x.size)
def szL (xs : List ByteArray) (left : Int) : Int := if left - xs.length < 0 then -1 else szGo xs (left - xs.length)
theorem szGo_le (xs : List ByteArray) : ∀ l : Int, 0 ≤ szGo xs l → (tot xs : Int) ≤ l := by
  induction xs with
  | nil => intro l h; simpa [szGo, tot] using h
  | cons x r ih =>
    intro l h
    unfold szGo at h
    split at h
    · omega
    · have := ih _ h
      simp only [tot]
      omega
theorem szL_le (xs : List ByteArray) (l : Int) (h : 0 ≤ szL xs l) : (xs.length : Int) ≤ l ∧ (tot xs : Int) ≤ l := by
  unfold szL at h
  split at h
  · omega
  · have := szGo_le xs _ h
    omega

set_option maxHeartbeats 400000 in
theorem szStringS_any (xs : List ByteArray) (left : Int) (v : Value) (w : World) (hr : Rd w v (strs xs)) (h0 : 0 ≤ left) (h1 : left ≤ 1048576) (hm : xs.length ≤ 9223372036854775807) (hx : ∀ x ∈ xs, x.size ≤ 9223372036854775807) :
    Calls Try.prog 20 #[v, .int .i64 left] w fun e w' => e = .returned (.int .i64 (szL xs left)) ∧ w = w' := by
  obtain ⟨A, c, rfl, hA⟩ := hr
  rw [strs_length] at hA
  simp only [strs_length]
  obtain ⟨n, hn⟩ : ∃ n, n = xs.length := ⟨_, rfl⟩
  rw [← hn] at hm ⊢
  by_cases hneg : left - (n : Int) < 0
  · have HF : Hid (szL xs left = -1) := Lib.hid (by unfold szL; rw [← hn, if_pos hneg])
    clear hA hx hn
    go_enter Try.func20, Try.ntmps20
    go_wp2
    go_ret
    exact ⟨ret_int HF.out.symm, rfl⟩
  · have HF : Hid (szL xs left = szGo xs (left - n)) := Lib.hid (by unfold szL; rw [← hn, if_neg hneg])
    by_cases hz : n = 0
    · subst hz
      have hnil : xs = [] := List.length_eq_zero_iff.1 hn.symm
      subst hnil
      clear hA hn hx
      go_enter Try.func20, Try.ntmps20
      go_wp2
      refine wp_loop_rounds 1 ?_
      rw [rounds_succ]
      go_wp2
      go_ret
      exact ⟨ret_int (by rw [HF.out]; simp [szGo]), rfl⟩
    · obtain ⟨g, o, rfl, _, hc⟩ := hA (by omega)
      have HN := Lib.hid hn
      have HX := Lib.hid hx
      clear hA hn hx hz
      go_enter Try.func20, Try.ntmps20
      go_wp2
      go_loop [1, 5] (fun l i => ∃ (k : Nat) (m : Int), k ≤ n ∧ i = .int .i64 k ∧ l = .int .i64 m ∧ 0 ≤ m ∧ m ≤ left ∧ Hid (szGo (xs.drop k) m = szGo xs (left - n))) (fun _ i => n - (intOf i).toNat)
      case atStart => exact ⟨0, left - n, Nat.zero_le _, rfl, rfl, by omega, by omega, Lib.hid rfl⟩
      case round =>
        obtain ⟨k, m, hk, rfl, rfl, hm0, hm1, HG⟩ := hrel
        by_cases hlt : k < n
        · have hkl : k < xs.length := by rw [← HN.out]; exact hlt
          have ck : w.cell? ⟨g, o + k, none⟩ = some (.string xs[k]) := hc k _ (strs_get xs k hkl)
          have hdrop : xs.drop k = xs[k] :: xs.drop (k + 1) := List.drop_eq_getElem_cons hkl
          have hgo := HG.out
          rw [hdrop] at hgo
          obtain ⟨x, hxe⟩ : ∃ x, x = xs[k] := ⟨_, rfl⟩
          have hxs : x.size ≤ 9223372036854775807 := by rw [hxe]; exact HX.out _ (List.getElem_mem _)
          rw [← hxe] at ck hgo
          have HGO := Lib.hid hgo
          clear hgo hdrop hxe HG hkl
          by_cases hs : m - (x.size : Int) < 0
          · go_wp2
            go_ret
            exact ⟨ret_int (by rw [HF.out, ← HGO.out, szGo, if_pos hs]), rfl⟩
          · go_wp2
            go_round
            case rel => exact ⟨k + 1, m - x.size, by omega, by go_num, by go_num, by omega, by omega, Lib.hid (by rw [← HGO.out, szGo, if_neg (by omega)])⟩
            case measure => simp [intOf]; omega
        · go_wp2
          go_ret
          have hge : xs.length ≤ k := by rw [← HN.out]; omega
          have hgo := HG.out
          rw [List.drop_of_length_le hge] at hgo
          exact ⟨ret_int (by rw [HF.out, ← hgo, szGo]), rfl⟩

/-- j cells copied, the others as they were. -/
def copied (j : Nat) (xs ys : List Value) : List Value := xs.take j ++ ys.drop j
theorem copied_zero (xs ys : List Value) : copied 0 xs ys = ys := by simp [copied]
theorem copied_all (xs ys : List Value) (h : ys.length = xs.length) : copied xs.length xs ys = xs := by
  unfold copied
  rw [List.take_length, ← h, List.drop_length, List.append_nil]
theorem copied_step (j : Nat) (xs ys : List Value) (h : ys.length = xs.length) (hj : j < xs.length) : (copied j xs ys).set j xs[j] = copied (j + 1) xs ys := by
  unfold copied
  have hl : (xs.take j).length = j := by rw [List.length_take]; omega
  rw [List.set_append_right _ _ (by omega), hl, Nat.sub_self, List.drop_eq_getElem_cons (by omega), List.set_cons_zero, List.take_succ_eq_append_getElem hj, List.append_assoc]
  rfl

set_option maxHeartbeats 400000 in
theorem toStringS_any (xs : List ByteArray) (v : Value) (w : World) (hr : Rd w v (strs xs)) (hm : xs.length ≤ 1048576) :
    Calls Try.prog 22 #[v] w fun e w' => ∃ v', e = .returned v' ∧ w'.ownsRow w.heap.size 9 1 v' xs.length (strs xs) ∧ Below w.heap.size w w' := by
  obtain ⟨i0, hi0, hz0, hz1, hz2⟩ := info_parts Try.infoStr
  obtain ⟨A, c, rfl, hA⟩ := hr
  rw [strs_length] at hA
  simp only [strs_length]
  obtain ⟨n, hn⟩ : ∃ n, n = xs.length := ⟨_, rfl⟩
  rw [← hn] at hm ⊢
  have HN := Lib.hid hn
  obtain ⟨Z, hZ⟩ : ∃ Z, Z = (madeCells (Value.string ByteArray.empty).cells (n * 1)).toList := ⟨_, rfl⟩
  have hZl : Z.length = n := by rw [hZ]; simp [madeCells]
  have HZ := Lib.hid hZl
  have HE := Lib.hid hZ
  clear hZl hZ
  by_cases hz : n = 0
  · subst hz
    have hnil : xs = [] := List.length_eq_zero_iff.1 hn.symm
    subst hnil
    have hZ0 : Z = [] := List.length_eq_zero_iff.1 HZ.out
    clear hA hn
    go_enter Try.func22, Try.ntmps22
    go_wp2_with (at_make; refine wpList_make_full _ rfl _ _ 23 rfl w.heap.size 9 i0 _ 1 Try.underlying23 hi0 hz0 hz1 _ _ _ _ 0 rfl rfl rfl rfl (by omega) (by unfold maxLen; omega) (Nat.le_refl _) ?_; intro w1 hown1 hgr1)
    have HO := Lib.hid hown1
    have HB := Lib.hid ((Below.refl w.heap.size w).grown hgr1 (Nat.le_refl _) (by intro k hk; cases hk))
    clear hown1 hgr1
    refine wp_loop_rounds 1 ?_
    rw [rounds_succ]
    go_wp2
    go_ret
    exact ⟨_, rfl, by have := HO.out; rw [← HE.out, hZ0] at this; exact this, HB.out⟩
  · obtain ⟨g, o, rfl, hgl, hc⟩ := hA (by omega)
    clear hA hz hn
    go_enter Try.func22, Try.ntmps22
    go_wp2_with (at_make; refine wpList_make_full _ rfl _ _ 23 rfl w.heap.size 9 i0 _ 1 Try.underlying23 hi0 hz0 hz1 _ _ _ _ n rfl rfl rfl rfl (by rw [hz2]; omega) (by unfold maxLen; omega) (Nat.le_refl _) ?_; intro w1 hown1 hgr1)
    rw [← HE.out] at hown1
    have HB1 := Lib.hid ((Below.refl w.heap.size w).grown hgr1 (Nat.le_refl _) (by intro k hk; cases hk))
    clear hgr1
    go_loopw [4] (fun i wr => ∃ k : Nat, k ≤ n ∧ i = .int .i64 k ∧ wr.ownsRow w.heap.size 9 1 (.slice (some ⟨w.heap.size, 0, none⟩) n n) n (copied k (strs xs) Z) ∧ Below w.heap.size w wr) (fun i _ => n - (intOf i).toNat)
    case atStart => exact ⟨0, Nat.zero_le _, rfl, by rw [copied_zero]; exact hown1, HB1.out⟩
    case round =>
      obtain ⟨k, hk, rfl, hown, hbel⟩ := hrel
      by_cases hlt : k < n
      · have hkl : k < xs.length := by rw [← HN.out]; exact hlt
        have ck : wr.cell? ⟨g, o + k, none⟩ = some (.string xs[k]) := (hbel.cell (p := ⟨g, o + k, none⟩) hgl).trans (hc k _ (strs_get xs k hkl))
        obtain ⟨u, hu⟩ : ∃ u, wr.cell? ⟨w.heap.size, k, none⟩ = some u := ⟨_, (hown.cellAt k (by omega)).trans (List.getElem?_eq_getElem (by rw [own_len hown]; exact hlt))⟩
        have hf : wr.frozen? ⟨w.heap.size, k, none⟩ = false := hown.frozenAt k
        have hst := hown.stored k (.string xs[k])
        have hcs := copied_step k (strs xs) Z (by rw [strs_length, HZ.out, HN.out]) (by rw [strs_length]; exact hkl)
        have hgk : (strs xs)[k]'(by rw [strs_length]; exact hkl) = .string xs[k] := by simp [strs]
        rw [hgk] at hcs
        rw [hcs] at hst
        have HST := Lib.hid hst.1
        clear hst hcs hgk hown
        obtain ⟨x, hxe⟩ : ∃ x, x = xs[k] := ⟨_, rfl⟩
        rw [← hxe] at ck HST
        clear hxe
        go_wp2
        go_roundw
        case rel => exact ⟨k + 1, by omega, by go_num, HST.out, hbel.setCell (Nat.le_refl _) _⟩
        case measure => simp [intOf]; omega
      · have hkn : k = n := by omega
        have HK := Lib.hid hkn
        have HO := Lib.hid hown
        clear hkn hown
        go_wp2
        go_ret
        refine ⟨_, rfl, ?_, hbel⟩
        have ho := HO.out
        have e : k = (strs xs).length := by rw [strs_length, ← HN.out]; exact HK.out
        rw [e, copied_all _ _ (by rw [strs_length, HZ.out, HN.out])] at ho
        exact ho

/-- The joined text of the first k. -/
theorem joinB_step (xs : List ByteArray) (sep : ByteArray) (k : Nat) (h : k < xs.length) (h0 : 0 < k) : joinB (xs.take (k + 1)) sep = joinB (xs.take k) sep ++ sep ++ xs[k] := by
  rw [List.take_succ_eq_append_getElem h]
  exact joinB_snoc _ _ _ (by intro e; have := congrArg List.length e; rw [List.length_take] at this; simp only [List.length_nil] at this; omega)
theorem joinB_first (xs : List ByteArray) (sep : ByteArray) (h : 0 < xs.length) : joinB (xs.take 1) sep = xs[0] := by
  rw [show 1 = 0 + 1 from rfl, List.take_succ_eq_append_getElem h]
  exact joinB_one _ _
theorem joinB_bound (xs : List ByteArray) (sep : ByteArray) (k : Nat) (ht : tot xs ≤ 1048576) (hn : xs.length ≤ 1048576) (hs : sep.size ≤ 1048576) : (joinB (xs.take k) sep).size ≤ 1100000000000 := by
  have h1 := joinB_size (xs.take k) sep
  have h2 := tot_take xs k
  have h3 : (xs.take k).length ≤ 1048576 := by rw [List.length_take]; omega
  have h4 : (xs.take k).length * sep.size ≤ 1048576 * 1048576 := Nat.mul_le_mul h3 hs
  omega

set_option maxHeartbeats 400000 in
theorem specJoin_any (xs : List ByteArray) (sep : ByteArray) (v : Value) (w : World) (hr : Rd w v (strs xs)) (ht : tot xs ≤ 1048576) (hm : xs.length ≤ 1048576) (hs : sep.size ≤ 1048576) :
    Calls Try.prog 21 #[v, .string sep] w fun e w' => e = .returned (.string (joinB xs sep)) ∧ w = w' := by
  obtain ⟨A, c, rfl, hA⟩ := hr
  rw [strs_length] at hA
  simp only [strs_length]
  obtain ⟨n, hn⟩ : ∃ n, n = xs.length := ⟨_, rfl⟩
  have HB : Hid (∀ k, (joinB (xs.take k) sep).size ≤ 1100000000000) := Lib.hid fun k => joinB_bound xs sep k ht hm hs
  have HT : Hid (∀ x ∈ xs, x.size ≤ 1048576) := Lib.hid fun x hx => Nat.le_trans (tot_mem xs x hx) ht
  rw [← hn] at hm ⊢
  have HN := Lib.hid hn
  by_cases hz : n = 0
  · subst hz
    have hnil : xs = [] := List.length_eq_zero_iff.1 hn.symm
    subst hnil
    clear hA hn
    go_enter Try.func21, Try.ntmps21
    go_wp2
    refine wp_loop_rounds 1 ?_
    rw [rounds_succ]
    go_wp2
    go_ret
    exact ⟨rfl, rfl⟩
  · obtain ⟨g, o, rfl, _, hc⟩ := hA (by omega)
    clear hA hz hn ht
    go_enter Try.func21, Try.ntmps21
    go_wp2
    go_loop [5, 10] (fun t i => ∃ (k : Nat) (y : ByteArray), k ≤ n ∧ i = .int .i64 k ∧ t = .string y ∧ Hid (y = joinB (xs.take k) sep) ∧ y.size ≤ 1100000000000) (fun _ i => n - (intOf i).toNat)
    case atStart => exact ⟨0, ⟨#[]⟩, Nat.zero_le _, rfl, rfl, Lib.hid rfl, by show 0 ≤ _; omega⟩
    case round =>
      obtain ⟨k, y, hk, rfl, rfl, HY, hys⟩ := hrel
      by_cases hlt : k < n
      · have hkl : k < xs.length := by rw [← HN.out]; exact hlt
        have ck : w.cell? ⟨g, o + k, none⟩ = some (.string xs[k]) := hc k _ (strs_get xs k hkl)
        have hxk : xs[k].size ≤ 1048576 := HT.out _ (List.getElem_mem _)
        obtain ⟨x, hxe⟩ : ∃ x, x = xs[k] := ⟨_, rfl⟩
        rw [← hxe] at ck hxk
        have HXE := Lib.hid hxe
        clear hxe
        by_cases hk0 : 0 < k
        · have HST : Hid (y ++ sep ++ x = joinB (xs.take (k + 1)) sep) := Lib.hid (by rw [joinB_step xs sep k hkl hk0, HY.out, HXE.out])
          have hbd : (y ++ sep ++ x).size ≤ 1100000000000 := by rw [HST.out]; exact HB.out _
          have HBD := Lib.hid hbd
          clear hbd
          go_wp2
          go_round
          case rel => exact ⟨k + 1, _, by omega, by go_num, rfl, HST, HBD.out⟩
          case measure => simp [intOf]; omega
        · have hk00 : k = 0 := by omega
          subst hk00
          rw [Nat.add_zero] at ck
          have HST : Hid (x = joinB (xs.take 1) sep) := Lib.hid (by rw [joinB_first xs sep hkl, HXE.out])
          have hy0 : y = ⟨#[]⟩ := HY.out
          subst hy0
          have hadd : ∀ (a : ByteArray), ByteArray.mk #[] ++ a = a := fun a => by apply ByteArray.ext; simp
          go_wp2
          go_round
          case rel => exact ⟨1, x, by omega, by go_num, by first | rfl | rw [hadd], HST, by omega⟩
          case measure => simp [intOf]; omega
      · have hkn : k = n := by omega
        have HK := Lib.hid hkn
        clear hkn
        go_wp2
        go_ret
        exact ⟨ret_string (by rw [HY.out, List.take_of_length_le (by rw [← HN.out, HK.out]; exact Nat.le_refl _)]), rfl⟩

theorem implJoinTexts_rd (xs : List ByteArray) (sep : ByteArray) (v : Value) (w : World) (hr : Rd w v (strs xs)) (hcap : ∀ A n c, v = .slice A n c → n ≤ c) (ht : tot xs ≤ 1048576) (hm : xs.length ≤ 1048576) (hs : sep.size ≤ 1048576) :
    Calls Try.prog 30 #[.string sep, v] w fun e w' => e = .returned (.string (joinB xs sep)) ∧ Below w.heap.size w w' := by
  obtain ⟨A, c, rfl, hA⟩ := hr
  have hc0 := hcap _ _ _ rfl
  rw [strs_length] at hA hc0
  simp only [strs_length]
  rcases xs with _ | ⟨x, r⟩
  · have hj := Try.strings_Join_none A c sep
    have HJ := Lib.hid hj
    clear hj hA hcap
    go_enter Try.func30, Try.ntmps30
    go_wp2_with (go_at_call 32; refine (HJ.out _).mono ?_; rintro e w' ⟨rfl, rfl⟩)
    go_ret
    exact ⟨rfl, Below.refl _ _⟩
  · obtain ⟨g, o, rfl, hg, hc⟩ := hA (by simp)
    refine impljoinTexts g o c (x :: r) sep w ?_ hg (by omega) hc0 ?_
    · intro j y hj
      exact hc j _ (by simp only [strs, List.getElem?_map, hj]; rfl)
    · have := joinB_bound (x :: r) sep (x :: r).length ht hm hs
      rw [List.take_length] at this
      omega

theorem implJoin_rd (xs : List ByteArray) (sep : ByteArray) (v : Value) (w : World) (hr : Rd w v (strs xs)) (hcap : ∀ A n c, v = .slice A n c → n ≤ c) (ht : tot xs ≤ 1048576) (hm : xs.length ≤ 1048576) (hs : sep.size ≤ 1048576) :
    Calls Try.prog 23 #[v, .string sep] w fun e w' => e = .returned (.string (joinB xs sep)) ∧ Below w.heap.size w w' := by
  have hj := implJoinTexts_rd xs sep v w hr hcap ht hm hs
  have HJ := Lib.hid hj
  clear hj hr hcap ht hm hs
  go_enter Try.func23, Try.ntmps23
  go_wp2_with (go_at_call 30; refine HJ.out.mono ?_; rintro e w' ⟨rfl, hb⟩)
  go_ret
  exact ⟨rfl, by assumption⟩

end Go.Proofs.Ytfbkefgabkiakaa
