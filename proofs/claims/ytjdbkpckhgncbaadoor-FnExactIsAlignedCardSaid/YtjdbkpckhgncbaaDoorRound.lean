/- Codes are recovered from their encodings, and a text from its characters. No walk. -/
import Derived.Test.YtjdbkpckhgncbaaDoorPrefix
import Derived.Test.YtjdbkpckhgncbaaDoorBC
import Derived.Test.YtjdbkpckhgncbaaDoorEnc
import Derived.Test.YtjdbkpckhgncbaaDoorJoin
namespace Go.Proofs.YtjdbkpckhgncbaaDoor
open Go.RowKit
set_option linter.unusedVariables false

theorem bytes_eq8 {a b : ByteArray} (hs : a.size = b.size) (h : ∀ j, j < a.size → by8 a j = by8 b j) : a = b := by
  apply ByteArray.ext
  apply Array.ext
  · exact hs
  · intro j h1 h2
    have := h j h1
    rw [by8_of a j h1, by8_of b j h2] at this
    exact UInt8.toNat_inj.1 this

/-! ### joined with nothing between -/
theorem join_flat (xs : List ByteArray) : (joinB xs ⟨#[]⟩).data.toList = xs.flatMap (·.data.toList) := by
  cases xs with
  | nil => rfl
  | cons x r =>
    have e : (joinB (x :: r) ⟨#[]⟩).data.toList = Lib.join (x.data.toList :: r.map (·.data.toList)) [] := rfl
    rw [e, Lib.join_cons, List.flatMap_cons]
    congr 1
    unfold Lib.joinTail
    rw [List.map_map, ← List.flatMap_def]
    rfl
theorem tot_flat (xs : List ByteArray) : tot xs = (xs.flatMap (·.data.toList)).length := by
  induction xs with
  | nil => rfl
  | cons x r ih =>
    rw [List.flatMap_cons, List.length_append, ← ih]
    rfl
theorem ext_list (s : ByteArray) (a b : Nat) (h : a ≤ b) : (s.extract a b).data.toList = (s.data.toList.take b).drop a := by
  rw [ByteArray.data_extract, Array.toList_extract, List.extract_eq_take_drop, List.take_drop, Nat.add_sub_cancel' h]
theorem cuts_flat (s : ByteArray) : ∀ k i, s.size - i ≤ k → (cutsFrom s i).flatMap (·.data.toList) = s.data.toList.drop i := by
  intro k
  induction k with
  | zero =>
    intro i hk
    rw [cutsFrom_no s i (by omega), List.drop_eq_nil_of_le (by rw [bytes_length]; omega)]; rfl
  | succ k ih =>
    intro i hk
    by_cases hi : i < s.size
    · have hl := ch_len s i hi
      rw [cutsFrom_yes s i hi, List.flatMap_cons, ih _ (by omega), ext_list _ _ _ (by omega)]
      have e : s.data.toList.drop i = (s.data.toList.take (i + (ch s i).2)).drop i ++ (s.data.toList.drop (i + (ch s i).2)) := by
        conv => lhs; rw [← List.take_append_drop (i + (ch s i).2) s.data.toList]
        rw [List.drop_append_of_le_length (by rw [List.length_take, bytes_length]; omega)]
      exact e.symm
    · rw [cutsFrom_no s i hi, List.drop_eq_nil_of_le (by rw [bytes_length]; omega)]; rfl
theorem join_cuts (s : ByteArray) : joinB (cutsB s) ⟨#[]⟩ = s := by
  apply ByteArray.ext
  apply Array.ext'
  rw [join_flat]
  exact cuts_flat s s.size 0 (by omega)
theorem tot_cuts (s : ByteArray) : tot (cutsB s) = s.size := by
  rw [tot_flat, show (cutsB s).flatMap (·.data.toList) = s.data.toList from cuts_flat s s.size 0 (by omega)]; rfl

/-! ### the k-th character -/
theorem cuts_at (s : ByteArray) : ∀ n i k, s.size - i ≤ n → k < (cutsFrom s i).length → ∃ j, j < s.size ∧ (cutsFrom s i)[k]? = some (s.extract j (j + (ch s j).2)) ∧ (runesFrom s i)[k]? = some (ch s j).1 := by
  intro n
  induction n with
  | zero => intro i k hn hk; rw [cutsFrom_no s i (by omega)] at hk; simp at hk
  | succ n ih =>
    intro i k hn hk
    by_cases hi : i < s.size
    · have hl := ch_len s i hi
      rw [cutsFrom_yes s i hi] at hk ⊢
      rw [runesFrom_yes s i hi]
      cases k with
      | zero => exact ⟨i, hi, rfl, rfl⟩
      | succ k =>
        obtain ⟨j, h1, h2, h3⟩ := ih (i + (ch s i).2) k (by omega) (by simpa using hk)
        exact ⟨j, h1, by simpa using h2, by simpa using h3⟩
    · rw [cutsFrom_no s i hi] at hk; simp at hk

theorem ch_low (s : ByteArray) (i : Nat) (h : by8 s i < 128) : ch s i = (((by8 s i : Nat) : Int), 1) := by
  rw [ch_eq]
  unfold chN Lib.decodeN
  rw [if_pos h, chOf_small _ h]
theorem ch_one (x : ByteArray) (hs : x.size = 1) (h : ¬ by8 x 0 < 128) : ch x 0 = (-1, 1) := by
  rw [ch_eq, hs]
  unfold chN Lib.decodeN
  rw [if_neg h, if_neg (by omega), if_neg (by omega), if_neg (by omega), chOf_bad]
/-- A good character has the length that its first byte announces. -/
theorem ch_good (s : ByteArray) (i : Nat) (hi : i < s.size) (h : (ch s i).1 ≠ -1) : needN (by8 s i) = (ch s i).2 ∧ ∃ v, foldC s (needN (by8 s i) - 1) (i + 1) (needR (by8 s i)) = some v ∧ ch s i = ((v : Int), needN (by8 s i)) ∧ ¬ v < leastN (needN (by8 s i)) ∧ pointB (v : Int) = true ∧ needN (by8 s i) ≠ 0 ∧ i + needN (by8 s i) ≤ s.size := by
  rw [← specCh_eq s i hi] at h ⊢
  unfold specCh at h ⊢
  by_cases h0 : needN (by8 s i) = 0 ∨ s.size < i + needN (by8 s i)
  · rw [if_pos h0] at h; exact absurd rfl h
  · rw [if_neg h0] at h ⊢
    cases hf : foldC s (needN (by8 s i) - 1) (i + 1) (needR (by8 s i)) with
    | none => rw [hf] at h; exact absurd rfl h
    | some v =>
      rw [hf] at h
      by_cases hv : v < leastN (needN (by8 s i)) ∨ pointB (v : Int) = false
      · exfalso
        apply h
        show (if v < leastN (needN (by8 s i)) ∨ pointB (v : Int) = false then ((-1 : Int), 1) else _).1 = -1
        rw [if_pos hv]
      · have e : endC (needN (by8 s i)) (some v) = ((v : Int), needN (by8 s i)) := if_neg hv
        rw [e]
        refine ⟨rfl, v, rfl, rfl, fun a => hv (.inl a), ?_, fun a => h0 (.inl a), by omega⟩
        cases hp : pointB (v : Int) with
        | true => rfl
        | false => exact absurd (.inr hp) hv
theorem cutb_size (s : ByteArray) (j : Nat) (hj : j < s.size) : (s.extract j (j + (ch s j).2)).size = (ch s j).2 := by
  have := ch_len s j hj
  rw [ByteArray.size_extract]; omega
theorem cut_by8 (s : ByteArray) (j k : Nat) (hj : j < s.size) (hk : k < (ch s j).2) : by8 (s.extract j (j + (ch s j).2)) k = by8 s (k + j) := by
  have := ch_len s j hj
  rw [by8_of _ _ (by rw [cutb_size s j hj]; exact hk), by8_of s _ (by omega)]
  simp [ByteArray.getElem_extract, Nat.add_comm]
/-- A character by itself is read as it was read in its place. -/
theorem ch_cut (s : ByteArray) (j : Nat) (hj : j < s.size) : ch (s.extract j (j + (ch s j).2)) 0 = ch s j := by
  have hz := cutb_size s j hj
  have hl := ch_len s j hj
  have hb := fun k hk => cut_by8 s j k hj hk
  obtain ⟨x, hx⟩ : ∃ x, x = s.extract j (j + (ch s j).2) := ⟨_, rfl⟩
  rw [← hx] at hz hb ⊢
  have hb0 := hb 0 (by omega)
  rw [Nat.zero_add] at hb0
  by_cases hg : (ch s j).1 = -1
  · have h128 : ¬ by8 s j < 128 := by
      intro h; rw [ch_low s j h] at hg; simp only at hg; omega
    have hm : (ch s j).2 = 1 := by
      have hsp := specCh_eq s j hj
      rw [← hsp] at hg ⊢
      unfold specCh at hg ⊢
      split at hg
      · rename_i h0; rw [if_pos h0]
      · rename_i h0
        rw [if_neg h0]
        cases hf : foldC s (needN (by8 s j) - 1) (j + 1) (needR (by8 s j)) with
        | none => rfl
        | some v =>
          rw [hf] at hg
          by_cases hv : v < leastN (needN (by8 s j)) ∨ pointB (v : Int) = false
          · show (if v < leastN (needN (by8 s j)) ∨ pointB (v : Int) = false then ((-1 : Int), 1) else _).2 = 1
            rw [if_pos hv]
          · have e : endC (needN (by8 s j)) (some v) = ((v : Int), needN (by8 s j)) := if_neg hv
            rw [e] at hg
            simp only at hg
            omega
    rw [ch_one x (by omega) (by rw [hb0]; exact h128)]
    exact Prod.ext hg.symm hm.symm
  · obtain ⟨h1, v, h2, h3, h4, h5, h6, h7⟩ := ch_good s j hj hg
    rw [← specCh_eq x 0 (by omega)]
    unfold specCh
    rw [hb0, hz, ← h1, if_neg (by omega)]
    have := foldC_congr x s j (needN (by8 s j) - 1) 1 (needR (by8 s j)) (fun k a b => hb k (by omega))
    rw [Nat.add_comm 1 j] at this
    rw [Nat.zero_add, this, h2, h3]
    exact if_neg (by intro h; rcases h with h | h; exact h4 h; rw [h5] at h; cases h)

/-! ### there and back -/
theorem enc_size (n : Nat) (h : pointB (n : Int) = true) : (Utf8.encode (n : Int)).size = if n < 128 then 1 else if n < 2048 then 2 else if n < 65536 then 3 else 4 := by
  rw [enc_cases n h]
  (repeat' split) <;> rfl
theorem ofNat_lt (k : Nat) (h : k < 256) : (UInt8.ofNat k).toNat = k := by
  rw [UInt8.toNat_ofNat']; omega
theorem needs1 {b : Nat} (h : b < 128) : needN b = 1 ∧ needR b = b := by unfold needN needR; rw [if_pos h, if_pos h]; exact ⟨rfl, rfl⟩
theorem needs2 {b : Nat} (h1 : 194 ≤ b) (h2 : b < 224) : needN b = 2 ∧ needR b = b - 192 := by
  unfold needN needR
  constructor <;> (repeat' split) <;> omega
theorem needs3 {b : Nat} (h1 : 224 ≤ b) (h2 : b < 240) : needN b = 3 ∧ needR b = b - 224 := by
  unfold needN needR
  constructor <;> (repeat' split) <;> omega
theorem needs4 {b : Nat} (h1 : 240 ≤ b) (h2 : b < 245) : needN b = 4 ∧ needR b = b - 240 := by
  unfold needN needR
  constructor <;> (repeat' split) <;> omega
theorem needs_inv (b : Nat) : (needN b = 0) ∨ (needN b = 1 ∧ b < 128 ∧ needR b = b) ∨ (needN b = 2 ∧ 194 ≤ b ∧ b < 224 ∧ needR b = b - 192) ∨ (needN b = 3 ∧ 224 ≤ b ∧ b < 240 ∧ needR b = b - 224) ∨ (needN b = 4 ∧ 240 ≤ b ∧ b < 245 ∧ needR b = b - 240) := by
  have c : b < 128 ∨ (128 ≤ b ∧ b < 194) ∨ (194 ≤ b ∧ b < 224) ∨ (224 ≤ b ∧ b < 240) ∨ (240 ≤ b ∧ b < 245) ∨ 245 ≤ b := by omega
  rcases c with c | c | c | c | c | c
  · exact .inr (.inl ⟨(needs1 c).1, c, (needs1 c).2⟩)
  · left; unfold needN; (repeat' split) <;> omega
  · exact .inr (.inr (.inl ⟨(needs2 c.1 c.2).1, c.1, c.2, (needs2 c.1 c.2).2⟩))
  · exact .inr (.inr (.inr (.inl ⟨(needs3 c.1 c.2).1, c.1, c.2, (needs3 c.1 c.2).2⟩)))
  · exact .inr (.inr (.inr (.inr ⟨(needs4 c.1 c.2).1, c.1, c.2, (needs4 c.1 c.2).2⟩)))
  · left; unfold needN; (repeat' split) <;> omega
theorem fold1 (s : ByteArray) (p r v : Nat) (h : foldC s 1 p r = some v) : (128 ≤ by8 s p ∧ by8 s p ≤ 191) ∧ v = 64 * r + by8 s p - 128 := by
  by_cases hc : 128 ≤ by8 s p ∧ by8 s p ≤ 191
  · rw [foldC, if_pos hc] at h; injection h with h; exact ⟨hc, h.symm⟩
  · rw [foldC, if_neg hc] at h; cases h
theorem foldS (s : ByteArray) (m p r v : Nat) (h : foldC s (m + 1) p r = some v) : (128 ≤ by8 s p ∧ by8 s p ≤ 191) ∧ foldC s m (p + 1) (64 * r + by8 s p - 128) = some v := by
  by_cases hc : 128 ≤ by8 s p ∧ by8 s p ≤ 191
  · rw [foldC, if_pos hc] at h; exact ⟨hc, h⟩
  · rw [foldC, if_neg hc] at h; cases h

/-- What is read whole is written as it was. -/
theorem enc_ch (x : ByteArray) (c : Int) (h : ch x 0 = (c, x.size)) (hc : c ≠ -1) (hx : 0 < x.size) : encB c = x := by
  obtain ⟨h1, v, h2, h3, h4, h5, h6, h7⟩ := ch_good x 0 hx (by rw [h]; exact hc)
  rw [h] at h3 h1
  have hcv : c = (v : Int) := congrArg Prod.fst h3
  have hN : needN (by8 x 0) = x.size := h1
  subst hcv
  rw [encB_yes _ h5]
  have hp := (pointB_iff _).1 h5
  have e := enc_cases v h5
  have hz := enc_size v h5
  rcases needs_inv (by8 x 0) with d | ⟨d, d1, d2⟩ | ⟨d, d1, d2, d3⟩ | ⟨d, d1, d2, d3⟩ | ⟨d, d1, d2, d3⟩
  · exact absurd d h6
  · rw [d, d2] at h2
    have hv : by8 x 0 = v := by injection h2
    have k1 : v < 128 := by omega
    rw [if_pos k1] at hz e
    refine bytes_eq8 (by omega) ?_
    intro j hj
    obtain rfl : j = 0 := by omega
    rw [e, hv]
    exact ofNat_lt v (by omega)
  · rw [d, d3] at h2
    rw [d, leastN2] at h4
    obtain ⟨f1, f2⟩ := fold1 x 1 _ v h2
    have k1 : ¬ v < 128 := by omega
    have k2 : v < 2048 := by omega
    rw [if_neg k1, if_pos k2] at hz e
    refine bytes_eq8 (by omega) ?_
    intro j hj
    have cj : j = 0 ∨ j = 1 := by omega
    rw [e]
    rcases cj with rfl | rfl
    · show (UInt8.ofNat (192 + v / 64)).toNat = _
      rw [ofNat_lt _ (by omega)]; omega
    · show (UInt8.ofNat (128 + v % 64)).toNat = _
      rw [ofNat_lt _ (by omega)]; omega
  · rw [d, d3] at h2
    rw [d, leastN3] at h4
    obtain ⟨f1, f2⟩ := foldS x 1 1 _ v h2
    obtain ⟨f3, f4⟩ := fold1 x 2 _ v f2
    have k1 : ¬ v < 128 := by omega
    have k2 : ¬ v < 2048 := by omega
    have k3 : v < 65536 := by omega
    rw [if_neg k1, if_neg k2, if_pos k3] at hz e
    refine bytes_eq8 (by omega) ?_
    intro j hj
    have cj : j = 0 ∨ j = 1 ∨ j = 2 := by omega
    rw [e]
    rcases cj with rfl | rfl | rfl
    · show (UInt8.ofNat (224 + v / 4096)).toNat = _
      rw [ofNat_lt _ (by omega)]; omega
    · show (UInt8.ofNat (128 + v / 64 % 64)).toNat = _
      rw [ofNat_lt _ (by omega)]; omega
    · show (UInt8.ofNat (128 + v % 64)).toNat = _
      rw [ofNat_lt _ (by omega)]; omega
  · rw [d, d3] at h2
    rw [d, leastN4] at h4
    obtain ⟨f1, f2⟩ := foldS x 2 1 _ v h2
    obtain ⟨f3, f4⟩ := foldS x 1 2 _ v f2
    obtain ⟨f5, f6⟩ := fold1 x 3 _ v f4
    have k1 : ¬ v < 128 := by omega
    have k2 : ¬ v < 2048 := by omega
    have k3 : ¬ v < 65536 := by omega
    rw [if_neg k1, if_neg k2, if_neg k3] at hz e
    refine bytes_eq8 (by omega) ?_
    intro j hj
    have cj : j = 0 ∨ j = 1 ∨ j = 2 ∨ j = 3 := by omega
    rw [e]
    rcases cj with rfl | rfl | rfl | rfl
    · show (UInt8.ofNat (240 + v / 262144)).toNat = _
      rw [ofNat_lt _ (by omega)]; omega
    · show (UInt8.ofNat (128 + v / 4096 % 64)).toNat = _
      rw [ofNat_lt _ (by omega)]; omega
    · show (UInt8.ofNat (128 + v / 64 % 64)).toNat = _
      rw [ofNat_lt _ (by omega)]; omega
    · show (UInt8.ofNat (128 + v % 64)).toNat = _
      rw [ofNat_lt _ (by omega)]; omega

/-- What is written is read whole. -/
theorem ch_enc (n : Nat) (h : pointB (n : Int) = true) : ch (Utf8.encode (n : Int)) 0 = ((n : Int), (Utf8.encode (n : Int)).size) := by
  have hp := (pointB_iff _).1 h
  have e := enc_cases n h
  have hz := enc_size n h
  have hpos : 0 < (Utf8.encode (n : Int)).size := by rw [hz]; (repeat' split) <;> omega
  obtain ⟨x, hx⟩ : ∃ x, x = Utf8.encode (n : Int) := ⟨_, rfl⟩
  rw [← hx] at e hz hpos ⊢
  rw [← specCh_eq x 0 hpos]
  unfold specCh
  have good : ∀ N, ¬ n < leastN N → endC N (some n) = ((n : Int), N) := fun N hN => if_neg (by intro a; rcases a with a | a; exact hN a; rw [h] at a; cases a)
  by_cases k1 : n < 128
  · rw [if_pos k1] at e hz
    have b0 : by8 x 0 = n := by rw [e]; exact ofNat_lt n (by omega)
    obtain ⟨d1, d2⟩ := needs1 (show by8 x 0 < 128 by omega)
    rw [d1, d2, hz, if_neg (by omega), b0]
    exact good 1 (by show ¬ n < 0; omega)
  · by_cases k2 : n < 2048
    · rw [if_neg k1, if_pos k2] at e hz
      have b0 : by8 x 0 = 192 + n / 64 := by rw [e]; exact ofNat_lt _ (by omega)
      have b1 : by8 x 1 = 128 + n % 64 := by rw [e]; exact ofNat_lt _ (by omega)
      obtain ⟨d1, d2⟩ := needs2 (show 194 ≤ by8 x 0 by omega) (by omega)
      have f : foldC x (2 - 1) (0 + 1) (by8 x 0 - 192) = some n := by
        show foldC x (0 + 1) 1 _ = _
        rw [foldC_yes _ _ _ _ (by omega)]
        exact congrArg some (by omega)
      rw [d1, d2, hz, if_neg (by omega), f]
      exact good 2 (by rw [leastN2]; omega)
    · by_cases k3 : n < 65536
      · rw [if_neg k1, if_neg k2, if_pos k3] at e hz
        have b0 : by8 x 0 = 224 + n / 4096 := by rw [e]; exact ofNat_lt _ (by omega)
        have b1 : by8 x 1 = 128 + n / 64 % 64 := by rw [e]; exact ofNat_lt _ (by omega)
        have b2 : by8 x 2 = 128 + n % 64 := by rw [e]; exact ofNat_lt _ (by omega)
        obtain ⟨d1, d2⟩ := needs3 (show 224 ≤ by8 x 0 by omega) (by omega)
        have f : foldC x (3 - 1) (0 + 1) (by8 x 0 - 224) = some n := by
          show foldC x (1 + 1) 1 _ = _
          rw [foldC_yes _ _ _ _ (by omega)]
          show foldC x (0 + 1) 2 _ = _
          rw [foldC_yes _ _ _ _ (by omega)]
          exact congrArg some (by omega)
        rw [d1, d2, hz, if_neg (by omega), f]
        exact good 3 (by rw [leastN3]; omega)
      · rw [if_neg k1, if_neg k2, if_neg k3] at e hz
        have b0 : by8 x 0 = 240 + n / 262144 := by rw [e]; exact ofNat_lt _ (by omega)
        have b1 : by8 x 1 = 128 + n / 4096 % 64 := by rw [e]; exact ofNat_lt _ (by omega)
        have b2 : by8 x 2 = 128 + n / 64 % 64 := by rw [e]; exact ofNat_lt _ (by omega)
        have b3 : by8 x 3 = 128 + n % 64 := by rw [e]; exact ofNat_lt _ (by omega)
        obtain ⟨d1, d2⟩ := needs4 (show 240 ≤ by8 x 0 by omega) (by omega)
        have f : foldC x (4 - 1) (0 + 1) (by8 x 0 - 240) = some n := by
          show foldC x (2 + 1) 1 _ = _
          rw [foldC_yes _ _ _ _ (by omega)]
          show foldC x (1 + 1) 2 _ = _
          rw [foldC_yes _ _ _ _ (by omega)]
          show foldC x (0 + 1) 3 _ = _
          rw [foldC_yes _ _ _ _ (by omega)]
          exact congrArg some (by omega)
        rw [d1, d2, hz, if_neg (by omega), f]
        exact good 4 (by rw [leastN4]; omega)
end Go.Proofs.YtjdbkpckhgncbaaDoor
