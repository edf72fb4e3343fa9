/- Merged texts: Mark MarkLn. -/
import Derived.Test.YtdihoofhbkafoaaBA
import Derived.Deep.RegionHeld3
import Derived.Test.YtdihoofhbkafoaaBB
/- The law's marks: markText, markStringS, heldStringS. -/
namespace Go.Proofs.Ytdihoofhbkafoaa
open Go.RowKit

/-- The digits of j ahead of acc, f steps at most. -/
def mdig : Nat → Nat → List UInt8 → List UInt8
  | 0, _, acc => acc
  | f + 1, j, acc => if j = 0 then acc else mdig f (j / 10) (UInt8.ofNat (48 + j % 10) :: acc)
/-- The k-th mark. -/
def markB (k : Nat) : ByteArray := ⟨(109 :: mdig k k []).toArray⟩

theorem mdig_step (f j : Nat) (acc : List UInt8) (h : j ≠ 0) (hf : j ≤ f + 1) : mdig (f + 1) j acc = mdig f (j / 10) (UInt8.ofNat (48 + j % 10) :: acc) ∧ j / 10 ≤ f := by
  constructor
  · rw [mdig, if_neg h]
  · omega

theorem mdig_zero (f : Nat) (acc : List UInt8) : mdig f 0 acc = acc := by cases f <;> simp [mdig]
/-- 'string([]byte{b})': a text of one byte. -/
theorem oneByte (w : World) (n : Int) (h0 : 0 ≤ n) (h1 : n ≤ 255) :
    (convert 80 9 (.slice (some ⟨w.heap.size, 0, none⟩) 1 1)).run Try.prog (w.alloc (.cells #[.int .u8 n] 5)) = .ok (.string ⟨[UInt8.ofNat n.toNat].toArray⟩) (w.alloc (.cells #[.int .u8 n] 5)) := by
  refine run_convert_bytes_back (P := Try.prog) _ 80 9 5 ⟨w.heap.size, 0, none⟩ 1 [UInt8.ofNat n.toNat] Try.underlying80 Try.underlying5 Try.underlying9 ?_
  intro j hj
  match j, hj with
  | 0, _ =>
    simp [Addr.add]
    omega

set_option maxRecDepth 100000 in
set_option maxHeartbeats 400000 in
theorem markText_any (k : Nat) (w : World) (h0 : 0 < k) (hk : k ≤ 1000000000) :
    Calls Try.prog 38 #[.int .i64 k] w fun e w' => e = .returned (.string (markB k)) ∧ Below w.heap.size w w' := by
  go_enter Try.func38, Try.ntmps38
  go_wp2
  go_loopw [0, 3] (fun t o wr => ∃ (f j : Nat) (acc : List UInt8), t = .int .i64 j ∧ o = .string ⟨acc.toArray⟩ ∧ j ≤ f ∧ acc.length + f ≤ k ∧ Hid (mdig f j acc = mdig k k []) ∧ Below w.heap.size w wr) (fun t _ _ => (intOf t).toNat)
  case atStart => exact ⟨k, k, [], rfl, rfl, Nat.le_refl _, by simp, Lib.hid rfl, Below.refl _ _⟩
  case round =>
    obtain ⟨f, j, acc, rfl, rfl, hjf, hal, HM, hbel⟩ := hrel
    by_cases hj : 0 < j
    · obtain ⟨f, rfl⟩ : ∃ f', f = f' + 1 := ⟨f - 1, by omega⟩
      have hcv := oneByte wr (48 + (j : Int) % 10) (by omega) (by omega)
      have hst := mdig_step f j acc (by omega) hjf
      have HS := Lib.hid hst.1
      have hj10 := hst.2
      clear hst
      go_wp2
      go_roundw
      case rel =>
        refine ⟨f, j / 10, UInt8.ofNat (48 + j % 10) :: acc, by go_num, ?_, hj10, by simp; omega, Lib.hid (HS.out.symm.trans HM.out), hbel.alloc hbel.size _⟩
        simpa using congrArg Value.string (byte_cons (UInt8.ofNat (48 + j % 10)) acc)
      case measure => simp [intOf]; omega
    · go_wp2
      go_ret
      refine ⟨ret_string ?_, hbel⟩
      have hj0 : j = 0 := by omega
      subst hj0
      have hm := HM.out
      rw [mdig_zero] at hm
      unfold markB
      rw [← hm]
      exact byte_cons 109 acc

/-- The marks k, k + 1, .. of n cells. -/
def marks (k n : Nat) : List ByteArray := (List.range n).map fun j => markB (k + j)
theorem marks_length (k n : Nat) : (marks k n).length = n := by simp [marks]
theorem marks_get (k n j : Nat) (h : j < n) : (strs (marks k n))[j]? = some (.string (markB (k + j))) := by simp [strs, marks, h]

theorem markText_int (a : Int) (w : World) (h0 : 0 < a) (hk : a ≤ 1000000000) :
    Calls Try.prog 38 #[.int .i64 a] w fun e w' => e = .returned (.string (markB a.toNat)) ∧ Below w.heap.size w w' := by
  obtain ⟨k, rfl⟩ := Int.eq_ofNat_of_zero_le (show 0 ≤ a from by omega)
  exact markText_any k w (by omega) (by omega)

theorem only_trans {a b c : World} {row : Option Nat} (h : a.grownBy b row) (k : b.grownBy c row) : a.grownBy c row :=
  ⟨k.os.trans h.os, k.tape.trans h.tape, k.output.trans h.output, Nat.le_trans h.size k.size, fun i hi hn => (k.block i (Nat.lt_of_lt_of_le hi h.size) hn).trans (h.block i hi hn)⟩
theorem only_below {a b c : World} {row : Option Nat} (h : a.grownBy b row) (k : Below b.heap.size b c) : a.grownBy c row :=
  only_trans h ⟨k.os, k.tape, k.output, k.size, fun i hi _ => k.block i hi⟩

/-- j cells marked, the others as they were. -/
def marked (k j : Nat) (xs : List Value) : List Value := strs (marks k j) ++ xs.drop j
theorem marked_zero (k : Nat) (xs : List Value) : marked k 0 xs = xs := by simp [marked, marks, strs]
theorem marked_all (k : Nat) (xs : List Value) : marked k xs.length xs = strs (marks k xs.length) := by simp [marked]
theorem marked_step (k j : Nat) (xs : List Value) (h : j < xs.length) : (marked k j xs).set j (.string (markB (k + j))) = marked k (j + 1) xs := by
  unfold marked
  have hl : (strs (marks k j)).length = j := by rw [strs_length, marks_length]
  rw [List.set_append_right _ _ (by omega), hl, Nat.sub_self, List.drop_eq_getElem_cons h, List.set_cons_zero]
  have e : strs (marks k (j + 1)) = strs (marks k j) ++ [.string (markB (k + j))] := by simp [strs, marks, List.range_succ]
  rw [e]; simp

end Go.Proofs.Ytdihoofhbkafoaa

/- The laws' marks on lines: markCellS, heldCellS, markLineS, heldLineS. -/
namespace Go.Proofs.Ytdihoofhbkafoaa
open Go.RowKit
set_option linter.unusedVariables false

/-! ### plain -/
def mk1 (k : Nat) : Cel := ⟨markB k, ((k + 1 : Nat) : Int)⟩
def mkC (k n : Nat) : List Cel := (List.range n).map fun j => mk1 (k + 2 * j)
theorem mkC_length (k n : Nat) : (mkC k n).length = n := by simp [mkC]
theorem mkC_get (k n j : Nat) (h : j < n) : (mkC k n)[j]? = some (mk1 (k + 2 * j)) := by simp [mkC, h]
theorem mkC_succ (k n : Nat) : mkC k (n + 1) = mkC k n ++ [mk1 (k + 2 * n)] := by simp [mkC, List.range_succ]
/-- j cells marked, the others as they were. -/
def mixC (k j : Nat) (l : List Cel) : List Cel := mkC k j ++ l.drop j
theorem mixC_zero (k : Nat) (l : List Cel) : mixC k 0 l = l := by simp [mixC, mkC]
theorem mixC_all (k : Nat) (l : List Cel) : mixC k l.length l = mkC k l.length := by simp [mixC]
theorem mixC_length (k j : Nat) (l : List Cel) (h : j ≤ l.length) : (mixC k j l).length = l.length := by
  unfold mixC; rw [List.length_append, mkC_length, List.length_drop]; omega
theorem celVals_length (l : List Cel) : (celVals l).length = 2 * l.length := by
  induction l with
  | nil => rfl
  | cons c r ih => show ([Value.string c.txt, Value.int .i64 c.wid] ++ celVals r).length = _; rw [List.length_append, ih]; simp; omega
theorem celVals_append (a b : List Cel) : celVals (a ++ b) = celVals a ++ celVals b := by simp [celVals]
theorem celVals_cons (c : Cel) (r : List Cel) : celVals (c :: r) = .string c.txt :: .int .i64 c.wid :: celVals r := rfl
theorem mixC_step (k j : Nat) (l : List Cel) (h : j < l.length) :
    ((celVals (mixC k j l)).set (j * 2) (.string (markB (k + 2 * j)))).set (j * 2 + 1) (.int .i64 ((k + 2 * j + 1 : Nat) : Int)) = celVals (mixC k (j + 1) l) := by
  have hl : (celVals (mkC k j)).length = j * 2 := by rw [celVals_length, mkC_length]; omega
  unfold mixC
  rw [List.drop_eq_getElem_cons h, celVals_append, celVals_cons, mkC_succ, List.append_assoc, celVals_append (mkC k j)]
  rw [List.set_append_right _ _ (by omega), hl, Nat.sub_self, List.set_cons_zero, List.set_append_right _ _ (by omega), hl, show j * 2 + 1 - j * 2 = 1 by omega]
  rfl
def mkLn (k : Nat) (l : Ln) : Ln := ⟨mkC k l.cells.length, mk1 (k + 2 * l.cells.length), ((k + 2 * l.cells.length + 2 : Nat) : Int)⟩
def nextK (k : Nat) (l : Ln) : Nat := k + 2 * l.cells.length + 3
def endK : Nat → List Ln → Nat
  | k, [] => k
  | k, l :: r => endK (nextK k l) r
def mkLs : Nat → List Ln → List Ln
  | _, [] => []
  | k, l :: r => mkLn k l :: mkLs (nextK k l) r
theorem mkLs_length (k : Nat) (ls : List Ln) : (mkLs k ls).length = ls.length := by
  induction ls generalizing k with
  | nil => rfl
  | cons l r ih => simp [mkLs, ih]
theorem endK_append (k : Nat) (a b : List Ln) : endK k (a ++ b) = endK (endK k a) b := by
  induction a generalizing k with
  | nil => rfl
  | cons l r ih => exact ih _
theorem mkLs_append (k : Nat) (a b : List Ln) : mkLs k (a ++ b) = mkLs k a ++ mkLs (endK k a) b := by
  induction a generalizing k with
  | nil => rfl
  | cons l r ih => simp [mkLs, endK, ih]
theorem endK_take (k j : Nat) (ls : List Ln) (h : j < ls.length) : endK k (ls.take (j + 1)) = nextK (endK k (ls.take j)) ls[j] := by
  rw [List.take_succ_eq_append_getElem h, endK_append]; rfl
theorem endK_le (k : Nat) (ls : List Ln) : endK k ls ≤ k + 2 * totL ls + 3 * ls.length := by
  induction ls generalizing k with
  | nil => exact Nat.le_refl _
  | cons l r ih =>
    have := ih (nextK k l)
    unfold nextK at this
    simp only [endK, nextK, totL, List.length_cons]
    omega
theorem totL_take_le (ls : List Ln) (j : Nat) : totL (ls.take j) ≤ totL ls := by
  induction ls generalizing j with
  | nil => simp [totL]
  | cons l r ih =>
    cases j with
    | zero => simp [totL]
    | succ j => have := ih j; simp only [List.take_succ_cons, totL]; omega
theorem endK_take_le (k j : Nat) (ls : List Ln) : endK k (ls.take j) ≤ k + 2 * totL ls + 3 * ls.length := by
  have h1 := endK_le k (ls.take j)
  have h2 := totL_take_le ls j
  have h3 : (ls.take j).length ≤ ls.length := List.length_take_le' ..
  omega
theorem endK_ge (k : Nat) (ls : List Ln) : k ≤ endK k ls := by
  induction ls generalizing k with
  | nil => exact Nat.le_refl _
  | cons l r ih => have := ih (nextK k l); unfold nextK at this; simp only [endK, nextK]; omega
/-- j lines marked, the others as they were. -/
def mixL (k j : Nat) (ls : List Ln) : List Ln := mkLs k (ls.take j) ++ ls.drop j
theorem mixL_zero (k : Nat) (ls : List Ln) : mixL k 0 ls = ls := by simp [mixL, mkLs]
theorem mixL_all (k : Nat) (ls : List Ln) : mixL k ls.length ls = mkLs k ls := by simp [mixL]
theorem mixL_length (k j : Nat) (ls : List Ln) (h : j ≤ ls.length) : (mixL k j ls).length = ls.length := by
  unfold mixL; rw [List.length_append, mkLs_length, List.length_take, List.length_drop]; omega
theorem mixL_get (k j : Nat) (ls : List Ln) (h : j < ls.length) : (mixL k j ls)[j]? = some ls[j] := by
  have hl : (mkLs k (ls.take j)).length = j := by rw [mkLs_length, List.length_take]; omega
  unfold mixL
  rw [List.getElem?_append_right (by omega), hl, Nat.sub_self, List.drop_eq_getElem_cons h]; rfl
theorem mixL_step (k j : Nat) (ls : List Ln) (h : j < ls.length) : (mixL k j ls).set j (mkLn (endK k (ls.take j)) ls[j]) = mixL k (j + 1) ls := by
  have hl : (mkLs k (ls.take j)).length = j := by rw [mkLs_length, List.length_take]; omega
  unfold mixL
  rw [List.set_append_right _ _ (by omega), hl, Nat.sub_self, List.drop_eq_getElem_cons h, List.set_cons_zero, List.take_succ_eq_append_getElem h, mkLs_append, List.append_assoc]
  rfl
/-! ### the row of lines -/
theorem lnVals_set (vs : List Value) (ls : List Ln) (j : Nat) (l : Ln) (h : j < ls.length) (hl : vs.length = ls.length) :
    (((lnVals vs ls).set (j * 4 + 1) (.string l.tail.txt)).set (j * 4 + 2) (.int .i64 l.tail.wid)).set (j * 4 + 3) (.int .i64 l.fin) = lnVals vs (ls.set j l) := by
  induction vs generalizing ls j with
  | nil => rw [← hl] at h; cases h
  | cons v r ih =>
    cases ls with
    | nil => cases h
    | cons d t =>
      cases j with
      | zero => rfl
      | succ j =>
        have hi := ih t j (by simpa using h) (by simpa using hl)
        have e1 : (j + 1) * 4 + 1 = (j * 4 + 1) + 1 + 1 + 1 + 1 := by omega
        have e2 : (j + 1) * 4 + 2 = (j * 4 + 2) + 1 + 1 + 1 + 1 := by omega
        have e3 : (j + 1) * 4 + 3 = (j * 4 + 3) + 1 + 1 + 1 + 1 := by omega
        rw [e1, e2, e3]
        simp only [lnVals, List.set_cons_succ]
        rw [hi]
theorem lnVals_length (vs : List Value) (ls : List Ln) (h : vs.length = ls.length) : (lnVals vs ls).length = 4 * ls.length := by
  induction vs generalizing ls with
  | nil => rw [List.length_eq_zero_iff.1 h.symm]; rfl
  | cons v r ih =>
    cases ls with
    | nil => cases h
    | cons d t => simp only [lnVals, List.length_cons]; rw [ih t (by simpa using h)]; omega
/-- One of the lines' cells changes in its own block; the lines' row elsewhere. -/
theorem InC.put {W W' : World} {base j : Nat} {vs : List Value} {ls : List Ln} {u : Value} {l : Ln} (h : InC W base none vs ls) (hu : vs[j]? = some u) (hg : W.grownBy W' u.ownBlock) (hc : OwnC W' base u l.cells) : InC W' base none vs (ls.set j l) := by
  refine ⟨fun i x d hx hd => ?_, h.2⟩
  by_cases hij : i = j
  · subst hij
    rw [hu] at hx
    injection hx with hx
    subst hx
    rw [List.getElem?_set] at hd
    simp only [if_true] at hd
    split at hd
    · injection hd with hd
      subst hd
      refine ⟨hc, ?_⟩
      cases hb : u.ownBlock with
      | none => exact .inl rfl
      | some g => exact .inr (fun e => by cases e)
    · cases hd
  · rw [List.getElem?_set_ne (fun e => hij e.symm)] at hd
    obtain ⟨h1, h2⟩ := h.1 i x d hx hd
    have h1' : W.ownsRow base 54 2 x d.cells.length (celVals d.cells) := h1
    exact ⟨h1'.kept hg (h.2 i j x u hij hx hu), h2⟩
theorem InC.same {W : World} {base j : Nat} {K : Option Nat} {vs : List Value} {ls : List Ln} {l l' : Ln} (h : InC W base K vs ls) (hl : ls[j]? = some l) (he : l'.cells = l.cells) : InC W base K vs (ls.set j l') := by
  refine ⟨fun i x d hx hd => ?_, h.2⟩
  by_cases hij : i = j
  · subst hij
    rw [List.getElem?_set] at hd
    simp only [if_true] at hd
    split at hd
    · injection hd with hd
      subst hd
      rw [he]
      exact h.1 i x l hx hl
    · cases hd
  · rw [List.getElem?_set_ne (fun e => hij e.symm)] at hd
    exact h.1 i x d hx hd
set_option maxRecDepth 100000 in
set_option maxHeartbeats 1000000 in
theorem markCellS_any (base k : Nat) (v : Value) (l : List Cel) (w : World) (hown : OwnC w base v l) (h0 : 0 < k) (hk : k + 2 * l.length ≤ 900000000) :
    Calls Try.prog 37 #[v, .int .i64 (k : Int)] w fun e w' => e = .returned (.int .i64 ((k + 2 * l.length : Nat) : Int)) ∧ OwnC w' base v (mkC k l.length) ∧ w.grownBy w' v.ownBlock := by
  have ho : w.ownsRow base 54 2 v l.length (celVals l) := hown
  rcases ho.2 with ⟨rfl, hn⟩ | ⟨g, cap, cur, rfl, hb, hh, hn, hc, hs, ht⟩
  · have he : l = [] := List.length_eq_zero_iff.1 hn
    subst he
    have HO := Lib.hid hown
    clear hown ho hn
    go_enter Try.func37, Try.ntmps37
    go_wp2
    refine wp_loop_rounds 1 ?_
    rw [rounds_succ]
    go_wp2
    go_ret
    exact ⟨rfl, HO.out, World.grownBy.refl _ _⟩
  · have HOW := Lib.hid hown
    obtain ⟨n, hnl⟩ : ∃ n, n = l.length := ⟨_, rfl⟩
    rw [← hnl] at hk hn ⊢
    have HN := Lib.hid hnl
    have hmx : cap ≤ 9223372036854775807 := hc
    clear hh hs ht hown ho hnl hc
    go_enter Try.func37, Try.ntmps37
    go_wp2
    go_loopw [1, 5] (fun m i wr => ∃ j : Nat, j ≤ n ∧ i = .int .i64 (j : Int) ∧ m = .int .i64 ((k + 2 * j : Nat) : Int) ∧ Hid (wr.ownsRow base 54 2 (.slice (some ⟨g, 0, none⟩) n cap) n (celVals (mixC k j l))) ∧ Hid (w.grownBy wr (some g))) (fun _ i _ => n - (intOf i).toNat)
    case atStart => exact ⟨0, Nat.zero_le _, rfl, rfl, Lib.hid (by rw [mixC_zero]; have := HOW.out; unfold OwnC at this; rw [← HN.out] at this; exact this), Lib.hid (World.grownBy.refl _ _)⟩
    case round =>
      obtain ⟨j, hj, rfl, rfl, HO, HG⟩ := hrel
      by_cases hlt : j < n
      · obtain ⟨q, hq⟩ : ∃ q, q = k + 2 * j := ⟨_, rfl⟩
        have hq0 : 0 < q := by omega
        have hq1 : q ≤ 900000000 := by omega
        have HST := Lib.hid (mixC_step k j l (by rw [← HN.out]; exact hlt))
        rw [← hq] at HST ⊢
        have HQ := Lib.hid hq
        have HMT := Lib.hid (fun W => markText_any q W hq0 (by omega))
        clear hq
        go_wp2_with fail
        refine (HMT.out _).mono ?_
        rintro e w1 ⟨rfl, hb1⟩
        have HO1 := Lib.hid (own_below HO.out hb1)
        have hl1 : (celVals (mixC k j l)).length = 2 * n := by rw [celVals_length, mixC_length k j l (by rw [← HN.out]; omega), ← HN.out]
        obtain ⟨u, c1⟩ : ∃ u, w1.cell? ⟨g, j * 2, none⟩ = some u := ⟨_, (HO1.out.cellAt (j * 2) (by omega)).trans (List.getElem?_eq_getElem (by omega))⟩
        obtain ⟨u2, c2⟩ : ∃ u, w1.cell? ⟨g, j * 2 + 1, none⟩ = some u := ⟨_, (HO1.out.cellAt (j * 2 + 1) (by omega)).trans (List.getElem?_eq_getElem (by omega))⟩
        have f1 : w1.frozen? ⟨g, j * 2, none⟩ = false := HO1.out.frozenAt _
        have f2 : w1.frozen? ⟨g, j * 2 + 1, none⟩ = false := HO1.out.frozenAt _
        have HS1 := Lib.hid (HO1.out.stored (j * 2) (.string (markB q)))
        have HS2 := Lib.hid (HS1.out.1.stored (j * 2 + 1) (.int .i64 ((q + 1 : Nat) : Int)))
        have HG1 := Lib.hid (only_trans (only_trans (only_below HG.out hb1) HS1.out.2) HS2.out.2)
        clear hb1 hl1
        go_wp2_with fail
        go_roundw
        case rel => exact ⟨j + 1, by omega, by go_num, by rw [HQ.out]; go_num, Lib.hid (by rw [← HST.out]; exact HS2.out.1), HG1⟩
        case measure => simp [intOf]; omega
      · obtain rfl : j = n := by omega
        go_wp2_with fail
        go_ret
        exact ⟨rfl, by have h1 := HO.out; rw [HN.out, mixC_all, ← HN.out] at h1; unfold OwnC; rw [mkC_length]; exact h1, HG.out⟩
set_option maxRecDepth 100000 in
set_option maxHeartbeats 2000000 in
theorem markLineS_any (base k : Nat) (v : Value) (ls : List Ln) (w : World) (hown : OwnL w base none v ls) (hbase : base ≤ w.heap.size) (h0 : 0 < k) (hk : k + 2 * totL ls + 3 * ls.length ≤ 300000000) :
    Calls Try.prog 15 #[v, .int .i64 (k : Int)] w fun e w' => e = .returned (.int .i64 ((endK k ls : Nat) : Int)) ∧ OwnL w' base none v (mkLs k ls) ∧ Below base w w' ∧ (∀ e, 54 ≠ e → 56 ≠ e → Keeps w w' e) := by
  obtain ⟨vs, hvl, how, hin⟩ := hown
  have HIN0 := Lib.hid hin
  have HVL := Lib.hid hvl
  rcases how.2 with ⟨rfl, hn⟩ | ⟨g, cap, cur, rfl, hb, hh, hn, hc, hs, ht⟩
  · have he : ls = [] := List.length_eq_zero_iff.1 hn
    subst he
    have HO := Lib.hid how
    clear how hn hin hvl
    go_enter Try.func15, Try.ntmps15
    go_wp2
    refine wp_loop_rounds 1 ?_
    rw [rounds_succ]
    go_wp2
    go_ret
    exact ⟨rfl, ⟨vs, HVL.out, HO.out, HIN0.out⟩, Below.refl _ _, fun e _ _ g cs hg => hg⟩
  · have HOW := Lib.hid how
    have HKL := Lib.hid (fun j => endK_take_le k j ls)
    have HKE : Hid (endK k ls ≤ 300000000) := Lib.hid (Nat.le_trans (endK_le k ls) hk)
    have HTL := Lib.hid (fun l (h : l ∈ ls) => totL_mem ls l h)
    have htot : totL ls ≤ 150000000 := by omega
    obtain ⟨n, hnl⟩ : ∃ n, n = ls.length := ⟨_, rfl⟩
    rw [← hnl] at hn hk HKL HOW ⊢
    have HN := Lib.hid hnl
    have HK := Lib.hid hk
    have hmx : cap ≤ 9223372036854775807 := hc
    clear hh hs ht how hnl hc hin hvl hk
    go_enter Try.func15, Try.ntmps15
    go_wp2
    go_loopw [1, 5] (fun m i wr => ∃ j : Nat, j ≤ n ∧ i = .int .i64 (j : Int) ∧ m = .int .i64 ((endK k (ls.take j) : Nat) : Int) ∧ Hid (wr.ownsRow base 56 4 (.slice (some ⟨g, 0, none⟩) n cap) n (lnVals vs (mixL k j ls))) ∧ Hid (InC wr base none vs (mixL k j ls)) ∧ Hid (Below base w wr) ∧ Hid (∀ e, 54 ≠ e → 56 ≠ e → Keeps w wr e)) (fun _ i _ => n - (intOf i).toNat)
    case atStart => exact ⟨0, Nat.zero_le _, rfl, rfl, Lib.hid (by rw [mixL_zero]; exact HOW.out), Lib.hid (by rw [mixL_zero]; exact HIN0.out), Lib.hid (Below.refl _ _), Lib.hid (fun e _ _ g cs hg => hg)⟩
    case round =>
      obtain ⟨j, hj, rfl, rfl, HO, HI, HBE, HKE2⟩ := hrel
      by_cases hlt : j < n
      · have hjl : j < ls.length := by rw [← HN.out]; exact hlt
        have HST := Lib.hid (mixL_step k j ls hjl)
        have HML := Lib.hid (mixL_length k j ls (by omega))
        have HGE := Lib.hid (mixL_get k j ls hjl)
        have HTK := Lib.hid (endK_take k j ls hjl)
        have hq0 : 0 < endK k (ls.take j) := Nat.lt_of_lt_of_le h0 (endK_ge k _)
        have hq1 : endK k (ls.take j) ≤ 300000000 := Nat.le_trans (HKL.out j) HK.out
        have hmem := HTL.out ls[j] (List.getElem_mem hjl)
        obtain ⟨q, hq⟩ : ∃ q, q = endK k (ls.take j) := ⟨_, rfl⟩
        rw [← hq] at HST HTK hq0 hq1 ⊢
        obtain ⟨ld, hld⟩ : ∃ ld, ld = ls[j] := ⟨_, rfl⟩
        rw [← hld] at HST HGE HTK hmem
        obtain ⟨u, hu⟩ : ∃ u, vs[j]? = some u := ⟨_, List.getElem?_eq_getElem (by rw [HVL.out]; exact hjl)⟩
        have HU := Lib.hid hu
        have HMT := Lib.hid (fun y W (h : 0 < y ∧ y ≤ 900000000) => markText_any y W h.1 (by omega))
        have hgets := lnVals_get vs (mixL k j ls) j u ld hu HGE.out
        have HVM : Hid (vs.length = (mixL k j ls).length) := Lib.hid (by rw [HVL.out, HML.out])
        have hlm : (mixL k j ls).length = n := by rw [HML.out, HN.out]
        have hlv : (lnVals vs (mixL k j ls)).length = 4 * n := by rw [lnVals_length _ _ HVM.out, hlm]
        have HLV := Lib.hid hlv
        have c0 : wr.cell? ⟨g, j * 4, none⟩ = some u := (HO.out.cellAt (j * 4) (by omega)).trans hgets.1
        have HMC := Lib.hid (fun W (h : OwnC W base u ld.cells) => markCellS_any base q u ld.cells W h hq0 (by omega))
        have HSB := Lib.hid (HI.out.1 j u ld hu HGE.out).1
        clear hq hld hu hgets hlv hlm
        obtain ⟨lc, lt, lf⟩ := ld
        simp only at hmem HMC HSB
        obtain ⟨z, hz⟩ : ∃ z, z = lc.length := ⟨_, rfl⟩
        have hzq : z ≤ 150000000 := by omega
        rw [← hz] at HMC
        have HZ := Lib.hid hz
        clear hz hmem
        go_wp2_with fail
        refine (HMC.out _ HSB.out).mono ?_
        rintro e w1 ⟨rfl, ho1, hg1⟩
        have hsb : wr.ownsRow base 54 2 u lc.length (celVals lc) := HSB.out
        have HO1 := Lib.hid (own_keeps HO.out (Keeps.grown hsb (by decide) hg1))
        have HI1 := Lib.hid (HI.out.put (l := mkLn q ⟨lc, lt, lf⟩) HU.out hg1 (by unfold mkLn; rw [← HZ.out]; exact ho1))
        have HB1 := Lib.hid (HBE.out.grown hg1 (Nat.le_trans hbase HBE.out.size) (fun k hk => (World.ownsRow.lt hsb k hk).1))
        have hlt2 : q + 2 * z ≤ 900000000 := by omega
        have hlt3 : 0 < q + 2 * z := by omega
        have HMT2 := Lib.hid (fun W => HMT.out (q + 2 * z) W ⟨hlt3, hlt2⟩)
        obtain ⟨y, hy⟩ : ∃ y, y = q + 2 * z := ⟨_, rfl⟩
        rw [← hy] at HMT2 hlt2 hlt3
        have HY := Lib.hid hy
        rw [← hy]
        have HKP1 := Lib.hid (fun e (h1 : 54 ≠ e) (h2 : 56 ≠ e) => (HKE2.out e h1 h2).trans (Keeps.grown hsb h1 hg1))
        clear hsb ho1 hg1 hy c0
        go_wp2_with fail
        refine (HMT2.out _).mono ?_
        rintro e w2 ⟨rfl, hb2⟩
        have HO2 := Lib.hid (own_below HO1.out hb2)
        have HI2 := Lib.hid (HI1.out.keeps (.below _ hb2))
        have HB2 := Lib.hid (HB1.out.trans (hb2.mono (Nat.le_trans hbase HB1.out.size)))
        have hlv := HLV.out
        obtain ⟨u1, c1⟩ : ∃ u, w2.cell? ⟨g, j * 4 + 1, none⟩ = some u := ⟨_, (HO2.out.cellAt (j * 4 + 1) (by omega)).trans (List.getElem?_eq_getElem (by omega))⟩
        obtain ⟨u2, c2⟩ : ∃ u, w2.cell? ⟨g, j * 4 + 2, none⟩ = some u := ⟨_, (HO2.out.cellAt (j * 4 + 2) (by omega)).trans (List.getElem?_eq_getElem (by omega))⟩
        obtain ⟨u3, c3⟩ : ∃ u, w2.cell? ⟨g, j * 4 + 3, none⟩ = some u := ⟨_, (HO2.out.cellAt (j * 4 + 3) (by omega)).trans (List.getElem?_eq_getElem (by omega))⟩
        have f1 : w2.frozen? ⟨g, j * 4 + 1, none⟩ = false := HO2.out.frozenAt _
        have f2 : w2.frozen? ⟨g, j * 4 + 2, none⟩ = false := HO2.out.frozenAt _
        have f3 : w2.frozen? ⟨g, j * 4 + 3, none⟩ = false := HO2.out.frozenAt _
        have HS1 := Lib.hid (HO2.out.stored (j * 4 + 1) (.string (markB y)))
        have HS2 := Lib.hid (HS1.out.1.stored (j * 4 + 2) (.int .i64 ((y + 1 : Nat) : Int)))
        have HS3 := Lib.hid (HS2.out.1.stored (j * 4 + 3) (.int .i64 ((y + 2 : Nat) : Int)))
        have hlset := lnVals_set vs (mixL k j ls) j (mkLn q ⟨lc, lt, lf⟩) (by rw [HML.out]; exact hjl) HVM.out
        have HLS : Hid ((((lnVals vs (mixL k j ls)).set (j * 4 + 1) (.string (markB y))).set (j * 4 + 2) (.int .i64 ((y + 1 : Nat) : Int))).set (j * 4 + 3) (.int .i64 ((y + 2 : Nat) : Int)) = lnVals vs (mixL k (j + 1) ls)) := Lib.hid (by
          rw [← HST.out, ← hlset, HY.out, HZ.out]; rfl)
        have HI3 := Lib.hid (((HI2.out.keeps (.grown (v := .slice (some ⟨g, 0, none⟩) n cap) HO2.out (by decide) HS1.out.2)).keeps (.grown (v := .slice (some ⟨g, 0, none⟩) n cap) HS1.out.1 (by decide) HS2.out.2)).keeps (.grown (v := .slice (some ⟨g, 0, none⟩) n cap) HS2.out.1 (by decide) HS3.out.2))
        rw [HST.out] at HI3
        have HKP3 := Lib.hid (fun e (h1 : 54 ≠ e) (h2 : 56 ≠ e) => ((((HKP1.out e h1 h2).trans (.below e hb2)).trans (.grown (v := .slice (some ⟨g, 0, none⟩) n cap) HO2.out h2 HS1.out.2)).trans (.grown (v := .slice (some ⟨g, 0, none⟩) n cap) HS1.out.1 h2 HS2.out.2)).trans (.grown (v := .slice (some ⟨g, 0, none⟩) n cap) HS2.out.1 h2 HS3.out.2))
        have HB3 := Lib.hid (((HB2.out.setCell (p := ⟨g, j * 4 + 1, none⟩) hb (.string (markB y))).setCell (p := ⟨g, j * 4 + 2, none⟩) hb (.int .i64 ((y + 1 : Nat) : Int))).setCell (p := ⟨g, j * 4 + 3, none⟩) hb (.int .i64 ((y + 2 : Nat) : Int)))
        obtain ⟨x, hx⟩ : ∃ x, x = markB y := ⟨_, rfl⟩
        rw [← hx] at HLS HI3 HB3 HS3 HKP3 ⊢
        clear hlv hlset hb2 hx
        go_wp2_with fail
        go_roundw
        case rel => exact ⟨j + 1, by omega, by go_num, by rw [HTK.out]; unfold nextK; rw [← HZ.out, ← HY.out]; go_num, Lib.hid (by rw [← HLS.out]; exact HS3.out.1), HI3, HB3, HKP3⟩
        case measure => simp [intOf]; omega
      · obtain rfl : j = n := by omega
        go_wp2_with fail
        go_ret
        refine ⟨ret_int (by rw [HN.out, List.take_length]), ⟨vs, ?_, ?_, ?_⟩, HBE.out, HKE2.out⟩
        · rw [HVL.out, mkLs_length]
        · have := HO.out; rw [HN.out, mixL_all, ← HN.out] at this; rw [mkLs_length, ← HN.out]; exact this
        · have := HI.out; rw [HN.out, mixL_all] at this; exact this
end Go.Proofs.Ytdihoofhbkafoaa
