/- Column blocks: the model's. -/
import Derived.Test.YtjdbkpckhgncbaaDoorBlkL
import Derived.Test.YtjdbkpckhgncbaaDoorBB
import Derived.Deep.RegionHeld3
namespace Go.Proofs.YtjdbkpckhgncbaaDoor
open Go.RowKit
set_option linter.unusedVariables false

/-! ### blocks in memory -/
def bkVals (l : List Bk) : List Value := l.flatMap fun b => [.int .i64 b.col, .int .i64 b.frm, .int .i64 b.to, .int .i64 b.wid]
theorem bkVals_append (a b : List Bk) : bkVals (a ++ b) = bkVals a ++ bkVals b := by simp [bkVals]
theorem bkVals_snoc (l : List Bk) (b : Bk) : bkVals (l ++ [b]) = bkVals l ++ [.int .i64 b.col, .int .i64 b.frm, .int .i64 b.to, .int .i64 b.wid] := by simp [bkVals]
theorem bkVals_cons (b : Bk) (r : List Bk) : bkVals (b :: r) = .int .i64 b.col :: .int .i64 b.frm :: .int .i64 b.to :: .int .i64 b.wid :: bkVals r := rfl
theorem bkVals_length (l : List Bk) : (bkVals l).length = 4 * l.length := by
  induction l with
  | nil => rfl
  | cons c r ih => rw [bkVals_cons]; simp only [List.length_cons]; omega
theorem bkVals_get (l : List Bk) (j : Nat) (b : Bk) (h : l[j]? = some b) : (bkVals l)[j * 4]? = some (.int .i64 b.col) ∧ (bkVals l)[j * 4 + 1]? = some (.int .i64 b.frm) ∧ (bkVals l)[j * 4 + 2]? = some (.int .i64 b.to) ∧ (bkVals l)[j * 4 + 3]? = some (.int .i64 b.wid) := by
  induction l generalizing j with
  | nil => simp at h
  | cons d r ih =>
    cases j with
    | zero => simp at h; subst h; simp [bkVals_cons]
    | succ j =>
      have hx := ih j (by simpa using h)
      have e1 : (j + 1) * 4 = j * 4 + 1 + 1 + 1 + 1 := by omega
      rw [bkVals_cons, e1]
      exact hx
def OwnB (W : World) (base : Nat) (v : Value) (l : List Bk) : Prop := W.ownsRow base 77 4 v l.length (bkVals l)
/-- The slice value v reads as the blocks l. -/
def BkAt (w : World) (g o : Nat) (b : Bk) : Prop := w.cell? ⟨g, o, none⟩ = some (.int .i64 b.col) ∧ w.cell? ⟨g, o + 1, none⟩ = some (.int .i64 b.frm) ∧ w.cell? ⟨g, o + 2, none⟩ = some (.int .i64 b.to) ∧ w.cell? ⟨g, o + 3, none⟩ = some (.int .i64 b.wid)
def RdB (w : World) (v : Value) (l : List Bk) : Prop :=
  ∃ (A : Option Addr) (cap : Nat), v = .slice A l.length cap ∧ (0 < l.length → ∃ g o, A = some ⟨g, o, none⟩ ∧ g < w.heap.size ∧ ∀ j c, l[j]? = some c → BkAt w g (o + j * 4) c)
theorem RdB.below {w w' : World} {v : Value} {l : List Bk} (h : RdB w v l) (hb : Below w.heap.size w w') : RdB w' v l := by
  obtain ⟨A, c, hv, hc⟩ := h
  refine ⟨A, c, hv, fun h0 => ?_⟩
  obtain ⟨g, o, hA, hg, hcell⟩ := hc h0
  refine ⟨g, o, hA, by have := hb.size; omega, fun j u hu => ?_⟩
  obtain ⟨p0, p1, p2, p3⟩ := hcell j u hu
  exact ⟨(hb.cell (p := ⟨g, _, none⟩) hg).trans p0, (hb.cell (p := ⟨g, _, none⟩) hg).trans p1, (hb.cell (p := ⟨g, _, none⟩) hg).trans p2, (hb.cell (p := ⟨g, _, none⟩) hg).trans p3⟩
theorem OwnB.rd {W : World} {base : Nat} {v : Value} {l : List Bk} (h : OwnB W base v l) : RdB W v l := by
  have h0 : W.ownsRow base 77 4 v l.length (bkVals l) := h
  rcases h0.2 with ⟨rfl, hn⟩ | ⟨g, cap, cur, rfl, hb, hg, _⟩
  · refine ⟨none, 0, by rw [hn], fun h1 => ?_⟩
    omega
  · refine ⟨_, cap, rfl, fun _ => ⟨g, 0, rfl, (Array.getElem?_eq_some_iff.1 hg).1, fun j c hj => ?_⟩⟩
    have hjl : j < l.length := (List.getElem?_eq_some_iff.1 hj).1
    obtain ⟨a, b, c', d⟩ := bkVals_get l j c hj
    refine ⟨?_, ?_, ?_, ?_⟩ <;> rw [Nat.zero_add, World.ownsRow.cellAt h0 _ (by omega)] <;> assumption
theorem OwnB.nil (W : World) (base : Nat) : OwnB W base (.slice none 0 0) [] := World.ownsRow_nil W base _ 4
set_option maxRecDepth 100000 in
theorem specMax (a b : Int) (w : World) :
    Calls Tryd.prog 101 #[.int .i64 a, .int .i64 b] w fun e w' => e = .returned (.int .i64 (max a b)) ∧ w = w' := by
  by_cases h : b < a
  · have HE := Lib.hid (show max a b = a by omega)
    go_enter Tryd.func101, Tryd.ntmps101
    go_wp2
    go_ret
    exact ⟨ret_int HE.out.symm, rfl⟩
  · have HE := Lib.hid (show max a b = b by omega)
    go_enter Tryd.func101, Tryd.ntmps101
    go_wp2
    go_ret
    exact ⟨ret_int HE.out.symm, rfl⟩
theorem tabs_wide (n t : Int) (h0 : 0 ≤ n) (h1 : n ≤ 4000000) (h2 : 1 ≤ t) (h3 : t ≤ 32) : 0 ≤ (n + t - 1) / t ∧ (n + t - 1) / t ≤ n ∧ n ≤ (n + t - 1) / t * t ∧ (n + t - 1) / t * t ≤ 4000031 := by
  have e1 := Int.ediv_mul_le (n + t - 1) (show t ≠ 0 by omega)
  have e0 : 0 ≤ (n + t - 1) / t := Int.ediv_nonneg (by omega) (by omega)
  have e2 : (n + t - 1) / t ≤ n := by
    by_cases hn : n = 0
    · have : (n + t - 1) / t = 0 := Int.ediv_eq_zero_of_lt (by omega) (by omega)
      omega
    · refine Int.ediv_le_of_le_mul (by omega) ?_
      obtain ⟨k, rfl⟩ : ∃ k, n = k + 1 := ⟨n - 1, by omega⟩
      obtain ⟨u, rfl⟩ : ∃ u, t = u + 1 := ⟨t - 1, by omega⟩
      have : 0 ≤ k * u := Int.mul_nonneg (by omega) (by omega)
      have e : (k + 1) * (u + 1) = k * u + k + u + 1 := by rw [Int.add_mul, Int.mul_add]; omega
      omega
  have e3 := Int.emod_add_ediv_mul (n + t - 1) t
  have e4 := Int.emod_lt_of_pos (n + t - 1) (show 0 < t by omega)
  have e5 := Int.emod_nonneg (n + t - 1) (show t ≠ 0 by omega)
  refine ⟨e0, e2, by omega, by omega⟩
theorem roundI_bd (c : Cfg) (n : Int) (hv : validC c = true) (h0 : 0 ≤ n) (h1 : n ≤ 4000000) : n ≤ roundI c n ∧ roundI c n ≤ 4000031 := by
  have ht := (validC_iff c).1 hv
  have := tabs_wide n c.ctab h0 h1 (by omega) (by omega)
  unfold roundI
  split <;> omega
set_option maxRecDepth 100000 in
set_option maxHeartbeats 1000000 in
theorem specRoundI (c : Cfg) (n : Int) (w : World) (hv : validC c = true) (h0 : 0 ≤ n) (h1 : n ≤ 4000000) :
    Calls Tryd.prog 102 #[.agg (cfgV c), .int .i64 n] w fun e w' => e = .returned (.int .i64 (roundI c n)) ∧ Below w.heap.size w w' := by
  have ht := (validC_iff c).1 hv
  unfold roundI
  clear hv
  obtain ⟨m, t, p, d, fr, fd, fl, fe, fm⟩ := c
  simp only at ht ⊢
  have ht1 : 1 ≤ t := by omega
  have ht2 : t ≤ 32 := by omega
  clear ht
  unfold cfgV
  obtain ⟨b1, b2, b3, b4⟩ := tabs_wide n t h0 h1 ht1 ht2
  by_cases h9 : d = 9
  · have e9 : (d == 9) = true := by simp [h9]
    rw [if_pos h9]
    clear h9
    go_enter Tryd.func102, Tryd.ntmps102
    go_wp2_with fail
    go_quiet (fail)
    go_wp2
    go_ret
    exact ⟨rfl, below_drewN (by go_grown) _⟩
  · have e9 : (d == 9) = false := by simp [h9]
    rw [if_neg h9]
    clear h9
    go_enter Tryd.func102, Tryd.ntmps102
    go_wp2
    go_ret
    exact ⟨rfl, by go_grown⟩
theorem begB_no {ls : List Ln} {i k : Nat} (h : ¬ k < cellsN ls i) : begB ls i k = false := by unfold begB; simp [h]
theorem begB_first {ls : List Ln} {k : Nat} (h : k < cellsN ls 0) : begB ls 0 k = true := by unfold begB; simp [h]
theorem begB_prev {ls : List Ln} {i k : Nat} (h : k < cellsN ls i) (h0 : i ≠ 0) : begB ls i k = (decide (cellsN ls (i - 1) ≤ k) || decide (finN ls (i - 1) = 12)) := by unfold begB; simp [h, h0]
set_option maxRecDepth 100000 in
set_option maxHeartbeats 1000000 in
theorem specBegins_zero (ls : List Ln) (k : Nat) (v : Value) (w : World) (hv : RdL w v ls) (hm : FitW ls) (hi : 0 < ls.length) (hk : k ≤ 1000000000) :
    Calls Tryd.prog 84 #[v, .int .i64 0, .int .i64 (k : Int)] w fun e w' => e = .returned (.bool (begB ls 0 k)) ∧ w = w' := by
  obtain ⟨A, ca, rfl, hA⟩ := hv
  obtain ⟨g, o, rfl, hgl, hcc⟩ := hA (by omega)
  obtain ⟨⟨v1, p0, hr1⟩, _⟩ := hcc 0 _ (List.getElem?_eq_getElem hi)
  have hlen := hm.1
  have hn1 := cellsN_lt ls 0 hi
  obtain ⟨A1, c1, rfl, _⟩ := hr1
  have ht1 := totL_mem ls _ (List.getElem_mem hi)
  have htot := hm.2
  rw [← hn1] at p0 ht1
  have hb1 : cellsN ls 0 ≤ 100000000 := by omega
  have HE1 := Lib.hid (fun h => begB_first (ls := ls) (k := k) h)
  have HE0 := Lib.hid (fun h => begB_no (ls := ls) (i := 0) (k := k) h)
  obtain ⟨n1, hn⟩ : ∃ n, n = cellsN ls 0 := ⟨_, rfl⟩
  rw [← hn] at p0 hb1 HE1 HE0
  obtain ⟨n, hnn⟩ : ∃ n, n = ls.length := ⟨_, rfl⟩
  rw [← hnn] at hlen hi ⊢
  have i1 : (0 : Int) < (n : Int) := by omega
  simp only [Nat.zero_mul, Nat.add_zero] at p0
  clear hA hcc hn hnn hn1 hm ht1 htot
  by_cases hki : k < n1
  · have HE := Lib.hid (HE1.out hki)
    go_enter Tryd.func84, Tryd.ntmps84
    go_wp2
    go_ret
    exact ⟨ret_bool HE.out.symm, rfl⟩
  · have HE := Lib.hid (HE0.out hki)
    go_enter Tryd.func84, Tryd.ntmps84
    go_wp2
    go_ret
    exact ⟨ret_bool HE.out.symm, rfl⟩
set_option maxRecDepth 100000 in
set_option maxHeartbeats 1000000 in
theorem specBegins_succ (ls : List Ln) (j k : Nat) (v : Value) (w : World) (hv : RdL w v ls) (hm : FitW ls) (hi : j + 1 < ls.length) (hk : k ≤ 1000000000) :
    Calls Tryd.prog 84 #[v, .int .i64 ((j + 1 : Nat) : Int), .int .i64 (k : Int)] w fun e w' => e = .returned (.bool (begB ls (j + 1) k)) ∧ w = w' := by
  obtain ⟨A, ca, rfl, hA⟩ := hv
  obtain ⟨g, o, rfl, hgl, hcc⟩ := hA (by omega)
  have hi' : j < ls.length := by omega
  obtain ⟨⟨v1, p0, hr1⟩, _⟩ := hcc (j + 1) _ (List.getElem?_eq_getElem hi)
  obtain ⟨⟨v2, q0, hr2⟩, _, _, q3⟩ := hcc j _ (List.getElem?_eq_getElem hi')
  have hlen := hm.1
  have htot := hm.2
  have hn1 := cellsN_lt ls (j + 1) hi
  have hn2 := cellsN_lt ls j hi'
  have hf2 := finN_lt ls j hi'
  obtain ⟨A1, c1, rfl, _⟩ := hr1
  obtain ⟨A2, c2, rfl, _⟩ := hr2
  have ht1 := totL_mem ls _ (List.getElem_mem hi)
  have ht2 := totL_mem ls _ (List.getElem_mem hi')
  rw [← hn1] at p0 ht1
  rw [← hn2] at q0 ht2
  rw [← hf2] at q3
  have hb1 : cellsN ls (j + 1) ≤ 100000000 := by omega
  have hb2 : cellsN ls j ≤ 100000000 := by omega
  have HE0 := Lib.hid (fun h => begB_no (ls := ls) (i := j + 1) (k := k) h)
  have HE1 := Lib.hid (fun h => begB_prev (ls := ls) (i := j + 1) (k := k) h (Nat.succ_ne_zero j))
  simp only [Nat.add_sub_cancel] at HE1
  obtain ⟨n1, hn⟩ : ∃ n, n = cellsN ls (j + 1) := ⟨_, rfl⟩
  rw [← hn] at p0 hb1 HE0 HE1
  obtain ⟨n2, hn'⟩ : ∃ n, n = cellsN ls j := ⟨_, rfl⟩
  rw [← hn'] at q0 hb2 HE1
  obtain ⟨f, hf⟩ : ∃ f, f = finN ls j := ⟨_, rfl⟩
  rw [← hf] at q3 HE1
  obtain ⟨n, hnn⟩ : ∃ n, n = ls.length := ⟨_, rfl⟩
  rw [← hnn] at hlen hi hi' ⊢
  have i0 : (0 : Int) ≤ ((j + 1 : Nat) : Int) := by omega
  have i1 : ((j + 1 : Nat) : Int) < (n : Int) := by omega
  have j0 : (0 : Int) ≤ (j : Int) := by omega
  have j1 : (j : Int) < (n : Int) := by omega
  have e0 : (((j + 1 : Nat) : Int) == 0) = false := by simp; omega
  have hw : ((j + 1 : Nat) : Int) - 1 = (j : Int) := by omega
  clear hA hcc hn hnn hn1 hn2 hf2 hn' hf hm ht1 ht2 htot
  by_cases hki : k < n1
  · have HE := Lib.hid (HE1.out hki)
    by_cases hle : n2 ≤ k
    · have HE2 : Hid (begB ls (j + 1) k = true) := Lib.hid (by rw [HE.out]; simp [hle])
      go_enter Tryd.func84, Tryd.ntmps84
      go_wp2
      go_ret
      exact ⟨ret_bool HE2.out.symm, rfl⟩
    · by_cases hf12 : f = 12
      · have HE2 : Hid (begB ls (j + 1) k = true) := Lib.hid (by rw [HE.out]; simp [hf12])
        subst hf12
        go_enter Tryd.func84, Tryd.ntmps84
        go_wp2
        go_ret
        exact ⟨ret_bool HE2.out.symm, rfl⟩
      · have HE2 : Hid (begB ls (j + 1) k = false) := Lib.hid (by rw [HE.out]; simp [hle, hf12])
        have e12 : (f == 12) = false := by simp [hf12]
        clear hf12
        go_enter Tryd.func84, Tryd.ntmps84
        go_wp2
        go_ret
        exact ⟨ret_bool HE2.out.symm, rfl⟩
  · have HE := Lib.hid (HE0.out hki)
    go_enter Tryd.func84, Tryd.ntmps84
    go_wp2
    go_ret
    exact ⟨ret_bool HE.out.symm, rfl⟩
theorem specBegins (ls : List Ln) (i k : Nat) (v : Value) (w : World) (hv : RdL w v ls) (hm : FitW ls) (hi : i < ls.length) (hk : k ≤ 1000000000) :
    Calls Tryd.prog 84 #[v, .int .i64 (i : Int), .int .i64 (k : Int)] w fun e w' => e = .returned (.bool (begB ls i k)) ∧ w = w' := by
  cases i with
  | zero => exact specBegins_zero ls k v w hv hm hi hk
  | succ j => exact specBegins_succ ls j k v w hv hm hi hk
end Go.Proofs.YtjdbkpckhgncbaaDoor
