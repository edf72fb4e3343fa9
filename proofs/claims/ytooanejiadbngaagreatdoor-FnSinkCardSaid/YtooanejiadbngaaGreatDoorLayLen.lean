/- How long a layout may be; line by line: plain words. No walk. -/
import Derived.Test.YtooanejiadbngaaGreatDoorSlots
import Derived.Test.YtooanejiadbngaaGreatDoorWidLay
import Derived.Test.YtooanejiadbngaaGreatDoorBB
namespace Go.Proofs.YtooanejiadbngaaGreatDoor
open Go.RowKit
set_option linter.unusedVariables false

theorem tabs_gen (n t : Int) (h0 : 0 ≤ n) (h2 : 1 ≤ t) (h3 : t ≤ 32) : 0 ≤ (n + t - 1) / t ∧ (n + t - 1) / t ≤ n ∧ n ≤ (n + t - 1) / t * t ∧ (n + t - 1) / t * t ≤ n + 31 := by
  have e1 := Int.ediv_mul_le (n + t - 1) (show t ≠ 0 by omega)
  have e0 : 0 ≤ (n + t - 1) / t := Int.ediv_nonneg (by omega) (by omega)
  have e2 : (n + t - 1) / t ≤ n := by
    by_cases hn : n = 0
    · have : (n + t - 1) / t = 0 := Int.ediv_eq_zero_of_lt (by omega) (by omega)
      omega
    · refine Int.ediv_le_of_le_mul (by omega) ?_
      obtain ⟨k, rfl⟩ : ∃ k, n = k + 1 := ⟨n - 1, by omega⟩
      obtain ⟨u, rfl⟩ : ∃ u, t = u + 1 := ⟨t - 1, by omega⟩
      have : 0 ≤ k * u := Int.mul_nonneg (by omega) (by omega)
      have e : (k + 1) * (u + 1) = k * u + k + u + 1 := by rw [Int.add_mul, Int.mul_add]; omega
      omega
  have e3 := Int.emod_add_ediv_mul (n + t - 1) t
  have e4 := Int.emod_lt_of_pos (n + t - 1) (show 0 < t by omega)
  exact ⟨e0, e2, by omega, by omega⟩
theorem fillL_len (c : Cfg) (n : Int) (hv : validC c = true) (h0 : 0 ≤ n) : ((fillL c n).length : Int) ≤ n := by
  have ht := (validC_iff c).1 hv
  unfold fillL
  split
  · have := tabs_gen n c.ctab h0 (by omega) (by omega)
    rw [List.length_replicate]
    omega
  · rw [List.length_replicate]
    omega
theorem layCels_take (c : Cfg) : ∀ (l : List Cel) (ws : List Int) (k : Nat) (h : k < l.length) (h' : k < ws.length), layCels c (l.take (k + 1)) (ws.take (k + 1)) = layCels c (l.take k) (ws.take k) ++ layCel c l[k] ws[k]
  | [], _, _, h, _ => absurd h (by simp)
  | _ :: _, [], _, _, h => absurd h (by simp)
  | x :: l, w :: ws, 0, _, _ => by simp [layCels]
  | x :: l, w :: ws, k + 1, h, h' => by
    have ih := layCels_take c l ws k (by simpa using h) (by simpa using h')
    simp only [List.take_succ_cons, layCels, List.getElem_cons_succ, List.append_assoc]
    rw [ih]
theorem layCel_len (c : Cfg) (x : Cel) (n : Int) (hv : validC c = true) (h1 : n ≤ 800000) (h2 : 0 ≤ x.wid) : (layCel c x n).length ≤ x.txt.size + 800001 := by
  have hf := fillL_len c (max (n - x.wid) 0) hv (by omega)
  have ht : x.txt.data.toList.length = x.txt.size := rfl
  unfold layCel
  rw [List.length_append]
  have h3 : (if c.fl = true then ([124] : List UInt8) else []).length ≤ 1 := by split <;> simp
  have h4 : (if c.fr = true then fillL c (max (n - x.wid) 0) ++ x.txt.data.toList else x.txt.data.toList ++ fillL c (max (n - x.wid) 0)).length ≤ x.txt.size + 800000 := by
    split <;> rw [List.length_append] <;> omega
  omega
theorem layCels_len (c : Cfg) (hv : validC c = true) : ∀ (l : List Cel) (ws : List Int), (∀ (k : Nat) y n, l[k]? = some y → ws[k]? = some n → n ≤ 800000 ∧ 0 ≤ y.wid) → (layCels c l ws).length ≤ totC l + l.length * 800001
  | [], [], _ => Nat.zero_le _
  | [], _ :: _, _ => Nat.zero_le _
  | _ :: _, [], _ => Nat.zero_le _
  | x :: l, w :: ws, h => by
    have ih := layCels_len c hv l ws (fun k y n h1 h2 => h (k + 1) y n (by simpa using h1) (by simpa using h2))
    obtain ⟨h1, h2⟩ := h 0 x w rfl rfl
    have h3 := layCel_len c x w hv h1 h2
    simp only [layCels, List.length_append, totC, List.length_cons]
    omega
theorem totC_take (l : List Cel) (k : Nat) : totC (l.take k) ≤ totC l := by
  induction l generalizing k with
  | nil => simp [totC]
  | cons x r ih =>
    cases k with
    | zero => simp [totC]
    | succ k => have := ih k; simp only [List.take_succ_cons, totC]; omega
theorem layCels_bd (c : Cfg) (hv : validC c = true) (l : List Cel) (ws : List Int) (h : ∀ (k : Nat) y n, l[k]? = some y → ws[k]? = some n → n ≤ 800000 ∧ 0 ≤ y.wid) (h1 : l.length ≤ 1048576) (h2 : totC l ≤ 1048576) (k : Nat) : (layCels c (l.take k) (ws.take k)).length ≤ 2000000000000 := by
  have a := layCels_len c hv (l.take k) (ws.take k) (fun j y n g1 g2 => by
    rw [List.getElem?_take] at g1 g2
    split at g1
    · rename_i hj
      rw [if_pos hj] at g2
      exact h j y n g1 g2
    · cases g1)
  have b := totC_take l k
  have d : (l.take k).length ≤ l.length := List.length_take_le' ..
  omega
/-- The first lines of a layout, laid with the blocks' widths. -/
def layTo (c : Cfg) (ls : List Ln) (k : Nat) : List UInt8 := layZip c (ls.take k) ((List.range k).map (widF c ls))
theorem layTo_zero (c : Cfg) (ls : List Ln) : layTo c ls 0 = [] := rfl
theorem layTo_succ (c : Cfg) (ls : List Ln) (k : Nat) (h : k < ls.length) : layTo c ls (k + 1) = layTo c ls k ++ layLn c ls[k] (widF c ls k) := by
  unfold layTo
  rw [List.take_succ_eq_append_getElem h, List.range_succ, List.map_append, layZip_append _ _ _ _ _ (by simp; omega)]
  simp [layZip]
theorem layTo_all (c : Cfg) (ls : List Ln) : layTo c ls ls.length = layAll c ls := by
  unfold layTo layAll
  rw [widthsL_all, List.take_length]
/-- What is asked of the widths of cells. -/
theorem fits_cel {ls : List Ln} (hf : fitsB ls = true) (i : Nat) (hi : i < ls.length) : ∀ y ∈ ls[i].cells, 0 ≤ y.wid ∧ y.wid ≤ 100000 := by
  intro y hy
  obtain ⟨k, hk, he⟩ := List.mem_iff_getElem.1 hy
  rw [← he]
  exact fitsB_wid hf i hi k hk
theorem wid_line (c : Cfg) {ls : List Ln} (hv : validC c = true) (hf : fitsB ls = true) (i : Nat) (hi : i < ls.length) : ∀ (k : Nat) y n, ls[i].cells[k]? = some y → (widF c ls i)[k]? = some n → 0 ≤ n ∧ n ≤ 800000 ∧ 0 ≤ y.wid ∧ y.wid ≤ 9223372036854775807 := by
  intro k y n h1 h2
  have a := widF_hi c ls hv 100000 (by omega) (fun i k => (cellW_pos hf i k).2) i n (List.mem_of_getElem? h2)
  have b := fits_cel hf i hi y (List.mem_of_getElem? h1)
  omega
theorem layLn_len (c : Cfg) (hv : validC c = true) (l : Ln) (ws : List Int) (h : ∀ (k : Nat) y n, l.cells[k]? = some y → ws[k]? = some n → n ≤ 800000 ∧ 0 ≤ y.wid) : (layLn c l ws).length ≤ (totC l.cells + l.tail.txt.size) + l.cells.length * 800001 + 1 := by
  have h1 := layCels_len c hv l.cells ws h
  have h2 : (if l.fin ≠ 0 then ([10] : List UInt8) else []).length ≤ 1 := by split <;> simp
  have h3 : l.tail.txt.data.toList.length = l.tail.txt.size := rfl
  unfold layLn
  rw [List.length_append, List.length_append]
  omega
theorem layTo_len (c : Cfg) {ls : List Ln} (hv : validC c = true) (hf : fitsB ls = true) : ∀ k, k ≤ ls.length → (layTo c ls k).length ≤ totL (ls.take k) * 800001 + k
  | 0, _ => Nat.zero_le _
  | k + 1, h => by
    have ih := layTo_len c hv hf k (by omega)
    have hl := layLn_len c hv ls[k] (widF c ls k) (fun j y n h1 h2 => by have := wid_line c hv hf k (by omega) j y n h1 h2; omega)
    have ht : totL (ls.take (k + 1)) = totL (ls.take k) + (ls[k].cells.length + totC ls[k].cells + ls[k].tail.txt.size) := by
      rw [List.take_succ_eq_append_getElem (by omega)]
      generalize ls.take k = a
      induction a with
      | nil => simp [totL]
      | cons x r ihr => simp only [List.cons_append, totL, ihr]; omega
    rw [layTo_succ c ls k (by omega), List.length_append, ht]
    omega
theorem layTo_bd (c : Cfg) {ls : List Ln} (hv : validC c = true) (hf : fitsB ls = true) (hm : FitL ls) (k : Nat) (hk : k ≤ ls.length) : (layTo c ls k).length ≤ 2000000000000 := by
  have h1 := layTo_len c hv hf k hk
  have h2 : totL (ls.take k) ≤ totL ls := totL_take ls k
  have h3 := hm.1
  have h4 := hm.2
  omega
end Go.Proofs.YtooanejiadbngaaGreatDoor
