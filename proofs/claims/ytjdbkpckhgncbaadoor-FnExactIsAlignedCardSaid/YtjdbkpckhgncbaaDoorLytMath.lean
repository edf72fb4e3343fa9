/- What FnLayout asks of the numbers: plain words. No walk. -/
import Derived.Test.YtjdbkpckhgncbaaDoorLayMath
import Derived.Test.YtjdbkpckhgncbaaDoorLayB
namespace Go.Proofs.YtjdbkpckhgncbaaDoor
open Go.RowKit
set_option linter.unusedVariables false

/-- The greatest of the first k, and of 0. -/
def mostN (f : Nat → Int) : Nat → Int
  | 0 => 0
  | k + 1 => if mostN f k < f k then f k else mostN f k
/-- How wide line i of a layout is. -/
def lineN (c : Cfg) (ls : List Ln) (i : Nat) : Int := sumS c.fl (widF c ls i) + (match ls[i]? with | some l => l.tail.wid | none => 0)
/-- How wide a layout is. -/
def mostW (c : Cfg) (s : ByteArray) : Int := if validC c = true then mostN (lineN c (splitL c s)) (splitL c s).length else 0
theorem mostN_bd (f : Nat → Int) (M : Int) (hM : 0 ≤ M) : ∀ k, (∀ i, i < k → f i ≤ M) → 0 ≤ mostN f k ∧ mostN f k ≤ M
  | 0, _ => ⟨Int.le_refl _, hM⟩
  | k + 1, h => by
    have ih := mostN_bd f M hM k fun i hi => h i (by omega)
    have := h k (by omega)
    rw [mostN]
    split <;> omega
theorem split_wid (c : Cfg) (s : ByteArray) (hv : validC c = true) (i k : Nat) : cellW (splitL c s) i k ≤ 2 * (s.size : Int) := by
  unfold cellW
  by_cases hi : i < (splitL c s).length
  · rw [List.getElem?_eq_getElem hi]
    simp only
    by_cases hk : k < (splitL c s)[i].cells.length
    · rw [List.getElem?_eq_getElem hk]
      simp only
      have hl := List.getElem_mem hi
      have hx := List.getElem_mem hk
      have h1 := split_fine c s hv _ hl _ hx
      rw [cellWB_yes _ hv] at h1
      have h2 := celW_le c.fm (splitL c s)[i].cells[k].txt 0
      have h3 := totC_mem _ _ hx
      have h4 := totL_mem _ _ hl
      have h5 := (splitL_size c s).2
      omega
    · rw [List.getElem?_eq_none (by omega)]
      simp only
      omega
  · rw [List.getElem?_eq_none (by omega)]
    simp only
    omega
theorem tail_wid (c : Cfg) (s : ByteArray) (hv : validC c = true) (hfm : c.fm = false) (hfe : c.fe = false) (i : Nat) (hi : i < (splitL c s).length) : 0 ≤ (splitL c s)[i].tail.wid ∧ (splitL c s)[i].tail.wid ≤ 2 * (s.size : Int) := by
  have hm := List.getElem_mem hi
  have e := splitL_yes (c := c) s hv
  rw [hfe, hfm] at e
  have hfine := lines_fine false (fun b => (celW false b 0 : Int)) s.data.toList
  rw [← e] at hfine
  have f2 := (hfine _ hm).2.1
  have f3 : (splitL c s)[i].tail.wid = ((celW false (splitL c s)[i].tail.txt 0 : Nat) : Int) := f2
  have h2 := celW_le false (splitL c s)[i].tail.txt 0
  have h4 := totL_mem _ _ hm
  have h5 := (splitL_size c s).2
  omega
theorem layout_pack (c : Cfg) (s : ByteArray) (hv : validC c = true) (h46 : c.cpad = 46) (hfm : c.fm = false) (hfe : c.fe = false) (hs : s.size ≤ 108) :
    ∃ (ls : List Ln) (fW fS : Nat → List Int) (B T : Nat → ByteArray) (N : Nat → Int), splitL c s = ls ∧ widF c ls = fW ∧ slotF c ls = fS ∧ widN c ls = ls.length ∧ (ls.length ≤ 109 ∧ totL ls ≤ 108) ∧ 0 < ls.length ∧ FitL ls ∧
      T 0 = ⟨#[]⟩ ∧ T ls.length = layB c s ∧ T ls.length = layLinesB c ls ∧ mostW c s = mostN N ls.length ∧ (∀ k, k ≤ ls.length → 0 ≤ mostN N k ∧ mostN N k ≤ 1000000) ∧
      ∀ (k : Nat) (hk : k < ls.length), layLineB c ls[k] (fW k) = B k ∧ (B k).size ≤ 100000000 ∧ (T k).size ≤ 2000000000000 ∧ T (k + 1) = T k ++ B k ∧ (fW k).length = ls[k].cells.length ∧ (textB s = true → (textW (B k) : Int) = N k) ∧
        ∃ z : Nat, (fS k).length = z + 1 ∧ z = ls[k].cells.length ∧ (∀ x ∈ ls[k].cells, x.wid ≤ 9223372036854775807) ∧ ∃ q : Int, (fS k)[z]? = some q ∧ q + ls[k].tail.wid = N k ∧ 0 ≤ q ∧ q ≤ 100000 ∧ 0 ≤ ls[k].tail.wid ∧ ls[k].tail.wid ≤ 216 := by
  have hsz := splitL_size c s
  have hf := split_fits c s hv (by omega)
  have hfit : FitL (splitL c s) := ⟨by omega, by omega⟩
  have hw0 : ∀ i, ∀ n ∈ widF c (splitL c s) i, 0 ≤ n ∧ n ≤ 479 := fun i n hn => by
    have := widF_hi c (splitL c s) hv 216 (by omega) (fun i k => by have := split_wid c s hv i k; omega) i n hn
    omega
  have hN : ∀ k (hk : k < (splitL c s).length), lineN c (splitL c s) k = sumS c.fl (widF c (splitL c s) k) + (splitL c s)[k].tail.wid := fun k hk => by
    unfold lineN
    rw [List.getElem?_eq_getElem hk]
  have hq : ∀ k (hk : k < (splitL c s).length), 0 ≤ sumS c.fl (widF c (splitL c s) k) ∧ sumS c.fl (widF c (splitL c s) k) ≤ 100000 := fun k hk => by
    have h := sumS_bd c.fl (widF c (splitL c s) k) 479 (hw0 k) (widF c (splitL c s) k).length (Nat.le_refl _)
    rw [List.take_length] at h
    have hl := widF_len c (splitL c s) k
    omega
  refine ⟨splitL c s, widF c (splitL c s), slotF c (splitL c s), fun k => layLineB c ((splitL c s)[k]?.getD ⟨[], ⟨⟨#[]⟩, 0⟩, 0⟩) (widF c (splitL c s) k), fun k => ⟨(layTo c (splitL c s) k).toArray⟩, lineN c (splitL c s), rfl, rfl, rfl, ?_, ⟨by omega, by omega⟩, split_some c s hv, hfit, rfl, ?_, ?_, ?_, ?_, ?_⟩
  · unfold widN
    rw [hf, hv]
    rfl
  · show (⟨(layTo c (splitL c s) _).toArray⟩ : ByteArray) = _
    rw [layTo_all]
    rfl
  · show (⟨(layTo c (splitL c s) _).toArray⟩ : ByteArray) = _
    rw [layTo_all]
    unfold layLinesB
    rw [hf, hv]
    rfl
  · unfold mostW
    rw [if_pos hv]
  · intro k hk
    exact mostN_bd _ 1000000 (by omega) k fun i hi => by
      have a := hq i (by omega)
      have b := tail_wid c s hv hfm hfe i (by omega)
      rw [hN i (by omega)]
      omega
  · intro k hk
    have hg : (splitL c s)[k]?.getD ⟨[], ⟨⟨#[]⟩, 0⟩, 0⟩ = (splitL c s)[k] := by rw [List.getElem?_eq_getElem hk]; rfl
    have hcn : cellsN (splitL c s) k = (splitL c s)[k].cells.length := cellsN_lt _ k hk
    have hlen : (widF c (splitL c s) k).length = (splitL c s)[k].cells.length := by rw [widF_size, hcn]
    have hB : layLineB c (splitL c s)[k] (widF c (splitL c s) k) = ⟨(layLn c (splitL c s)[k] (widF c (splitL c s) k)).toArray⟩ := by
      refine layLineB_yes hv hlen ?_ ?_
      · unfold okWs
        rw [List.all_eq_true]
        intro n hn
        have := hw0 k n hn
        simp only [Bool.and_eq_true, decide_eq_true_eq]
        omega
      · unfold okCs
        rw [List.all_eq_true]
        intro x hx
        have := fits_cel hf k hk x hx
        simp only [decide_eq_true_eq]
        omega
    have hwl := wid_line c hv hf k hk
    have hln := layLn_len c hv (splitL c s)[k] (widF c (splitL c s) k) (fun j y n h1 h2 => by have := hwl j y n h1 h2; omega)
    have hmem := totL_mem _ _ (List.getElem_mem hk)
    have hTs := layTo_bd c hv hf hfit k (by omega)
    have a := hq k hk
    have b := tail_wid c s hv hfm hfe k hk
    refine ⟨by simp only [hg], ?_, ?_, ?_, hlen, fun ht => ?_, (splitL c s)[k].cells.length, ?_, rfl, ?_, sumS c.fl (widF c (splitL c s) k), ?_, ?_, a.1, a.2, b.1, by omega⟩
    · simp only [hg, hB]
      show (layLn c _ _).toArray.size ≤ _
      rw [List.size_toArray]
      omega
    · show (layTo c (splitL c s) k).toArray.size ≤ _
      rw [List.size_toArray]
      exact hTs
    · simp only [hg, hB]
      rw [layTo_succ c (splitL c s) k hk]
      apply ByteArray.ext
      simp
    · simp only [hg, hB]
      rw [hN k hk]
      refine text_line c s hv h46 hfm hfe ?_ k hk
      unfold textB at ht
      simpa using ht
    · rw [slotF_len, hcn]
    · intro x hx
      have := fits_cel hf k hk x hx
      omega
    · unfold slotF
      rw [← hlen]
      exact slotL_last c.fl _
    · rw [hN k hk]
end Go.Proofs.YtjdbkpckhgncbaaDoor
