/- What LayLine, LayLines and Layout answer: plain words. No walk. -/
import Derived.Test.YtooanejiadbngaaGreatDoorLayLen
import Derived.Test.YtooanejiadbngaaGreatDoorBlksMath
import Derived.Test.YtooanejiadbngaaGreatDoorBB
namespace Go.Proofs.YtooanejiadbngaaGreatDoor
open Go.RowKit
set_option linter.unusedVariables false

/-- What LayLine answers. -/
def okWs (ws : List Int) : Bool := ws.all fun n => decide (0 ≤ n) && decide (n ≤ 100200)
def okCs (l : List Cel) : Bool := l.all fun x => decide (0 ≤ x.wid)
def layLineB (c : Cfg) (l : Ln) (ws : List Int) : ByteArray := if validC c = true ∧ ws.length = l.cells.length ∧ okWs ws = true ∧ okCs l.cells = true then ⟨(layLn c l ws).toArray⟩ else ⟨#[]⟩
theorem layLineB_no {c : Cfg} {l : Ln} {ws : List Int} (h : validC c = false ∨ ws.length ≠ l.cells.length ∨ okWs ws = false ∨ okCs l.cells = false) : layLineB c l ws = ⟨#[]⟩ := if_neg (by
  rintro ⟨h1, h2, h3, h4⟩
  rcases h with h | h | h | h
  · rw [h1] at h; cases h
  · exact h h2
  · rw [h3] at h; cases h
  · rw [h4] at h; cases h)
theorem layLineB_yes {c : Cfg} {l : Ln} {ws : List Int} (h1 : validC c = true) (h2 : ws.length = l.cells.length) (h3 : okWs ws = true) (h4 : okCs l.cells = true) : layLineB c l ws = ⟨(layLn c l ws).toArray⟩ := if_pos ⟨h1, h2, h3, h4⟩
theorem okWs_take (ws : List Int) (k : Nat) (h : k < ws.length) : okWs (ws.take (k + 1)) = (okWs (ws.take k) && (decide (0 ≤ ws[k]) && decide (ws[k] ≤ 100200))) := by
  unfold okWs; rw [List.take_succ_eq_append_getElem h, List.all_append]; simp
theorem okCs_take (l : List Cel) (k : Nat) (h : k < l.length) : okCs (l.take (k + 1)) = (okCs (l.take k) && decide (0 ≤ l[k].wid)) := by
  unfold okCs; rw [List.take_succ_eq_append_getElem h, List.all_append]; simp
theorem okWs_bad (ws : List Int) (k : Nat) (h : k < ws.length) (hb : ¬ (0 ≤ ws[k] ∧ ws[k] ≤ 100200)) : okWs ws = false := by
  unfold okWs
  rw [List.all_eq_false]
  exact ⟨ws[k], List.getElem_mem h, by simpa [Bool.and_eq_true, decide_eq_true_eq] using hb⟩
theorem okCs_bad (l : List Cel) (k : Nat) (h : k < l.length) (hb : ¬ 0 ≤ l[k].wid) : okCs l = false := by
  unfold okCs
  rw [List.all_eq_false]
  exact ⟨l[k], List.getElem_mem h, by simpa using hb⟩
theorem okWs_get {ws : List Int} (h : okWs ws = true) (k : Nat) (n : Int) (hk : ws[k]? = some n) : 0 ≤ n ∧ n ≤ 100200 := by
  unfold okWs at h
  rw [List.all_eq_true] at h
  simpa using h n (List.mem_of_getElem? hk)
theorem okCs_get {l : List Cel} (h : okCs l = true) (k : Nat) (y : Cel) (hk : l[k]? = some y) : 0 ≤ y.wid := by
  unfold okCs at h
  rw [List.all_eq_true] at h
  simpa using h y (List.mem_of_getElem? hk)
/-- What LayLines answers. -/
def layLinesB (c : Cfg) (ls : List Ln) : ByteArray := if (fitsB ls && validC c) = true then ⟨(layAll c ls).toArray⟩ else ⟨#[]⟩
/-- The layout of a text. -/
def layB (c : Cfg) (s : ByteArray) : ByteArray := ⟨(layAll c (splitL c s)).toArray⟩
theorem layB_list (c : Cfg) (s : ByteArray) (hv : validC c = true) : (layB c s).data.toList = layoutL c (fun b => (celW c.fm b 0 : Int)) s.data.toList := by
  unfold layB layoutL
  rw [splitL_yes s hv]
theorem layB_size (c : Cfg) (s : ByteArray) (hv : validC c = true) (hs : s.size ≤ 50000) : (layB c s).size ≤ 2000000000000 := by
  have hsz := splitL_size c s
  have h := layTo_bd c hv (split_fits c s hv hs) ⟨by omega, by omega⟩ (splitL c s).length (Nat.le_refl _)
  rw [layTo_all] at h
  show (layAll c (splitL c s)).toArray.size ≤ _
  rw [List.size_toArray]
  exact h
end Go.Proofs.YtooanejiadbngaaGreatDoor
