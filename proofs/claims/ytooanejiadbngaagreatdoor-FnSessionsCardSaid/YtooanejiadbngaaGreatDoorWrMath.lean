/- The streaming writer: plain words. No walk. -/
import Derived.Test.YtooanejiadbngaaGreatDoorLayB
import Derived.Test.YtooanejiadbngaaGreatDoorBB
namespace Go.Proofs.YtooanejiadbngaaGreatDoor
open Go.RowKit
set_option linter.unusedVariables false

/-- What a writer holds, and what it has passed on, when the text so far is T. -/
def heldB (c : Cfg) (T : ByteArray) : ByteArray := ⟨(heldL c T.data.toList).toArray⟩
def toldB (c : Cfg) (T : ByteArray) : ByteArray := ⟨(toldL c (fun b => (celW c.fm b 0 : Int)) T.data.toList).toArray⟩
theorem heldB_list (c : Cfg) (T : ByteArray) : (heldB c T).data.toList = heldL c T.data.toList := by unfold heldB; simp
theorem toldB_list (c : Cfg) (T : ByteArray) : (toldB c T).data.toList = toldL c (fun b => (celW c.fm b 0 : Int)) T.data.toList := by unfold toldB; simp
theorem bytes_ext {a b : ByteArray} (h : a.data.toList = b.data.toList) : a = b := by
  apply ByteArray.ext
  apply Array.ext'
  exact h
theorem app_list (a b : ByteArray) : (a ++ b).data.toList = a.data.toList ++ b.data.toList := by simp
theorem heldB_size (c : Cfg) (T : ByteArray) : (heldB c T).size ≤ T.size := by
  have h := held_le c T.data.toList
  have e : (heldB c T).data.toList.length = (heldB c T).size := rfl
  have e2 : T.data.toList.length = T.size := rfl
  rw [← heldB_list] at h
  omega
/-- One chunk more. -/
theorem held_step (c : Cfg) (T r : ByteArray) : heldB c (heldB c T ++ r) = heldB c (T ++ r) := bytes_ext (by
  rw [heldB_list, heldB_list, app_list, app_list, heldB_list]
  exact (held_more c _ _).symm)
theorem told_step (c : Cfg) (T r : ByteArray) : toldB c (T ++ r) = toldB c T ++ toldB c (heldB c T ++ r) := bytes_ext (by
  rw [app_list, toldB_list, toldB_list, toldB_list, app_list, app_list, heldB_list]
  exact told_more c _ _ _)
theorem held_zero (c : Cfg) : heldB c ⟨#[]⟩ = ⟨#[]⟩ := rfl
theorem told_zero (c : Cfg) : toldB c ⟨#[]⟩ = ⟨#[]⟩ := bytes_ext (by rw [toldB_list]; exact told_nil c _)
theorem lay_zero (c : Cfg) (hv : validC c = true) : layB c ⟨#[]⟩ = ⟨#[]⟩ := bytes_ext (by rw [layB_list c _ hv]; exact layout_nil c _)
/-- What is held has no closed beginning. -/
theorem held_shut (c : Cfg) (T : ByteArray) (hv : validC c = true) : closedB c (heldB c T) = 0 := by
  rw [closedB_yes _ hv, heldB_list, held_closed]
  rfl
/-- All in all it is the layout. -/
theorem told_end (c : Cfg) (T : ByteArray) (hv : validC c = true) : toldB c T ++ layB c (heldB c T) = layB c T := bytes_ext (by
  rw [app_list, toldB_list, layB_list c _ hv, layB_list c _ hv, heldB_list, told_held])
/-- What was passed on is the layout of what isn't held. -/
theorem told_cut (c : Cfg) (T : ByteArray) (hv : validC c = true) : toldB c T = layB c (T.extract 0 (T.size - (heldB c T).size)) := bytes_ext (by
  have hle := lc_le c.fe T.data.toList false false
  have e2 : T.data.toList.length = T.size := rfl
  have e : (heldB c T).size = T.size - lc c.fe T.data.toList false false := by
    have e3 : (heldB c T).data.toList.length = (heldB c T).size := rfl
    rw [← e3, heldB_list]
    unfold heldL
    rw [List.length_drop]
    omega
  rw [toldB_list, layB_list c _ hv, e, show T.size - (T.size - lc c.fe T.data.toList false false) = lc c.fe T.data.toList false false by omega]
  unfold toldL
  simp)
/-- The closed beginning of a text to which bytes come that end no line. -/
theorem lc_plain (esc : Bool) : ∀ (r : List UInt8) (raw cs : Bool), (∀ x ∈ r, x ≠ 10 ∧ x ≠ 12) → lc esc r raw cs = 0
  | [], _, _, _ => rfl
  | x :: r, raw, cs, h => by
    have hx := h x (List.mem_cons_self ..)
    have ih := fun raw cs => lc_plain esc r raw cs (fun y hy => h y (List.mem_cons_of_mem _ hy))
    have h3 : ¬ (!raw && (decide (x = 10) || decide (x = 12))) = true := by simp [hx.1, hx.2]
    rw [lc, if_neg h3, ih, ih, ih]
    simp
theorem lc_more0 (esc : Bool) (r : List UInt8) (hr : ∀ x ∈ r, x ≠ 10 ∧ x ≠ 12) : ∀ (t : List UInt8) (raw cs : Bool), lc esc t raw cs = 0 → lc esc (t ++ r) raw cs = 0
  | [], raw, cs, _ => lc_plain esc r raw cs hr
  | x :: t, raw, cs, h => by
    have ih := lc_more0 esc r hr t
    rw [List.cons_append]
    rw [lc] at h ⊢
    by_cases h1 : (esc && decide (x = 255)) = true
    · rw [if_pos h1] at h ⊢
      have h0 : lc esc t (!raw) cs = 0 := by split at h <;> omega
      rw [ih _ _ h0]
      rfl
    · rw [if_neg h1] at h ⊢
      by_cases h2 : (!raw && decide (x = 9)) = true
      · rw [if_pos h2] at h ⊢
        have h0 : lc esc t raw true = 0 := by split at h <;> omega
        rw [ih _ _ h0]
        rfl
      · rw [if_neg h2] at h ⊢
        by_cases h3 : (!raw && (decide (x = 10) || decide (x = 12))) = true
        · rw [if_pos h3] at h ⊢
          have h0 : lc esc t raw false = 0 := by split at h <;> omega
          rw [if_pos h0] at h
          rw [ih _ _ h0, if_pos rfl]
          exact h
        · rw [if_neg h3] at h ⊢
          have h0 : lc esc t raw cs = 0 := by split at h <;> omega
          rw [ih _ _ h0]
          rfl
/-- So all of it is held. -/
theorem held_all (c : Cfg) (H r : ByteArray) (hv : validC c = true) (h : closedB c H = 0) (hr : ∀ x ∈ r.data.toList, x ≠ 10 ∧ x ≠ 12) : heldB c (H ++ r) = H ++ r := bytes_ext (by
  rw [closedB_yes _ hv] at h
  have h0 := lc_more0 c.fe r.data.toList hr H.data.toList false false (by omega)
  rw [heldB_list, app_list]
  unfold heldL
  rw [h0, List.drop_zero])
/-- Chunks one behind another. -/
def catB : List ByteArray → ByteArray
  | [] => ⟨#[]⟩
  | x :: r => x ++ catB r
theorem catB_append (a b : List ByteArray) : catB (a ++ b) = catB a ++ catB b := by
  induction a with
  | nil => exact bytes_ext (by simp [catB])
  | cons x r ih => exact bytes_ext (by simp [catB, ih])
theorem catB_take (a : List ByteArray) (k : Nat) (h : k < a.length) : catB (a.take (k + 1)) = catB (a.take k) ++ a[k] := by
  rw [List.take_succ_eq_append_getElem h, catB_append]
  exact bytes_ext (by simp [catB])
end Go.Proofs.YtooanejiadbngaaGreatDoor
