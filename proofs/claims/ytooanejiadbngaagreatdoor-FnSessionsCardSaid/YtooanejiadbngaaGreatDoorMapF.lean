/- A map from the first m columns to places: a datum, and what a put, a delete, a look-up make of it. No walk. -/
import Derived.Maps.OwnSet
namespace Go.Proofs.YtooanejiadbngaaGreatDoor
open Go.RowKit
open Go.Maps (Tidy)
set_option linter.unusedVariables false

structure MapF (D : DataW Unit) (m : Nat) (f : Nat → Nat) : Prop where
  tidy : Tidy D
  size : Maps.size D = m
  has : ∀ q : Nat, Maps.has D (.int .i64 (q : Int)) = decide (q < m)
  at' : ∀ q : Nat, q < m → D.atKey (.int .i64 (q : Int)) (.lit (.int .i64 0)) = .lit (.int .i64 (f q : Int))
theorem key_lit (q : Nat) : WideAt.IsKeyLit (.int .i64 (q : Int)) := trivial
theorem key_ne {a b : Nat} (h : a ≠ b) : (Lit.int .i64 (a : Int)) ≠ Lit.int .i64 (b : Int) := by
  intro he
  injection he with _ h2
  omega
theorem MapF.nil (f : Nat → Nat) : MapF (.map []) 0 f := ⟨Maps.tidy_empty, rfl, fun q => rfl, fun q h => absurd h (by omega)⟩
theorem MapF.put {D : DataW Unit} {m : Nat} {f g : Nat → Nat} (h : MapF D m f) (v : Nat) (hg : ∀ q, g q = if q = m then v else f q) : MapF (D.put (.int .i64 (m : Int)) (.lit (.int .i64 (v : Int)))) (m + 1) g where
  tidy := h.tidy.put (key_lit m) _
  size := by
    rw [Maps.size_put h.tidy, h.has m, h.size]
    simp
  has q := by
    by_cases hq : q = m
    · subst hq
      rw [Maps.has_put_same h.tidy.isMap (key_lit _)]
      simp
    · rw [Maps.has_put_other (key_ne hq), h.has q]
      exact decide_eq_decide.2 (by omega)
  at' q hq := by
    by_cases hqm : q = m
    · subst hqm
      rw [Maps.atKey_put_same h.tidy.isMap (key_lit _), hg, if_pos rfl]
    · rw [Maps.atKey_put_other (key_ne hqm), hg, if_neg hqm]
      exact h.at' q (by omega)
theorem MapF.del {D : DataW Unit} {m : Nat} {f : Nat → Nat} (h : MapF D (m + 1) f) : MapF (D.del (.int .i64 (m : Int))) m f where
  tidy := h.tidy.del _
  size := by
    have h1 := Maps.size_del (k := .int .i64 (m : Int)) h.tidy
    rw [h.has m, h.size] at h1
    simp at h1
    exact h1
  has q := by
    by_cases hq : q = m
    · subst hq
      rw [Maps.has_del_same]
      simp
    · rw [Maps.has_del_other (key_ne hq), h.has q]
      exact decide_eq_decide.2 (by omega)
  at' q hq := by
    rw [Maps.atKey_del_other (key_ne (by omega))]
    exact h.at' q (by omega)
end Go.Proofs.YtooanejiadbngaaGreatDoor
