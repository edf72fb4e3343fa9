/- A sink that came in by value: its cells. No walk. -/
import Derived.Test.YtooanejiadbngaaDoorSink
import Derived.Lib.SmallJoins
import Derived.OpenShut
import Derived.Deep.Strs
import Derived.ChangeSame
namespace Go.Proofs.YtooanejiadbngaaDoor
open Go.RowKit Go.ChangeShapes Go.WideShapes Go.Joins Go.Deep
set_option linter.unusedVariables false

section
variable {H : Type} {enc : TypeId × Value → H} {P : Program} {w : World} {base : Nat} {sp : Nat → Bool} {held : Bool}
theorem list_snk {t ti ts tb : TypeId} {f0 f1 f2 : Field} {fuel : Nat} {l : List Value} {y : DataW H × List MemPlace}
    (hs : P.underlying t = some (.struct #[f0, f1, f2])) (hC : P.cellsOf t = 3) (hi : P.underlying ti = some (.int .i64)) (hst : P.underlying ts = some .string) (hb : P.underlying tb = some .bool)
    (hf : f0.type = ti ∧ f1.type = ts ∧ f2.type = tb) (ho : f0.offset = 0 ∧ f1.offset = 1 ∧ f2.offset = 2) (hci : P.cellsOf ti = 1) (hcs : P.cellsOf ts = 1) (hcb : P.cellsOf tb = 1)
    (h : DataW.trod enc P w base sp held fuel t l = some y) : ∃ k : Snk, l = (snkV k).toList ∧ SnkFits k := by
  obtain ⟨t0, t1, t2⟩ := hf
  obtain ⟨o0, o1, o2⟩ := ho
  obtain ⟨y0, y1, y2, n, _, hl, r0, r1, r2⟩ := trod_struct3 hs h
  rw [t0, o0, hci] at r0
  rw [t1, o1, hcs] at r1
  rw [t2, o2, hcb] at r2
  match l, hl.trans hC with
  | [c0, c1, c2], _ =>
    obtain ⟨n0, e0, _, w0⟩ := DataW.trod_int hi r0
    obtain ⟨s1, e1, _, w1⟩ := DataW.trod_string hst r1
    obtain ⟨b2, e2, _⟩ := DataW.trod_bool hb r2
    simp at e0 e1 e2
    subst e0; subst e1; subst e2
    refine ⟨⟨n0, s1, b2⟩, rfl, ?_⟩
    have hw : (-9223372036854775808 : Int) ≤ n0 ∧ n0 ≤ 9223372036854775807 := by
      have := w0
      simp [Lit.wf] at this
      have m0 : IntKind.i64.min = -9223372036854775808 := rfl
      have m1 : IntKind.i64.max = 9223372036854775807 := rfl
      exact ⟨by omega, by omega⟩
    exact ⟨hw.1, hw.2, w1⟩
end
theorem open_snk {H : Type} {enc : TypeId × Value → H} {P : Program} {w : World} {base : Nat} {sp : Nat → Bool} {held : Bool} {r : Reach} {b0 : Nat} {t ti ts tb : TypeId} {f0 f1 f2 : Field} {v : Value} {d : DataW H} {p : List MemPlace}
    (hs : P.underlying t = some (.struct #[f0, f1, f2])) (hC : P.cellsOf t = 3) (hi : P.underlying ti = some (.int .i64)) (hst : P.underlying ts = some .string) (hb : P.underlying tb = some .bool)
    (hf : f0.type = ti ∧ f1.type = ts ∧ f2.type = tb) (ho : f0.offset = 0 ∧ f1.offset = 1 ∧ f2.offset = 2) (hci : P.cellsOf ti = 1) (hcs : P.cellsOf ts = 1) (hcb : P.cellsOf tb = 1)
    (hv : Value.okWide P w r b0 t v) (h : DataW.Trod enc P w base sp held t v d p) : ∃ k : Snk, v = .agg (snkV k) ∧ SnkFits k := by
  obtain ⟨cs, rfl, hsz⟩ := okWide_struct hs hv
  obtain ⟨fuel, hf'⟩ := h
  obtain ⟨k, hk, hfit⟩ := list_snk hs hC hi hst hb hf ho hci hcs hcb hf'
  exact ⟨k, by congr 1; exact Array.ext' hk, hfit⟩
end Go.Proofs.YtooanejiadbngaaDoor
