/- A configuration that came in by value: its cells are four numbers and five flags. No walk. -/
import Derived.Test.YtooanejiadbngaaCfg
import Derived.Lib.SmallJoins
import Derived.OpenShut
namespace Go.Proofs.Ytooanejiadbngaa
open Go.RowKit Go.ChangeShapes Go.WideShapes Go.Joins Go.Deep
set_option linter.unusedVariables false

/-- Its numbers fit. -/
def CfgFits (c : Cfg) : Prop := (Lit.int .i64 c.cmin).wf = true ∧ (Lit.int .i64 c.ctab).wf = true ∧ (Lit.int .i64 c.cpadding).wf = true ∧ (Lit.int .i64 c.cpad).wf = true
theorem open_cfg {H : Type} {enc : TypeId × Value → H} {P : Program} {w : World} {base : Nat} {sp : Nat → Bool} {held : Bool} {r : Reach} {b0 : Nat} {t ti tb : TypeId} {f0 f1 f2 f3 f4 f5 f6 f7 f8 : Field} {v : Value} {d : DataW H} {p : List MemPlace}
    (hs : P.underlying t = some (.struct #[f0, f1, f2, f3, f4, f5, f6, f7, f8])) (hone : oneCellFields P #[f0, f1, f2, f3, f4, f5, f6, f7, f8] = true) (hC : P.cellsOf t = 9)
    (hi : P.underlying ti = some (.int .i64)) (hb : P.underlying tb = some .bool)
    (hf : f0.type = ti ∧ f1.type = ti ∧ f2.type = ti ∧ f3.type = ti ∧ f4.type = tb ∧ f5.type = tb ∧ f6.type = tb ∧ f7.type = tb ∧ f8.type = tb)
    (hv : Value.okWide P w r b0 t v) (h : DataW.Trod enc P w base sp held t v d p) : ∃ c : Cfg, v = .agg (cfgV c) ∧ CfgFits c := by
  obtain ⟨cs, rfl, hsz⟩ := okWide_struct hs hv
  obtain ⟨l⟩ := cs
  obtain ⟨t0, t1, t2, t3, t4, t5, t6, t7, t8⟩ := hf
  match l, hsz.trans hC with
  | [c0, c1, c2, c3, c4, c5, c6, c7, c8], _ =>
    obtain ⟨fuel, hf⟩ := h
    obtain ⟨xs, n, _, hx, _, hlen, hg⟩ := DataW.trod_struct hs hf
    have rd : ∀ (j : Nat) (f : Field) (c : Value), #[f0, f1, f2, f3, f4, f5, f6, f7, f8][j]? = some f → [c0, c1, c2, c3, c4, c5, c6, c7, c8][j]? = some c → ∃ y, DataW.trod enc P w base sp held n f.type [c] = some y := by
      intro j f c hj hc
      obtain ⟨o, k⟩ := hone_of hone j f hj
      have h1 := hg j f hj
      have hjl : j < 9 := (Array.getElem?_eq_some_iff.1 hj).1
      have hx9 : xs.length = 9 := hlen
      rw [o, k, List.getElem?_eq_getElem (by omega)] at h1
      obtain ⟨hl, rfl⟩ := List.getElem?_eq_some_iff.1 hc
      have e : ((Value.agg { toList := [c0, c1, c2, c3, c4, c5, c6, c7, c8] }).cells.toList.drop j).take 1 = [[c0, c1, c2, c3, c4, c5, c6, c7, c8][j]] := by
        show ([c0, c1, c2, c3, c4, c5, c6, c7, c8].drop j).take 1 = _
        rw [List.drop_eq_getElem_cons hl]; rfl
      rw [e] at h1
      exact ⟨_, h1⟩
    obtain ⟨y0, r0⟩ := rd 0 f0 c0 rfl rfl
    obtain ⟨y1, r1⟩ := rd 1 f1 c1 rfl rfl
    obtain ⟨y2, r2⟩ := rd 2 f2 c2 rfl rfl
    obtain ⟨y3, r3⟩ := rd 3 f3 c3 rfl rfl
    obtain ⟨y4, r4⟩ := rd 4 f4 c4 rfl rfl
    obtain ⟨y5, r5⟩ := rd 5 f5 c5 rfl rfl
    obtain ⟨y6, r6⟩ := rd 6 f6 c6 rfl rfl
    obtain ⟨y7, r7⟩ := rd 7 f7 c7 rfl rfl
    obtain ⟨y8, r8⟩ := rd 8 f8 c8 rfl rfl
    rw [t0] at r0; rw [t1] at r1; rw [t2] at r2; rw [t3] at r3; rw [t4] at r4; rw [t5] at r5; rw [t6] at r6; rw [t7] at r7; rw [t8] at r8
    obtain ⟨n0, e0, _, w0⟩ := DataW.trod_int hi r0
    obtain ⟨n1, e1, _, w1⟩ := DataW.trod_int hi r1
    obtain ⟨n2, e2, _, w2⟩ := DataW.trod_int hi r2
    obtain ⟨n3, e3, _, w3⟩ := DataW.trod_int hi r3
    obtain ⟨b4, e4, _⟩ := DataW.trod_bool hb r4
    obtain ⟨b5, e5, _⟩ := DataW.trod_bool hb r5
    obtain ⟨b6, e6, _⟩ := DataW.trod_bool hb r6
    obtain ⟨b7, e7, _⟩ := DataW.trod_bool hb r7
    obtain ⟨b8, e8, _⟩ := DataW.trod_bool hb r8
    simp only [List.cons.injEq, and_true] at e0 e1 e2 e3 e4 e5 e6 e7 e8
    subst e0; subst e1; subst e2; subst e3; subst e4; subst e5; subst e6; subst e7; subst e8
    exact ⟨⟨n0, n1, n2, n3, b4, b5, b6, b7, b8⟩, rfl, w0, w1, w2, w3⟩
end Go.Proofs.Ytooanejiadbngaa
