/- A sink and a session that came in by value: their cells. No walk. -/
import Derived.Test.YtooanejiadbngaaOpenCfg
import Derived.Test.YtooanejiadbngaaSes
import Derived.Deep.Strs
import Derived.ChangeSame
namespace Go.Proofs.Ytooanejiadbngaa
open Go.RowKit Go.ChangeShapes Go.WideShapes Go.Joins Go.Deep
set_option linter.unusedVariables false

section
variable {H : Type} {enc : TypeId × Value → H} {P : Program} {w : World} {base : Nat} {sp : Nat → Bool} {held : Bool}
theorem list_cfg {t ti tb : TypeId} {f0 f1 f2 f3 f4 f5 f6 f7 f8 : Field} {fuel : Nat} {l : List Value} {y : DataW H × List MemPlace}
    (hs : P.underlying t = some (.struct #[f0, f1, f2, f3, f4, f5, f6, f7, f8])) (hone : oneCellFields P #[f0, f1, f2, f3, f4, f5, f6, f7, f8] = true) (hC : P.cellsOf t = 9)
    (hi : P.underlying ti = some (.int .i64)) (hb : P.underlying tb = some .bool)
    (hf : f0.type = ti ∧ f1.type = ti ∧ f2.type = ti ∧ f3.type = ti ∧ f4.type = tb ∧ f5.type = tb ∧ f6.type = tb ∧ f7.type = tb ∧ f8.type = tb)
    (h : DataW.trod enc P w base sp held fuel t l = some y) : ∃ c : Cfg, l = (cfgV c).toList ∧ CfgFits c := by
  obtain ⟨t0, t1, t2, t3, t4, t5, t6, t7, t8⟩ := hf
  obtain ⟨xs, n, _, hx, hl, hlen, hg⟩ := DataW.trod_struct hs h
  match l, hl.trans hC with
  | [c0, c1, c2, c3, c4, c5, c6, c7, c8], _ =>
    have rd : ∀ (j : Nat) (f : Field) (c : Value), #[f0, f1, f2, f3, f4, f5, f6, f7, f8][j]? = some f → [c0, c1, c2, c3, c4, c5, c6, c7, c8][j]? = some c → ∃ y, DataW.trod enc P w base sp held n f.type [c] = some y := by
      intro j f c hj hc
      obtain ⟨o, k⟩ := hone_of hone j f hj
      have h1 := hg j f hj
      have hjl : j < 9 := (Array.getElem?_eq_some_iff.1 hj).1
      have hx9 : xs.length = 9 := hlen
      rw [o, k, List.getElem?_eq_getElem (by omega)] at h1
      obtain ⟨hl, rfl⟩ := List.getElem?_eq_some_iff.1 hc
      have e : ([c0, c1, c2, c3, c4, c5, c6, c7, c8].drop j).take 1 = [[c0, c1, c2, c3, c4, c5, c6, c7, c8][j]] := by
        rw [List.drop_eq_getElem_cons hl]; rfl
      rw [e] at h1
      exact ⟨_, h1⟩
    obtain ⟨y0, r0⟩ := rd 0 f0 c0 rfl rfl
    obtain ⟨y1, r1⟩ := rd 1 f1 c1 rfl rfl
    obtain ⟨y2, r2⟩ := rd 2 f2 c2 rfl rfl
    obtain ⟨y3, r3⟩ := rd 3 f3 c3 rfl rfl
    obtain ⟨y4, r4⟩ := rd 4 f4 c4 rfl rfl
    obtain ⟨y5, r5⟩ := rd 5 f5 c5 rfl rfl
    obtain ⟨y6, r6⟩ := rd 6 f6 c6 rfl rfl
    obtain ⟨y7, r7⟩ := rd 7 f7 c7 rfl rfl
    obtain ⟨y8, r8⟩ := rd 8 f8 c8 rfl rfl
    rw [t0] at r0; rw [t1] at r1; rw [t2] at r2; rw [t3] at r3; rw [t4] at r4; rw [t5] at r5; rw [t6] at r6; rw [t7] at r7; rw [t8] at r8
    obtain ⟨n0, e0, _, w0⟩ := DataW.trod_int hi r0
    obtain ⟨n1, e1, _, w1⟩ := DataW.trod_int hi r1
    obtain ⟨n2, e2, _, w2⟩ := DataW.trod_int hi r2
    obtain ⟨n3, e3, _, w3⟩ := DataW.trod_int hi r3
    obtain ⟨b4, e4, _⟩ := DataW.trod_bool hb r4
    obtain ⟨b5, e5, _⟩ := DataW.trod_bool hb r5
    obtain ⟨b6, e6, _⟩ := DataW.trod_bool hb r6
    obtain ⟨b7, e7, _⟩ := DataW.trod_bool hb r7
    obtain ⟨b8, e8, _⟩ := DataW.trod_bool hb r8
    simp only [List.cons.injEq, and_true] at e0 e1 e2 e3 e4 e5 e6 e7 e8
    subst e0; subst e1; subst e2; subst e3; subst e4; subst e5; subst e6; subst e7; subst e8
    exact ⟨⟨n0, n1, n2, n3, b4, b5, b6, b7, b8⟩, rfl, w0, w1, w2, w3⟩
theorem list_snk {t ti ts tb : TypeId} {f0 f1 f2 : Field} {fuel : Nat} {l : List Value} {y : DataW H × List MemPlace}
    (hs : P.underlying t = some (.struct #[f0, f1, f2])) (hC : P.cellsOf t = 3) (hi : P.underlying ti = some (.int .i64)) (hst : P.underlying ts = some .string) (hb : P.underlying tb = some .bool)
    (hf : f0.type = ti ∧ f1.type = ts ∧ f2.type = tb) (ho : f0.offset = 0 ∧ f1.offset = 1 ∧ f2.offset = 2) (hci : P.cellsOf ti = 1) (hcs : P.cellsOf ts = 1) (hcb : P.cellsOf tb = 1)
    (h : DataW.trod enc P w base sp held fuel t l = some y) : ∃ k : Snk, l = (snkV k).toList ∧ SnkFits k := by
  obtain ⟨t0, t1, t2⟩ := hf
  obtain ⟨o0, o1, o2⟩ := ho
  obtain ⟨y0, y1, y2, n, _, hl, r0, r1, r2⟩ := trod_struct3 hs h
  rw [t0, o0, hci] at r0
  rw [t1, o1, hcs] at r1
  rw [t2, o2, hcb] at r2
  match l, hl.trans hC with
  | [c0, c1, c2], _ =>
    obtain ⟨n0, e0, _, w0⟩ := DataW.trod_int hi r0
    obtain ⟨s1, e1, _, w1⟩ := DataW.trod_string hst r1
    obtain ⟨b2, e2, _⟩ := DataW.trod_bool hb r2
    simp at e0 e1 e2
    subst e0; subst e1; subst e2
    refine ⟨⟨n0, s1, b2⟩, rfl, ?_⟩
    have hw : (-9223372036854775808 : Int) ≤ n0 ∧ n0 ≤ 9223372036854775807 := by
      have := w0
      simp [Lit.wf] at this
      have m0 : IntKind.i64.min = -9223372036854775808 := rfl
      have m1 : IntKind.i64.max = 9223372036854775807 := rfl
      exact ⟨by omega, by omega⟩
    exact ⟨hw.1, hw.2, w1⟩
end
theorem open_snk {H : Type} {enc : TypeId × Value → H} {P : Program} {w : World} {base : Nat} {sp : Nat → Bool} {held : Bool} {r : Reach} {b0 : Nat} {t ti ts tb : TypeId} {f0 f1 f2 : Field} {v : Value} {d : DataW H} {p : List MemPlace}
    (hs : P.underlying t = some (.struct #[f0, f1, f2])) (hC : P.cellsOf t = 3) (hi : P.underlying ti = some (.int .i64)) (hst : P.underlying ts = some .string) (hb : P.underlying tb = some .bool)
    (hf : f0.type = ti ∧ f1.type = ts ∧ f2.type = tb) (ho : f0.offset = 0 ∧ f1.offset = 1 ∧ f2.offset = 2) (hci : P.cellsOf ti = 1) (hcs : P.cellsOf ts = 1) (hcb : P.cellsOf tb = 1)
    (hv : Value.okWide P w r b0 t v) (h : DataW.Trod enc P w base sp held t v d p) : ∃ k : Snk, v = .agg (snkV k) ∧ SnkFits k := by
  obtain ⟨cs, rfl, hsz⟩ := okWide_struct hs hv
  obtain ⟨fuel, hf'⟩ := h
  obtain ⟨k, hk, hfit⟩ := list_snk hs hC hi hst hb hf ho hci hcs hcb hf'
  exact ⟨k, by congr 1; exact Array.ext' hk, hfit⟩
/-- What a session that came in fits. -/
def SesFits (c : Cfg) (h : ByteArray) (k : Snk) : Prop := CfgFits c ∧ h.size ≤ maxLen ∧ SnkFits k
theorem open_ses {H : Type} {enc : TypeId × Value → H} {w : World} {base : Nat} {sp : Nat → Bool} {held : Bool} {r : Reach} {b0 : Nat} {v : Value} {d : DataW H} {p : List MemPlace}
    (hv : Value.okWide Try.prog w r b0 40 v) (h : DataW.Trod enc Try.prog w base sp held 40 v d p) : ∃ (c : Cfg) (x : ByteArray) (k : Snk), v = .agg (sesV c x k) ∧ SesFits c x k := by
  obtain ⟨cs, rfl, hsz⟩ := okWide_struct Try.underlying40 hv
  obtain ⟨fuel, hf⟩ := h
  obtain ⟨y0, y1, n, _, hl, r0, r1⟩ := trod_struct2 Try.underlying40 hf
  obtain ⟨z0, z1, n2, _, hl2, q0, q1⟩ := trod_struct2 Try.underlying36 r0
  obtain ⟨c, hc, hcf⟩ := list_cfg Try.underlying23 (by kernel_rfl) (by kernel_rfl) Try.underlying3 Try.underlying4 ⟨rfl, rfl, rfl, rfl, rfl, rfl, rfl, rfl, rfl⟩ q0
  obtain ⟨x, hx, _, hxs⟩ := DataW.trod_string Try.underlying9 q1
  obtain ⟨k, hk, hkf⟩ := list_snk Try.underlying38 (by kernel_rfl) Try.underlying3 Try.underlying9 Try.underlying4 ⟨rfl, rfl, rfl⟩ ⟨rfl, rfl, rfl⟩ (by kernel_rfl) (by kernel_rfl) (by kernel_rfl) r1
  have e9 : Try.prog.cellsOf 23 = 9 := by kernel_rfl
  have e10 : Try.prog.cellsOf 36 = 10 := by kernel_rfl
  have e1 : Try.prog.cellsOf 9 = 1 := by kernel_rfl
  have e3 : Try.prog.cellsOf 38 = 3 := by kernel_rfl
  have e13 : Try.prog.cellsOf 40 = 13 := by kernel_rfl
  simp only [e9, e10, e1, e3, List.drop_zero] at hc hx hk
  have hl13 : cs.toList.length = 13 := hl.trans e13
  refine ⟨c, x, k, ?_, hcf, hxs, hkf⟩
  congr 1
  apply Array.ext'
  rw [show (Value.agg cs).cells = cs from rfl] at hc hx hk
  generalize cs.toList = l at hc hx hk hl13 ⊢
  match l, hl13 with
  | [a0, a1, a2, a3, a4, a5, a6, a7, a8, a9, a10, a11, a12], _ =>
    simp [cfgV] at hc
    simp at hx
    simp [snkV] at hk
    obtain ⟨rfl, rfl, rfl, rfl, rfl, rfl, rfl, rfl, rfl⟩ := hc
    obtain rfl := hx
    obtain ⟨rfl, rfl, rfl⟩ := hk
    rfl
end Go.Proofs.Ytooanejiadbngaa
