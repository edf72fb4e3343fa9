/- Merged texts: OpenCfg SpecCfg SpecFill ImplCfg CfgRead CfgCells LnMem LnLaws Bytes8 LnOwn LnTo OpenLines CountLn SplitM SpecClosed Roles SplitR SpecJoinL CellsMath. -/
import Derived.Test.YtooanejiadbngaaGreatDoorBA
import Derived.Lib.SmallJoins
import Derived.OpenShut
import Derived.Handy
import Derived.Deep.QuietTactic
import Derived.BigQuiet
import Derived.IntWalk
import Derived.Lib.AppendStr
import Derived.Deep.RegionHeld3
import Derived.Deep.Slices
import Derived.Deep.Fields
/- A configuration that came in by value: its cells are four numbers and five flags. No walk. -/
namespace Go.Proofs.YtooanejiadbngaaGreatDoor
open Go.RowKit Go.ChangeShapes Go.WideShapes Go.Joins Go.Deep
set_option linter.unusedVariables false

/-- Its numbers fit. -/
def CfgFits (c : Cfg) : Prop := (Lit.int .i64 c.cmin).wf = true ∧ (Lit.int .i64 c.ctab).wf = true ∧ (Lit.int .i64 c.cpadding).wf = true ∧ (Lit.int .i64 c.cpad).wf = true
theorem open_cfg {H : Type} {enc : TypeId × Value → H} {P : Program} {w : World} {base : Nat} {sp : Nat → Bool} {held : Bool} {r : Reach} {b0 : Nat} {t ti tb : TypeId} {f0 f1 f2 f3 f4 f5 f6 f7 f8 : Field} {v : Value} {d : DataW H} {p : List MemPlace}
    (hs : P.underlying t = some (.struct #[f0, f1, f2, f3, f4, f5, f6, f7, f8])) (hone : oneCellFields P #[f0, f1, f2, f3, f4, f5, f6, f7, f8] = true) (hC : P.cellsOf t = 9)
    (hi : P.underlying ti = some (.int .i64)) (hb : P.underlying tb = some .bool)
    (hf : f0.type = ti ∧ f1.type = ti ∧ f2.type = ti ∧ f3.type = ti ∧ f4.type = tb ∧ f5.type = tb ∧ f6.type = tb ∧ f7.type = tb ∧ f8.type = tb)
    (hv : Value.okWide P w r b0 t v) (h : DataW.Trod enc P w base sp held t v d p) : ∃ c : Cfg, v = .agg (cfgV c) ∧ CfgFits c := by
  obtain ⟨cs, rfl, hsz⟩ := okWide_struct hs hv
  obtain ⟨l⟩ := cs
  obtain ⟨t0, t1, t2, t3, t4, t5, t6, t7, t8⟩ := hf
  match l, hsz.trans hC with
  | [c0, c1, c2, c3, c4, c5, c6, c7, c8], _ =>
    obtain ⟨fuel, hf⟩ := h
    obtain ⟨xs, n, _, hx, _, hlen, hg⟩ := DataW.trod_struct hs hf
    have rd : ∀ (j : Nat) (f : Field) (c : Value), #[f0, f1, f2, f3, f4, f5, f6, f7, f8][j]? = some f → [c0, c1, c2, c3, c4, c5, c6, c7, c8][j]? = some c → ∃ y, DataW.trod enc P w base sp held n f.type [c] = some y := by
      intro j f c hj hc
      obtain ⟨o, k⟩ := hone_of hone j f hj
      have h1 := hg j f hj
      have hjl : j < 9 := (Array.getElem?_eq_some_iff.1 hj).1
      have hx9 : xs.length = 9 := hlen
      rw [o, k, List.getElem?_eq_getElem (by omega)] at h1
      obtain ⟨hl, rfl⟩ := List.getElem?_eq_some_iff.1 hc
      have e : ((Value.agg { toList := [c0, c1, c2, c3, c4, c5, c6, c7, c8] }).cells.toList.drop j).take 1 = [[c0, c1, c2, c3, c4, c5, c6, c7, c8][j]] := by
        show ([c0, c1, c2, c3, c4, c5, c6, c7, c8].drop j).take 1 = _
        rw [List.drop_eq_getElem_cons hl]; rfl
      rw [e] at h1
      exact ⟨_, h1⟩
    obtain ⟨y0, r0⟩ := rd 0 f0 c0 rfl rfl
    obtain ⟨y1, r1⟩ := rd 1 f1 c1 rfl rfl
    obtain ⟨y2, r2⟩ := rd 2 f2 c2 rfl rfl
    obtain ⟨y3, r3⟩ := rd 3 f3 c3 rfl rfl
    obtain ⟨y4, r4⟩ := rd 4 f4 c4 rfl rfl
    obtain ⟨y5, r5⟩ := rd 5 f5 c5 rfl rfl
    obtain ⟨y6, r6⟩ := rd 6 f6 c6 rfl rfl
    obtain ⟨y7, r7⟩ := rd 7 f7 c7 rfl rfl
    obtain ⟨y8, r8⟩ := rd 8 f8 c8 rfl rfl
    rw [t0] at r0; rw [t1] at r1; rw [t2] at r2; rw [t3] at r3; rw [t4] at r4; rw [t5] at r5; rw [t6] at r6; rw [t7] at r7; rw [t8] at r8
    obtain ⟨n0, e0, _, w0⟩ := DataW.trod_int hi r0
    obtain ⟨n1, e1, _, w1⟩ := DataW.trod_int hi r1
    obtain ⟨n2, e2, _, w2⟩ := DataW.trod_int hi r2
    obtain ⟨n3, e3, _, w3⟩ := DataW.trod_int hi r3
    obtain ⟨b4, e4, _⟩ := DataW.trod_bool hb r4
    obtain ⟨b5, e5, _⟩ := DataW.trod_bool hb r5
    obtain ⟨b6, e6, _⟩ := DataW.trod_bool hb r6
    obtain ⟨b7, e7, _⟩ := DataW.trod_bool hb r7
    obtain ⟨b8, e8, _⟩ := DataW.trod_bool hb r8
    simp only [List.cons.injEq, and_true] at e0 e1 e2 e3 e4 e5 e6 e7 e8
    subst e0; subst e1; subst e2; subst e3; subst e4; subst e5; subst e6; subst e7; subst e8
    exact ⟨⟨n0, n1, n2, n3, b4, b5, b6, b7, b8⟩, rfl, w0, w1, w2, w3⟩
end Go.Proofs.YtooanejiadbngaaGreatDoor

/- The model's configurations: IsConfig, DefaultConfig, RoundWidth, Filling; the laws' own copies. -/
namespace Go.Proofs.YtooanejiadbngaaGreatDoor
open Go.RowKit
set_option linter.unusedVariables false

/-- Block B holds a configuration. -/
def Boxed (W : World) (B : Nat) (m t p d : Int) (fr fd fl fe fm : Bool) : Prop :=
  W.cell? ⟨B, 0, none⟩ = some (.int .i64 m) ∧ W.cell? ⟨B, 1, none⟩ = some (.int .i64 t) ∧ W.cell? ⟨B, 2, none⟩ = some (.int .i64 p) ∧ W.cell? ⟨B, 3, none⟩ = some (.int .i64 d) ∧
    W.cell? ⟨B, 4, none⟩ = some (.bool fr) ∧ W.cell? ⟨B, 5, none⟩ = some (.bool fd) ∧ W.cell? ⟨B, 6, none⟩ = some (.bool fl) ∧ W.cell? ⟨B, 7, none⟩ = some (.bool fe) ∧ W.cell? ⟨B, 8, none⟩ = some (.bool fm)
theorem Boxed.new (w : World) (T : TypeId) (m t p d : Int) (fr fd fl fe fm : Bool) : Boxed (w.alloc (.cells #[.int .i64 m, .int .i64 t, .int .i64 p, .int .i64 d, .bool fr, .bool fd, .bool fl, .bool fe, .bool fm] T)) w.heap.size m t p d fr fd fl fe fm :=
  ⟨by go_simp, by go_simp, by go_simp, by go_simp, by go_simp, by go_simp, by go_simp, by go_simp, by go_simp⟩
theorem Boxed.below {W W' : World} {A B : Nat} {m t p d : Int} {fr fd fl fe fm : Bool} (h : Boxed W B m t p d fr fd fl fe fm) (hb : Below A W W') (hB : B < A) : Boxed W' B m t p d fr fd fl fe fm := by
  obtain ⟨h0, h1, h2, h3, h4, h5, h6, h7, h8⟩ := h
  have k : ∀ j v, W.cell? ⟨B, j, none⟩ = some v → W'.cell? ⟨B, j, none⟩ = some v := fun j v hv => (hb.cell (p := ⟨B, j, none⟩) hB).trans hv
  exact ⟨k _ _ h0, k _ _ h1, k _ _ h2, k _ _ h3, k _ _ h4, k _ _ h5, k _ _ h6, k _ _ h7, k _ _ h8⟩
theorem cfg_eta (c : Cfg) : c = ⟨c.cmin, c.ctab, c.cpadding, c.cpad, c.fr, c.fd, c.fl, c.fe, c.fm⟩ := rfl
theorem validC_of (m t p d : Int) (fr fd fl fe fm : Bool) : validC ⟨m, t, p, d, fr, fd, fl, fe, fm⟩ = (inB m 0 200 && inB t 1 32 && inB p 0 32 && (decide (d = 9) && !fr || inB d 32 126)) := rfl
theorem box_step {w W W' : World} {B : Nat} {v0 v1 v2 v3 v4 v5 v6 v7 v8 : Value} (hb : Below W.heap.size W W')
    (h : W.cell? ⟨B, 0, none⟩ = some v0 ∧ W.cell? ⟨B, 1, none⟩ = some v1 ∧ W.cell? ⟨B, 2, none⟩ = some v2 ∧ W.cell? ⟨B, 3, none⟩ = some v3 ∧ W.cell? ⟨B, 4, none⟩ = some v4 ∧ W.cell? ⟨B, 5, none⟩ = some v5 ∧ W.cell? ⟨B, 6, none⟩ = some v6 ∧ W.cell? ⟨B, 7, none⟩ = some v7 ∧ W.cell? ⟨B, 8, none⟩ = some v8 ∧ Below w.heap.size w W ∧ B + 1 ≤ W.heap.size) :
    W'.cell? ⟨B, 0, none⟩ = some v0 ∧ W'.cell? ⟨B, 1, none⟩ = some v1 ∧ W'.cell? ⟨B, 2, none⟩ = some v2 ∧ W'.cell? ⟨B, 3, none⟩ = some v3 ∧ W'.cell? ⟨B, 4, none⟩ = some v4 ∧ W'.cell? ⟨B, 5, none⟩ = some v5 ∧ W'.cell? ⟨B, 6, none⟩ = some v6 ∧ W'.cell? ⟨B, 7, none⟩ = some v7 ∧ W'.cell? ⟨B, 8, none⟩ = some v8 ∧ Below w.heap.size w W' ∧ B + 1 ≤ W'.heap.size := by
  obtain ⟨h0, h1, h2, h3, h4, h5, h6, h7, h8, h9, h10⟩ := h
  have hs := hb.size
  have k : ∀ j v, W.cell? ⟨B, j, none⟩ = some v → W'.cell? ⟨B, j, none⟩ = some v := fun j v hv => (hb.cell (p := ⟨B, j, none⟩) (by show B < _; omega)).trans hv
  exact ⟨k _ _ h0, k _ _ h1, k _ _ h2, k _ _ h3, k _ _ h4, k _ _ h5, k _ _ h6, k _ _ h7, k _ _ h8, h9.trans (hb.mono h9.size), by omega⟩
theorem box_old {w W : World} {B : Nat} {v0 v1 v2 v3 v4 v5 v6 v7 v8 : Value}
    (h : W.cell? ⟨B, 0, none⟩ = some v0 ∧ W.cell? ⟨B, 1, none⟩ = some v1 ∧ W.cell? ⟨B, 2, none⟩ = some v2 ∧ W.cell? ⟨B, 3, none⟩ = some v3 ∧ W.cell? ⟨B, 4, none⟩ = some v4 ∧ W.cell? ⟨B, 5, none⟩ = some v5 ∧ W.cell? ⟨B, 6, none⟩ = some v6 ∧ W.cell? ⟨B, 7, none⟩ = some v7 ∧ W.cell? ⟨B, 8, none⟩ = some v8 ∧ Below w.heap.size w W ∧ B + 1 ≤ W.heap.size) : Below w.heap.size w W :=
  h.2.2.2.2.2.2.2.2.2.1
theorem box_start {w : World} (v0 v1 v2 v3 v4 v5 v6 v7 v8 : Value) (t : TypeId) :
    (w.alloc (.cells #[v0, v1, v2, v3, v4, v5, v6, v7, v8] t)).drew.cell? ⟨w.heap.size, 0, none⟩ = some v0 ∧ (w.alloc (.cells #[v0, v1, v2, v3, v4, v5, v6, v7, v8] t)).drew.cell? ⟨w.heap.size, 1, none⟩ = some v1 ∧ (w.alloc (.cells #[v0, v1, v2, v3, v4, v5, v6, v7, v8] t)).drew.cell? ⟨w.heap.size, 2, none⟩ = some v2 ∧
    (w.alloc (.cells #[v0, v1, v2, v3, v4, v5, v6, v7, v8] t)).drew.cell? ⟨w.heap.size, 3, none⟩ = some v3 ∧ (w.alloc (.cells #[v0, v1, v2, v3, v4, v5, v6, v7, v8] t)).drew.cell? ⟨w.heap.size, 4, none⟩ = some v4 ∧ (w.alloc (.cells #[v0, v1, v2, v3, v4, v5, v6, v7, v8] t)).drew.cell? ⟨w.heap.size, 5, none⟩ = some v5 ∧
    (w.alloc (.cells #[v0, v1, v2, v3, v4, v5, v6, v7, v8] t)).drew.cell? ⟨w.heap.size, 6, none⟩ = some v6 ∧ (w.alloc (.cells #[v0, v1, v2, v3, v4, v5, v6, v7, v8] t)).drew.cell? ⟨w.heap.size, 7, none⟩ = some v7 ∧ (w.alloc (.cells #[v0, v1, v2, v3, v4, v5, v6, v7, v8] t)).drew.cell? ⟨w.heap.size, 8, none⟩ = some v8 ∧
    Below w.heap.size w (w.alloc (.cells #[v0, v1, v2, v3, v4, v5, v6, v7, v8] t)).drew ∧ w.heap.size + 1 ≤ (w.alloc (.cells #[v0, v1, v2, v3, v4, v5, v6, v7, v8] t)).drew.heap.size :=
  ⟨by go_simp, by go_simp, by go_simp, by go_simp, by go_simp, by go_simp, by go_simp, by go_simp, by go_simp, by go_grown, by simp⟩
theorem box_set {w W : World} {B g j : Nat} {u v0 v1 v2 v3 v4 v5 v6 v7 v8 : Value} (hne : B < g) (hwg : w.heap.size ≤ g)
    (h : W.cell? ⟨B, 0, none⟩ = some v0 ∧ W.cell? ⟨B, 1, none⟩ = some v1 ∧ W.cell? ⟨B, 2, none⟩ = some v2 ∧ W.cell? ⟨B, 3, none⟩ = some v3 ∧ W.cell? ⟨B, 4, none⟩ = some v4 ∧ W.cell? ⟨B, 5, none⟩ = some v5 ∧ W.cell? ⟨B, 6, none⟩ = some v6 ∧ W.cell? ⟨B, 7, none⟩ = some v7 ∧ W.cell? ⟨B, 8, none⟩ = some v8 ∧ Below w.heap.size w W ∧ B + 1 ≤ W.heap.size) :
    (W.setCell ⟨g, j, none⟩ u).cell? ⟨B, 0, none⟩ = some v0 ∧ (W.setCell ⟨g, j, none⟩ u).cell? ⟨B, 1, none⟩ = some v1 ∧ (W.setCell ⟨g, j, none⟩ u).cell? ⟨B, 2, none⟩ = some v2 ∧ (W.setCell ⟨g, j, none⟩ u).cell? ⟨B, 3, none⟩ = some v3 ∧ (W.setCell ⟨g, j, none⟩ u).cell? ⟨B, 4, none⟩ = some v4 ∧ (W.setCell ⟨g, j, none⟩ u).cell? ⟨B, 5, none⟩ = some v5 ∧ (W.setCell ⟨g, j, none⟩ u).cell? ⟨B, 6, none⟩ = some v6 ∧ (W.setCell ⟨g, j, none⟩ u).cell? ⟨B, 7, none⟩ = some v7 ∧ (W.setCell ⟨g, j, none⟩ u).cell? ⟨B, 8, none⟩ = some v8 ∧ Below w.heap.size w (W.setCell ⟨g, j, none⟩ u) ∧ B + 1 ≤ (W.setCell ⟨g, j, none⟩ u).heap.size := by
  obtain ⟨h0, h1, h2, h3, h4, h5, h6, h7, h8, h9, h10⟩ := h
  have k : ∀ i v, W.cell? ⟨B, i, none⟩ = some v → (W.setCell ⟨g, j, none⟩ u).cell? ⟨B, i, none⟩ = some v := fun i v hv =>
    (((Below.refl (B + 1) W).setCell (p := ⟨g, j, none⟩) (by show B + 1 ≤ g; omega) u).cell (p := ⟨B, i, none⟩) (by show B < B + 1; omega)).trans hv
  exact ⟨k _ _ h0, k _ _ h1, k _ _ h2, k _ _ h3, k _ _ h4, k _ _ h5, k _ _ h6, k _ _ h7, k _ _ h8, h9.setCell (p := ⟨g, j, none⟩) hwg u, by simpa using h10⟩
end Go.Proofs.YtooanejiadbngaaGreatDoor

/- The model's RoundWidth and Filling. -/
namespace Go.Proofs.YtooanejiadbngaaGreatDoor
open Go.RowKit
set_option linter.unusedVariables false

theorem tabs_bounds (n t : Int) (h0 : 0 ≤ n) (h1 : n ≤ 100000) (h2 : 1 ≤ t) (h3 : t ≤ 32) : 0 ≤ (n + t - 1) / t ∧ (n + t - 1) / t ≤ n ∧ 0 ≤ (n + t - 1) / t * t ∧ (n + t - 1) / t * t ≤ 100031 := by
  have e1 := Int.ediv_mul_le (n + t - 1) (show t ≠ 0 by omega)
  have e0 : 0 ≤ (n + t - 1) / t := Int.ediv_nonneg (by omega) (by omega)
  have e2 : (n + t - 1) / t ≤ n := by
    by_cases hn : n = 0
    · have : (n + t - 1) / t = 0 := Int.ediv_eq_zero_of_lt (by omega) (by omega)
      omega
    · refine Int.ediv_le_of_le_mul (by omega) ?_
      obtain ⟨k, rfl⟩ : ∃ k, n = k + 1 := ⟨n - 1, by omega⟩
      obtain ⟨u, rfl⟩ : ∃ u, t = u + 1 := ⟨t - 1, by omega⟩
      have : 0 ≤ k * u := Int.mul_nonneg (by omega) (by omega)
      have e : (k + 1) * (u + 1) = k * u + k + u + 1 := by rw [Int.add_mul, Int.mul_add]; omega
      omega
  have e3 : 0 ≤ (n + t - 1) / t * t := Int.mul_nonneg e0 (by omega)
  exact ⟨e0, e2, e3, by omega⟩
theorem roundC_no (c : Cfg) (n : Int) (h : ¬ (validC c = true ∧ 0 ≤ n ∧ n ≤ 100000)) : roundC c n = 0 := if_neg h
theorem fillC_no (c : Cfg) (n : Int) (h : ¬ (validC c = true ∧ 0 ≤ n ∧ n ≤ 100000)) : fillC c n = ⟨#[]⟩ := if_neg h
theorem fillN_tab (c : Cfg) (n : Int) (h : c.cpad = 9) : fillN c n = ((n + c.ctab - 1) / c.ctab).toNat := if_pos h
theorem fillN_other (c : Cfg) (n : Int) (h : ¬ c.cpad = 9) : fillN c n = n.toNat := if_neg h
theorem fillC_tab (c : Cfg) (n : Int) (hv : validC c = true) (h0 : 0 ≤ n) (h1 : n ≤ 100000) (h : c.cpad = 9) : fillC c n = copies 9 ((n + c.ctab - 1) / c.ctab).toNat := by
  unfold fillC; rw [if_pos ⟨hv, h0, h1⟩, if_pos h, fillN_tab c n h]
theorem fillC_other (c : Cfg) (n : Int) (hv : validC c = true) (h0 : 0 ≤ n) (h1 : n ≤ 100000) (h : ¬ c.cpad = 9) : fillC c n = copies (UInt8.ofNat c.cpad.toNat) n.toNat := by
  unfold fillC; rw [if_pos ⟨hv, h0, h1⟩, if_neg h, fillN_other c n h]
end Go.Proofs.YtooanejiadbngaaGreatDoor

/- The program's configurations: IsConfig, DefaultConfig. -/
namespace Go.Proofs.YtooanejiadbngaaGreatDoor
open Go.RowKit
set_option linter.unusedVariables false

/-- Each field moved into its range. -/
def nearC (c : Cfg) : Cfg := ⟨min (max c.cmin 0) 200, min (max c.ctab 1) 32, min (max c.cpadding 0) 32, if c.cpad = 9 then c.cpad else min (max c.cpad 32) 126, if c.cpad = 9 then false else c.fr, c.fd, c.fl, c.fe, c.fm⟩
theorem nearC_tab {c : Cfg} (h : c.cpad = 9) : nearC c = ⟨min (max c.cmin 0) 200, min (max c.ctab 1) 32, min (max c.cpadding 0) 32, c.cpad, false, c.fd, c.fl, c.fe, c.fm⟩ := by
  unfold nearC; rw [if_pos h, if_pos h]
theorem nearC_other {c : Cfg} (h : ¬ c.cpad = 9) : nearC c = ⟨min (max c.cmin 0) 200, min (max c.ctab 1) 32, min (max c.cpadding 0) 32, min (max c.cpad 32) 126, c.fr, c.fd, c.fl, c.fe, c.fm⟩ := by
  unfold nearC; rw [if_neg h, if_neg h]
instance : DecidableEq Cfg := fun a b => by
  obtain ⟨a0, a1, a2, a3, a4, a5, a6, a7, a8⟩ := a
  obtain ⟨b0, b1, b2, b3, b4, b5, b6, b7, b8⟩ := b
  exact decidable_of_iff (a0 = b0 ∧ a1 = b1 ∧ a2 = b2 ∧ a3 = b3 ∧ a4 = b4 ∧ a5 = b5 ∧ a6 = b6 ∧ a7 = b7 ∧ a8 = b8) (by simp)
theorem near_valid (c : Cfg) : decide (nearC c = c) = validC c := by
  rw [Bool.eq_iff_iff, decide_eq_true_iff, validC_iff]
  by_cases h : c.cpad = 9
  · rw [nearC_tab h]
    constructor
    · intro e
      have e1 := congrArg Cfg.cmin e
      have e2 := congrArg Cfg.ctab e
      have e3 := congrArg Cfg.cpadding e
      have e5 := congrArg Cfg.fr e
      simp only at e1 e2 e3 e5
      exact ⟨by omega, by omega, by omega, .inl ⟨h, e5.symm⟩⟩
    · rintro ⟨h1, h2, h3, h4⟩
      refine Cfg.same ?_ ?_ ?_ rfl ?_ rfl rfl rfl rfl
      · show min (max c.cmin 0) 200 = c.cmin; omega
      · show min (max c.ctab 1) 32 = c.ctab; omega
      · show min (max c.cpadding 0) 32 = c.cpadding; omega
      · show false = c.fr
        rcases h4 with h4 | h4
        · exact h4.2.symm
        · omega
  · rw [nearC_other h]
    constructor
    · intro e
      have e1 := congrArg Cfg.cmin e
      have e2 := congrArg Cfg.ctab e
      have e3 := congrArg Cfg.cpadding e
      have e4 := congrArg Cfg.cpad e
      simp only at e1 e2 e3 e4
      exact ⟨by omega, by omega, by omega, .inr (by omega)⟩
    · rintro ⟨h1, h2, h3, h4⟩
      refine Cfg.same ?_ ?_ ?_ ?_ rfl rfl rfl rfl rfl
      · show min (max c.cmin 0) 200 = c.cmin; omega
      · show min (max c.ctab 1) 32 = c.ctab; omega
      · show min (max c.cpadding 0) 32 = c.cpadding; omega
      · show min (max c.cpad 32) 126 = c.cpad
        rcases h4 with h4 | h4
        · exact absurd h4.1 h
        · omega

theorem eqFields_step {P : Program} {w : World} {d : Nat} {xs ys : Array Value} {f : Field} {fs : List Field} {a b : Value} {r : Bool} (hn : f.name ≠ "_") (pa : (part f.type xs f.offset).run P w = .ok a w) (pb : (part f.type ys f.offset).run P w = .ok b w)
    (he : (Op.equalIn d f.type a b).run P w = .ok r w) : (Op.eqFields d xs ys (f :: fs)).run P w = if r = true then (Op.eqFields d xs ys fs).run P w else .ok false w := by
  rw [Op.eqFields, if_pos hn]
  simp only [Sem.run_bind, pa, pb, he, Result.andThen_ok]
  cases r <;> simp
theorem fields_of {P : Program} {t : TypeId} {fs : Array Field} (h : P.underlying t = some (.struct fs)) : P.fieldsOf t = fs := by
  unfold Program.fieldsOf
  rw [h]
theorem stood_cfg : Tryz.prog.stoodInHeld 24 = false := by kernel_rfl
theorem struct_cfg : Tryz.prog.underlying 24 = some (.struct (Tryz.prog.fieldsOf 24)) := by
  rw [fields_of Tryz.underlying24]
  exact Tryz.underlying24
set_option maxRecDepth 100000 in
set_option maxHeartbeats 1000000 in
theorem eqCfg (a b : Cfg) (w : World) : (Op.equalIn 10000 24 (.agg (cfgV a)) (.agg (cfgV b))).run Tryz.prog w = .ok (decide (a = b)) w := by
  have hi : ∀ (x y : Int), (Op.equalIn 9999 3 (.int .i64 x) (.int .i64 y)).run Tryz.prog w = .ok (x == y) w := fun x y => run_equalIn_int w 9998 3 .i64 .i64 x y Tryz.underlying3
  have hb : ∀ (x y : Bool), (Op.equalIn 9999 4 (.bool x) (.bool y)).run Tryz.prog w = .ok (x == y) w := fun x y => run_equalIn_bool' w 9998 4 x y Tryz.underlying4
  rw [show (10000 : Nat) = 9999 + 1 from rfl, run_equalIn_struct w 9999 24 _ _ struct_cfg stood_cfg, fields_of Tryz.underlying24]
  obtain ⟨a0, a1, a2, a3, a4, a5, a6, a7, a8⟩ := a
  obtain ⟨b0, b1, b2, b3, b4, b5, b6, b7, b8⟩ := b
  unfold cfgV
  rw [eqFields_step (a := .int .i64 a0) (b := .int .i64 b0) (r := a0 == b0) (by decide) (by kernel_rfl) (by kernel_rfl) (hi a0 b0),
    eqFields_step (a := .int .i64 a1) (b := .int .i64 b1) (r := a1 == b1) (by decide) (by kernel_rfl) (by kernel_rfl) (hi a1 b1),
    eqFields_step (a := .int .i64 a2) (b := .int .i64 b2) (r := a2 == b2) (by decide) (by kernel_rfl) (by kernel_rfl) (hi a2 b2),
    eqFields_step (a := .int .i64 a3) (b := .int .i64 b3) (r := a3 == b3) (by decide) (by kernel_rfl) (by kernel_rfl) (hi a3 b3),
    eqFields_step (a := .bool a4) (b := .bool b4) (r := a4 == b4) (by decide) (by kernel_rfl) (by kernel_rfl) (hb a4 b4),
    eqFields_step (a := .bool a5) (b := .bool b5) (r := a5 == b5) (by decide) (by kernel_rfl) (by kernel_rfl) (hb a5 b5),
    eqFields_step (a := .bool a6) (b := .bool b6) (r := a6 == b6) (by decide) (by kernel_rfl) (by kernel_rfl) (hb a6 b6),
    eqFields_step (a := .bool a7) (b := .bool b7) (r := a7 == b7) (by decide) (by kernel_rfl) (by kernel_rfl) (hb a7 b7),
    eqFields_step (a := .bool a8) (b := .bool b8) (r := a8 == b8) (by decide) (by kernel_rfl) (by kernel_rfl) (hb a8 b8)]
  rw [Op.eqFields]
  by_cases h0 : a0 = b0
  case neg => simp [h0]
  by_cases h1 : a1 = b1
  case neg => simp [h0, h1]
  by_cases h2 : a2 = b2
  case neg => simp [h0, h1, h2]
  by_cases h3 : a3 = b3
  case neg => simp [h0, h1, h2, h3]
  by_cases h4 : a4 = b4
  case neg => simp [h0, h1, h2, h3, h4]
  by_cases h5 : a5 = b5
  case neg => simp [h0, h1, h2, h3, h4, h5]
  by_cases h6 : a6 = b6
  case neg => simp [h0, h1, h2, h3, h4, h5, h6]
  by_cases h7 : a7 = b7
  case neg => simp [h0, h1, h2, h3, h4, h5, h6, h7]
  by_cases h8 : a8 = b8
  case neg => simp [h0, h1, h2, h3, h4, h5, h6, h7, h8]
  simp [h0, h1, h2, h3, h4, h5, h6, h7, h8]

theorem max_any {P : Program} (ts : Array TypeId) (ty : TypeId) (x y : Int) (w : World) : (Builtin.max_ ts ty #[.int .i64 x, .int .i64 y]).run P w = .ok (.int .i64 (max x y)) w := by
  rw [run_max_int2]
  have : (if y > x then y else x) = max x y := by split <;> omega
  rw [this]
theorem min_any {P : Program} (ts : Array TypeId) (ty : TypeId) (x y : Int) (w : World) : (Builtin.min_ ts ty #[.int .i64 x, .int .i64 y]).run P w = .ok (.int .i64 (min x y)) w := by
  rw [run_min_int2]
  have : (if y < x then y else x) = min x y := by split <;> omega
  rw [this]
set_option maxRecDepth 100000 in
set_option maxHeartbeats 1000000 in
theorem implNearest (c : Cfg) (w : World) :
    Calls Tryz.prog 47 #[.agg (cfgV c)] w fun e w' => e = .returned (.agg (cfgV (nearC c))) ∧ Below w.heap.size w w' := by
  by_cases h9 : c.cpad = 9
  · rw [nearC_tab h9]
    have e9 : (c.cpad == 9) = true := by simp [h9]
    clear h9
    obtain ⟨m, t, p, d, fr, fd, fl, fe, fm⟩ := c
    unfold cfgV
    simp only at e9 ⊢
    have hx1 := fun ts ty w => max_any (P := Tryz.prog) ts ty m 0 w
    have hn1 := fun ts ty w => min_any (P := Tryz.prog) ts ty (max m 0) 200 w
    obtain ⟨M1, hM1⟩ : ∃ x, x = max m 0 := ⟨_, rfl⟩
    rw [← hM1] at hx1 hn1 ⊢
    obtain ⟨N1, hN1⟩ : ∃ x, x = min M1 200 := ⟨_, rfl⟩
    rw [← hN1] at hn1 ⊢
    clear hM1 hN1
    have hx2 := fun ts ty w => max_any (P := Tryz.prog) ts ty t 1 w
    have hn2 := fun ts ty w => min_any (P := Tryz.prog) ts ty (max t 1) 32 w
    obtain ⟨M2, hM2⟩ : ∃ x, x = max t 1 := ⟨_, rfl⟩
    rw [← hM2] at hx2 hn2 ⊢
    obtain ⟨N2, hN2⟩ : ∃ x, x = min M2 32 := ⟨_, rfl⟩
    rw [← hN2] at hn2 ⊢
    clear hM2 hN2
    have hx3 := fun ts ty w => max_any (P := Tryz.prog) ts ty p 0 w
    have hn3 := fun ts ty w => min_any (P := Tryz.prog) ts ty (max p 0) 32 w
    obtain ⟨M3, hM3⟩ : ∃ x, x = max p 0 := ⟨_, rfl⟩
    rw [← hM3] at hx3 hn3 ⊢
    obtain ⟨N3, hN3⟩ : ∃ x, x = min M3 32 := ⟨_, rfl⟩
    rw [← hN3] at hn3 ⊢
    clear hM3 hN3
    go_enter Tryz.func47, Tryz.ntmps47
    go_wp2
    exact bodyPost_ret (v := .agg #[.int .i64 N1, .int .i64 N2, .int .i64 N3, .int .i64 d, .bool false, .bool fd, .bool fl, .bool fe, .bool fm]) (by simp [results, Tryz.results47, go_sem]) rfl ⟨rfl, by go_grown⟩
  · rw [nearC_other h9]
    have e9 : (c.cpad == 9) = false := by simp [h9]
    clear h9
    obtain ⟨m, t, p, d, fr, fd, fl, fe, fm⟩ := c
    unfold cfgV
    simp only at e9 ⊢
    have hx1 := fun ts ty w => max_any (P := Tryz.prog) ts ty m 0 w
    have hn1 := fun ts ty w => min_any (P := Tryz.prog) ts ty (max m 0) 200 w
    obtain ⟨M1, hM1⟩ : ∃ x, x = max m 0 := ⟨_, rfl⟩
    rw [← hM1] at hx1 hn1 ⊢
    obtain ⟨N1, hN1⟩ : ∃ x, x = min M1 200 := ⟨_, rfl⟩
    rw [← hN1] at hn1 ⊢
    clear hM1 hN1
    have hx2 := fun ts ty w => max_any (P := Tryz.prog) ts ty t 1 w
    have hn2 := fun ts ty w => min_any (P := Tryz.prog) ts ty (max t 1) 32 w
    obtain ⟨M2, hM2⟩ : ∃ x, x = max t 1 := ⟨_, rfl⟩
    rw [← hM2] at hx2 hn2 ⊢
    obtain ⟨N2, hN2⟩ : ∃ x, x = min M2 32 := ⟨_, rfl⟩
    rw [← hN2] at hn2 ⊢
    clear hM2 hN2
    have hx3 := fun ts ty w => max_any (P := Tryz.prog) ts ty p 0 w
    have hn3 := fun ts ty w => min_any (P := Tryz.prog) ts ty (max p 0) 32 w
    obtain ⟨M3, hM3⟩ : ∃ x, x = max p 0 := ⟨_, rfl⟩
    rw [← hM3] at hx3 hn3 ⊢
    obtain ⟨N3, hN3⟩ : ∃ x, x = min M3 32 := ⟨_, rfl⟩
    rw [← hN3] at hn3 ⊢
    clear hM3 hN3
    have hx4 := fun ts ty w => max_any (P := Tryz.prog) ts ty d 32 w
    have hn4 := fun ts ty w => min_any (P := Tryz.prog) ts ty (max d 32) 126 w
    obtain ⟨M4, hM4⟩ : ∃ x, x = max d 32 := ⟨_, rfl⟩
    rw [← hM4] at hx4 hn4 ⊢
    obtain ⟨N4, hN4⟩ : ∃ x, x = min M4 126 := ⟨_, rfl⟩
    rw [← hN4] at hn4 ⊢
    clear hM4 hN4
    go_enter Tryz.func47, Tryz.ntmps47
    go_wp2
    exact bodyPost_ret (v := .agg #[.int .i64 N1, .int .i64 N2, .int .i64 N3, .int .i64 N4, .bool fr, .bool fd, .bool fl, .bool fe, .bool fm]) (by simp [results, Tryz.results47, go_sem]) rfl ⟨rfl, by go_grown⟩
set_option maxRecDepth 100000 in
set_option maxHeartbeats 2000000 in
theorem implIsConfig (c : Cfg) (w : World) :
    Calls Tryz.prog 33 #[.agg (cfgV c)] w fun e w' => e = .returned (.bool (validC c)) ∧ Below w.heap.size w w' := by
  have HC := Lib.hid (fun W => implNearest c W)
  have hep := fun W => eqCfg (nearC c) c W
  rw [near_valid] at hep
  generalize validC c = q at hep ⊢
  obtain ⟨x, hx⟩ : ∃ x, x = cfgV (nearC c) := ⟨_, rfl⟩
  rw [← hx] at HC hep
  clear hx
  obtain ⟨m, t, p, d, fr, fd, fl, fe, fm⟩ := c
  unfold cfgV at HC hep ⊢
  simp only at HC hep ⊢
  go_enter Tryz.func33, Tryz.ntmps33
  go_wp2_with fail
  go_region_held3 (fun W => W.cell? ⟨w.heap.size, 0, none⟩ = some (.int .i64 m) ∧ W.cell? ⟨w.heap.size, 1, none⟩ = some (.int .i64 t) ∧ W.cell? ⟨w.heap.size, 2, none⟩ = some (.int .i64 p) ∧ W.cell? ⟨w.heap.size, 3, none⟩ = some (.int .i64 d) ∧ W.cell? ⟨w.heap.size, 4, none⟩ = some (.bool fr) ∧ W.cell? ⟨w.heap.size, 5, none⟩ = some (.bool fd) ∧ W.cell? ⟨w.heap.size, 6, none⟩ = some (.bool fl) ∧ W.cell? ⟨w.heap.size, 7, none⟩ = some (.bool fe) ∧ W.cell? ⟨w.heap.size, 8, none⟩ = some (.bool fm) ∧ Below w.heap.size w W ∧ w.heap.size + 1 ≤ W.heap.size)
    (first | exact box_start _ _ _ _ _ _ _ _ _ _ | exact box_step (by assumption) (by assumption))
    (first | (go_at_call 47; refine (HC.out _).mono ?_; rintro e w1 ⟨rfl, hb1⟩))
  all_goals
    go_wp2
    go_ret
    exact ⟨rfl, box_old (w := w) (B := w.heap.size) (by assumption)⟩
end Go.Proofs.YtooanejiadbngaaGreatDoor

/- What ParseConfig answers, out of the parts of the text: plain words; and a block that a call fills field by field. -/
namespace Go.Proofs.YtooanejiadbngaaGreatDoor
open Go.RowKit Go.Lib
set_option linter.unusedVariables false

/-! ### parts -/
theorem extract_size_le (s : ByteArray) (a b : Nat) : (s.extract a b).size ≤ s.size := by
  rw [ByteArray.size_extract]; omega
theorem cut_size (s : ByteArray) (p : UInt8 → Bool) : ∀ i, ∀ x ∈ (cutAt s p i).1, x.size ≤ s.size
  | 0, x, hx => by cases hx
  | i + 1, x, hx => by
    rw [cutAt_succ] at hx
    split at hx
    · rcases List.mem_append.1 hx with h | h
      · exact cut_size s p i x h
      · rcases List.mem_singleton.1 h with rfl
        exact extract_size_le _ _ _
    · exact cut_size s p i x hx
theorem part_size (s : ByteArray) (p : UInt8 → Bool) (x : ByteArray) (hx : x ∈ splitB s p) : x.size ≤ s.size := by
  unfold splitB at hx
  rcases List.mem_append.1 hx with h | h
  · exact cut_size s p _ x h
  · rcases List.mem_singleton.1 h with rfl
    exact extract_size_le _ _ _
theorem split_ne (s : ByteArray) (p : UInt8 → Bool) : splitB s p ≠ [] := by unfold splitB; simp
theorem two_of {l : List ByteArray} (h : l.length = 2) : ∃ a b, l = [a, b] := by
  match l, h with
  | [a, b], _ => exact ⟨a, b, rfl⟩
theorem four_of {l : List ByteArray} (h : l.length = 4) : ∃ a b c d, l = [a, b, c, d] := by
  match l, h with
  | [a, b, c, d], _ => exact ⟨a, b, c, d, rfl⟩
theorem five_of {l : List ByteArray} (h : l.length = 5) : ∃ a b c d e, l = [a, b, c, d, e] := by
  match l, h with
  | [a, b, c, d, e], _ => exact ⟨a, b, c, d, e, rfl⟩

/-! ### numbers -/
/-- v is the number that s is the text of, or 0. -/
def NumOf (s : ByteArray) (v : Int) : Prop := IsNum s v ∨ (NoNum s ∧ v = 0)
theorem ParseEnd.num {s : ByteArray} {e : Ending} (h : ParseEnd s e) : ∃ (v : Int) (ok : Bool), NumOf s v ∧ (ok = true → IsNum s v) ∧ (ok = false → NoNum s) ∧ e = .returned (.tuple #[.int .i64 v, .bool ok]) := by
  rcases h with ⟨v, hv, rfl⟩ | ⟨hn, rfl⟩
  · exact ⟨v, true, .inl hv, fun _ => hv, (fun h => by cases h), rfl⟩
  · exact ⟨0, false, .inr ⟨hn, rfl⟩, (fun h => by cases h), fun _ => hn, rfl⟩
theorem NumOf.at_ {s : ByteArray} {v n : Int} (h : NumOf s v) (hn : InInt n) (he : fmtB n = s) : v = n := by
  rcases h with h | h
  · exact fmtB_inj (h.2.trans he.symm)
  · exact absurd he (h.1 n hn)
theorem valid_in {c : Cfg} (h : validC c = true) : InInt c.cmin ∧ InInt c.ctab ∧ InInt c.cpadding ∧ InInt c.cpad := by
  rw [validC_iff] at h
  unfold InInt
  omega

/-! ### the model's way: two parts at a space, four at commas -/
theorem no_two {t : ByteArray} (h : (splitB t (isSep ⟨#[32]⟩)).length ≠ 2) : NoCfg t := fun d hd he => h (by rw [← he, split_cfg d hd]; rfl)
theorem no_four {t w0 w1 : ByteArray} (h : splitB t (isSep ⟨#[32]⟩) = [w0, w1]) (h4 : (splitB w0 (isSep ⟨#[44]⟩)).length ≠ 4) : NoCfg t := fun d hd he => by
  rw [← he, split_cfg d hd] at h
  injection h with h1 _
  rw [← h1, split_nums d hd] at h4
  exact h4 rfl
/-- The configuration that is read out of the parts. -/
def partsC (v0 v1 v2 v3 : Int) (f : ByteArray) : Cfg := ⟨v0, v1, v2, v3, hasB f 114, hasB f 100, hasB f 108, hasB f 101, hasB f 109⟩
theorem has_tail (d : Cfg) : hasB ⟨(tailL d).toArray⟩ 114 = d.fr ∧ hasB ⟨(tailL d).toArray⟩ 100 = d.fd ∧ hasB ⟨(tailL d).toArray⟩ 108 = d.fl ∧ hasB ⟨(tailL d).toArray⟩ 101 = d.fe ∧ hasB ⟨(tailL d).toArray⟩ 109 = d.fm := by
  have := tail_has d
  unfold hasB
  simpa using this
theorem parts_of {t w0 w1 n0 n1 n2 n3 : ByteArray} {v0 v1 v2 v3 : Int} (hw : splitB t (isSep ⟨#[32]⟩) = [w0, w1]) (hn : splitB w0 (isSep ⟨#[44]⟩) = [n0, n1, n2, n3])
    (h0 : NumOf n0 v0) (h1 : NumOf n1 v1) (h2 : NumOf n2 v2) (h3 : NumOf n3 v3) {d : Cfg} (hd : validC d = true) (he : fmtCB d = t) : partsC v0 v1 v2 v3 w1 = d := by
  rw [← he, split_cfg d hd] at hw
  simp only [List.cons.injEq, and_true] at hw
  obtain ⟨rfl, rfl⟩ := hw
  rw [split_nums d hd] at hn
  simp only [List.cons.injEq, and_true] at hn
  obtain ⟨e0, e1, e2, e3⟩ := hn
  obtain ⟨b0, b1, b2, b3⟩ := valid_in hd
  obtain ⟨f0, f1, f2, f3, f4⟩ := has_tail d
  exact Cfg.same (h0.at_ b0 e0) (h1.at_ b1 e1) (h2.at_ b2 e2) (h3.at_ b3 e3) f0 f1 f2 f3 f4
theorem fmt_valid {c : Cfg} (h : fmtCB c ≠ ⟨#[]⟩) : validC c = true := by
  cases hv : validC c with
  | true => rfl
  | false => exact absurd (fmtCB_no hv) h
theorem fmt_ne {c : Cfg} (h : validC c = true) : fmtCB c ≠ ⟨#[]⟩ := fun e => by
  have := fmtCB_ne h
  rw [e] at this
  exact absurd this (by decide)
theorem parse_no {t w0 w1 n0 n1 n2 n3 : ByteArray} {v0 v1 v2 v3 : Int} (hw : splitB t (isSep ⟨#[32]⟩) = [w0, w1]) (hn : splitB w0 (isSep ⟨#[44]⟩) = [n0, n1, n2, n3])
    (h0 : NumOf n0 v0) (h1 : NumOf n1 v1) (h2 : NumOf n2 v2) (h3 : NumOf n3 v3) (hf : fmtCB (partsC v0 v1 v2 v3 w1) = ⟨#[]⟩ ∨ fmtCB (partsC v0 v1 v2 v3 w1) ≠ t) : NoCfg t := fun d hd he => by
  have e := parts_of hw hn h0 h1 h2 h3 hd he
  rw [e] at hf
  rcases hf with hf | hf
  · exact fmt_ne hd hf
  · exact hf he
theorem parse_yes {t : ByteArray} {c : Cfg} (he : fmtCB c ≠ ⟨#[]⟩) (hf : fmtCB c = t) : IsCfg t c := ⟨fmt_valid he, hf⟩

/-! ### the program's way: five parts at commas and spaces -/
theorem sep_two (x : UInt8) : isSep ⟨#[44, 32]⟩ x = (decide (x = 44) || decide (x = 32)) := by
  unfold isSep
  rw [Bool.eq_iff_iff]
  simp
theorem split_five (d : Cfg) (h : validC d = true) : splitB (fmtCB d) (isSep ⟨#[44, 32]⟩) = [fmtB d.cmin, fmtB d.ctab, fmtB d.cpadding, fmtB d.cpad, ⟨(tailL d).toArray⟩] := by
  rw [fmtCB_yes h]
  have hn := (validC_iff d).1 h
  have k : ∀ n : Int, 0 ≤ n → ∀ x ∈ itoa n, isSep ⟨#[44, 32]⟩ x = false := fun n hn x hx => by
    have := itoa_dig n hn x hx
    rw [sep_two, Bool.or_eq_false_iff, decide_eq_false_iff_not, decide_eq_false_iff_not]
    constructor
    · rintro rfl; exact absurd this.1 (by decide)
    · rintro rfl; exact absurd this.1 (by decide)
  have kt : ∀ x ∈ tailL d, isSep ⟨#[44, 32]⟩ x = false := fun x hx => by
    have h32 := tail_no d
    have h44 : (44 : UInt8) ∉ tailL d := fun hx => by
      have : ∀ a b c d e, (tail5 a b c d e).contains 44 = false := by decide
      have := this d.fr d.fd d.fl d.fe d.fm
      rw [show tail5 d.fr d.fd d.fl d.fe d.fm = tailL d from rfl, List.contains_iff_mem.2 hx] at this
      cases this
    rw [sep_two, Bool.or_eq_false_iff, decide_eq_false_iff_not, decide_eq_false_iff_not]
    exact ⟨fun e => h44 (e ▸ hx), fun e => h32 (e ▸ hx)⟩
  have e : fmtL d = itoa d.cmin ++ 44 :: (itoa d.ctab ++ 44 :: (itoa d.cpadding ++ 44 :: (itoa d.cpad ++ 32 :: tailL d))) := by
    unfold fmtL numsL
    simp
  rw [e, split_cons _ _ _ _ (k _ (by omega)) (by rw [sep_two]; decide), split_cons _ _ _ _ (k _ (by omega)) (by rw [sep_two]; decide), split_cons _ _ _ _ (k _ (by omega)) (by rw [sep_two]; decide), split_cons _ _ _ _ (k _ (by omega)) (by rw [sep_two]; decide), split_one _ _ kt]
  rfl
theorem no_five {t : ByteArray} (h : (splitB t (isSep ⟨#[44, 32]⟩)).length ≠ 5) : NoCfg t := fun d hd he => h (by rw [← he, split_five d hd]; rfl)
theorem five_no {t n0 n1 n2 n3 f : ByteArray} (hw : splitB t (isSep ⟨#[44, 32]⟩) = [n0, n1, n2, n3, f]) (h : NoNum n0 ∨ NoNum n1 ∨ NoNum n2 ∨ NoNum n3) : NoCfg t := fun d hd he => by
  rw [← he, split_five d hd] at hw
  simp only [List.cons.injEq, and_true] at hw
  obtain ⟨e0, e1, e2, e3, _⟩ := hw
  obtain ⟨b0, b1, b2, b3⟩ := valid_in hd
  rcases h with h | h | h | h
  · exact h _ b0 e0
  · exact h _ b1 e1
  · exact h _ b2 e2
  · exact h _ b3 e3
theorem five_of_cfg {t n0 n1 n2 n3 f : ByteArray} {v0 v1 v2 v3 : Int} (hw : splitB t (isSep ⟨#[44, 32]⟩) = [n0, n1, n2, n3, f]) (h0 : IsNum n0 v0) (h1 : IsNum n1 v1) (h2 : IsNum n2 v2) (h3 : IsNum n3 v3)
    {d : Cfg} (hd : validC d = true) (he : fmtCB d = t) : partsC v0 v1 v2 v3 f = d := by
  rw [← he, split_five d hd] at hw
  simp only [List.cons.injEq, and_true] at hw
  obtain ⟨e0, e1, e2, e3, rfl⟩ := hw
  obtain ⟨b0, b1, b2, b3⟩ := valid_in hd
  obtain ⟨f0, f1, f2, f3, f4⟩ := has_tail d
  exact Cfg.same ((NumOf.at_ (.inl h0)) b0 e0) ((NumOf.at_ (.inl h1)) b1 e1) ((NumOf.at_ (.inl h2)) b2 e2) ((NumOf.at_ (.inl h3)) b3 e3) f0 f1 f2 f3 f4
/-- What readConfig gives: no configuration, or the only one whose text t can be. -/
def ReadC (t : ByteArray) (c : Cfg) (ok : Bool) : Prop := (ok = false ∧ NoCfg t) ∨ (ok = true ∧ t ≠ ⟨#[]⟩ ∧ ∀ d, validC d = true → fmtCB d = t → d = c)
theorem ReadC.none {t : ByteArray} {c : Cfg} (h : ReadC t c false) : NoCfg t := by
  rcases h with ⟨_, h⟩ | ⟨h, _⟩
  · exact h
  · cases h
theorem ReadC.no {t : ByteArray} {c : Cfg} (h : ReadC t c true) (hf : fmtCB c ≠ t) : NoCfg t := fun d hd he => by
  rcases h with ⟨h, _⟩ | ⟨_, _, h⟩
  · cases h
  · have := h d hd he
    subst this
    exact hf he
theorem ReadC.yes {t : ByteArray} {c : Cfg} (h : ReadC t c true) (hf : fmtCB c = t) : IsCfg t c := by
  rcases h with ⟨h, _⟩ | ⟨_, h0, _⟩
  · cases h
  · exact ⟨fmt_valid (by rw [hf]; exact h0), hf⟩
theorem five_ne {t n0 n1 n2 n3 f : ByteArray} (hw : splitB t (isSep ⟨#[44, 32]⟩) = [n0, n1, n2, n3, f]) : t ≠ ⟨#[]⟩ := fun e => by
  rw [e, show (⟨#[]⟩ : ByteArray) = ⟨([] : List UInt8).toArray⟩ from rfl, split_one _ _ (fun x hx => by cases hx)] at hw
  simp at hw

theorem Blk.boxed {W : World} {g : Nat} {T : TypeId} {m t p d : Int} {fr fd fl fe fm : Bool} (h : Blk W g T #[.int .i64 m, .int .i64 t, .int .i64 p, .int .i64 d, .bool fr, .bool fd, .bool fl, .bool fe, .bool fm]) : Boxed W g m t p d fr fd fl fe fm :=
  ⟨h.cell 0, h.cell 1, h.cell 2, h.cell 3, h.cell 4, h.cell 5, h.cell 6, h.cell 7, h.cell 8⟩
end Go.Proofs.YtooanejiadbngaaGreatDoor

/- The zero configuration in memory. -/
namespace Go.Proofs.YtooanejiadbngaaGreatDoor
open Go.RowKit
set_option linter.unusedVariables false

/-- The zero configuration's cells. -/
def ZC : Array Value := #[.int .i64 0, .int .i64 0, .int .i64 0, .int .i64 0, .bool false, .bool false, .bool false, .bool false, .bool false]
theorem zero_cfg (w : World) : (zeroValue 24).run Tryz.prog w = .ok (.agg ZC) w := by kernel_rfl
theorem size_cfg : (Tryz.prog.info? 24).map (·.size) = some 9 := by kernel_rfl
theorem one_cfg (c : Cfg) : (cfgV c).all (·.oneCell') = true := by simp [cfgV, Value.oneCell']
theorem one_ZC : ZC.all (·.oneCell') = true := one_cfg zeroC
theorem ZC_eq : cfgV zeroC = ZC := rfl
theorem load_cfg (W : World) (g : Nat) (c : Cfg) (h : Blk W g 24 (cfgV c)) : (loadVar 24 ⟨g, 0, none⟩).run Tryz.prog W = .ok (.agg (cfgV c)) W :=
  run_loadVar_row W g 24 24 (cfgV c) (0, 0) _ h Tryz.underlying24 rfl size_cfg
end Go.Proofs.YtooanejiadbngaaGreatDoor

/- Lines in memory: what reads as a list of cells, and of lines. No walk. -/
namespace Go.Proofs.YtooanejiadbngaaGreatDoor
open Go.RowKit
set_option linter.unusedVariables false

/-- The slice value v reads as the cells l (two cells of memory each). -/
def CelAt (w : World) (g o : Nat) (c : Cel) : Prop := w.cell? ⟨g, o, none⟩ = some (.string c.txt) ∧ w.cell? ⟨g, o + 1, none⟩ = some (.int .i64 c.wid)
def RdC (w : World) (v : Value) (l : List Cel) : Prop :=
  ∃ (A : Option Addr) (cap : Nat), v = .slice A l.length cap ∧ (0 < l.length → ∃ g o, A = some ⟨g, o, none⟩ ∧ g < w.heap.size ∧ ∀ j c, l[j]? = some c → CelAt w g (o + j * 2) c)
/-- The slice value v reads as the lines ls (four cells of memory each). -/
def LnAt (w : World) (g o : Nat) (l : Ln) : Prop :=
  (∃ v, w.cell? ⟨g, o, none⟩ = some v ∧ RdC w v l.cells) ∧ w.cell? ⟨g, o + 1, none⟩ = some (.string l.tail.txt) ∧ w.cell? ⟨g, o + 2, none⟩ = some (.int .i64 l.tail.wid) ∧ w.cell? ⟨g, o + 3, none⟩ = some (.int .i64 l.fin)
def RdL (w : World) (v : Value) (ls : List Ln) : Prop :=
  ∃ (A : Option Addr) (cap : Nat), v = .slice A ls.length cap ∧ (0 < ls.length → ∃ g o, A = some ⟨g, o, none⟩ ∧ g < w.heap.size ∧ ∀ j l, ls[j]? = some l → LnAt w g (o + j * 4) l)
theorem CelAt.keep {w w' : World} {g o : Nat} {c : Cel} (h : CelAt w g o c) (hk : ∀ p : Addr, p.block < w.heap.size → w'.cell? p = w.cell? p) (hg : g < w.heap.size) : CelAt w' g o c := ⟨(hk _ hg).trans h.1, (hk _ hg).trans h.2⟩
theorem RdC.keep {w w' : World} {v : Value} {l : List Cel} (h : RdC w v l) (hs : w.heap.size ≤ w'.heap.size) (hk : ∀ p : Addr, p.block < w.heap.size → w'.cell? p = w.cell? p) : RdC w' v l := by
  obtain ⟨A, c, hv, hc⟩ := h
  refine ⟨A, c, hv, fun h0 => ?_⟩
  obtain ⟨g, o, hA, hg, hcell⟩ := hc h0
  exact ⟨g, o, hA, by omega, fun j u hu => (hcell j u hu).keep hk hg⟩
theorem RdL.keep {w w' : World} {v : Value} {ls : List Ln} (h : RdL w v ls) (hs : w.heap.size ≤ w'.heap.size) (hk : ∀ p : Addr, p.block < w.heap.size → w'.cell? p = w.cell? p) : RdL w' v ls := by
  obtain ⟨A, c, hv, hc⟩ := h
  refine ⟨A, c, hv, fun h0 => ?_⟩
  obtain ⟨g, o, hA, hg, hcell⟩ := hc h0
  refine ⟨g, o, hA, by omega, fun j u hu => ?_⟩
  obtain ⟨⟨vc, h1, h2⟩, h3, h4, h5⟩ := hcell j u hu
  exact ⟨⟨vc, (hk _ hg).trans h1, h2.keep hs hk⟩, (hk _ hg).trans h3, (hk _ hg).trans h4, (hk _ hg).trans h5⟩
theorem RdC.below {w w' : World} {v : Value} {l : List Cel} (h : RdC w v l) (hb : Below w.heap.size w w') : RdC w' v l := h.keep hb.size fun _ hp => hb.cell hp
theorem RdL.below {w w' : World} {v : Value} {ls : List Ln} (h : RdL w v ls) (hb : Below w.heap.size w w') : RdL w' v ls := h.keep hb.size fun _ hp => hb.cell hp
theorem RdC.nil (w : World) (A : Option Addr) (c : Nat) : RdC w (.slice A 0 c) [] := ⟨A, c, rfl, fun h => absurd h (by decide)⟩
theorem RdL.nil (w : World) (A : Option Addr) (c : Nat) : RdL w (.slice A 0 c) [] := ⟨A, c, rfl, fun h => absurd h (by decide)⟩
/-- .. and lies in a block from B on. -/
def RdCB (B : Nat) (w : World) (v : Value) (l : List Cel) : Prop :=
  ∃ (A : Option Addr) (cap : Nat), v = .slice A l.length cap ∧ (0 < l.length → ∃ g o, A = some ⟨g, o, none⟩ ∧ B ≤ g ∧ g < w.heap.size ∧ ∀ j c, l[j]? = some c → CelAt w g (o + j * 2) c)
theorem RdCB.rd {B : Nat} {w : World} {v : Value} {l : List Cel} (h : RdCB B w v l) : RdC w v l := by
  obtain ⟨A, c, hv, hc⟩ := h
  exact ⟨A, c, hv, fun h0 => (let ⟨g, o, h1, _, h2, h3⟩ := hc h0; ⟨g, o, h1, h2, h3⟩)⟩
theorem RdCB.keep {B : Nat} {w w' : World} {v : Value} {l : List Cel} (h : RdCB B w v l) (hs : w.heap.size ≤ w'.heap.size) (hk : ∀ p : Addr, B ≤ p.block → p.block < w.heap.size → w'.cell? p = w.cell? p) : RdCB B w' v l := by
  obtain ⟨A, c, hv, hc⟩ := h
  refine ⟨A, c, hv, fun h0 => ?_⟩
  obtain ⟨g, o, hA, hB, hg, hcell⟩ := hc h0
  exact ⟨g, o, hA, hB, by omega, fun j u hu => ⟨(hk _ hB hg).trans (hcell j u hu).1, (hk _ hB hg).trans (hcell j u hu).2⟩⟩
theorem RdCB.below {B : Nat} {w w' : World} {v : Value} {l : List Cel} (h : RdCB B w v l) (hb : Below w.heap.size w w') : RdCB B w' v l := h.keep hb.size fun _ _ hp => hb.cell hp
theorem RdCB.mono {B B' : Nat} {w : World} {v : Value} {l : List Cel} (h : RdCB B w v l) (hB : B' ≤ B) : RdCB B' w v l := by
  obtain ⟨A, c, hv, hc⟩ := h
  exact ⟨A, c, hv, fun h0 => (let ⟨g, o, h1, h4, h2, h3⟩ := hc h0; ⟨g, o, h1, Nat.le_trans hB h4, h2, h3⟩)⟩
/-- The first k of n cells have been filled in. -/
def MadeC (cs : Array Value) (l : List Cel) (k n : Nat) : Prop :=
  cs.size = n * 2 ∧ ∀ j c, j < k → l[j]? = some c → cs[j * 2]? = some (.string c.txt) ∧ cs[j * 2 + 1]? = some (.int .i64 c.wid)
theorem MadeC.step {cs : Array Value} {l : List Cel} {k n : Nat} (h : MadeC cs l k n) (hk : k < n) (c : Cel) (hc : l[k]? = some c) : MadeC ((cs.setIfInBounds (k * 2) (.string c.txt)).setIfInBounds (k * 2 + 1) (.int .i64 c.wid)) l (k + 1) n := by
  obtain ⟨h1, h2⟩ := h
  refine ⟨by simpa using h1, fun j d hj hd => ?_⟩
  simp only [Array.getElem?_setIfInBounds, Array.size_setIfInBounds]
  by_cases hjk : j = k
  · subst hjk
    rw [hc] at hd
    injection hd with hd
    subst hd
    have e1 : j * 2 < cs.size := by omega
    have e2 : j * 2 + 1 < cs.size := by omega
    simp [e1, e2]
  · have hlt : j < k := by omega
    obtain ⟨a, b⟩ := h2 j d hlt hd
    have e1 : k * 2 + 1 ≠ j * 2 := by omega
    have e2 : k * 2 ≠ j * 2 := by omega
    have e4 : k * 2 ≠ j * 2 + 1 := by omega
    simp [e1, e2, e4, a, b]
/-- The first k of n lines have been filled in. -/
def MadeL (B : Nat) (w : World) (cs : Array Value) (ls : List Ln) (k n : Nat) : Prop :=
  cs.size = n * 4 ∧ ∀ j l, j < k → ls[j]? = some l → (∃ v, cs[j * 4]? = some v ∧ RdCB B w v l.cells) ∧ cs[j * 4 + 1]? = some (.string l.tail.txt) ∧ cs[j * 4 + 2]? = some (.int .i64 l.tail.wid) ∧ cs[j * 4 + 3]? = some (.int .i64 l.fin)
theorem MadeL.keep {B : Nat} {w w' : World} {cs : Array Value} {ls : List Ln} {k n : Nat} (h : MadeL B w cs ls k n) (hs : w.heap.size ≤ w'.heap.size) (hk : ∀ p : Addr, B ≤ p.block → p.block < w.heap.size → w'.cell? p = w.cell? p) : MadeL B w' cs ls k n :=
  ⟨h.1, fun j l hj hl => (let ⟨⟨v, h1, h2⟩, h3⟩ := h.2 j l hj hl; ⟨⟨v, h1, h2.keep hs hk⟩, h3⟩)⟩
theorem MadeL.step {B : Nat} {w : World} {cs : Array Value} {ls : List Ln} {k n : Nat} (h : MadeL B w cs ls k n) (hk : k < n) (l : Ln) (hl : ls[k]? = some l) (v : Value) (hv : RdCB B w v l.cells) :
    MadeL B w ((((cs.setIfInBounds (k * 4) v).setIfInBounds (k * 4 + 1) (.string l.tail.txt)).setIfInBounds (k * 4 + 2) (.int .i64 l.tail.wid)).setIfInBounds (k * 4 + 3) (.int .i64 l.fin)) ls (k + 1) n := by
  obtain ⟨h1, h2⟩ := h
  refine ⟨by simpa using h1, fun j d hj hd => ?_⟩
  simp only [Array.getElem?_setIfInBounds, Array.size_setIfInBounds]
  by_cases hjk : j = k
  · subst hjk
    rw [hl] at hd
    injection hd with hd
    subst hd
    have e0 : j * 4 < cs.size := by omega
    have e1 : j * 4 + 1 < cs.size := by omega
    have e2 : j * 4 + 2 < cs.size := by omega
    have e3 : j * 4 + 3 < cs.size := by omega
    refine ⟨⟨v, by simp [e0], hv⟩, by simp [e1], by simp [e2], by simp [e3]⟩
  · have hlt : j < k := by omega
    obtain ⟨⟨u, a, hu⟩, b, c, e⟩ := h2 j d hlt hd
    refine ⟨⟨u, ?_, hu⟩, ?_, ?_, ?_⟩
    · rw [if_neg (by omega), if_neg (by omega), if_neg (by omega), if_neg (by omega)]; exact a
    · rw [if_neg (by omega), if_neg (by omega), if_neg (by omega), if_neg (by omega)]; exact b
    · rw [if_neg (by omega), if_neg (by omega), if_neg (by omega), if_neg (by omega)]; exact c
    · rw [if_neg (by omega), if_neg (by omega), if_neg (by omega), if_neg (by omega)]; exact e
theorem MadeC.rd {B g : Nat} {W : World} {T : TypeId} {cs : Array Value} {l : List Cel} {n : Nat} (h : MadeC cs l n n) (hn : l.length = n) (hb : Blk W g T cs) (hB : B ≤ g) (cap : Nat) : RdCB B W (.slice (some ⟨g, 0, none⟩) n cap) l := by
  refine ⟨_, cap, by rw [hn], fun _ => ⟨g, 0, rfl, hB, hb.lt, fun j c hj => ?_⟩⟩
  have hjn : j < n := by
    rcases Nat.lt_or_ge j n with h | h
    · exact h
    · rw [List.getElem?_eq_none (by omega)] at hj; cases hj
  obtain ⟨a, b⟩ := h.2 j c hjn hj
  exact ⟨by rw [hb.cell, Nat.zero_add]; exact a, by rw [hb.cell, Nat.zero_add]; exact b⟩
theorem MadeL.rd {B g : Nat} {W : World} {T : TypeId} {cs : Array Value} {ls : List Ln} {n : Nat} (h : MadeL B W cs ls n n) (hn : ls.length = n) (hb : Blk W g T cs) (cap : Nat) : RdL W (.slice (some ⟨g, 0, none⟩) n cap) ls := by
  refine ⟨_, cap, by rw [hn], fun _ => ⟨g, 0, rfl, hb.lt, fun j l hj => ?_⟩⟩
  have hjn : j < n := by
    rcases Nat.lt_or_ge j n with h | h
    · exact h
    · rw [List.getElem?_eq_none (by omega)] at hj; cases hj
  obtain ⟨⟨v, a, hv⟩, b, c, d⟩ := h.2 j l hjn hj
  refine ⟨⟨v, ?_, hv.rd⟩, ?_, ?_, ?_⟩
  · rw [hb.cell, Nat.zero_add]; exact a
  · rw [hb.cell, Nat.zero_add]; exact b
  · rw [hb.cell, Nat.zero_add]; exact c
  · rw [hb.cell, Nat.zero_add]; exact d
/-- All the bytes and places of a list of cells, of a list of lines. -/
def totC : List Cel → Nat
  | [] => 0
  | c :: r => c.txt.size + totC r
def totL : List Ln → Nat
  | [] => 0
  | l :: r => (l.cells.length + totC l.cells + l.tail.txt.size) + totL r
theorem totC_mem (l : List Cel) (c : Cel) (h : c ∈ l) : c.txt.size ≤ totC l := by
  induction l with
  | nil => cases h
  | cons y r ih =>
    cases h with
    | head => simp only [totC]; omega
    | tail _ h => have := ih h; simp only [totC]; omega
theorem totL_mem (ls : List Ln) (l : Ln) (h : l ∈ ls) : l.cells.length + totC l.cells + l.tail.txt.size ≤ totL ls := by
  induction ls with
  | nil => cases h
  | cons y r ih =>
    cases h with
    | head => simp only [totL]; omega
    | tail _ h => have := ih h; simp only [totL]; omega
theorem totC_drop (l : List Cel) (k : Nat) (h : k < l.length) : totC (l.drop k) = l[k].txt.size + totC (l.drop (k + 1)) := by
  rw [List.drop_eq_getElem_cons h]; rfl
theorem totL_drop (l : List Ln) (k : Nat) (h : k < l.length) : totL (l.drop k) = (l[k].cells.length + totC l[k].cells + l[k].tail.txt.size) + totL (l.drop (k + 1)) := by
  rw [List.drop_eq_getElem_cons h]; rfl
/-- Numbers fit. -/
def FitL (ls : List Ln) : Prop := ls.length ≤ 1048576 ∧ totL ls ≤ 1048576
def FitW (ls : List Ln) : Prop := ls.length ≤ 100000000 ∧ totL ls ≤ 100000000
theorem FitL.wide {ls : List Ln} (h : FitL ls) : FitW ls := ⟨Nat.le_trans h.1 (by omega), Nat.le_trans h.2 (by omega)⟩
/-- What came in fits: numbers of places, and texts. -/
def InL (ls : List Ln) : Prop := ls.length ≤ maxLen ∧ ∀ l ∈ ls, l.cells.length ≤ maxLen ∧ (∀ c ∈ l.cells, c.txt.size ≤ maxLen) ∧ l.tail.txt.size ≤ maxLen
end Go.Proofs.YtooanejiadbngaaGreatDoor

/- The laws' own helpers on lines: eqLineS, szLineS, toLineS. -/
namespace Go.Proofs.YtooanejiadbngaaGreatDoor
open Go.RowKit
set_option linter.unusedVariables false

theorem keep_cell {w W W' : World} {p : Addr} {v : Value} (hw : Below w.heap.size w W) (hb : Below W.heap.size W W') (h : W.cell? p = some v) (hp : p.block < w.heap.size) : W'.cell? p = some v :=
  (hb.cell (p := p) (Nat.lt_of_lt_of_le hp hw.size)).trans h
theorem keep4 {w W W' : World} {p1 p2 p3 p4 : Addr} {v1 v2 v3 v4 : Value} (hb : Below W.heap.size W W') (h : W.cell? p1 = some v1 ∧ W.cell? p2 = some v2 ∧ W.cell? p3 = some v3 ∧ W.cell? p4 = some v4 ∧ Below w.heap.size w W)
    (k1 : p1.block < w.heap.size) (k2 : p2.block < w.heap.size) (k3 : p3.block < w.heap.size) (k4 : p4.block < w.heap.size) : W'.cell? p1 = some v1 ∧ W'.cell? p2 = some v2 ∧ W'.cell? p3 = some v3 ∧ W'.cell? p4 = some v4 ∧ Below w.heap.size w W' :=
  ⟨keep_cell h.2.2.2.2 hb h.1 k1, keep_cell h.2.2.2.2 hb h.2.1 k2, keep_cell h.2.2.2.2 hb h.2.2.1 k3, keep_cell h.2.2.2.2 hb h.2.2.2.1 k4, h.2.2.2.2.trans (hb.mono h.2.2.2.2.size)⟩
theorem keep8 {w W W' : World} {p1 p2 p3 p4 p5 p6 p7 p8 : Addr} {v1 v2 v3 v4 v5 v6 v7 v8 : Value} (hb : Below W.heap.size W W') (h : W.cell? p1 = some v1 ∧ W.cell? p2 = some v2 ∧ W.cell? p3 = some v3 ∧ W.cell? p4 = some v4 ∧ W.cell? p5 = some v5 ∧ W.cell? p6 = some v6 ∧ W.cell? p7 = some v7 ∧ W.cell? p8 = some v8 ∧ Below w.heap.size w W)
    (k1 : p1.block < w.heap.size) (k5 : p5.block < w.heap.size) (e2 : p2.block = p1.block) (e3 : p3.block = p1.block) (e4 : p4.block = p1.block) (e6 : p6.block = p5.block) (e7 : p7.block = p5.block) (e8 : p8.block = p5.block) :
    W'.cell? p1 = some v1 ∧ W'.cell? p2 = some v2 ∧ W'.cell? p3 = some v3 ∧ W'.cell? p4 = some v4 ∧ W'.cell? p5 = some v5 ∧ W'.cell? p6 = some v6 ∧ W'.cell? p7 = some v7 ∧ W'.cell? p8 = some v8 ∧ Below w.heap.size w W' := by
  obtain ⟨h1, h2, h3, h4, h5, h6, h7, h8, h9⟩ := h
  exact ⟨keep_cell h9 hb h1 k1, keep_cell h9 hb h2 (e2 ▸ k1), keep_cell h9 hb h3 (e3 ▸ k1), keep_cell h9 hb h4 (e4 ▸ k1), keep_cell h9 hb h5 k5, keep_cell h9 hb h6 (e6 ▸ k5), keep_cell h9 hb h7 (e7 ▸ k5), keep_cell h9 hb h8 (e8 ▸ k5), h9.trans (hb.mono h9.size)⟩
theorem old4 {w W : World} {p1 p2 p3 p4 : Addr} {v1 v2 v3 v4 : Value} (h : W.cell? p1 = some v1 ∧ W.cell? p2 = some v2 ∧ W.cell? p3 = some v3 ∧ W.cell? p4 = some v4 ∧ Below w.heap.size w W) : Below w.heap.size w W := h.2.2.2.2
theorem old8 {w W : World} {p1 p2 p3 p4 p5 p6 p7 p8 : Addr} {v1 v2 v3 v4 v5 v6 v7 v8 : Value} (h : W.cell? p1 = some v1 ∧ W.cell? p2 = some v2 ∧ W.cell? p3 = some v3 ∧ W.cell? p4 = some v4 ∧ W.cell? p5 = some v5 ∧ W.cell? p6 = some v6 ∧ W.cell? p7 = some v7 ∧ W.cell? p8 = some v8 ∧ Below w.heap.size w W) : Below w.heap.size w W := h.2.2.2.2.2.2.2.2
end Go.Proofs.YtooanejiadbngaaGreatDoor

/- Bytes in memory: what reads as a list of bytes, and as a text; a row's own block. -/
namespace Go.Proofs.YtooanejiadbngaaGreatDoor
open Go.RowKit
set_option linter.unusedVariables false

/-- The cells of a list of bytes. -/
def u8s (l : List UInt8) : List Value := l.map fun b => Value.int .u8 b.toNat
theorem u8s_len (l : List UInt8) : (u8s l).length = l.length := List.length_map _
theorem u8s_app (a b : List UInt8) : u8s (a ++ b) = u8s a ++ u8s b := List.map_append
theorem conv_rd {W : World} {v : Value} (l : List UInt8) (h : Rd W v (u8s l)) :
    (convert 22 9 v).run Tryz.prog W = .ok (.string ⟨l.toArray⟩) W := by
  obtain ⟨A, c, hv, hc⟩ := h
  rw [u8s_len] at hv hc
  subst hv
  by_cases h0 : 0 < l.length
  · obtain ⟨g, o, rfl, _, hcc⟩ := hc h0
    refine run_convert_bytes_back (P := Tryz.prog) W 22 9 5 ⟨g, o, none⟩ c l Tryz.underlying22 Tryz.underlying5 Tryz.underlying9 ?_
    intro j hj
    have e1 : ((⟨g, o, none⟩ : Addr).add j) = ⟨g, o + j, none⟩ := by simp [Addr.add_lit]
    rw [e1]
    refine hcc j _ ?_
    simp [u8s, hj]
  · have : l = [] := List.length_eq_zero_iff.1 (by omega)
    subst this
    cases A with
    | none =>
      rw [show ([] : List UInt8).length = 0 from rfl, run_convert_bytes_string W 22 9 5 none 0 c Tryz.underlying22 Tryz.underlying5 Tryz.underlying9]
      rfl
    | some a => exact run_convert_bytes_back (P := Tryz.prog) W 22 9 5 a c [] Tryz.underlying22 Tryz.underlying5 Tryz.underlying9 (fun j hj => by cases hj)
theorem conv_own {W : World} {base : Nat} {v : Value} {n : Nat} (l : List UInt8) (h : W.ownsRow base 5 1 v n (u8s l)) :
    (convert 22 9 v).run Tryz.prog W = .ok (.string ⟨l.toArray⟩) W := conv_rd l (Rd.of_own h)
theorem own_u8 {W : World} {base : Nat} {e : TypeId} {v : Value} {n : Nat} {xs : List Value} {l : List UInt8} (h : W.ownsRow base e 1 v n xs) (hx : xs = u8s l) : W.ownsRow base e 1 v l.length (u8s l) := by
  subst hx
  have := own_len h
  rw [u8s_len] at this
  rw [this]
  exact h
end Go.Proofs.YtooanejiadbngaaGreatDoor

/- Lines that a call is putting together: rows of its own, told apart by their types. No walk. -/
namespace Go.Proofs.YtooanejiadbngaaGreatDoor
open Go.RowKit
set_option linter.unusedVariables false


/-! ### cells -/
def celVals (l : List Cel) : List Value := l.flatMap fun c => [.string c.txt, .int .i64 c.wid]
theorem celVals_snoc (l : List Cel) (c : Cel) : celVals (l ++ [c]) = celVals l ++ [.string c.txt, .int .i64 c.wid] := by simp [celVals]
theorem celVals_get (l : List Cel) (j : Nat) (c : Cel) (h : l[j]? = some c) : (celVals l)[j * 2]? = some (.string c.txt) ∧ (celVals l)[j * 2 + 1]? = some (.int .i64 c.wid) := by
  induction l generalizing j with
  | nil => simp at h
  | cons d r ih =>
    cases j with
    | zero => simp at h; subst h; simp [celVals]
    | succ j =>
      obtain ⟨a, b⟩ := ih j (by simpa using h)
      have e1 : (j + 1) * 2 = j * 2 + 1 + 1 := by omega
      rw [e1]
      exact ⟨a, b⟩
def OwnC (W : World) (base : Nat) (v : Value) (l : List Cel) : Prop := W.ownsRow base 77 2 v l.length (celVals l)
theorem OwnC.nil (W : World) (base : Nat) : OwnC W base (.slice none 0 0) [] := World.ownsRow_nil W base _ 2
theorem OwnC.keeps {W W' : World} {base : Nat} {v : Value} {l : List Cel} (h : OwnC W base v l) (hk : Keeps W W' 77) : OwnC W' base v l := own_keeps h hk
theorem OwnC.snoc {W : World} {base : Nat} {v : Value} {l : List Cel} {c : Cel} (h : W.ownsRow base 77 2 v (l.length + 1) (celVals l ++ [.string c.txt, .int .i64 c.wid])) : OwnC W base v (l ++ [c]) := by
  unfold OwnC
  rw [celVals_snoc, List.length_append]
  exact h
theorem OwnC.rd {W : World} {base : Nat} {v : Value} {l : List Cel} (h : OwnC W base v l) : RdCB base W v l := by
  have h0 : W.ownsRow base 77 2 v l.length (celVals l) := h
  rcases h0.2 with ⟨rfl, hn⟩ | ⟨g, cap, cur, rfl, hb, hg, _⟩
  · refine ⟨none, 0, by rw [hn], fun h1 => ?_⟩
    omega
  · refine ⟨_, cap, rfl, fun _ => ⟨g, 0, rfl, hb, (Array.getElem?_eq_some_iff.1 hg).1, fun j c hj => ?_⟩⟩
    have hjl : j < l.length := (List.getElem?_eq_some_iff.1 hj).1
    obtain ⟨a, b⟩ := celVals_get l j c hj
    exact ⟨by rw [Nat.zero_add, World.ownsRow.cellAt h0 _ (by omega)]; exact a, by rw [Nat.zero_add, World.ownsRow.cellAt h0 _ (by omega)]; exact b⟩

/-! ### lines -/
def lnVals : List Value → List Ln → List Value
  | v :: vs, l :: ls => v :: .string l.tail.txt :: .int .i64 l.tail.wid :: .int .i64 l.fin :: lnVals vs ls
  | _, _ => []
theorem lnVals_snoc (vs : List Value) (ls : List Ln) (v : Value) (l : Ln) (h : vs.length = ls.length) : lnVals (vs ++ [v]) (ls ++ [l]) = lnVals vs ls ++ [v, .string l.tail.txt, .int .i64 l.tail.wid, .int .i64 l.fin] := by
  induction vs generalizing ls with
  | nil =>
    have : ls = [] := List.length_eq_zero_iff.1 h.symm
    subst this
    rfl
  | cons u r ih =>
    cases ls with
    | nil => simp at h
    | cons d t =>
      simp only [List.cons_append, lnVals]
      rw [ih t (by simpa using h)]
theorem lnVals_get (vs : List Value) (ls : List Ln) (j : Nat) (v : Value) (l : Ln) (hv : vs[j]? = some v) (hl : ls[j]? = some l) :
    (lnVals vs ls)[j * 4]? = some v ∧ (lnVals vs ls)[j * 4 + 1]? = some (.string l.tail.txt) ∧ (lnVals vs ls)[j * 4 + 2]? = some (.int .i64 l.tail.wid) ∧ (lnVals vs ls)[j * 4 + 3]? = some (.int .i64 l.fin) := by
  induction vs generalizing ls j with
  | nil => simp at hv
  | cons u r ih =>
    cases ls with
    | nil => simp at hl
    | cons d t =>
      cases j with
      | zero => simp at hv hl; subst hv; subst hl; simp [lnVals]
      | succ j =>
        have hx := ih t j (by simpa using hv) (by simpa using hl)
        have e1 : (j + 1) * 4 = j * 4 + 1 + 1 + 1 + 1 := by omega
        rw [e1]
        exact hx
/-- The cells of the lines ls, each the call's own, none in the block K, no two in one block. -/
def InC (W : World) (base : Nat) (K : Option Nat) (vs : List Value) (ls : List Ln) : Prop :=
  (∀ (j : Nat) (u : Value) (l : Ln), vs[j]? = some u → ls[j]? = some l → OwnC W base u l.cells ∧ (u.ownBlock = none ∨ u.ownBlock ≠ K)) ∧ Distinct vs
theorem InC.keeps {W W' : World} {base : Nat} {K : Option Nat} {vs : List Value} {ls : List Ln} (h : InC W base K vs ls) (hc : Keeps W W' 77) : InC W' base K vs ls :=
  ⟨fun j u l hu hj => ⟨(h.1 j u l hu hj).1.keeps hc, (h.1 j u l hu hj).2⟩, h.2⟩
/-- The lines ls are the call's own; none of their cells lies in the block K. -/
def OwnL (W : World) (base : Nat) (K : Option Nat) (v : Value) (ls : List Ln) : Prop :=
  ∃ vs : List Value, vs.length = ls.length ∧ W.ownsRow base 79 4 v ls.length (lnVals vs ls) ∧ InC W base K vs ls
theorem OwnL.keeps {W W' : World} {base : Nat} {K : Option Nat} {v : Value} {ls : List Ln} (h : OwnL W base K v ls) (hl : Keeps W W' 79) (hc : Keeps W W' 77) : OwnL W' base K v ls := by
  obtain ⟨vs, h1, h2, h3⟩ := h
  exact ⟨vs, h1, own_keeps h2 hl, h3.keeps hc⟩
/-- A store into a block of lines that is not the row's own. -/
theorem OwnL.other {W W' : World} {base g : Nat} {K : Option Nat} {v : Value} {ls : List Ln} (h : OwnL W base K v ls) (hg : W.grownBy W' (some g)) (hne : v.ownBlock ≠ some g) (hc : Keeps W W' 77) : OwnL W' base K v ls := by
  obtain ⟨vs, h1, h2, h3⟩ := h
  exact ⟨vs, h1, h2.kept hg (.inr hne), h3.keeps hc⟩
/-- One cell more in the block K (or in a new one). -/
theorem OwnL.celled {W W' : World} {base k : Nat} {vc vc' v : Value} {ls : List Ln} (h : OwnL W base vc.ownBlock v ls) (hl : Keeps W W' 79) (hg : W.grownBy W' vc.ownBlock) (hat : vc'.ownBlock = vc.ownBlock ∨ vc'.ownBlock = some k) (hk : W.heap.size ≤ k) : OwnL W' base vc'.ownBlock v ls := by
  obtain ⟨vs, h1, h2, h3⟩ := h
  refine ⟨vs, h1, own_keeps h2 hl, fun j u l hu hj => ?_, h3.2⟩
  obtain ⟨ho, hap⟩ := h3.1 j u l hu hj
  have ho' : W.ownsRow base 77 2 u l.cells.length (celVals l.cells) := ho
  refine ⟨ho'.kept hg hap, ?_⟩
  rcases hat with hat | hat
  · rw [hat]; exact hap
  · rw [hat]
    refine .inr fun he => ?_
    have := (World.ownsRow.lt ho' k he).2
    omega
/-- One line more. -/
theorem OwnL.snoc {W W' : World} {base : Nat} {vs : List Value} {ls : List Ln} {l : Ln} {vc v' : Value} (hlen : vs.length = ls.length) (h : W'.ownsRow base 79 4 v' (ls.length + 1) (lnVals vs ls ++ [vc, .string l.tail.txt, .int .i64 l.tail.wid, .int .i64 l.fin]))
    (hin : InC W base vc.ownBlock vs ls) (hk : Keeps W W' 77) (hc : OwnC W base vc l.cells) : OwnL W' base none v' (ls ++ [l]) := by
  refine ⟨vs ++ [vc], by simp [hlen], ?_, fun j u d hu hd => ?_, hin.2.snoc fun j u hu => ?_⟩
  · rw [lnVals_snoc vs ls vc l hlen, List.length_append]
    exact h
  · refine ⟨?_, ?_⟩
    · rcases Nat.lt_or_ge j ls.length with hj | hj
      · rw [List.getElem?_append_left (by omega)] at hu hd
        exact (hin.1 j u d hu hd).1.keeps hk
      · rw [List.getElem?_append_right (by omega)] at hu hd
        have hj0 : j - ls.length = 0 := by
          rcases Nat.eq_zero_or_pos (j - ls.length) with h0 | h0
          · exact h0
          · rw [List.getElem?_eq_none (by simp; omega)] at hd; cases hd
        rw [show j - vs.length = 0 by omega] at hu
        rw [hj0] at hd
        simp at hu hd
        subst hu
        subst hd
        exact hc.keeps hk
    · cases hx : u.ownBlock with
      | none => exact .inl rfl
      | some k => exact .inr (fun h => by cases h)
  · have hj : j < ls.length := by rw [← hlen]; exact (List.getElem?_eq_some_iff.1 hu).1
    exact (hin.1 j u ls[j] hu (List.getElem?_eq_getElem hj)).2
theorem OwnL.none {W : World} {base : Nat} {K : Option Nat} {v : Value} {ls : List Ln} (h : OwnL W base K v ls) : OwnL W base .none v ls := by
  obtain ⟨vs, h1, h2, h3⟩ := h
  refine ⟨vs, h1, h2, fun j u l hu hj => ⟨(h3.1 j u l hu hj).1, ?_⟩, h3.2⟩
  cases hx : u.ownBlock with
  | none => exact .inl rfl
  | some k => exact .inr (fun h => by cases h)
theorem OwnL.rd {W : World} {base : Nat} {K : Option Nat} {v : Value} {ls : List Ln} (h : OwnL W base K v ls) : RdL W v ls := by
  obtain ⟨vs, h1, h2, h3⟩ := h
  have h0 := h2
  rcases h2.2 with ⟨rfl, hn⟩ | ⟨g, cap, cur, rfl, hb, hg, _⟩
  · refine ⟨.none, 0, by rw [hn], fun h1 => ?_⟩
    omega
  · refine ⟨_, cap, rfl, fun _ => ⟨g, 0, rfl, (Array.getElem?_eq_some_iff.1 hg).1, fun j l hj => ?_⟩⟩
    have hjl : j < ls.length := (List.getElem?_eq_some_iff.1 hj).1
    obtain ⟨u, hu⟩ : ∃ u, vs[j]? = some u := ⟨_, List.getElem?_eq_getElem (by omega)⟩
    obtain ⟨a, b, c, d⟩ := lnVals_get vs ls j u l hu hj
    refine ⟨⟨u, ?_, (h3.1 j u l hu hj).1.rd.rd⟩, ?_, ?_, ?_⟩ <;> rw [Nat.zero_add, World.ownsRow.cellAt h0 _ (by omega)] <;> assumption
theorem OwnL.nilAt (W : World) (base : Nat) (K : Option Nat) (v : Value) (h : W.ownsRow base 79 4 v 0 []) : OwnL W base K v [] := ⟨[], rfl, h, fun j u l hu _ => by simp at hu, Distinct.nil⟩
end Go.Proofs.YtooanejiadbngaaGreatDoor

/- The laws' own helpers on lines: toLineS. -/
namespace Go.Proofs.YtooanejiadbngaaGreatDoor
open Go.RowKit
set_option linter.unusedVariables false

/-! ### what has been filled in is the call's own -/
theorem MadeC.own {B g : Nat} {W : World} {cs : Array Value} {l : List Cel} {n : Nat} (h : MadeC cs l n n) (hn : l.length = n) (hb : Blk W g 77 cs) (hB : B ≤ g) (hm : n ≤ 1048576) : OwnC W B (.slice (some ⟨g, 0, none⟩) n n) l := by
  have hlen : (celVals l).length = n * 2 := by
    have key : ∀ l : List Cel, (celVals l).length = l.length * 2 := by
      intro l
      induction l with
      | nil => rfl
      | cons c r ih => show ([Value.string c.txt, Value.int .i64 c.wid] ++ celVals r).length = _; rw [List.length_append, ih]; simp; omega
    rw [key, hn]
  have hcs : cs.toList = celVals l := by
    apply List.ext_getElem?
    intro i
    rcases Nat.lt_or_ge i (n * 2) with hi | hi
    · have hj : i / 2 < n := by omega
      obtain ⟨c, hc⟩ : ∃ c, l[i / 2]? = some c := ⟨_, List.getElem?_eq_getElem (by omega)⟩
      obtain ⟨a, b⟩ := h.2 (i / 2) c hj hc
      obtain ⟨a', b'⟩ := celVals_get l (i / 2) c hc
      rw [Array.getElem?_toList]
      rcases Nat.mod_two_eq_zero_or_one i with h2 | h2
      · rw [show i / 2 * 2 = i by omega] at a a'
        rw [a, a']
      · rw [show i / 2 * 2 + 1 = i by omega] at b b'
        rw [b, b']
    · rw [List.getElem?_eq_none (by rw [Array.length_toList, h.1]; exact hi), List.getElem?_eq_none (by rw [hlen]; exact hi)]
  refine ⟨by rw [hn]; exact hlen, .inr ⟨g, n, cs, by rw [hn], hB, hb, by omega, by unfold maxLen; omega, h.1, ?_⟩⟩
  rw [List.take_of_length_le (by rw [Array.length_toList, h.1, hn]; exact Nat.le_refl _)]
  exact hcs
theorem OwnC.slc {W : World} {base : Nat} {v : Value} {l : List Cel} (h : OwnC W base v l) : ∃ A c, v = .slice A l.length c := by
  have h0 : W.ownsRow base 77 2 v l.length (celVals l) := h
  rcases h0.2 with ⟨rfl, hn⟩ | ⟨g, cap, cur, rfl, _⟩
  · exact ⟨none, 0, by rw [hn]⟩
  · exact ⟨_, cap, rfl⟩
/-- The first k of n lines have been filled in. -/
def MadeO (B : Nat) (W : World) (cs : Array Value) (ls : List Ln) (k n : Nat) : Prop :=
  cs.size = n * 4 ∧ ∃ vs : List Value, vs.length = k ∧ cs.toList.take (k * 4) = lnVals vs (ls.take k) ∧ InC W B none vs (ls.take k)
theorem MadeO.keeps {B : Nat} {W W' : World} {cs : Array Value} {ls : List Ln} {k n : Nat} (h : MadeO B W cs ls k n) (hk : Keeps W W' 77) : MadeO B W' cs ls k n := by
  obtain ⟨h1, vs, h2, h3, h4⟩ := h
  exact ⟨h1, vs, h2, h3, h4.keeps hk⟩
theorem take_set4 {cs : Array Value} {k : Nat} (a b c d : Value) (h : k * 4 + 4 ≤ cs.size) : ((((cs.setIfInBounds (k * 4) a).setIfInBounds (k * 4 + 1) b).setIfInBounds (k * 4 + 2) c).setIfInBounds (k * 4 + 3) d).toList.take ((k + 1) * 4) = cs.toList.take (k * 4) ++ [a, b, c, d] := by
  apply List.ext_getElem?
  intro i
  have hl : (cs.toList.take (k * 4)).length = k * 4 := by rw [List.length_take, Array.length_toList]; omega
  rcases Nat.lt_or_ge i ((k + 1) * 4) with hi | hi
  · rw [List.getElem?_take_of_lt hi, Array.getElem?_toList]
    simp only [Array.getElem?_setIfInBounds, Array.size_setIfInBounds]
    rcases Nat.lt_or_ge i (k * 4) with hk | hk
    · rw [if_neg (by omega), if_neg (by omega), if_neg (by omega), if_neg (by omega), List.getElem?_append_left (by omega), List.getElem?_take_of_lt hk, Array.getElem?_toList]
    · rw [List.getElem?_append_right (by omega), hl]
      obtain ⟨r, rfl⟩ : ∃ r, i = k * 4 + r := ⟨i - k * 4, by omega⟩
      have hr : r < 4 := by omega
      rw [show k * 4 + r - k * 4 = r by omega]
      match r, hr with
      | 0, _ => rw [if_neg (by omega), if_neg (by omega), if_neg (by omega), if_pos (by omega), if_pos (by omega)]; rfl
      | 1, _ => rw [if_neg (by omega), if_neg (by omega), if_pos (by omega), if_pos (by omega)]; rfl
      | 2, _ => rw [if_neg (by omega), if_pos (by omega), if_pos (by omega)]; rfl
      | 3, _ => rw [if_pos (by omega), if_pos (by omega)]; rfl
  · rw [List.getElem?_eq_none (by rw [List.length_take]; omega), List.getElem?_eq_none (by rw [List.length_append, hl]; simp; omega)]
theorem MadeO.step {B : Nat} {W0 W : World} {cs : Array Value} {ls : List Ln} {k n : Nat} (h0 : MadeO B W0 cs ls k n) (h : MadeO B W cs ls k n) (hk : k < n) (l : Ln) (hl : ls[k]? = some l) (u : Value) (hu : OwnC W W0.heap.size u l.cells) (hB : B ≤ W0.heap.size) (hsame : ∀ vs, InC W0 B none vs (ls.take k) → True) (hkc : Keeps W0 W 77) :
    MadeO B W ((((cs.setIfInBounds (k * 4) u).setIfInBounds (k * 4 + 1) (.string l.tail.txt)).setIfInBounds (k * 4 + 2) (.int .i64 l.tail.wid)).setIfInBounds (k * 4 + 3) (.int .i64 l.fin)) ls (k + 1) n := by
  obtain ⟨h1, vs, h2, h3, h4⟩ := h0
  have hkl : k < ls.length := (List.getElem?_eq_some_iff.1 hl).1
  have hlt : (ls.take k).length = k := by rw [List.length_take]; omega
  have htk : ls.take (k + 1) = ls.take k ++ [l] := by rw [List.take_succ_eq_append_getElem hkl]; congr 2; exact (List.getElem?_eq_some_iff.1 hl).2
  have h4' := h4.keeps hkc
  refine ⟨by simpa using h1, vs ++ [u], by simp [h2], ?_, fun j x d hx hd => ?_, h4'.2.snoc fun j x hx => ?_⟩
  · rw [take_set4 _ _ _ _ (by omega), h3, htk, lnVals_snoc vs _ u l (by rw [h2, hlt])]
  · rcases Nat.lt_or_ge j k with hj | hj
    · rw [List.getElem?_append_left (by omega)] at hx
      rw [htk, List.getElem?_append_left (by omega)] at hd
      exact h4'.1 j x d hx hd
    · rw [List.getElem?_append_right (by omega)] at hx
      rw [htk, List.getElem?_append_right (by omega)] at hd
      have hj0 : j - (ls.take k).length = 0 := by
        rcases Nat.eq_zero_or_pos (j - (ls.take k).length) with h0 | h0
        · exact h0
        · rw [List.getElem?_eq_none (by simp; omega)] at hd; cases hd
      rw [hj0] at hd
      rw [show j - vs.length = 0 by omega] at hx
      simp at hx hd
      subst hx
      subst hd
      have hu' : W.ownsRow W0.heap.size 77 2 u l.cells.length (celVals l.cells) := hu
      refine ⟨own_base hu' hB, ?_⟩
      cases hb : u.ownBlock with
      | none => exact .inl rfl
      | some g => exact .inr (fun e => by cases e)
  · have hjv : j < vs.length := (List.getElem?_eq_some_iff.1 hx).1
    have hd : (ls.take k)[j]? = some (ls.take k)[j] := List.getElem?_eq_getElem (by omega)
    have ho : W0.ownsRow B 77 2 x _ _ := (h4.1 j x _ hx hd).1
    have hu' : W.ownsRow W0.heap.size 77 2 u l.cells.length (celVals l.cells) := hu
    cases hb : x.ownBlock with
    | none => exact .inl rfl
    | some g =>
      right
      intro e
      have a := (World.ownsRow.lt ho g hb).2
      have b := (World.ownsRow.lt hu' g e.symm).1
      omega
theorem MadeO.own {B : Nat} {W : World} {cs : Array Value} {ls : List Ln} {n : Nat} (h : MadeO B W cs ls n n) (hn : ls.length = n) {g : Nat} (hb : Blk W g 79 cs) (hB : B ≤ g + 1) (hBg : B - 1 ≤ g) (hm : n ≤ 1048576) : OwnL W (B - 1) none (.slice (some ⟨g, 0, none⟩) n n) ls := by
  obtain ⟨h1, vs, h2, h3, h4⟩ := h
  have e1 : ls.take n = ls := List.take_of_length_le (by omega)
  have e2 : cs.toList.take (n * 4) = cs.toList := List.take_of_length_le (by rw [Array.length_toList, h1]; exact Nat.le_refl _)
  rw [e1] at h3 h4
  rw [e2] at h3
  refine ⟨vs, by omega, ⟨?_, .inr ⟨g, n, cs, by rw [hn], hBg, hb, by omega, by unfold maxLen; omega, h1, ?_⟩⟩, fun j u l hu hl => ⟨?_, (h4.1 j u l hu hl).2⟩, h4.2⟩
  · rw [← h3, Array.length_toList, h1, hn]
  · rw [List.take_of_length_le (by rw [Array.length_toList, h1, hn]; exact Nat.le_refl _)]; exact h3
  · have ho : W.ownsRow B 77 2 u l.cells.length (celVals l.cells) := (h4.1 j u l hu hl).1
    exact own_base ho (Nat.sub_le _ _)

end Go.Proofs.YtooanejiadbngaaGreatDoor

/- Lines that came in: what the argument reads as. No walk. -/
namespace Go.Proofs.YtooanejiadbngaaGreatDoor
open Go.RowKit Go.ChangeShapes Go.WideShapes Go.Deep
set_option linter.unusedVariables false

theorem list_of {α : Type} (n : Nat) (p : Nat → α → Prop) (h : ∀ i, i < n → ∃ a, p i a) : ∃ l : List α, l.length = n ∧ ∀ i a, l[i]? = some a → p i a := by
  induction n with
  | zero => exact ⟨[], rfl, fun i a ha => by cases ha⟩
  | succ n ih =>
    obtain ⟨l, hl, hp⟩ := ih fun i hi => h i (by omega)
    obtain ⟨a, ha⟩ := h n (by omega)
    refine ⟨l ++ [a], by simp [hl], fun i b hb => ?_⟩
    by_cases hi : i < l.length
    · rw [List.getElem?_append_left hi] at hb
      exact hp i b hb
    · rw [List.getElem?_append_right (by omega)] at hb
      have : i - l.length = 0 := by
        rcases Nat.eq_zero_or_pos (i - l.length) with h0 | h0
        · exact h0
        · rw [List.getElem?_eq_none (by simp; omega)] at hb; cases hb
      rw [this] at hb
      simp at hb
      subst hb
      have : i = n := by omega
      subst this
      exact ha
theorem addr_plain {a : Addr} (k : Nat) (h : a.spot = none) : a.add k = ⟨a.block, a.off + k, none⟩ := by
  obtain ⟨b, o, s⟩ := a
  simp only at h
  subst h
  unfold Addr.add
  split <;> simp_all
section
variable {H : Type} {enc : TypeId × Value → H} {P : Program} {w : World} {base : Nat} {sp : Nat → Bool} {held : Bool}
/-- A cell's two cells of memory. -/
theorem open_cel {tC ti ts : TypeId} {f0 f1 : Field} {fuel : Nat} {cs : List Value} {x : DataW H × List MemPlace} (hs : P.underlying tC = some (.struct #[f0, f1])) (hC : P.cellsOf tC = 2) (o0 : f0.offset = 0) (o1 : f1.offset = 1) (t0 : f0.type = ts) (t1 : f1.type = ti)
    (hts : P.underlying ts = some .string) (hti : P.underlying ti = some (.int .i64)) (cS : P.cellsOf ts = 1) (cI : P.cellsOf ti = 1) (h : DataW.trod enc P w base sp held fuel tC cs = some x) : ∃ c : Cel, cs = [.string c.txt, .int .i64 c.wid] ∧ c.txt.size ≤ maxLen := by
  obtain ⟨xs, n, _, _, hlen, hxl, hg⟩ := DataW.trod_struct hs h
  rw [hC] at hlen
  match cs, hlen with
  | [a, b], _ =>
    have h0 := hg 0 f0 rfl
    have h1 := hg 1 f1 rfl
    rw [o0, t0, cS] at h0
    rw [o1, t1, cI] at h1
    have e0 : (([a, b] : List Value).drop 0).take 1 = [a] := rfl
    have e1 : (([a, b] : List Value).drop 1).take 1 = [b] := rfl
    rw [e0] at h0
    rw [e1] at h1
    have hx2 : xs.length = 2 := hxl
    rw [List.getElem?_eq_getElem (by omega)] at h0 h1
    obtain ⟨s, hs1, _, hs2⟩ := DataW.trod_string hts h0
    obtain ⟨m, hm1, _, _⟩ := DataW.trod_int hti h1
    simp only [List.cons.injEq, and_true] at hs1 hm1
    subst hs1; subst hm1
    exact ⟨⟨s, m⟩, rfl, hs2⟩
theorem open_cels {tS tC ti ts : TypeId} {f0 f1 : Field} {fuel : Nat} {cs : List Value} {x : DataW H × List MemPlace} (hS : P.underlying tS = some (.slice tC)) (hs : P.underlying tC = some (.struct #[f0, f1])) (hC : P.cellsOf tC = 2) (o0 : f0.offset = 0) (o1 : f1.offset = 1) (t0 : f0.type = ts) (t1 : f1.type = ti)
    (hts : P.underlying ts = some .string) (hti : P.underlying ti = some (.int .i64)) (cS : P.cellsOf ts = 1) (cI : P.cellsOf ti = 1) (h : DataW.trod enc P w base sp held fuel tS cs = some x) :
    ∃ (v : Value) (l : List Cel), cs = [v] ∧ RdC w v l ∧ l.length ≤ maxLen ∧ ∀ c ∈ l, c.txt.size ≤ maxLen := by
  rcases open_slice hS h with ⟨rfl, _⟩ | ⟨a, len, cap, m, n, D, Pl, rfl, _, hl, hm, hmm, _, hi⟩
  · exact ⟨_, [], rfl, RdC.nil w none 0, Nat.zero_le _, fun c hc => by cases hc⟩
  · have hlm : len ≤ m := by rw [hmm]; split <;> omega
    obtain ⟨l, hll, hp⟩ := list_of len (fun i (c : Cel) => w.cell? (a.add (i * 2)) = some (.string c.txt) ∧ w.cell? (a.add (i * 2 + 1)) = some (.int .i64 c.wid) ∧ c.txt.size ≤ maxLen) (fun i hil => by
      obtain ⟨cs', hc, ht'⟩ := hi i (by omega)
      obtain ⟨c, rfl, hsz⟩ := open_cel hs hC o0 o1 t0 t1 hts hti cS cI ht'
      rw [hC] at hc
      obtain ⟨_, _, hat⟩ := World.cells?_some hc
      refine ⟨c, ?_, ?_, hsz⟩
      · have := hat 0 (by omega)
        rw [Go.Deep.add_add] at this
        exact this
      · have := hat 1 (by omega)
        rw [Go.Deep.add_add] at this
        exact this)
    refine ⟨_, l, rfl, ⟨some a, cap, by rw [hll], fun h0 => ?_⟩, by omega, fun c hc => ?_⟩
    · have h1 := (hp 0 _ (List.getElem?_eq_getElem (by omega))).1
      obtain ⟨b, off, spot⟩ := a
      have hsp : spot = none := by simpa [Addr.add] using World.cell?_spot h1
      subst hsp
      refine ⟨b, off, rfl, ?_, fun j c hj => ?_⟩
      · have := World.block_lt_of_cell? w _ h1
        rw [addr_plain _ rfl] at this
        exact this
      · obtain ⟨p1, p2, _⟩ := hp j c hj
        rw [addr_plain _ rfl] at p1 p2
        exact ⟨p1, by simpa [Nat.add_assoc] using p2⟩
    · obtain ⟨j, hj, rfl⟩ := List.mem_iff_getElem.1 hc
      exact (hp j _ (List.getElem?_eq_getElem hj)).2.2
theorem open_lines {tL tN tS tC ti ts : TypeId} {f0 f1 g0 g1 g2 : Field} {A : Option Addr} {len cap : Nat} {d : DataW H} {ps : List MemPlace}
    (hL : P.underlying tL = some (.slice tN)) (hN : P.underlying tN = some (.struct #[g0, g1, g2])) (hNC : P.cellsOf tN = 4) (q0 : g0.offset = 0) (q1 : g1.offset = 1) (q2 : g2.offset = 3) (r0 : g0.type = tS) (r1 : g1.type = tC) (r2 : g2.type = ti) (cT : P.cellsOf tS = 1)
    (hS : P.underlying tS = some (.slice tC)) (hs : P.underlying tC = some (.struct #[f0, f1])) (hC : P.cellsOf tC = 2) (o0 : f0.offset = 0) (o1 : f1.offset = 1) (t0 : f0.type = ts) (t1 : f1.type = ti)
    (hts : P.underlying ts = some .string) (hti : P.underlying ti = some (.int .i64)) (cS : P.cellsOf ts = 1) (cI : P.cellsOf ti = 1) (h : DataW.Trod enc P w base sp held tL (.slice A len cap) d ps) :
    ∃ ls, RdL w (.slice A len cap) ls ∧ InL ls := by
  obtain ⟨fuel, hf⟩ := h
  rcases open_slice hL hf with ⟨hcs, _⟩ | ⟨a, len', cap', m, n, D, Pl, hcs, _, hl, hm, hmm, _, hi⟩
  · simp [Value.cells] at hcs
    obtain ⟨rfl, rfl, rfl⟩ := hcs
    exact ⟨[], RdL.nil w none 0, Nat.zero_le _, fun l hl => by cases hl⟩
  · simp [Value.cells] at hcs
    obtain ⟨rfl, rfl, rfl⟩ := hcs
    have hlm : len ≤ m := by rw [hmm]; split <;> omega
    obtain ⟨ls, hll, hp⟩ := list_of len (fun i (l : Ln) => (∃ v, w.cell? (a.add (i * 4)) = some v ∧ RdC w v l.cells) ∧ w.cell? (a.add (i * 4 + 1)) = some (.string l.tail.txt) ∧ w.cell? (a.add (i * 4 + 2)) = some (.int .i64 l.tail.wid) ∧ w.cell? (a.add (i * 4 + 3)) = some (.int .i64 l.fin) ∧
        l.cells.length ≤ maxLen ∧ (∀ c ∈ l.cells, c.txt.size ≤ maxLen) ∧ l.tail.txt.size ≤ maxLen) (fun i hil => by
      obtain ⟨cs', hc, ht'⟩ := hi i (by omega)
      rw [hNC] at hc
      obtain ⟨_, hlen, hat⟩ := World.cells?_some hc
      obtain ⟨xs, n', _, _, _, hxl, hg⟩ := DataW.trod_struct hN ht'
      have hx3 : xs.length = 3 := hxl
      match cs', hlen with
      | [c0, c1, c2, c3], _ =>
        have k0 := hg 0 g0 rfl
        have k1 := hg 1 g1 rfl
        have k2 := hg 2 g2 rfl
        rw [q0, r0, cT] at k0
        rw [q1, r1, hC] at k1
        rw [q2, r2, cI] at k2
        have e0 : (([c0, c1, c2, c3] : List Value).drop 0).take 1 = [c0] := rfl
        have e1 : (([c0, c1, c2, c3] : List Value).drop 1).take 2 = [c1, c2] := rfl
        have e2 : (([c0, c1, c2, c3] : List Value).drop 3).take 1 = [c3] := rfl
        rw [e0, List.getElem?_eq_getElem (by omega)] at k0
        rw [e1, List.getElem?_eq_getElem (by omega)] at k1
        rw [e2, List.getElem?_eq_getElem (by omega)] at k2
        obtain ⟨v, l, hv, hr, hb1, hb2⟩ := open_cels hS hs hC o0 o1 t0 t1 hts hti cS cI k0
        obtain ⟨c, hcc, hsz⟩ := open_cel hs hC o0 o1 t0 t1 hts hti cS cI k1
        obtain ⟨z, hz, _, _⟩ := DataW.trod_int hti k2
        simp only [List.cons.injEq, and_true] at hv hcc hz
        obtain ⟨hc1, hc2⟩ := hcc
        subst hv; subst hc1; subst hc2; subst hz
        have a0 := hat 0 (by omega)
        have a1 := hat 1 (by omega)
        have a2 := hat 2 (by omega)
        have a3 := hat 3 (by omega)
        rw [Go.Deep.add_add] at a0 a1 a2 a3
        exact ⟨⟨l, c, z⟩, ⟨_, a0, hr⟩, a1, a2, a3, hb1, hb2, hsz⟩)
    refine ⟨ls, ⟨some a, cap, by rw [hll], fun h0 => ?_⟩, by omega, fun l hl => ?_⟩
    · obtain ⟨v1, h1, _⟩ := (hp 0 _ (List.getElem?_eq_getElem (by omega))).1
      obtain ⟨b, off, spot⟩ := a
      have hsp : spot = none := by simpa [Addr.add] using World.cell?_spot h1
      subst hsp
      refine ⟨b, off, rfl, ?_, fun j c hj => ?_⟩
      · have := World.block_lt_of_cell? w _ h1
        rw [addr_plain _ rfl] at this
        exact this
      · obtain ⟨⟨v, p0, hv⟩, p1, p2, p3, _⟩ := hp j c hj
        rw [addr_plain _ rfl] at p0 p1 p2 p3
        exact ⟨⟨v, p0, hv⟩, by simpa [Nat.add_assoc] using p1, by simpa [Nat.add_assoc] using p2, by simpa [Nat.add_assoc] using p3⟩
    · obtain ⟨j, hj, rfl⟩ := List.mem_iff_getElem.1 hl
      exact (hp j _ (List.getElem?_eq_getElem hj)).2.2.2.2
end
end Go.Proofs.YtooanejiadbngaaGreatDoor

/- CountCells: the model's; the law. -/
namespace Go.Proofs.YtooanejiadbngaaGreatDoor
open Go.RowKit
set_option linter.unusedVariables false

/-- How many cells there are. -/
def cntL : List Ln → Nat
  | [] => 0
  | l :: r => l.cells.length + cntL r
theorem cntL_le : ∀ ls, cntL ls ≤ totL ls
  | [] => Nat.le_refl _
  | l :: r => by have := cntL_le r; simp only [cntL, totL]; omega
theorem cntL_take (ls : List Ln) : ∀ k (h : k < ls.length), cntL (ls.take (k + 1)) = cntL (ls.take k) + ls[k].cells.length := by
  induction ls with
  | nil => intro k h; cases h
  | cons x r ih =>
    intro k h
    cases k with
    | zero => simp [cntL]
    | succ k =>
      have := ih k (by simpa using h)
      simp only [List.take_succ_cons, cntL, List.getElem_cons_succ]
      omega
theorem cntL_all (ls : List Ln) (k : Nat) (h : ¬ k < ls.length) : cntL (ls.take k) = cntL ls := by rw [List.take_of_length_le (by omega)]
theorem cntL_le_take (ls : List Ln) (k : Nat) : cntL (ls.take k) ≤ cntL ls := by
  induction ls generalizing k with
  | nil => simp [cntL]
  | cons x r ih =>
    cases k with
    | zero => simp [cntL]
    | succ k => have := ih k; simp only [List.take_succ_cons, cntL]; omega
end Go.Proofs.YtooanejiadbngaaGreatDoor

/- What a splitter holds in memory, and what each of its steps does to it. No walk. -/
namespace Go.Proofs.YtooanejiadbngaaGreatDoor
open Go.RowKit
set_option linter.unusedVariables false

/-- What l05Split holds: the configuration's block, the line's, the cells, the bytes, the lines. -/
def SpM (w W : World) (c : Cfg) (gl : Nat) (vo vc vb : Value) (st : Sp) : Prop :=
  Below w.heap.size w W ∧ Blk W w.heap.size 24 (cfgV c) ∧ Blk W gl 79 #[vc, .string ⟨#[]⟩, .int .i64 0, .int .i64 0] ∧ OwnC W w.heap.size vc st.cells ∧ W.ownsRow w.heap.size 5 1 vb st.buf.length (u8s st.buf) ∧ OwnL W w.heap.size vc.ownBlock vo st.outs ∧ vo.ownBlock ≠ some gl ∧ w.heap.size < gl
theorem SpM.below {w W W' : World} {c : Cfg} {gl : Nat} {vo vc vb : Value} {st : Sp} (h : SpM w W c gl vo vc vb st) (hb : Below W.heap.size W W') : SpM w W' c gl vo vc vb st := by
  obtain ⟨h1, h2, h3, h4, h5, h6, h7, h8⟩ := h
  exact ⟨h1.trans (hb.mono h1.size), h2.after hb, h3.after hb, h4.keeps (.below _ hb), own_below h5 hb, h6.keeps (.below _ hb) (.below _ hb), h7, h8⟩
theorem grown_below {w W W' : World} {row : Option Nat} (h : Below w.heap.size w W) (hg : W.grownBy W' row) (hr : ∀ k, row = some k → w.heap.size ≤ k) : Below w.heap.size w W' := h.grown hg h.size hr
/-- One cell more. -/
theorem SpM.cell {w W W' : World} {c : Cfg} {gl : Nat} {vo vc vb vc' : Value} {st : Sp} {x : Cel} (h : SpM w W c gl vo vc vb st) (ho : W'.ownsRow w.heap.size 77 2 vc' (st.cells.length + 1) (celVals st.cells ++ [.string x.txt, .int .i64 x.wid])) (hg : W.grownBy W' vc.ownBlock) (hat : vc'.ownBlock = vc.ownBlock ∨ vc'.ownBlock = some (W.heap.size + 1)) :
    SpM w (W'.setCell ⟨gl, 0, none⟩ vc') c gl vo vc' (.slice none 0 0) ⟨st.outs, st.raw, st.cells ++ [x], []⟩ := by
  obtain ⟨h1, h2, h3, h4, h5, h6, h7, h8⟩ := h
  have k4 : W.ownsRow w.heap.size 77 2 vc st.cells.length (celVals st.cells) := h4
  have b1 := h2.keeps (.grown k4 (by decide) hg)
  have b2 := h3.keeps (.grown k4 (by decide) hg)
  have gs := grown_set W' gl 0 vc'
  have kc : Keeps W' (W'.setCell ⟨gl, 0, none⟩ vc') 77 := .blk b2 (by decide) gs
  refine ⟨(grown_below h1 hg (fun k hk => (World.ownsRow.lt k4 k hk).1)).setCell (Nat.le_of_lt h8) _, b1.keeps (.blk b2 (by decide) gs), b2.set 0 vc', (OwnC.snoc ho).keeps kc, World.ownsRow_nil _ _ _ _, ?_, h7, h8⟩
  exact (h6.celled (.grown k4 (by decide) hg) hg hat (Nat.le_succ _)).other gs h7 kc
/-- One byte more. -/
theorem SpM.byte {w W W' : World} {c : Cfg} {gl : Nat} {vo vc vb vb' : Value} {st : Sp} {x : UInt8} (h : SpM w W c gl vo vc vb st) (ho : W'.ownsRow w.heap.size 5 1 vb' (st.buf.length + 1) (u8s st.buf ++ [.int .u8 x.toNat])) (hg : W.grownBy W' vb.ownBlock) :
    SpM w W' c gl vo vc vb' ⟨st.outs, st.raw, st.cells, st.buf ++ [x]⟩ := by
  obtain ⟨h1, h2, h3, h4, h5, h6, h7, h8⟩ := h
  refine ⟨grown_below h1 hg (fun k hk => (World.ownsRow.lt h5 k hk).1), h2.keeps (.grown h5 (by decide) hg), h3.keeps (.grown h5 (by decide) hg), h4.keeps (.grown h5 (by decide) hg), ?_, h6.keeps (.grown h5 (by decide) hg) (.grown h5 (by decide) hg), h7, h8⟩
  exact own_more ho (by simp) (by simp [u8s])
/-- One line more: the line's block as it stands, put at the end, and cleared. -/
theorem SpM.fill {w W : World} {c : Cfg} {gl : Nat} {vo vc vb : Value} {st : Sp} (h : SpM w W c gl vo vc vb st) (x : Cel) (f : Int) :
    Below w.heap.size w (((W.setCell ⟨gl, 1, none⟩ (.string x.txt)).setCell ⟨gl, 2, none⟩ (.int .i64 x.wid)).setCell ⟨gl, 3, none⟩ (.int .i64 f)) ∧ Blk (((W.setCell ⟨gl, 1, none⟩ (.string x.txt)).setCell ⟨gl, 2, none⟩ (.int .i64 x.wid)).setCell ⟨gl, 3, none⟩ (.int .i64 f)) gl 79 #[vc, .string x.txt, .int .i64 x.wid, .int .i64 f]
    ∧ W.grownBy (((W.setCell ⟨gl, 1, none⟩ (.string x.txt)).setCell ⟨gl, 2, none⟩ (.int .i64 x.wid)).setCell ⟨gl, 3, none⟩ (.int .i64 f)) (some gl) := by
  obtain ⟨h1, h2, h3, h4, h5, h6, h7, h8⟩ := h
  exact ⟨((h1.setCell (Nat.le_of_lt h8) _).setCell (Nat.le_of_lt h8) _).setCell (Nat.le_of_lt h8) _, ((h3.set 1 _).set 2 _).set 3 _, grown_trans (grown_trans (grown_set W gl 1 _) (grown_set _ gl 2 _)) (grown_set _ gl 3 _)⟩
theorem SpM.fill2 {w W : World} {c : Cfg} {gl : Nat} {vo vc vb : Value} {st : Sp} (h : SpM w W c gl vo vc vb st) (x : Cel) :
    Below w.heap.size w ((W.setCell ⟨gl, 1, none⟩ (.string x.txt)).setCell ⟨gl, 2, none⟩ (.int .i64 x.wid)) ∧ Blk ((W.setCell ⟨gl, 1, none⟩ (.string x.txt)).setCell ⟨gl, 2, none⟩ (.int .i64 x.wid)) gl 79 #[vc, .string x.txt, .int .i64 x.wid, .int .i64 0]
    ∧ W.grownBy ((W.setCell ⟨gl, 1, none⟩ (.string x.txt)).setCell ⟨gl, 2, none⟩ (.int .i64 x.wid)) (some gl) := by
  obtain ⟨h1, h2, h3, h4, h5, h6, h7, h8⟩ := h
  exact ⟨(h1.setCell (Nat.le_of_lt h8) _).setCell (Nat.le_of_lt h8) _, (h3.set 1 _).set 2 _, grown_trans (grown_set W gl 1 _) (grown_set _ gl 2 _)⟩
/-- The same behind stores into the line's block. -/
theorem SpM.stored {w W W' : World} {c : Cfg} {gl : Nat} {vo vc vb : Value} {st : Sp} (h : SpM w W c gl vo vc vb st) (hg : W.grownBy W' (some gl)) :
    Blk W' w.heap.size 24 (cfgV c) ∧ OwnC W' w.heap.size vc st.cells ∧ W'.ownsRow w.heap.size 5 1 vb st.buf.length (u8s st.buf) ∧ OwnL W' w.heap.size vc.ownBlock vo st.outs := by
  obtain ⟨h1, h2, h3, h4, h5, h6, h7, h8⟩ := h
  have kc := Keeps.blk (e := 77) h3 (by decide) hg
  exact ⟨h2.keeps (.blk h3 (by decide) hg), h4.keeps kc, own_keeps h5 (.blk h3 (by decide) hg), h6.other hg h7 kc⟩
/-- The line's block behind an append to the lines. -/
theorem SpM.line_blk {w W W2 W3 : World} {c : Cfg} {gl : Nat} {vo vc vb : Value} {st : Sp} {cs : Array Value} (h : SpM w W c gl vo vc vb st) (hb2 : Blk W2 gl 79 cs) (hg : W2.grownBy W3 vo.ownBlock) : Blk W3 gl 79 cs := by
  obtain ⟨h1, h2, h3, h4, h5, h6, h7, h8⟩ := h
  exact (hg.block gl hb2.lt (fun e => h7 e.symm)).trans hb2
/-- The lines with one more. -/
theorem SpM.line_own {w W W2 W3 : World} {c : Cfg} {gl : Nat} {vo vc vb v3 : Value} {vs : List Value} {st : Sp} {x : Cel} {f : Int} (h : SpM w W c gl vo vc vb st) (hg2 : W.grownBy W2 (some gl)) (hvl : vs.length = st.outs.length) (how : W2.ownsRow w.heap.size 79 4 vo st.outs.length (lnVals vs st.outs))
    (hin : InC W2 w.heap.size vc.ownBlock vs st.outs)
    (ho : W3.ownsRow w.heap.size 79 4 v3 (st.outs.length + 1) (lnVals vs st.outs ++ [vc, .string x.txt, .int .i64 x.wid, .int .i64 f])) (hg : W2.grownBy W3 vo.ownBlock) :
    OwnL W3 w.heap.size none v3 (st.outs ++ [⟨st.cells, x, f⟩]) ∧ Below w.heap.size w W3 := by
  have hst := h.stored hg2
  obtain ⟨h1, h2, h3, h4, h5, h6, h7, h8⟩ := h
  have kc : Keeps W2 W3 77 := .grown how (by decide) hg
  have hb2 := grown_below h1 hg2 (fun k hk => by injection hk with hk; omega)
  exact ⟨OwnL.snoc (l := ⟨st.cells, x, f⟩) hvl ho hin kc hst.2.1, grown_below hb2 hg (fun k hk => (World.ownsRow.lt how k hk).1)⟩
/-- .. and the line's block cleared. -/
theorem SpM.line {w W W2 W3 : World} {c : Cfg} {gl : Nat} {vo vc vb v3 : Value} {vs : List Value} {st : Sp} {x : Cel} {f : Int} (h : SpM w W c gl vo vc vb st) (hg2 : W.grownBy W2 (some gl)) (hb2 : Blk W2 gl 79 #[vc, .string x.txt, .int .i64 x.wid, .int .i64 f]) (hvl : vs.length = st.outs.length) (how : W2.ownsRow w.heap.size 79 4 vo st.outs.length (lnVals vs st.outs))
    (hin : InC W2 w.heap.size vc.ownBlock vs st.outs)
    (ho : W3.ownsRow w.heap.size 79 4 v3 (st.outs.length + 1) (lnVals vs st.outs ++ [vc, .string x.txt, .int .i64 x.wid, .int .i64 f])) (hg : W2.grownBy W3 vo.ownBlock) (hat : v3.ownBlock = vo.ownBlock ∨ v3.ownBlock = some (W2.heap.size + 1))
    (vb' : Value) (hvb : W3.ownsRow w.heap.size 5 1 vb' 0 []) :
    SpM w ((((W3.setCell ⟨gl, 0, none⟩ (.slice none 0 0)).setCell ⟨gl, 1, none⟩ (.string ⟨#[]⟩)).setCell ⟨gl, 2, none⟩ (.int .i64 0)).setCell ⟨gl, 3, none⟩ (.int .i64 0)) c gl v3 (.slice none 0 0) vb' ⟨st.outs ++ [⟨st.cells, x, f⟩], st.raw, [], []⟩ := by
  obtain ⟨r1, r2⟩ := h.line_own hg2 hvl how hin ho hg
  have b3 := h.line_blk hb2 hg
  have hst := h.stored hg2
  obtain ⟨h1, h2, h3, h4, h5, h6, h7, h8⟩ := h
  have g4 : W3.grownBy ((((W3.setCell ⟨gl, 0, none⟩ (.slice none 0 0)).setCell ⟨gl, 1, none⟩ (.string ⟨#[]⟩)).setCell ⟨gl, 2, none⟩ (.int .i64 0)).setCell ⟨gl, 3, none⟩ (.int .i64 0)) (some gl) :=
    grown_trans (grown_trans (grown_trans (grown_set W3 gl 0 _) (grown_set _ gl 1 _)) (grown_set _ gl 2 _)) (grown_set _ gl 3 _)
  have hne : v3.ownBlock ≠ some gl := by
    rcases hat with hat | hat
    · rw [hat]; exact h7
    · rw [hat]
      intro he
      injection he with he
      have := hb2.lt
      omega
  refine ⟨grown_below r2 g4 (fun k hk => by injection hk with hk; omega), ((hst.1.keeps (.grown how (by decide) hg)).keeps (.blk b3 (by decide) g4)), (((b3.set 0 _).set 1 _).set 2 _).set 3 _, OwnC.nil _ _, own_keeps hvb (.blk b3 (by decide) g4), ?_, hne, h8⟩
  exact r1.other g4 hne (.blk b3 (by decide) g4)
theorem OwnC.one {W : World} {base : Nat} {v : Value} {l : List Cel} (h : OwnC W base v l) : v.oneCell' = true := by
  have h0 : W.ownsRow base 77 2 v l.length (celVals l) := h
  rcases h0.2 with ⟨rfl, _⟩ | ⟨g, cap, cur, rfl, _⟩ <;> rfl
theorem line_ones {vc : Value} (x : ByteArray) (z f : Int) (h : vc.oneCell' = true) : ∀ u ∈ (#[vc, .string x, .int .i64 z, .int .i64 f] : Array Value).toList, u.oneCell' = true := by
  intro u hu
  simp only [List.mem_cons, List.not_mem_nil, or_false] at hu
  rcases hu with rfl | rfl | rfl | rfl
  · exact h
  · rfl
  · rfl
  · rfl
theorem Tryz.infoCelS : (Tryz.prog.info? 77).map (fun i => (i.zero, i.size, i.bytes)) = some (some (.agg #[.string ByteArray.empty, .int .i64 0]), 2, 24) := by kernel_rfl
theorem Tryz.infoLnS : (Tryz.prog.info? 79).map (fun i => (i.zero, i.size, i.bytes)) = some (some (.agg #[.slice none 0 0, .string ByteArray.empty, .int .i64 0, .int .i64 0]), 4, 56) := by kernel_rfl
theorem Tryz.infoBytS : (Tryz.prog.info? 5).map (fun i => (i.zero, i.size, i.bytes)) = some (some (.int .u8 0), 1, 1) := by kernel_rfl
theorem sp_yes {x : UInt8} {n : Nat} (hn : n < 256) (h : x = UInt8.ofNat n) : ((x.toNat : Int) == (n : Int)) = true := by
  subst h
  rw [UInt8.toNat_ofNat']
  simp
  omega
theorem sp_no {x : UInt8} {n : Nat} (hn : n < 256) (h : x ≠ UInt8.ofNat n) : ((x.toNat : Int) == (n : Int)) = false := by
  have : x.toNat ≠ n := fun e => h (UInt8.toNat_inj.1 (by rw [e, UInt8.toNat_ofNat']; omega))
  simp; omega
theorem sp_next (esc : Bool) (Wf : ByteArray → Int) (s : ByteArray) (k : Nat) (h : k < s.size) : spRun esc Wf sp0 (s.data.toList.take (k + 1)) = spStep esc Wf (spRun esc Wf sp0 (s.data.toList.take k)) s[k] := by
  rw [take_snoc s k h, spRun_append]; rfl
theorem sp_esc (Wf : ByteArray → Int) (s : ByteArray) (k : Nat) (h : k < s.size) (o : List Ln) (raw : Bool) (cs : List Cel) (b : List UInt8) (hr : (⟨o, raw, cs, b⟩ : Sp) = spRun true Wf sp0 (s.data.toList.take k)) (hx : s[k] = 255) : (⟨o, !raw, cs, b⟩ : Sp) = spRun true Wf sp0 (s.data.toList.take (k + 1)) := by
  rw [sp_next true Wf s k h, ← hr, spStep, if_pos (by simp [hx])]
theorem sp_tab (esc : Bool) (Wf : ByteArray → Int) (s : ByteArray) (k : Nat) (h : k < s.size) (o : List Ln) (cs : List Cel) (b : List UInt8) (hr : (⟨o, false, cs, b⟩ : Sp) = spRun esc Wf sp0 (s.data.toList.take k)) (hx : s[k] = 9) : (⟨o, false, cs ++ [celOf Wf b], []⟩ : Sp) = spRun esc Wf sp0 (s.data.toList.take (k + 1)) := by
  rw [sp_next esc Wf s k h, ← hr, spStep, if_neg (by simp [hx]), if_pos (by simp [hx])]
theorem sp_end (esc : Bool) (Wf : ByteArray → Int) (s : ByteArray) (k : Nat) (h : k < s.size) (o : List Ln) (cs : List Cel) (b : List UInt8) (hr : (⟨o, false, cs, b⟩ : Sp) = spRun esc Wf sp0 (s.data.toList.take k)) (hx : s[k] = 10 ∨ s[k] = 12) : (⟨o ++ [⟨cs, celOf Wf b, (s[k].toNat : Int)⟩], false, [], []⟩ : Sp) = spRun esc Wf sp0 (s.data.toList.take (k + 1)) := by
  rw [sp_next esc Wf s k h, ← hr, spStep, if_neg (by rcases hx with hx | hx <;> simp [hx]), if_neg (by rcases hx with hx | hx <;> simp [hx]), if_pos (by rcases hx with hx | hx <;> simp [hx])]
theorem sp_raw (esc : Bool) (Wf : ByteArray → Int) (s : ByteArray) (k : Nat) (h : k < s.size) (o : List Ln) (cs : List Cel) (b : List UInt8) (hr : (⟨o, true, cs, b⟩ : Sp) = spRun esc Wf sp0 (s.data.toList.take k)) (hx : esc = false ∨ s[k] ≠ 255) : (⟨o, true, cs, b ++ [s[k]]⟩ : Sp) = spRun esc Wf sp0 (s.data.toList.take (k + 1)) := by
  rw [sp_next esc Wf s k h, ← hr, spStep, if_neg (by rcases hx with h | h <;> simp [h]), if_neg (by simp), if_neg (by simp)]
theorem sp_else (esc : Bool) (Wf : ByteArray → Int) (s : ByteArray) (k : Nat) (h : k < s.size) (o : List Ln) (cs : List Cel) (b : List UInt8) (hr : (⟨o, false, cs, b⟩ : Sp) = spRun esc Wf sp0 (s.data.toList.take k)) (hx : esc = false ∨ s[k] ≠ 255) (h9 : s[k] ≠ 9) (h10 : s[k] ≠ 10) (h12 : s[k] ≠ 12) : (⟨o, false, cs, b ++ [s[k]]⟩ : Sp) = spRun esc Wf sp0 (s.data.toList.take (k + 1)) := by
  rw [sp_next esc Wf s k h, ← hr, spStep, if_neg (by rcases hx with h | h <;> simp [h]), if_neg (by simp [h9]), if_neg (by simp [h10, h12])]
end Go.Proofs.YtooanejiadbngaaGreatDoor

/- ClosedLength: the model's. -/
namespace Go.Proofs.YtooanejiadbngaaGreatDoor
open Go.RowKit
set_option linter.unusedVariables false

/-- What ClosedLength answers. -/
def closedB (c : Cfg) (s : ByteArray) : Int := if validC c = true then (lc c.fe s.data.toList false false : Int) else 0
theorem closedB_no {c : Cfg} (s : ByteArray) (h : validC c = false) : closedB c s = 0 := if_neg (by rw [h]; decide)
theorem closedB_yes {c : Cfg} (s : ByteArray) (h : validC c = true) : closedB c s = (lc c.fe s.data.toList false false : Int) := if_pos h
theorem drop_cons (s : ByteArray) (k : Nat) (h : k < s.size) : s.data.toList.drop k = s[k] :: s.data.toList.drop (k + 1) := List.drop_eq_getElem_cons (l := s.data.toList) h
theorem byte_yes {x : UInt8} {n : Nat} (hn : n < 256) (h : x = UInt8.ofNat n) : ((x.toNat : Int) == (n : Int)) = true := by
  subst h
  rw [UInt8.toNat_ofNat']
  simp
  omega
theorem byte_no {x : UInt8} {n : Nat} (hn : n < 256) (h : x ≠ UInt8.ofNat n) : ((x.toNat : Int) == (n : Int)) = false := by
  have : x.toNat ≠ n := fun e => h (UInt8.toNat_inj.1 (by rw [e, UInt8.toNat_ofNat']; omega))
  simp; omega
/-- The loop's value from index k on. -/
def lcAt (esc : Bool) (s : ByteArray) (k : Nat) (raw cs : Bool) (best : Nat) : Nat := lcGo esc (s.data.toList.drop k) raw cs k best
theorem lcAt_zero (esc : Bool) (s : ByteArray) : lcAt esc s 0 false false 0 = lc esc s.data.toList false false := by
  unfold lcAt
  rw [List.drop_zero, lcGo_eq]
  split
  · next h => exact h.symm
  · omega
theorem lcAt_end (esc : Bool) (s : ByteArray) (k : Nat) (raw cs : Bool) (best : Nat) (h : ¬ k < s.size) : lcAt esc s k raw cs best = best := by
  unfold lcAt
  rw [List.drop_of_length_le (by rw [bytes_length]; omega)]; rfl
theorem lcAt_esc (s : ByteArray) (k : Nat) (raw cs : Bool) (best : Nat) (h : k < s.size) (hx : s[k] = 255) : lcAt true s k raw cs best = lcAt true s (k + 1) (!raw) cs best := by
  unfold lcAt
  rw [drop_cons s k h, lcGo, if_pos (by simp [hx])]
theorem lcAt_tab (esc : Bool) (s : ByteArray) (k : Nat) (cs : Bool) (best : Nat) (h : k < s.size) (hx : s[k] = 9) : lcAt esc s k false cs best = lcAt esc s (k + 1) false true best := by
  unfold lcAt
  rw [drop_cons s k h, lcGo, if_neg (by simp [hx]), if_pos (by simp [hx])]
theorem lcAt_end10 (esc : Bool) (s : ByteArray) (k : Nat) (cs : Bool) (best : Nat) (h : k < s.size) (hx : s[k] = 10) : lcAt esc s k false cs best = lcAt esc s (k + 1) false false (if cs = true then best else k + 1) := by
  unfold lcAt
  rw [drop_cons s k h, lcGo, if_neg (by simp [hx]), if_neg (by simp [hx]), if_pos (by simp [hx])]
  cases cs <;> simp [hx]
theorem lcAt_end12 (esc : Bool) (s : ByteArray) (k : Nat) (cs : Bool) (best : Nat) (h : k < s.size) (hx : s[k] = 12) : lcAt esc s k false cs best = lcAt esc s (k + 1) false false (k + 1) := by
  unfold lcAt
  rw [drop_cons s k h, lcGo, if_neg (by simp [hx]), if_neg (by simp [hx]), if_pos (by simp [hx])]
  cases cs <;> simp [hx]
theorem lcAt_raw (esc : Bool) (s : ByteArray) (k : Nat) (cs : Bool) (best : Nat) (h : k < s.size) (hx : esc = false ∨ s[k] ≠ 255) : lcAt esc s k true cs best = lcAt esc s (k + 1) true cs best := by
  unfold lcAt
  rw [drop_cons s k h, lcGo, if_neg (by rcases hx with h | h <;> simp [h]), if_neg (by simp), if_neg (by simp)]
theorem lcAt_else (esc : Bool) (s : ByteArray) (k : Nat) (cs : Bool) (best : Nat) (h : k < s.size) (hx : esc = false ∨ s[k] ≠ 255) (h9 : s[k] ≠ 9) (h10 : s[k] ≠ 10) (h12 : s[k] ≠ 12) : lcAt esc s k false cs best = lcAt esc s (k + 1) false cs best := by
  unfold lcAt
  rw [drop_cons s k h, lcGo, if_neg (by rcases hx with h | h <;> simp [h]), if_neg (by simp [h9]), if_neg (by simp [h10, h12])]
end Go.Proofs.YtooanejiadbngaaGreatDoor

/- The program's splitter: the role of each byte of a text. -/
namespace Go.Proofs.YtooanejiadbngaaGreatDoor
open Go.RowKit
set_option linter.unusedVariables false

/-- The role of a byte: 0 text, 1 an escape, 2 the end of a cell, 3 the end of a line. -/
def roleN (esc raw : Bool) (x : UInt8) : Int :=
  if (esc && decide (x = 255)) = true then 1
  else if (!raw && decide (x = 9)) = true then 2
  else if (!raw && (decide (x = 10) || decide (x = 12))) = true then 3
  else 0
/-- Are we in escaped text behind it? -/
def nextRaw (esc raw : Bool) (x : UInt8) : Bool := if (esc && decide (x = 255)) = true then !raw else raw
def rawAt (esc : Bool) (s : ByteArray) (k : Nat) : Bool := (s.data.toList.take k).foldl (nextRaw esc) false
theorem rawAt_zero (esc : Bool) (s : ByteArray) : rawAt esc s 0 = false := rfl
theorem rawAt_succ (esc : Bool) (s : ByteArray) (k : Nat) (h : k < s.size) : rawAt esc s (k + 1) = nextRaw esc (rawAt esc s k) s[k] := by
  unfold rawAt
  rw [take_snoc s k h, List.foldl_append]; rfl
theorem rawAt_no (s : ByteArray) (k : Nat) : rawAt false s k = false := by
  unfold rawAt
  generalize s.data.toList.take k = l
  induction l with
  | nil => rfl
  | cons x r ih => simpa [nextRaw] using ih
def roleAt (esc : Bool) (s : ByteArray) (k : Nat) : Int := if h : k < s.size then roleN esc (rawAt esc s k) s[k] else 0
theorem roleAt_lt (esc : Bool) (s : ByteArray) (k : Nat) (h : k < s.size) : roleAt esc s k = roleN esc (rawAt esc s k) s[k] := dif_pos h
set_option maxRecDepth 100000 in
theorem isLineEnd_any (x : UInt8) (w : World) :
    Calls Tryz.prog 62 #[.int .u8 (x.toNat : Int)] w fun e w' => e = .returned (.bool (decide (x = 10) || decide (x = 12))) ∧ w = w' := by
  by_cases h10 : x = 10
  · have e10 : ((x.toNat : Int) == 10) = true := byte_yes (n := 10) (by omega) h10
    have HE := Lib.hid (show (decide (x = 10) || decide (x = 12)) = true by simp [h10])
    clear h10
    go_enter Tryz.func62, Tryz.ntmps62
    go_wp2
    go_ret
    exact ⟨ret_bool HE.out.symm, rfl⟩
  · have e10 : ((x.toNat : Int) == 10) = false := byte_no (n := 10) (by omega) h10
    by_cases h12 : x = 12
    · have e12 : ((x.toNat : Int) == 12) = true := byte_yes (n := 12) (by omega) h12
      have HE := Lib.hid (show (decide (x = 10) || decide (x = 12)) = true by simp [h12])
      clear h10 h12
      go_enter Tryz.func62, Tryz.ntmps62
      go_wp2
      go_ret
      exact ⟨ret_bool HE.out.symm, rfl⟩
    · have e12 : ((x.toNat : Int) == 12) = false := byte_no (n := 12) (by omega) h12
      have HE := Lib.hid (show (decide (x = 10) || decide (x = 12)) = false by simp [h10, h12])
      clear h10 h12
      go_enter Tryz.func62, Tryz.ntmps62
      go_wp2
      go_ret
      exact ⟨ret_bool HE.out.symm, rfl⟩
/-- The state that reads the next byte: a function of the program. -/
def stateV (raw : Bool) : Value := .func (.func (if raw = true then 61 else 48)) #[] #[]
theorem stateV_f : stateV false = .func (.func 48) #[] #[] := rfl
theorem stateV_t : stateV true = .func (.func 61) #[] #[] := rfl
set_option maxRecDepth 100000 in
set_option maxHeartbeats 1000000 in
theorem readEscaped_any (c : Cfg) (x : UInt8) (w : World) (hf : c.fe = true) :
    Calls Tryz.prog 61 #[.agg (cfgV c), .int .u8 (x.toNat : Int)] w fun e w' => e = .returned (.tuple #[.int .i8 (roleN c.fe true x), stateV (nextRaw c.fe true x)]) ∧ Below w.heap.size w w' := by
  rw [hf]
  clear hf
  obtain ⟨m, t, p, d, fr, fd, fl, fe, fm⟩ := c
  unfold cfgV
  simp only
  by_cases h : x = 255
  · have e255 : ((x.toNat : Int) == 255) = true := byte_yes (n := 255) (by omega) h
    have HE : Hid (roleN true true x = 1 ∧ nextRaw true true x = false) := Lib.hid (by simp [roleN, nextRaw, h])
    clear h
    rw [HE.out.1, HE.out.2, stateV_f]
    go_enter Tryz.func61, Tryz.ntmps61
    go_wp2
    go_ret2
    exact ⟨rfl, by go_grown⟩
  · have e255 : ((x.toNat : Int) == 255) = false := byte_no (n := 255) (by omega) h
    have HE : Hid (roleN true true x = 0 ∧ nextRaw true true x = true) := Lib.hid (by simp [roleN, nextRaw, h])
    clear h
    rw [HE.out.1, HE.out.2, stateV_t]
    go_enter Tryz.func61, Tryz.ntmps61
    go_wp2
    go_ret2
    exact ⟨rfl, by go_grown⟩
set_option maxRecDepth 100000 in
set_option maxHeartbeats 1000000 in
theorem readOrdinary_rest (c : Cfg) (x : UInt8) (w : World) (hx : c.fe = false ∨ x ≠ 255) :
    Calls Tryz.prog 48 #[.agg (cfgV c), .int .u8 (x.toNat : Int)] w fun e w' => e = .returned (.tuple #[.int .i8 (roleN c.fe false x), stateV (nextRaw c.fe false x)]) ∧ Below w.heap.size w w' := by
  have hn : nextRaw c.fe false x = false := by unfold nextRaw; rw [if_neg (by rcases hx with h | h <;> simp [h])]
  have hr : roleN c.fe false x = if (decide (x = 9)) = true then 2 else if (decide (x = 10) || decide (x = 12)) = true then 3 else 0 := by
    unfold roleN
    rw [if_neg (by rcases hx with h | h <;> simp [h])]
    simp
  rw [hn, hr, stateV_f]
  have HL := Lib.hid (fun W => isLineEnd_any x W)
  have HX := Lib.hid hx
  obtain ⟨m, t, p, d, fr, fd, fl, fe, fm⟩ := c
  unfold cfgV
  simp only at HX ⊢
  clear hn hr hx
  by_cases h255 : x = 255
  · have e255 : ((x.toNat : Int) == 255) = true := byte_yes (n := 255) (by omega) h255
    have e9 : ((x.toNat : Int) == 9) = false := byte_no (n := 9) (by omega) (by rw [h255]; decide)
    have hl : (decide (x = 10) || decide (x = 12)) = false := by rw [h255]; decide
    have h9 : ¬ (decide (x = 9)) = true := by rw [h255]; decide
    rw [if_neg h9, if_neg (by rw [hl]; decide)]
    rw [hl] at HL
    obtain rfl : fe = false := by
      rcases HX.out with h | h
      · exact h
      · exact absurd h255 h
    clear h255 hl h9 HX
    go_enter Tryz.func48, Tryz.ntmps48
    go_wp2_with (go_at_call 62; refine (HL.out _).mono ?_; rintro e w1 ⟨rfl, rfl⟩)
    go_ret2
    exact ⟨rfl, by go_grown⟩
  · have e255 : ((x.toNat : Int) == 255) = false := byte_no (n := 255) (by omega) h255
    clear h255 HX
    by_cases h9 : x = 9
    · have e9 : ((x.toNat : Int) == 9) = true := byte_yes (n := 9) (by omega) h9
      rw [if_pos (by simp [h9])]
      clear h9
      go_enter Tryz.func48, Tryz.ntmps48
      go_wp2
      go_ret2
      exact ⟨rfl, by go_grown⟩
    · have e9 : ((x.toNat : Int) == 9) = false := byte_no (n := 9) (by omega) h9
      rw [if_neg (by simp [h9])]
      clear h9
      generalize (decide (x = 10) || decide (x = 12)) = y at HL ⊢
      cases y with
      | true =>
        rw [if_pos rfl]
        go_enter Tryz.func48, Tryz.ntmps48
        go_wp2_with (go_at_call 62; refine (HL.out _).mono ?_; rintro e w1 ⟨rfl, rfl⟩)
        go_ret2
        exact ⟨rfl, by go_grown⟩
      | false =>
        rw [if_neg (by decide)]
        go_enter Tryz.func48, Tryz.ntmps48
        go_wp2_with (go_at_call 62; refine (HL.out _).mono ?_; rintro e w1 ⟨rfl, rfl⟩)
        go_ret2
        exact ⟨rfl, by go_grown⟩
set_option maxRecDepth 100000 in
set_option maxHeartbeats 1000000 in
theorem readOrdinary_any (c : Cfg) (x : UInt8) (w : World) :
    Calls Tryz.prog 48 #[.agg (cfgV c), .int .u8 (x.toNat : Int)] w fun e w' => e = .returned (.tuple #[.int .i8 (roleN c.fe false x), stateV (nextRaw c.fe false x)]) ∧ Below w.heap.size w w' := by
  by_cases hx : c.fe = false ∨ x ≠ 255
  · exact readOrdinary_rest c x w hx
  · have hf : c.fe = true := by cases h : c.fe with | true => rfl | false => exact absurd (.inl h) hx
    have h255 : x = 255 := Classical.byContradiction fun h => hx (.inr h)
    rw [hf]
    have HE : Hid (roleN true false x = 1 ∧ nextRaw true false x = true) := Lib.hid (by simp [roleN, nextRaw, h255])
    rw [HE.out.1, HE.out.2, stateV_t]
    have e255 : ((x.toNat : Int) == 255) = true := byte_yes (n := 255) (by omega) h255
    obtain ⟨m, t, p, d, fr, fd, fl, fe, fm⟩ := c
    unfold cfgV
    simp only at hf ⊢
    subst hf
    clear h255 hx
    go_enter Tryz.func48, Tryz.ntmps48
    go_wp2
    go_ret2
    exact ⟨rfl, by go_grown⟩
end Go.Proofs.YtooanejiadbngaaGreatDoor

/- The program's splitter by roles: plain steps; what keeps a block of another type; an emptied slice. No walk. -/
namespace Go.Proofs.YtooanejiadbngaaGreatDoor
open Go.RowKit
set_option linter.unusedVariables false

theorem spRun_raw (esc : Bool) (Wf : ByteArray → Int) (s : ByteArray) (k : Nat) : (spRun esc Wf sp0 (s.data.toList.take k)).raw = rawAt esc s k := by
  unfold rawAt
  have key : ∀ (l : List UInt8) (st : Sp), (spRun esc Wf st l).raw = l.foldl (nextRaw esc) st.raw := by
    intro l
    induction l with
    | nil => intro st; rfl
    | cons x r ih =>
      intro st
      rw [spRun_cons, ih, List.foldl_cons]
      congr 1
      unfold spStep nextRaw
      (repeat' split) <;> rfl
  exact key _ sp0
/-- What a byte does to the splitter, by its role. -/
theorem sp_role (esc : Bool) (Wf : ByteArray → Int) (s : ByteArray) (k : Nat) (h : k < s.size) (o : List Ln) (raw : Bool) (cs : List Cel) (b : List UInt8) (hr : (⟨o, raw, cs, b⟩ : Sp) = spRun esc Wf sp0 (s.data.toList.take k)) :
    ∃ nr : Bool, ((roleAt esc s k = 0 ∧ (⟨o, nr, cs, b ++ [s[k]]⟩ : Sp) = spRun esc Wf sp0 (s.data.toList.take (k + 1))) ∨ (roleAt esc s k = 1 ∧ (⟨o, nr, cs, b⟩ : Sp) = spRun esc Wf sp0 (s.data.toList.take (k + 1)))) ∨
      ((roleAt esc s k = 2 ∧ (⟨o, nr, cs ++ [celOf Wf b], []⟩ : Sp) = spRun esc Wf sp0 (s.data.toList.take (k + 1))) ∨ (roleAt esc s k = 3 ∧ (⟨o ++ [⟨cs, celOf Wf b, (s[k].toNat : Int)⟩], nr, [], []⟩ : Sp) = spRun esc Wf sp0 (s.data.toList.take (k + 1)))) := by
  have hra : raw = rawAt esc s k := by rw [← spRun_raw esc Wf s k, ← hr]
  rw [roleAt_lt esc s k h, ← hra, sp_next esc Wf s k h, ← hr]
  unfold spStep roleN
  by_cases h1 : (esc && decide (s[k] = 255)) = true
  · exact ⟨!raw, .inl (.inr ⟨if_pos h1, by rw [if_pos h1]⟩)⟩
  · by_cases h2 : (!raw && decide (s[k] = 9)) = true
    · exact ⟨raw, .inr (.inl ⟨by rw [if_neg h1, if_pos h2], by rw [if_neg h1, if_pos h2]⟩)⟩
    · by_cases h3 : (!raw && (decide (s[k] = 10) || decide (s[k] = 12))) = true
      · exact ⟨raw, .inr (.inr ⟨by rw [if_neg h1, if_neg h2, if_pos h3], by rw [if_neg h1, if_neg h2, if_pos h3]⟩)⟩
      · exact ⟨raw, .inl (.inl ⟨by rw [if_neg h1, if_neg h2, if_neg h3], by rw [if_neg h1, if_neg h2, if_neg h3]⟩)⟩
/-- A slice of the call's own, cut to nothing. -/
def emptied : Value → Value
  | .slice a _ c => .slice a 0 c
  | v => v
theorem emptied_own {W : World} {base : Nat} {e : TypeId} {size n : Nat} {v : Value} {xs : List Value} (h : W.ownsRow base e size v n xs) : W.ownsRow base e size (emptied v) 0 [] := by
  refine ⟨by simp, ?_⟩
  rcases h.2 with ⟨rfl, _⟩ | ⟨g, cap, cur, rfl, hb, hg, h1, h2, h3, h4⟩
  · exact .inl ⟨rfl, rfl⟩
  · exact .inr ⟨g, cap, cur, rfl, hb, hg, Nat.zero_le _, h2, h3, by simp⟩
theorem run_empty (v : Value) (a : Option Addr) (n c : Nat) (hv : v = .slice a n c) (ha : ∀ x, a = some x → x.spot = none) (w : World) :
    (Instr.slice 22 v none (some (.int .i64 0)) none).run Tryz.prog w = .ok (emptied v) w := by
  subst hv
  rw [run_slice_h (P := Tryz.prog) (w := w) (t := 22) (a := a) (len := n) (cap := c) (ht := by kernel_rfl) .i64 0 (by omega) (by omega)]
  rw [show Tryz.prog.elem 22 = 5 by kernel_rfl, Tryz.sizeOf5]
  simp only [Result.andThen, sliced, emptied]
  congr 1
  simp only [Int.toNat_zero, Nat.sub_zero, Nat.zero_mul, Value.slice.injEq, and_true]
  split
  · rfl
  · cases a with
    | none => rfl
    | some x =>
      obtain ⟨g, o, sp⟩ := x
      have := ha _ rfl
      simp only at this
      subst this
      simp [Addr.add]
theorem run_emptied {W : World} {base : Nat} {e : TypeId} {size n : Nat} {v : Value} {xs : List Value} (h : W.ownsRow base e size v n xs) (w : World) : (Instr.slice 22 v none (some (.int .i64 0)) none).run Tryz.prog w = .ok (emptied v) w := by
  rcases h.2 with ⟨rfl, _⟩ | ⟨g, cap, cur, rfl, _⟩
  · exact run_empty _ none 0 0 rfl (fun x hx => by cases hx) w
  · exact run_empty _ (some ⟨g, 0, none⟩) n cap rfl (fun x hx => by cases hx; rfl) w
/-! ### blocks of a type that the step does not touch -/
theorem SpM.cell_keeps {w W W' : World} {c : Cfg} {gl : Nat} {vo vc vb vc' : Value} {st : Sp} {e : TypeId} (h : SpM w W c gl vo vc vb st) (hg : W.grownBy W' vc.ownBlock) (h1 : 77 ≠ e) (h2 : 79 ≠ e) : Keeps W (W'.setCell ⟨gl, 0, none⟩ vc') e := by
  have k4 : W.ownsRow w.heap.size 77 2 vc st.cells.length (celVals st.cells) := h.2.2.2.1
  have b2 := h.2.2.1.keeps (.grown k4 (by decide) hg)
  exact (Keeps.grown k4 h1 hg).trans (.blk b2 h2 (grown_set W' gl 0 vc'))
theorem SpM.byte_keeps {w W W' : World} {c : Cfg} {gl : Nat} {vo vc vb : Value} {st : Sp} {e : TypeId} (h : SpM w W c gl vo vc vb st) (hg : W.grownBy W' vb.ownBlock) (h1 : 5 ≠ e) : Keeps W W' e := .grown h.2.2.2.2.1 h1 hg
theorem SpM.line_keeps {w W W2 W3 : World} {c : Cfg} {gl : Nat} {vo vc vb : Value} {vs : List Value} {st : Sp} {e : TypeId} {cs : Array Value} (h : SpM w W c gl vo vc vb st) (hg2 : W.grownBy W2 (some gl)) (hb2 : Blk W2 gl 79 cs) (how : W2.ownsRow w.heap.size 79 4 vo st.outs.length (lnVals vs st.outs)) (hg : W2.grownBy W3 vo.ownBlock) (h1 : 79 ≠ e) :
    Keeps W W3 e ∧ Keeps W ((((W3.setCell ⟨gl, 0, none⟩ (.slice none 0 0)).setCell ⟨gl, 1, none⟩ (.string ⟨#[]⟩)).setCell ⟨gl, 2, none⟩ (.int .i64 0)).setCell ⟨gl, 3, none⟩ (.int .i64 0)) e := by
  have b3 := h.line_blk hb2 hg
  have g4 : W3.grownBy ((((W3.setCell ⟨gl, 0, none⟩ (.slice none 0 0)).setCell ⟨gl, 1, none⟩ (.string ⟨#[]⟩)).setCell ⟨gl, 2, none⟩ (.int .i64 0)).setCell ⟨gl, 3, none⟩ (.int .i64 0)) (some gl) :=
    grown_trans (grown_trans (grown_trans (grown_set W3 gl 0 _) (grown_set _ gl 1 _)) (grown_set _ gl 2 _)) (grown_set _ gl 3 _)
  have k1 : Keeps W W3 e := (Keeps.blk h.2.2.1 h1 hg2).trans (.grown how h1 hg)
  exact ⟨k1, k1.trans (.blk b3 h1 g4)⟩
theorem SpM.rebuf {w W : World} {c : Cfg} {gl : Nat} {vo vc vb vb' : Value} {st : Sp} {b : List UInt8} (h : SpM w W c gl vo vc vb st) (ho : W.ownsRow w.heap.size 5 1 vb' b.length (u8s b)) : SpM w W c gl vo vc vb' ⟨st.outs, st.raw, st.cells, b⟩ :=
  ⟨h.1, h.2.1, h.2.2.1, h.2.2.2.1, ho, h.2.2.2.2.2⟩
theorem spm_begin (w w1 : World) (c : Cfg) (hb : Below w.heap.size w w1) (hB : Blk w1 w.heap.size 24 (cfgV c)) :
    SpM w (w1.alloc (.cells #[.slice none 0 0, .string ⟨#[]⟩, .int .i64 0, .int .i64 0] 79)) c w1.heap.size (.slice none 0 0) (.slice none 0 0) (.slice none 0 0) sp0 :=
  ⟨hb.alloc hb.size _, hB.after ((Below.refl _ _).alloc (Nat.le_refl _) _), Blk.new w1 _ _, OwnC.nil _ _, World.ownsRow_nil _ _ _ _, OwnL.nilAt _ _ _ _ (World.ownsRow_nil _ _ _ _), (fun h => by cases h), hB.lt⟩
/-- The lines that SplitText answers. -/
def splitL (c : Cfg) (s : ByteArray) : List Ln := if validC c = true then linesOf c.fe (fun b => (celW c.fm b 0 : Int)) s.data.toList else []
theorem splitL_no {c : Cfg} (s : ByteArray) (h : validC c = false) : splitL c s = [] := if_neg (by rw [h]; decide)
theorem splitL_yes {c : Cfg} (s : ByteArray) (h : validC c = true) : splitL c s = linesOf c.fe (fun b => (celW c.fm b 0 : Int)) s.data.toList := if_pos h
/-! ### how many lines, how much in them -/
theorem totC_append (a b : List Cel) : totC (a ++ b) = totC a + totC b := by
  induction a with
  | nil => simp [totC]
  | cons x r ih => simp only [List.cons_append, totC, ih]; omega
theorem totL_append (a b : List Ln) : totL (a ++ b) = totL a + totL b := by
  induction a with
  | nil => simp [totL]
  | cons x r ih => simp only [List.cons_append, totL, ih]; omega
def spSize (st : Sp) : Nat := totL st.outs + (st.cells.length + totC st.cells) + st.buf.length
theorem celOf_size (Wf : ByteArray → Int) (b : List UInt8) : (celOf Wf b).txt.size = b.length := by
  show b.toArray.size = _
  simp
theorem spStep_size (esc : Bool) (Wf : ByteArray → Int) (st : Sp) (x : UInt8) : spSize (spStep esc Wf st x) ≤ spSize st + 1 ∧ (spStep esc Wf st x).outs.length ≤ st.outs.length + 1 := by
  obtain ⟨o, raw, cs, b⟩ := st
  unfold spStep
  simp only
  split
  · exact ⟨by simp [spSize], by simp⟩
  · split
    · refine ⟨?_, by simp⟩
      simp only [spSize, totC_append, totC, List.length_append, celOf_size, List.length_cons, List.length_nil]
      omega
    · split
      · refine ⟨?_, by simp⟩
        simp only [spSize, totL_append, totL, totC, celOf_size, List.length_nil]
        omega
      · refine ⟨?_, by simp⟩
        simp only [spSize, List.length_append, List.length_cons, List.length_nil]
        omega
theorem spRun_size (esc : Bool) (Wf : ByteArray → Int) : ∀ (t : List UInt8) (st : Sp), spSize (spRun esc Wf st t) ≤ spSize st + t.length ∧ (spRun esc Wf st t).outs.length ≤ st.outs.length + t.length
  | [], st => ⟨Nat.le_refl _, Nat.le_refl _⟩
  | x :: t, st => by
    have h1 := spStep_size esc Wf st x
    have h2 := spRun_size esc Wf t (spStep esc Wf st x)
    rw [spRun_cons, List.length_cons]
    omega
theorem lines_size (esc : Bool) (Wf : ByteArray → Int) (t : List UInt8) : (linesOf esc Wf t).length ≤ t.length + 1 ∧ totL (linesOf esc Wf t) ≤ t.length := by
  have h := spRun_size esc Wf t sp0
  have e1 : spSize sp0 = 0 := rfl
  have e2 : sp0.outs.length = 0 := rfl
  rw [e1, e2] at h
  unfold linesOf
  rw [List.length_append, totL_append]
  simp only [totL, celOf_size, List.length_cons, List.length_nil]
  unfold spSize at h
  omega
theorem splitL_size (c : Cfg) (s : ByteArray) : (splitL c s).length ≤ s.size + 1 ∧ totL (splitL c s) ≤ s.size := by
  unfold splitL
  split
  · have := lines_size c.fe (fun b => (celW c.fm b 0 : Int)) s.data.toList
    rw [bytes_length] at this
    exact this
  · exact ⟨Nat.zero_le _, Nat.zero_le _⟩
end Go.Proofs.YtooanejiadbngaaGreatDoor

/- JoinLines: the model's. -/
namespace Go.Proofs.YtooanejiadbngaaGreatDoor
open Go.RowKit
set_option linter.unusedVariables false

/-- The bytes of a list of cells, of a line, of lines. -/
def celBytes (l : List Cel) : List UInt8 := l.flatMap fun c => c.txt.data.toList ++ [9]
def finBytes (f : Int) : List UInt8 := if f = 0 then [] else [UInt8.ofNat f.toNat]
def lnBytes (l : Ln) : List UInt8 := celBytes l.cells ++ l.tail.txt.data.toList ++ finBytes l.fin
def allBytes (ls : List Ln) : List UInt8 := ls.flatMap lnBytes
def okFin (l : Ln) : Prop := l.fin = 0 ∨ l.fin = 10 ∨ l.fin = 12
instance (l : Ln) : Decidable (okFin l) := by unfold okFin; infer_instance
/-- What JoinLines answers. -/
def joinLB (c : Cfg) (ls : List Ln) : ByteArray := if validC c = true ∧ (∀ l ∈ ls, okFin l) then ⟨(allBytes ls).toArray⟩ else ⟨#[]⟩
theorem joinLB_no {c : Cfg} (ls : List Ln) (h : validC c = false) : joinLB c ls = ⟨#[]⟩ := if_neg (by rw [h]; rintro ⟨h, _⟩; cases h)
theorem joinLB_bad (c : Cfg) (ls : List Ln) (l : Ln) (h : l ∈ ls) (hb : ¬ okFin l) : joinLB c ls = ⟨#[]⟩ := if_neg (fun k => hb (k.2 l h))
theorem joinLB_yes {c : Cfg} (ls : List Ln) (h : validC c = true) (hk : ∀ l ∈ ls, okFin l) : joinLB c ls = ⟨(allBytes ls).toArray⟩ := if_pos ⟨h, hk⟩
theorem celBytes_len (l : List Cel) : (celBytes l).length = totC l + l.length := by
  induction l with
  | nil => rfl
  | cons c r ih =>
    unfold celBytes at ih ⊢
    simp only [List.flatMap_cons, List.length_append, ih, totC, List.length_cons, List.length_nil, bytes_length]
    omega
theorem finBytes_len (f : Int) : (finBytes f).length ≤ 1 := by unfold finBytes; split <;> simp
theorem allBytes_len (ls : List Ln) : (allBytes ls).length ≤ totL ls + ls.length := by
  induction ls with
  | nil => exact Nat.le_refl _
  | cons l r ih =>
    have h1 := celBytes_len l.cells
    have h2 := finBytes_len l.fin
    unfold allBytes at ih ⊢
    simp only [List.flatMap_cons, lnBytes, List.length_append, totL, List.length_cons, h1, bytes_length]
    omega
theorem celBytes_take (l : List Cel) (j : Nat) (h : j < l.length) : celBytes (l.take (j + 1)) = celBytes (l.take j) ++ l[j].txt.data.toList ++ [9] := by
  unfold celBytes
  rw [List.take_succ_eq_append_getElem h, List.flatMap_append]
  simp
theorem allBytes_take (ls : List Ln) (k : Nat) (h : k < ls.length) : allBytes (ls.take (k + 1)) = allBytes (ls.take k) ++ lnBytes ls[k] := by
  unfold allBytes
  rw [List.take_succ_eq_append_getElem h, List.flatMap_append]
  simp
theorem totL_take (ls : List Ln) (k : Nat) : totL (ls.take k) ≤ totL ls := by
  induction ls generalizing k with
  | nil => simp [totL]
  | cons l r ih =>
    cases k with
    | zero => simp [totL]
    | succ k => have := ih k; simp only [List.take_succ_cons, totL]; omega
theorem celBytes_take_len (l : List Cel) (j : Nat) : (celBytes (l.take j)).length ≤ totC l + l.length := by
  rw [← celBytes_len l]
  conv => rhs; rw [← List.take_append_drop j l]
  unfold celBytes
  rw [List.flatMap_append, List.length_append]
  omega
theorem allBytes_take_len (ls : List Ln) (k : Nat) : (allBytes (ls.take k)).length ≤ totL ls + ls.length := by
  have h1 := allBytes_len (ls.take k)
  have h2 := totL_take ls k
  have h3 : (ls.take k).length ≤ ls.length := List.length_take_le' ..
  omega
theorem Tryz.infoByteJ : (Tryz.prog.info? 5).map (fun i => (i.zero, i.size, i.bytes)) = some (some (.int .u8 0), 1, 1) := by kernel_rfl
end Go.Proofs.YtooanejiadbngaaGreatDoor

/- A text is recovered from its lines where escapes are not set; each cell bears its width: plain words. No walk. -/
namespace Go.Proofs.YtooanejiadbngaaGreatDoor
open Go.RowKit
set_option linter.unusedVariables false

theorem allBytes_append (a b : List Ln) : allBytes (a ++ b) = allBytes a ++ allBytes b := by simp [allBytes]
theorem celBytes_append (a b : List Cel) : celBytes (a ++ b) = celBytes a ++ celBytes b := by simp [celBytes]
def spBytes (st : Sp) : List UInt8 := allBytes st.outs ++ (celBytes st.cells ++ st.buf)
theorem fin_byte (x : UInt8) (h : x = 10 ∨ x = 12) : finBytes ((x.toNat : Nat) : Int) = [x] := by
  rcases h with rfl | rfl <;> rfl
theorem spStep_bytes (Wf : ByteArray → Int) (st : Sp) (x : UInt8) (hr : st.raw = false) : spBytes (spStep false Wf st x) = spBytes st ++ [x] ∧ (spStep false Wf st x).raw = false := by
  obtain ⟨o, raw, cs, b⟩ := st
  simp only at hr
  subst hr
  unfold spStep
  simp only [Bool.false_and, Bool.not_false, Bool.true_and, decide_eq_true_eq]
  rw [if_neg (by decide)]
  by_cases h9 : x = 9
  · rw [if_pos h9]
    refine ⟨?_, rfl⟩
    subst h9
    simp only [spBytes, celBytes_append]
    simp [celBytes, celOf]
  · rw [if_neg h9]
    by_cases hx : (decide (x = 10) || decide (x = 12)) = true
    · rw [if_pos hx]
      refine ⟨?_, rfl⟩
      have hx' : x = 10 ∨ x = 12 := by simpa using hx
      simp only [spBytes, allBytes_append]
      simp only [allBytes, List.flatMap_cons, List.flatMap_nil, lnBytes, fin_byte x hx', celOf, List.append_nil]
      simp [celBytes]
    · rw [if_neg hx]
      exact ⟨by simp [spBytes], rfl⟩
theorem spRun_bytes (Wf : ByteArray → Int) : ∀ (t : List UInt8) (st : Sp), st.raw = false → spBytes (spRun false Wf st t) = spBytes st ++ t
  | [], st, _ => by simp [spRun]
  | x :: t, st, hr => by
    obtain ⟨h1, h2⟩ := spStep_bytes Wf st x hr
    rw [spRun_cons, spRun_bytes Wf t _ h2, h1]
    simp
theorem lines_bytes (Wf : ByteArray → Int) (t : List UInt8) : allBytes (linesOf false Wf t) = t := by
  have h := spRun_bytes Wf t sp0 rfl
  unfold linesOf
  rw [allBytes_append]
  simp only [allBytes, List.flatMap_cons, List.flatMap_nil, lnBytes, finBytes, if_true, celOf, List.append_nil]
  simpa [spBytes, sp0, allBytes, celBytes] using h
/-- What holds of every line that is put out holds of all lines. -/
def CelFine (Wf : ByteArray → Int) (c : Cel) : Prop := c.wid = Wf c.txt
def LnFine (Wf : ByteArray → Int) (l : Ln) : Prop := (∀ c ∈ l.cells, CelFine Wf c) ∧ CelFine Wf l.tail ∧ okFin l
theorem celOf_fine (Wf : ByteArray → Int) (b : List UInt8) : CelFine Wf (celOf Wf b) := rfl
theorem spStep_fine (esc : Bool) (Wf : ByteArray → Int) (st : Sp) (x : UInt8) (h : (∀ l ∈ st.outs, LnFine Wf l) ∧ ∀ c ∈ st.cells, CelFine Wf c) : (∀ l ∈ (spStep esc Wf st x).outs, LnFine Wf l) ∧ ∀ c ∈ (spStep esc Wf st x).cells, CelFine Wf c := by
  obtain ⟨o, raw, cs, b⟩ := st
  obtain ⟨h1, h2⟩ := h
  simp only at h1 h2
  unfold spStep
  simp only
  split
  · exact ⟨h1, h2⟩
  · split
    · refine ⟨h1, fun c hc => ?_⟩
      simp only at hc
      rcases List.mem_append.1 hc with hc | hc
      · exact h2 c hc
      · rcases List.mem_singleton.1 hc with rfl
        exact celOf_fine Wf b
    · split
      · rename_i hx
        refine ⟨fun l hl => ?_, fun c hc => by cases hc⟩
        simp only at hl
        rcases List.mem_append.1 hl with hl | hl
        · exact h1 l hl
        · rcases List.mem_singleton.1 hl with rfl
          refine ⟨h2, celOf_fine Wf b, ?_⟩
          simp only [Bool.and_eq_true, Bool.or_eq_true, decide_eq_true_eq] at hx
          rcases hx.2 with rfl | rfl
          · exact .inr (.inl rfl)
          · exact .inr (.inr rfl)
      · exact ⟨h1, h2⟩
theorem spRun_fine (esc : Bool) (Wf : ByteArray → Int) : ∀ (t : List UInt8) (st : Sp), ((∀ l ∈ st.outs, LnFine Wf l) ∧ ∀ c ∈ st.cells, CelFine Wf c) → (∀ l ∈ (spRun esc Wf st t).outs, LnFine Wf l) ∧ ∀ c ∈ (spRun esc Wf st t).cells, CelFine Wf c
  | [], st, h => h
  | x :: t, st, h => by rw [spRun_cons]; exact spRun_fine esc Wf t _ (spStep_fine esc Wf st x h)
theorem lines_fine (esc : Bool) (Wf : ByteArray → Int) (t : List UInt8) : ∀ l ∈ linesOf esc Wf t, LnFine Wf l := by
  have h := spRun_fine esc Wf t sp0 ⟨(fun l hl => by cases hl), (fun c hc => by cases hc)⟩
  intro l hl
  unfold linesOf at hl
  rcases List.mem_append.1 hl with hl | hl
  · exact h.1 l hl
  · rcases List.mem_singleton.1 hl with rfl
    exact ⟨h.2, celOf_fine Wf _, .inl rfl⟩
/-- All that FnCells asks. -/
theorem join_split (c : Cfg) (s : ByteArray) (hv : validC c = true) (he : c.fe = false) : joinLB c (splitL c s) = s := by
  rw [splitL_yes s hv]
  rw [joinLB_yes _ hv (fun l hl => (lines_fine _ _ _ l hl).2.2), he, lines_bytes]
theorem split_fine (c : Cfg) (s : ByteArray) (hv : validC c = true) (l : Ln) (hl : l ∈ splitL c s) (x : Cel) (hx : x ∈ l.cells) : x.wid = cellWB c x.txt := by
  rw [splitL_yes s hv] at hl
  rw [cellWB_yes _ hv]
  exact (lines_fine _ _ _ l hl).1 x hx
theorem split_some (c : Cfg) (s : ByteArray) (hv : validC c = true) : 0 < (splitL c s).length := by
  rw [splitL_yes s hv]
  unfold linesOf
  rw [List.length_append]
  simp
end Go.Proofs.YtooanejiadbngaaGreatDoor
