/- The model's configurations: IsConfig, DefaultConfig, RoundWidth, Filling; the laws' own copies. -/
import Derived.Test.YtooanejiadbngaaCfg
import Derived.Handy
import Derived.Deep.QuietTactic
import Derived.BigQuiet
namespace Go.Proofs.Ytooanejiadbngaa
open Go.RowKit
set_option linter.unusedVariables false

/-- Block B holds a configuration. -/
def Boxed (W : World) (B : Nat) (m t p d : Int) (fr fd fl fe fm : Bool) : Prop :=
  W.cell? ⟨B, 0, none⟩ = some (.int .i64 m) ∧ W.cell? ⟨B, 1, none⟩ = some (.int .i64 t) ∧ W.cell? ⟨B, 2, none⟩ = some (.int .i64 p) ∧ W.cell? ⟨B, 3, none⟩ = some (.int .i64 d) ∧
    W.cell? ⟨B, 4, none⟩ = some (.bool fr) ∧ W.cell? ⟨B, 5, none⟩ = some (.bool fd) ∧ W.cell? ⟨B, 6, none⟩ = some (.bool fl) ∧ W.cell? ⟨B, 7, none⟩ = some (.bool fe) ∧ W.cell? ⟨B, 8, none⟩ = some (.bool fm)
theorem Boxed.new (w : World) (T : TypeId) (m t p d : Int) (fr fd fl fe fm : Bool) : Boxed (w.alloc (.cells #[.int .i64 m, .int .i64 t, .int .i64 p, .int .i64 d, .bool fr, .bool fd, .bool fl, .bool fe, .bool fm] T)) w.heap.size m t p d fr fd fl fe fm :=
  ⟨by go_simp, by go_simp, by go_simp, by go_simp, by go_simp, by go_simp, by go_simp, by go_simp, by go_simp⟩
theorem Boxed.below {W W' : World} {A B : Nat} {m t p d : Int} {fr fd fl fe fm : Bool} (h : Boxed W B m t p d fr fd fl fe fm) (hb : Below A W W') (hB : B < A) : Boxed W' B m t p d fr fd fl fe fm := by
  obtain ⟨h0, h1, h2, h3, h4, h5, h6, h7, h8⟩ := h
  have k : ∀ j v, W.cell? ⟨B, j, none⟩ = some v → W'.cell? ⟨B, j, none⟩ = some v := fun j v hv => (hb.cell (p := ⟨B, j, none⟩) hB).trans hv
  exact ⟨k _ _ h0, k _ _ h1, k _ _ h2, k _ _ h3, k _ _ h4, k _ _ h5, k _ _ h6, k _ _ h7, k _ _ h8⟩
theorem cfg_eta (c : Cfg) : c = ⟨c.cmin, c.ctab, c.cpadding, c.cpad, c.fr, c.fd, c.fl, c.fe, c.fm⟩ := rfl
theorem validC_of (m t p d : Int) (fr fd fl fe fm : Bool) : validC ⟨m, t, p, d, fr, fd, fl, fe, fm⟩ = (inB m 0 200 && inB t 1 32 && inB p 0 32 && (decide (d = 9) && !fr || inB d 32 126)) := rfl
theorem box_step {w W W' : World} {B : Nat} {v0 v1 v2 v3 v4 v5 v6 v7 v8 : Value} (hb : Below W.heap.size W W')
    (h : W.cell? ⟨B, 0, none⟩ = some v0 ∧ W.cell? ⟨B, 1, none⟩ = some v1 ∧ W.cell? ⟨B, 2, none⟩ = some v2 ∧ W.cell? ⟨B, 3, none⟩ = some v3 ∧ W.cell? ⟨B, 4, none⟩ = some v4 ∧ W.cell? ⟨B, 5, none⟩ = some v5 ∧ W.cell? ⟨B, 6, none⟩ = some v6 ∧ W.cell? ⟨B, 7, none⟩ = some v7 ∧ W.cell? ⟨B, 8, none⟩ = some v8 ∧ Below w.heap.size w W ∧ B + 1 ≤ W.heap.size) :
    W'.cell? ⟨B, 0, none⟩ = some v0 ∧ W'.cell? ⟨B, 1, none⟩ = some v1 ∧ W'.cell? ⟨B, 2, none⟩ = some v2 ∧ W'.cell? ⟨B, 3, none⟩ = some v3 ∧ W'.cell? ⟨B, 4, none⟩ = some v4 ∧ W'.cell? ⟨B, 5, none⟩ = some v5 ∧ W'.cell? ⟨B, 6, none⟩ = some v6 ∧ W'.cell? ⟨B, 7, none⟩ = some v7 ∧ W'.cell? ⟨B, 8, none⟩ = some v8 ∧ Below w.heap.size w W' ∧ B + 1 ≤ W'.heap.size := by
  obtain ⟨h0, h1, h2, h3, h4, h5, h6, h7, h8, h9, h10⟩ := h
  have hs := hb.size
  have k : ∀ j v, W.cell? ⟨B, j, none⟩ = some v → W'.cell? ⟨B, j, none⟩ = some v := fun j v hv => (hb.cell (p := ⟨B, j, none⟩) (by show B < _; omega)).trans hv
  exact ⟨k _ _ h0, k _ _ h1, k _ _ h2, k _ _ h3, k _ _ h4, k _ _ h5, k _ _ h6, k _ _ h7, k _ _ h8, h9.trans (hb.mono h9.size), by omega⟩
theorem box_old {w W : World} {B : Nat} {v0 v1 v2 v3 v4 v5 v6 v7 v8 : Value}
    (h : W.cell? ⟨B, 0, none⟩ = some v0 ∧ W.cell? ⟨B, 1, none⟩ = some v1 ∧ W.cell? ⟨B, 2, none⟩ = some v2 ∧ W.cell? ⟨B, 3, none⟩ = some v3 ∧ W.cell? ⟨B, 4, none⟩ = some v4 ∧ W.cell? ⟨B, 5, none⟩ = some v5 ∧ W.cell? ⟨B, 6, none⟩ = some v6 ∧ W.cell? ⟨B, 7, none⟩ = some v7 ∧ W.cell? ⟨B, 8, none⟩ = some v8 ∧ Below w.heap.size w W ∧ B + 1 ≤ W.heap.size) : Below w.heap.size w W :=
  h.2.2.2.2.2.2.2.2.2.1
theorem box_start {w : World} (v0 v1 v2 v3 v4 v5 v6 v7 v8 : Value) (t : TypeId) :
    (w.alloc (.cells #[v0, v1, v2, v3, v4, v5, v6, v7, v8] t)).drew.cell? ⟨w.heap.size, 0, none⟩ = some v0 ∧ (w.alloc (.cells #[v0, v1, v2, v3, v4, v5, v6, v7, v8] t)).drew.cell? ⟨w.heap.size, 1, none⟩ = some v1 ∧ (w.alloc (.cells #[v0, v1, v2, v3, v4, v5, v6, v7, v8] t)).drew.cell? ⟨w.heap.size, 2, none⟩ = some v2 ∧
    (w.alloc (.cells #[v0, v1, v2, v3, v4, v5, v6, v7, v8] t)).drew.cell? ⟨w.heap.size, 3, none⟩ = some v3 ∧ (w.alloc (.cells #[v0, v1, v2, v3, v4, v5, v6, v7, v8] t)).drew.cell? ⟨w.heap.size, 4, none⟩ = some v4 ∧ (w.alloc (.cells #[v0, v1, v2, v3, v4, v5, v6, v7, v8] t)).drew.cell? ⟨w.heap.size, 5, none⟩ = some v5 ∧
    (w.alloc (.cells #[v0, v1, v2, v3, v4, v5, v6, v7, v8] t)).drew.cell? ⟨w.heap.size, 6, none⟩ = some v6 ∧ (w.alloc (.cells #[v0, v1, v2, v3, v4, v5, v6, v7, v8] t)).drew.cell? ⟨w.heap.size, 7, none⟩ = some v7 ∧ (w.alloc (.cells #[v0, v1, v2, v3, v4, v5, v6, v7, v8] t)).drew.cell? ⟨w.heap.size, 8, none⟩ = some v8 ∧
    Below w.heap.size w (w.alloc (.cells #[v0, v1, v2, v3, v4, v5, v6, v7, v8] t)).drew ∧ w.heap.size + 1 ≤ (w.alloc (.cells #[v0, v1, v2, v3, v4, v5, v6, v7, v8] t)).drew.heap.size :=
  ⟨by go_simp, by go_simp, by go_simp, by go_simp, by go_simp, by go_simp, by go_simp, by go_simp, by go_simp, by go_grown, by simp⟩
theorem box_set {w W : World} {B g j : Nat} {u v0 v1 v2 v3 v4 v5 v6 v7 v8 : Value} (hne : B < g) (hwg : w.heap.size ≤ g)
    (h : W.cell? ⟨B, 0, none⟩ = some v0 ∧ W.cell? ⟨B, 1, none⟩ = some v1 ∧ W.cell? ⟨B, 2, none⟩ = some v2 ∧ W.cell? ⟨B, 3, none⟩ = some v3 ∧ W.cell? ⟨B, 4, none⟩ = some v4 ∧ W.cell? ⟨B, 5, none⟩ = some v5 ∧ W.cell? ⟨B, 6, none⟩ = some v6 ∧ W.cell? ⟨B, 7, none⟩ = some v7 ∧ W.cell? ⟨B, 8, none⟩ = some v8 ∧ Below w.heap.size w W ∧ B + 1 ≤ W.heap.size) :
    (W.setCell ⟨g, j, none⟩ u).cell? ⟨B, 0, none⟩ = some v0 ∧ (W.setCell ⟨g, j, none⟩ u).cell? ⟨B, 1, none⟩ = some v1 ∧ (W.setCell ⟨g, j, none⟩ u).cell? ⟨B, 2, none⟩ = some v2 ∧ (W.setCell ⟨g, j, none⟩ u).cell? ⟨B, 3, none⟩ = some v3 ∧ (W.setCell ⟨g, j, none⟩ u).cell? ⟨B, 4, none⟩ = some v4 ∧ (W.setCell ⟨g, j, none⟩ u).cell? ⟨B, 5, none⟩ = some v5 ∧ (W.setCell ⟨g, j, none⟩ u).cell? ⟨B, 6, none⟩ = some v6 ∧ (W.setCell ⟨g, j, none⟩ u).cell? ⟨B, 7, none⟩ = some v7 ∧ (W.setCell ⟨g, j, none⟩ u).cell? ⟨B, 8, none⟩ = some v8 ∧ Below w.heap.size w (W.setCell ⟨g, j, none⟩ u) ∧ B + 1 ≤ (W.setCell ⟨g, j, none⟩ u).heap.size := by
  obtain ⟨h0, h1, h2, h3, h4, h5, h6, h7, h8, h9, h10⟩ := h
  have k : ∀ i v, W.cell? ⟨B, i, none⟩ = some v → (W.setCell ⟨g, j, none⟩ u).cell? ⟨B, i, none⟩ = some v := fun i v hv =>
    (((Below.refl (B + 1) W).setCell (p := ⟨g, j, none⟩) (by show B + 1 ≤ g; omega) u).cell (p := ⟨B, i, none⟩) (by show B < B + 1; omega)).trans hv
  exact ⟨k _ _ h0, k _ _ h1, k _ _ h2, k _ _ h3, k _ _ h4, k _ _ h5, k _ _ h6, k _ _ h7, k _ _ h8, h9.setCell (p := ⟨g, j, none⟩) hwg u, by simpa using h10⟩
set_option maxRecDepth 100000 in
set_option maxHeartbeats 1000000 in
theorem toConfig_any (c : Cfg) (w : World) :
    Calls Try.prog 7 #[.agg (cfgV c)] w fun e w' => e = .returned (.agg (cfgV c)) ∧ Below w.heap.size w w' := by
  obtain ⟨m, t, p, d, fr, fd, fl, fe, fm⟩ := c
  unfold cfgV
  go_enter Try.func7, Try.ntmps7
  go_wp2
  exact bodyPost_ret (v := .agg #[.int .i64 m, .int .i64 t, .int .i64 p, .int .i64 d, .bool fr, .bool fd, .bool fl, .bool fe, .bool fm]) (by simp [results, Try.results7, go_sem]) rfl ⟨rfl, by go_grown⟩
set_option maxRecDepth 100000 in
set_option maxHeartbeats 1000000 in
theorem eqConfig_same (c : Cfg) (w : World) :
    Calls Try.prog 25 #[.agg (cfgV c), .agg (cfgV c)] w fun e w' => e = .returned (.bool true) ∧ Below w.heap.size w w' := by
  obtain ⟨m, t, p, d, fr, fd, fl, fe, fm⟩ := c
  unfold cfgV
  go_enter Try.func25, Try.ntmps25
  go_wp2
  go_ret
  exact ⟨rfl, by go_grown⟩
end Go.Proofs.Ytooanejiadbngaa
