/- SplitText: the model's, behind its test of the configuration. -/
import Derived.Test.YtdihoofhbkafoaaDoorSpecSplitW
import Derived.Test.YtdihoofhbkafoaaDoorBB
namespace Go.Proofs.YtdihoofhbkafoaaDoor
open Go.RowKit
set_option linter.unusedVariables false

theorem OwnL.base {W : World} {base base' : Nat} {K : Option Nat} {v : Value} {ls : List Ln} (h : OwnL W base K v ls) (hb : base' ≤ base) : OwnL W base' K v ls := by
  obtain ⟨vs, h1, h2, h3⟩ := h
  refine ⟨vs, h1, own_base h2 hb, fun j u l hu hl => ⟨?_, (h3.1 j u l hu hl).2⟩, h3.2⟩
  have h4 : W.ownsRow base 46 2 u l.cells.length (celVals l.cells) := (h3.1 j u l hu hl).1
  exact own_base h4 hb
set_option maxRecDepth 100000 in
set_option maxHeartbeats 1000000 in
theorem specSplitText (c : Cfg) (s : ByteArray) (w : World) (hs : s.size ≤ 1048576) :
    Calls Tryd.prog 43 #[.agg (cfgV c), .string s] w fun e w' => ∃ v, e = .returned v ∧ OwnL w' w.heap.size none v (splitL c s) ∧ Below w.heap.size w w' := by
  have hS := fun W => specIsConfig c W
  cases hv : validC c with
  | false =>
    rw [splitL_no s hv]
    rw [hv] at hS
    have HS := Lib.hid hS
    clear hS hv
    obtain ⟨m, t, p, d, fr, fd, fl, fe, fm⟩ := c
    unfold cfgV at HS ⊢
    simp only at HS ⊢
    go_enter Tryd.func43, Tryd.ntmps43
    go_wp2_with fail
    refine (HS.out _).mono ?_
    rintro e w1 ⟨rfl, hb1⟩
    have B1 := Lib.hid ((by go_grown : Below w.heap.size w (w.alloc _)).trans (hb1.mono (by simp)))
    clear hb1
    go_wp2_with fail
    go_ret
    exact ⟨_, rfl, OwnL.nilAt _ _ _ _ (World.ownsRow_nil _ _ _ _), B1.out⟩
  | true =>
    rw [splitL_yes s hv]
    rw [hv] at hS
    have HS := Lib.hid hS
    have HR := Lib.hid (fun W => specSplit c s W hs)
    clear hS hv
    generalize linesOf c.fe (fun b => (celW c.fm b 0 : Int)) s.data.toList = L at HR ⊢
    obtain ⟨m, t, p, d, fr, fd, fl, fe, fm⟩ := c
    unfold cfgV at HS HR ⊢
    simp only at HS HR ⊢
    go_enter Tryd.func43, Tryd.ntmps43
    go_wp2_with fail
    refine (HS.out _).mono ?_
    rintro e w1 ⟨rfl, hb1⟩
    have hbx := (Boxed.new w 24 m t p d fr fd fl fe fm).below hb1 (by simp)
    have B1 := Lib.hid ((by go_grown : Below w.heap.size w (w.alloc _)).trans (hb1.mono (by simp)))
    clear hb1
    obtain ⟨c0, c1, c2, c3, c4, c5, c6, c7, c8⟩ := hbx
    go_wp2_with fail
    refine (HR.out _).mono ?_
    rintro e w2 ⟨v, rfl, ho2, hb2⟩
    have HO := Lib.hid (ho2.base B1.out.size)
    have B2 := Lib.hid (B1.out.trans (hb2.mono B1.out.size))
    clear hb2 ho2
    go_wp2_with fail
    go_ret
    exact ⟨_, rfl, HO.out, B2.out⟩
end Go.Proofs.YtdihoofhbkafoaaDoor
