/- Sessions: values, the law's own helpers, '==' of two sessions. -/
import Derived.Test.YtooanejiadbngaaGreatDoorSink
import Derived.Test.YtooanejiadbngaaGreatDoorWr
import Derived.Test.YtooanejiadbngaaGreatDoorEqWr
import Derived.Test.YtooanejiadbngaaGreatDoorPart
import Derived.Laws.CopyOwn
namespace Go.Proofs.YtooanejiadbngaaGreatDoor
open Go.RowKit
set_option linter.unusedVariables false

/-- A session's value. -/
def sesV (c : Cfg) (h : ByteArray) (k : Snk) : Array Value := #[.int .i64 c.cmin, .int .i64 c.ctab, .int .i64 c.cpadding, .int .i64 c.cpad, .bool c.fr, .bool c.fd, .bool c.fl, .bool c.fe, .bool c.fm, .string h, .int .i64 k.room, .string k.taken, .bool k.dead]
theorem one_ses (m t p d : Int) (fr fd fl fe fm : Bool) (h : ByteArray) (r : Int) (tk : ByteArray) (dd : Bool) : (#[.int .i64 m, .int .i64 t, .int .i64 p, .int .i64 d, .bool fr, .bool fd, .bool fl, .bool fe, .bool fm, .string h, .int .i64 r, .string tk, .bool dd] : Array Value).all (·.oneCell') = true := by simp [Value.oneCell']
theorem one_snk (r : Int) (tk : ByteArray) (dd : Bool) : (#[.int .i64 r, .string tk, .bool dd] : Array Value).all (·.oneCell') = true := by simp [Value.oneCell']
theorem one_cfgE (m t p d : Int) (fr fd fl fe fm : Bool) : (#[.int .i64 m, .int .i64 t, .int .i64 p, .int .i64 d, .bool fr, .bool fd, .bool fl, .bool fe, .bool fm] : Array Value).all (·.oneCell') = true := by simp [Value.oneCell']
theorem Blk.thirteen {W : World} {g : Nat} {T : TypeId} {m t p d : Int} {fr fd fl fe fm : Bool} {h : ByteArray} {r : Int} {tk : ByteArray} {dd : Bool} (hb : Blk W g T #[.int .i64 m, .int .i64 t, .int .i64 p, .int .i64 d, .bool fr, .bool fd, .bool fl, .bool fe, .bool fm, .string h, .int .i64 r, .string tk, .bool dd]) :
    W.cell? ⟨g, 0, none⟩ = some (.int .i64 m) ∧ W.cell? ⟨g, 1, none⟩ = some (.int .i64 t) ∧ W.cell? ⟨g, 2, none⟩ = some (.int .i64 p) ∧ W.cell? ⟨g, 3, none⟩ = some (.int .i64 d) ∧ W.cell? ⟨g, 4, none⟩ = some (.bool fr) ∧ W.cell? ⟨g, 5, none⟩ = some (.bool fd) ∧ W.cell? ⟨g, 6, none⟩ = some (.bool fl) ∧ W.cell? ⟨g, 7, none⟩ = some (.bool fe) ∧ W.cell? ⟨g, 8, none⟩ = some (.bool fm) ∧ W.cell? ⟨g, 9, none⟩ = some (.string h) ∧ W.cell? ⟨g, 10, none⟩ = some (.int .i64 r) ∧ W.cell? ⟨g, 11, none⟩ = some (.string tk) ∧ W.cell? ⟨g, 12, none⟩ = some (.bool dd) :=
  ⟨hb.cell 0, hb.cell 1, hb.cell 2, hb.cell 3, hb.cell 4, hb.cell 5, hb.cell 6, hb.cell 7, hb.cell 8, hb.cell 9, hb.cell 10, hb.cell 11, hb.cell 12⟩
/-- A block below another whose row is laid anew stands. -/
theorem Blk.belowRow {W : World} {g q : Nat} {T : TypeId} {cs ds : Array Value} (h : Blk W g T cs) (hq : g < q) : Blk (W.setRow q ds) g T cs := h.below (below_setRow (Below.refl _ _) (Nat.le_refl _) ds) hq
theorem Blk.belowSet {W : World} {g q j : Nat} {u : Value} {T : TypeId} {cs : Array Value} (h : Blk W g T cs) (hq : g < q) : Blk (W.setCell ⟨q, j, none⟩ u) g T cs := h.other (by omega)
theorem stood_snk : Tryz.prog.stoodInHeld 35 = false := by kernel_rfl
theorem struct_snk : Tryz.prog.underlying 35 = some (.struct (Tryz.prog.fieldsOf 35)) := by
  rw [fields_of Tryz.underlying35]
  exact Tryz.underlying35
set_option maxRecDepth 100000 in
set_option maxHeartbeats 1000000 in
theorem eqSnkD (e : Nat) (a b : Snk) (w : World) : (Op.equalIn (e + 3) 35 (.agg (snkV a)) (.agg (snkV b))).run Tryz.prog w = .ok (decide (a.room = b.room ∧ a.taken = b.taken ∧ a.dead = b.dead)) w := by
  have hi : ∀ (x y : Int), (Op.equalIn (e + 2) 3 (.int .i64 x) (.int .i64 y)).run Tryz.prog w = .ok (x == y) w := fun x y => run_equalIn_int w (e + 1) 3 .i64 .i64 x y Tryz.underlying3
  have hb : ∀ (x y : Bool), (Op.equalIn (e + 2) 4 (.bool x) (.bool y)).run Tryz.prog w = .ok (x == y) w := fun x y => run_equalIn_bool' w (e + 1) 4 x y Tryz.underlying4
  have hs : ∀ (x y : ByteArray), (Op.equalIn (e + 2) 9 (.string x) (.string y)).run Tryz.prog w = .ok (decide (x = y)) w := by
    intro x y
    rw [← list_beq]
    exact run_equalIn_string w (e + 1) 9 x y Tryz.underlying9
  rw [show (e + 3 : Nat) = (e + 2) + 1 from rfl, run_equalIn_struct w (e + 2) 35 _ _ struct_snk stood_snk, fields_of Tryz.underlying35]
  obtain ⟨a0, a1, a2⟩ := a
  obtain ⟨b0, b1, b2⟩ := b
  unfold snkV
  rw [eqFields_step (a := .int .i64 a0) (b := .int .i64 b0) (r := a0 == b0) (by decide) (by kernel_rfl) (by kernel_rfl) (hi a0 b0),
    eqFields_step (a := .string a1) (b := .string b1) (r := decide (a1 = b1)) (by decide) (by kernel_rfl) (by kernel_rfl) (hs a1 b1),
    eqFields_step (a := .bool a2) (b := .bool b2) (r := a2 == b2) (by decide) (by kernel_rfl) (by kernel_rfl) (hb a2 b2)]
  rw [Op.eqFields]
  by_cases h0 : a0 = b0
  case neg => simp [h0]
  by_cases h1 : a1 = b1
  case neg => simp [h0, h1]
  by_cases h2 : a2 = b2
  case neg => simp [h0, h1, h2]
  simp [h0, h1, h2]
theorem stood_ses : Tryz.prog.stoodInHeld 37 = false := by kernel_rfl
theorem struct_ses : Tryz.prog.underlying 37 = some (.struct (Tryz.prog.fieldsOf 37)) := by
  rw [fields_of Tryz.underlying37]
  exact Tryz.underlying37
/-- Whether two sessions are equal. -/
def sameS (c : Cfg) (h : ByteArray) (k : Snk) (c' : Cfg) (h' : ByteArray) (k' : Snk) : Bool := decide ((c = c' ∧ h = h') ∧ k.room = k'.room ∧ k.taken = k'.taken ∧ k.dead = k'.dead)
set_option maxRecDepth 100000 in
set_option maxHeartbeats 1000000 in
theorem eqSes (c : Cfg) (h : ByteArray) (k : Snk) (c' : Cfg) (h' : ByteArray) (k' : Snk) (w : World) : (Op.equalIn 10000 37 (.agg (sesV c h k)) (.agg (sesV c' h' k'))).run Tryz.prog w = .ok (sameS c h k c' h' k') w := by
  have hw := eqWrD 9996 c c' h h' w
  have hk := eqSnkD 9996 k k' w
  rw [show (10000 : Nat) = 9999 + 1 from rfl, run_equalIn_struct w 9999 37 _ _ struct_ses stood_ses, fields_of Tryz.underlying37]
  rw [eqFields_step (a := .agg (wrV c h)) (b := .agg (wrV c' h')) (r := decide (c = c' ∧ h = h')) (by decide) (by kernel_rfl) (by kernel_rfl) hw,
    eqFields_step (a := .agg (snkV k)) (b := .agg (snkV k')) (r := decide (k.room = k'.room ∧ k.taken = k'.taken ∧ k.dead = k'.dead)) (by decide) (by kernel_rfl) (by kernel_rfl) hk]
  rw [Op.eqFields]
  unfold sameS
  by_cases h0 : c = c' ∧ h = h' <;> by_cases h1 : k.room = k'.room ∧ k.taken = k'.taken ∧ k.dead = k'.dead <;> simp [h0, h1]
set_option maxRecDepth 100000 in
set_option maxHeartbeats 2000000 in
theorem implSameSession (c : Cfg) (h : ByteArray) (k : Snk) (c' : Cfg) (h' : ByteArray) (k' : Snk) (w : World) :
    Calls Tryz.prog 12 #[.agg (sesV c h k), .agg (sesV c' h' k')] w fun e w' => e = .returned (.bool (sameS c h k c' h' k')) ∧ Below w.heap.size w w' := by
  have heq := fun W => eqSes c h k c' h' k' W
  generalize sameS c h k c' h' k' = q at heq ⊢
  obtain ⟨m, t, p, d, fr, fd, fl, fe, fm⟩ := c
  obtain ⟨r, tk, dd⟩ := k
  obtain ⟨m2, t2, p2, d2, fr2, fd2, fl2, fe2, fm2⟩ := c'
  obtain ⟨r2, tk2, dd2⟩ := k'
  unfold sesV at heq ⊢
  simp only at heq ⊢
  go_enter Tryz.func12, Tryz.ntmps12
  go_wp2
  go_ret
  exact ⟨rfl, by go_grown⟩
end Go.Proofs.YtooanejiadbngaaGreatDoor
