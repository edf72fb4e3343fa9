/- Operations of a session in memory. No walk. -/
import Derived.Test.YtooanejiadbngaaGreatDoorOpnL
import Derived.Test.YtooanejiadbngaaGreatDoorBA
namespace Go.Proofs.YtooanejiadbngaaGreatDoor
open Go.RowKit
set_option linter.unusedVariables false

theorem flat_get {α β : Type} (f : α → List β) (n : Nat) (hn : ∀ a, (f a).length = n) (l : List α) (j i : Nat) (a : α) (h : l[j]? = some a) (hi : i < n) : (l.flatMap f)[j * n + i]? = (f a)[i]? := by
  induction l generalizing j with
  | nil => simp at h
  | cons d r ih =>
    rw [List.flatMap_cons]
    cases j with
    | zero =>
      simp at h
      subst h
      rw [Nat.zero_mul, Nat.zero_add, List.getElem?_append_left (by rw [hn]; exact hi)]
    | succ j =>
      rw [List.getElem?_append_right (by rw [hn, Nat.succ_mul]; omega), hn, show (j + 1) * n + i - n = j * n + i by rw [Nat.succ_mul]; omega]
      exact ih j (by simpa using h)
theorem flat_len {α β : Type} (f : α → List β) (n : Nat) (hn : ∀ a, (f a).length = n) (l : List α) : (l.flatMap f).length = l.length * n := by
  induction l with
  | nil => simp
  | cons d r ih => rw [List.flatMap_cons, List.length_append, ih, hn, List.length_cons, Nat.succ_mul]; omega
/-- An operation's value. -/
def opnV (o : Opn) : Array Value := #[.int .i64 o.kind, .int .i64 o.c.cmin, .int .i64 o.c.ctab, .int .i64 o.c.cpadding, .int .i64 o.c.cpad, .bool o.c.fr, .bool o.c.fd, .bool o.c.fl, .bool o.c.fe, .bool o.c.fm, .string o.txt]
def opnVals (l : List Opn) : List Value := l.flatMap fun o => (opnV o).toList
theorem opnVals_snoc (l : List Opn) (o : Opn) : opnVals (l ++ [o]) = opnVals l ++ (opnV o).toList := by simp [opnVals]
theorem opnVals_get (l : List Opn) (j i : Nat) (o : Opn) (h : l[j]? = some o) (hi : i < 11) : (opnVals l)[j * 11 + i]? = (opnV o)[i]? := by
  unfold opnVals
  rw [flat_get (fun o => (opnV o).toList) 11 (fun _ => rfl) l j i o h hi, Array.getElem?_toList]
theorem opnVals_len (l : List Opn) : (opnVals l).length = l.length * 11 := flat_len _ 11 (fun _ => rfl) l
def OpAt (w : World) (g o : Nat) (x : Opn) : Prop := ∀ i u, (opnV x)[i]? = some u → w.cell? ⟨g, o + i, none⟩ = some u
theorem OpAt.cells {w : World} {g o : Nat} {x : Opn} (h : OpAt w g o x) : w.cell? ⟨g, o, none⟩ = some (.int .i64 x.kind) ∧ w.cell? ⟨g, o + 1, none⟩ = some (.int .i64 x.c.cmin) ∧ w.cell? ⟨g, o + 2, none⟩ = some (.int .i64 x.c.ctab) ∧ w.cell? ⟨g, o + 3, none⟩ = some (.int .i64 x.c.cpadding) ∧ w.cell? ⟨g, o + 4, none⟩ = some (.int .i64 x.c.cpad) ∧ w.cell? ⟨g, o + 5, none⟩ = some (.bool x.c.fr) ∧ w.cell? ⟨g, o + 6, none⟩ = some (.bool x.c.fd) ∧ w.cell? ⟨g, o + 7, none⟩ = some (.bool x.c.fl) ∧ w.cell? ⟨g, o + 8, none⟩ = some (.bool x.c.fe) ∧ w.cell? ⟨g, o + 9, none⟩ = some (.bool x.c.fm) ∧ w.cell? ⟨g, o + 10, none⟩ = some (.string x.txt) :=
  ⟨h 0 _ rfl, h 1 _ rfl, h 2 _ rfl, h 3 _ rfl, h 4 _ rfl, h 5 _ rfl, h 6 _ rfl, h 7 _ rfl, h 8 _ rfl, h 9 _ rfl, h 10 _ rfl⟩
theorem OpAt.keep {w w' : World} {g o : Nat} {x : Opn} (h : OpAt w g o x) (hk : ∀ p : Addr, p.block < w.heap.size → w'.cell? p = w.cell? p) (hg : g < w.heap.size) : OpAt w' g o x := fun i u hu => (hk ⟨g, o + i, none⟩ hg).trans (h i u hu)
/-- The slice value v reads as the operations l. -/
def RdO (w : World) (v : Value) (l : List Opn) : Prop :=
  ∃ (A : Option Addr) (cap : Nat), v = .slice A l.length cap ∧ (0 < l.length → ∃ g o, A = some ⟨g, o, none⟩ ∧ g < w.heap.size ∧ ∀ j x, l[j]? = some x → OpAt w g (o + j * 11) x)
theorem RdO.below {w w' : World} {v : Value} {l : List Opn} (h : RdO w v l) (hb : Below w.heap.size w w') : RdO w' v l := by
  obtain ⟨A, c, hv, hc⟩ := h
  refine ⟨A, c, hv, fun h0 => ?_⟩
  obtain ⟨g, o, hA, hg, hcell⟩ := hc h0
  exact ⟨g, o, hA, by have := hb.size; omega, fun j x hx => (hcell j x hx).keep (fun p hp => hb.cell hp) hg⟩
def OwnO (W : World) (base : Nat) (v : Value) (l : List Opn) : Prop := W.ownsRow base 51 11 v l.length (opnVals l)
theorem OwnO.rd {W : World} {base : Nat} {v : Value} {l : List Opn} (h : OwnO W base v l) : RdO W v l := by
  have h0 : W.ownsRow base 51 11 v l.length (opnVals l) := h
  rcases h0.2 with ⟨rfl, hn⟩ | ⟨g, cap, cur, rfl, hb, hg, _⟩
  · refine ⟨none, 0, by rw [hn], fun h1 => ?_⟩
    omega
  · refine ⟨_, cap, rfl, fun _ => ⟨g, 0, rfl, (Array.getElem?_eq_some_iff.1 hg).1, fun j x hj i u hu => ?_⟩⟩
    have hjl : j < l.length := (List.getElem?_eq_some_iff.1 hj).1
    have hil : i < 11 := by
      have : i < (opnV x).size := (Array.getElem?_eq_some_iff.1 hu).1
      exact this
    rw [show 0 + j * 11 + i = j * 11 + i by omega, World.ownsRow.cellAt h0 _ (by omega), opnVals_get l j i x hj hil]
    exact hu
theorem OwnO.below {W W' : World} {base : Nat} {v : Value} {l : List Opn} (h : OwnO W base v l) (hb : Below W.heap.size W W') : OwnO W' base v l := own_below h hb
theorem Tryz.infoOp : (Tryz.prog.info? 51).map (fun i => (i.zero, i.size, i.bytes)) = some (some (.agg #[.int .i64 0, .int .i64 0, .int .i64 0, .int .i64 0, .int .i64 0, .bool false, .bool false, .bool false, .bool false, .bool false, .string ByteArray.empty]), 11, 64) := by kernel_rfl
end Go.Proofs.YtooanejiadbngaaGreatDoor
