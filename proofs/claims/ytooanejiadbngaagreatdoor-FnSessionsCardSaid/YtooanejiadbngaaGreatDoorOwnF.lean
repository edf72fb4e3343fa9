/- A table of integers that a call owns: n rows, a function of the row's number. -/
import Derived.Test.YtooanejiadbngaaGreatDoorBA
import Derived.Test.YtooanejiadbngaaGreatDoorBB
namespace Go.Proofs.YtooanejiadbngaaGreatDoor
open Go.RowKit
set_option linter.unusedVariables false

/-- A table of n rows that the call owns: the blocks of the rows and of the table lie below 'top', and no two rows share one. -/
def OwnF (W : World) (base top : Nat) (v : Value) (n : Nat) (f : Nat → List Int) : Prop :=
  ∃ vs : List Value, W.ownsRow base 38 1 v n vs ∧ (∀ k, v.ownBlock = some k → k < top) ∧ (∀ (i : Nat) (u : Value), vs[i]? = some u → W.ownsRow base 3 1 u (f i).length (ints (f i)) ∧ ∀ k, u.ownBlock = some k → k < top) ∧ Distinct vs
theorem OwnF.same {W : World} {base top : Nat} {v : Value} {n : Nat} {f f' : Nat → List Int} (h : OwnF W base top v n f) (he : ∀ i, i < n → f' i = f i) : OwnF W base top v n f' := by
  obtain ⟨vs, h1, h2, h3, h4⟩ := h
  refine ⟨vs, h1, h2, fun i u hu => ?_, h4⟩
  have hl : vs.length = n := own_len h1
  have hi : i < n := by rw [← hl]; exact (List.getElem?_eq_some_iff.1 hu).1
  rw [he i hi]
  exact h3 i u hu
theorem OwnF.keeps {W W' : World} {base top : Nat} {v : Value} {n : Nat} {f : Nat → List Int} (h : OwnF W base top v n f) (h1 : Keeps W W' 38) (h2 : Keeps W W' 3) : OwnF W' base top v n f := by
  obtain ⟨vs, a, b, c, d⟩ := h
  exact ⟨vs, own_keeps a h1, b, fun i u hu => ⟨own_keeps (c i u hu).1 h2, (c i u hu).2⟩, d⟩
theorem own_top {W W' : World} {base top : Nat} {e : TypeId} {size : Nat} {v : Value} {n : Nat} {xs : List Value} (h : W.ownsRow base e size v n xs) (ht : ∀ k, v.ownBlock = some k → k < top) (hb : Below top W W') : W'.ownsRow base e size v n xs :=
  ⟨h.1, h.2.imp id fun ⟨g, cap, cur, h1, h2, h3, h4⟩ => ⟨g, cap, cur, h1, h2, (hb.block g (ht g (by rw [h1]; rfl))).trans h3, h4⟩⟩
theorem OwnF.below {W W' : World} {base top : Nat} {v : Value} {n : Nat} {f : Nat → List Int} (h : OwnF W base top v n f) (hb : Below top W W') : OwnF W' base top v n f := by
  obtain ⟨vs, a, b, c, d⟩ := h
  exact ⟨vs, own_top a b hb, b, fun i u hu => ⟨own_top (c i u hu).1 (c i u hu).2 hb, (c i u hu).2⟩, d⟩
theorem OwnF.len {W : World} {base top : Nat} {v : Value} {n : Nat} {f : Nat → List Int} (h : OwnF W base top v n f) : ∃ A c, v = .slice A n c := by
  obtain ⟨vs, a, _⟩ := h
  rcases a.2 with ⟨rfl, rfl⟩ | ⟨g, cap, cur, rfl, _⟩
  · exact ⟨none, 0, rfl⟩
  · exact ⟨_, cap, rfl⟩
theorem ints_zero (z : Nat) : (madeCells (Value.int .i64 0).cells (z * 1)).toList = ints (List.replicate z 0) := by
  rw [Nat.mul_one, show (Value.int .i64 0).cells = #[Value.int .i64 0] from rfl, toList_madeCells_one]
  simp [ints]
theorem row_one (A : Option Addr) (n c : Nat) : ∀ u ∈ (#[Value.slice A n c] : Array Value).toList, u.oneCell' = true := by
  intro u hu
  simp at hu
  subst hu
  rfl
theorem OwnF.retop {W : World} {base top : Nat} {v : Value} {n : Nat} {f : Nat → List Int} (h : OwnF W base top v n f) : OwnF W base W.heap.size v n f := by
  obtain ⟨vs, a, b, c, d⟩ := h
  exact ⟨vs, a, fun k hk => (World.ownsRow.lt a k hk).2, fun i u hu => ⟨(c i u hu).1, fun k hk => (World.ownsRow.lt (c i u hu).1 k hk).2⟩, d⟩
theorem OwnF.rebase {W : World} {base base' top : Nat} {v : Value} {n : Nat} {f : Nat → List Int} (h : OwnF W base top v n f) (hb : base' ≤ base) : OwnF W base' top v n f := by
  obtain ⟨vs, a, b, c, d⟩ := h
  exact ⟨vs, own_base a hb, b, fun i u hu => ⟨own_base (c i u hu).1 hb, (c i u hu).2⟩, d⟩
/-- One row more. -/
theorem OwnF.snoc {W0 W W' : World} {base : Nat} {vs : List Value} {v v' u : Value} {n : Nat} {f : Nat → List Int} (h1 : W0.ownsRow base 38 1 v n vs)
    (h3 : ∀ (i : Nat) (x : Value), vs[i]? = some x → W0.ownsRow base 3 1 x (f i).length (ints (f i))) (h4 : Distinct vs) (hb : Below W0.heap.size W0 W) (hbase : base ≤ W0.heap.size)
    (hu : W.ownsRow W0.heap.size 3 1 u (f n).length (ints (f n))) (ho : W'.ownsRow base 38 1 v' (n + 1) (vs ++ [u])) (hg : W.grownBy W' v.ownBlock) : OwnF W' base W'.heap.size v' (n + 1) f := by
  have hvl : vs.length = n := own_len h1
  have hK : Keeps W W' 3 := Keeps.grown (own_below h1 hb) (by decide) hg
  have hrow : ∀ (i : Nat) (x : Value), (vs ++ [u])[i]? = some x → W'.ownsRow base 3 1 x (f i).length (ints (f i)) := by
    intro i x hx
    rcases Nat.lt_or_ge i n with hi | hi
    · rw [List.getElem?_append_left (by omega)] at hx
      exact own_keeps (own_below (h3 i x hx) hb) hK
    · rw [List.getElem?_append_right (by omega)] at hx
      have hi0 : i - vs.length = 0 := by
        have := (List.getElem?_eq_some_iff.1 hx).1
        simp at this
        omega
      rw [hi0] at hx
      simp at hx
      subst hx
      obtain rfl : i = n := by omega
      exact own_base (own_keeps hu hK) hbase
  refine ⟨vs ++ [u], ho, fun k hk => (World.ownsRow.lt ho k hk).2, fun i x hx => ⟨hrow i x hx, fun k hk => (World.ownsRow.lt (hrow i x hx) k hk).2⟩, h4.snoc fun j x hx => ?_⟩
  cases hxb : x.ownBlock with
  | none => exact .inl rfl
  | some k =>
    refine .inr fun he => ?_
    have e1 := (World.ownsRow.lt (h3 j x hx) k hxb).2
    have e2 := (World.ownsRow.lt hu k he.symm).1
    omega
theorem OwnF.nil (W : World) (base top : Nat) (v : Value) (f : Nat → List Int) (h : W.ownsRow base 38 1 v 0 []) (ht : ∀ k, v.ownBlock = some k → k < top) : OwnF W base top v 0 f := ⟨[], h, ht, fun i u hu => by simp at hu, Distinct.nil⟩
/-- Row i and its column j: where they lie, and what a store into it leaves. -/
theorem OwnF.at {W : World} {base top : Nat} {v : Value} {n : Nat} {f : Nat → List Int} (h : OwnF W base top v n f) (i j : Nat) (hi : i < n) (hj : j < (f i).length) :
    ∃ go co g rc x, v = .slice (some ⟨go, 0, none⟩) n co ∧ W.cell? ⟨go, i, none⟩ = some (.slice (some ⟨g, 0, none⟩) (f i).length rc) ∧ W.cell? ⟨g, j, none⟩ = some x ∧ W.frozen? ⟨g, j, none⟩ = false ∧ g < W.heap.size ∧ base ≤ g ∧
      ∀ y : Int, OwnF (W.setCell ⟨g, j, none⟩ (.int .i64 y)) base W.heap.size v n (fun k => if k = i then (f i).set j y else f k) ∧ ∀ e, 3 ≠ e → Keeps W (W.setCell ⟨g, j, none⟩ (.int .i64 y)) e := by
  obtain ⟨vs, a, b, c, d⟩ := h
  have hvl : vs.length = n := own_len a
  obtain ⟨u, hu⟩ : ∃ u, vs[i]? = some u := ⟨_, List.getElem?_eq_getElem (by omega)⟩
  obtain ⟨hr, _⟩ := c i u hu
  rcases a.2 with ⟨_, hn⟩ | ⟨go, co, cur, rfl, _⟩
  · omega
  rcases hr.2 with ⟨_, hn⟩ | ⟨g, rc, cur2, rfl, hbg, hh, _⟩
  · omega
  have hil : j < (ints (f i)).length := by rw [ints_length]; exact hj
  refine ⟨go, co, g, rc, _, rfl, (a.cellAt i (by omega)).trans hu, (hr.cellAt j (by omega)).trans (List.getElem?_eq_getElem hil), hr.frozenAt j, (Array.getElem?_eq_some_iff.1 hh).1, hbg, fun y => ?_⟩
  obtain ⟨hs1, hs2⟩ := hr.stored j (.int .i64 y)
  have hset : (ints (f i)).set j (.int .i64 y) = ints ((f i).set j y) := by simp [ints, List.map_set]
  have hK : ∀ e, 3 ≠ e → Keeps W (W.setCell ⟨g, j, none⟩ (.int .i64 y)) e := fun e he => Keeps.grown hr he hs2
  have hrow : ∀ (k : Nat) (x : Value), vs[k]? = some x → (W.setCell ⟨g, j, none⟩ (.int .i64 y)).ownsRow base 3 1 x ((if k = i then (f i).set j y else f k)).length (ints (if k = i then (f i).set j y else f k)) := by
    intro k x hx
    by_cases hki : k = i
    · subst hki
      have hxu := hu.symm.trans hx
      injection hxu with hxu
      subst hxu
      rw [if_pos rfl, List.length_set, ← hset]
      exact hs1
    · rw [if_neg hki]
      exact (c k x hx).1.kept hs2 (d k i x _ hki hx hu)
  exact ⟨⟨vs, own_keeps a (hK _ (by decide)), fun k hk => (World.ownsRow.lt a k hk).2, fun k x hx => ⟨hrow k x hx, fun q hq => (World.ownsRow.lt (c k x hx).1 q hq).2⟩, d⟩, hK⟩
theorem OwnF.get {W : World} {base top : Nat} {v : Value} {n : Nat} {f : Nat → List Int} (h : OwnF W base top v n f) (i j : Nat) (y : Int) (hi : i < n) (hj : (f i)[j]? = some y) :
    ∃ go co g rc, v = .slice (some ⟨go, 0, none⟩) n co ∧ W.cell? ⟨go, i, none⟩ = some (.slice (some ⟨g, 0, none⟩) (f i).length rc) ∧ W.cell? ⟨g, j, none⟩ = some (.int .i64 y) ∧ go < W.heap.size ∧ g < W.heap.size := by
  obtain ⟨vs, a, b, c, d⟩ := h
  have hvl : vs.length = n := own_len a
  have hjl : j < (f i).length := (List.getElem?_eq_some_iff.1 hj).1
  obtain ⟨u, hu⟩ : ∃ u, vs[i]? = some u := ⟨_, List.getElem?_eq_getElem (by omega)⟩
  obtain ⟨hr, _⟩ := c i u hu
  have ha := a
  rcases a.2 with ⟨_, hn⟩ | ⟨go, co, cur, rfl, _, hh0, _⟩
  · omega
  rcases hr.2 with ⟨_, hn⟩ | ⟨g, rc, cur2, rfl, hbg, hh, _⟩
  · omega
  refine ⟨go, co, g, rc, rfl, (ha.cellAt i (by omega)).trans hu, (hr.cellAt j (by omega)).trans ?_, (Array.getElem?_eq_some_iff.1 hh0).1, (Array.getElem?_eq_some_iff.1 hh).1⟩
  have e : (ints (f i))[j]? = ((f i)[j]?).map (Value.int .i64) := List.getElem?_map
  rw [e, hj]
  rfl
end Go.Proofs.YtooanejiadbngaaGreatDoor
