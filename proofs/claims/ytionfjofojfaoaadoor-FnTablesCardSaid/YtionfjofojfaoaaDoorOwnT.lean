/- A table of texts that a call owns: n rows, a function of the row's number. -/
import Derived.Test.YtionfjofojfaoaaDoorMem
import Derived.Test.YtionfjofojfaoaaDoorGrow
namespace Go.Proofs.YtionfjofojfaoaaDoor
open Go.RowKit
set_option linter.unusedVariables false

/-- A table of n rows that the call owns: the blocks of the rows and of the table lie below 'top', and no two rows share one. -/
def OwnT (W : World) (base top : Nat) (v : Value) (n : Nat) (f : Nat → List ByteArray) : Prop :=
  ∃ vs : List Value, W.ownsRow base 23 1 v n vs ∧ (∀ k, v.ownBlock = some k → k < top) ∧ (∀ (i : Nat) (u : Value), vs[i]? = some u → W.ownsRow base 9 1 u (f i).length (strs (f i)) ∧ ∀ k, u.ownBlock = some k → k < top) ∧ Distinct vs
theorem OwnT.same {W : World} {base top : Nat} {v : Value} {n : Nat} {f f' : Nat → List ByteArray} (h : OwnT W base top v n f) (he : ∀ i, i < n → f' i = f i) : OwnT W base top v n f' := by
  obtain ⟨vs, h1, h2, h3, h4⟩ := h
  refine ⟨vs, h1, h2, fun i u hu => ?_, h4⟩
  have hl : vs.length = n := own_len h1
  have hi : i < n := by rw [← hl]; exact (List.getElem?_eq_some_iff.1 hu).1
  rw [he i hi]
  exact h3 i u hu
theorem OwnT.keeps {W W' : World} {base top : Nat} {v : Value} {n : Nat} {f : Nat → List ByteArray} (h : OwnT W base top v n f) (h1 : Keeps W W' 23) (h2 : Keeps W W' 9) : OwnT W' base top v n f := by
  obtain ⟨vs, a, b, c, d⟩ := h
  exact ⟨vs, own_keeps a h1, b, fun i u hu => ⟨own_keeps (c i u hu).1 h2, (c i u hu).2⟩, d⟩
theorem own_topT {W W' : World} {base top : Nat} {e : TypeId} {size : Nat} {v : Value} {n : Nat} {xs : List Value} (h : W.ownsRow base e size v n xs) (ht : ∀ k, v.ownBlock = some k → k < top) (hb : Below top W W') : W'.ownsRow base e size v n xs :=
  ⟨h.1, h.2.imp id fun ⟨g, cap, cur, h1, h2, h3, h4⟩ => ⟨g, cap, cur, h1, h2, (hb.block g (ht g (by rw [h1]; rfl))).trans h3, h4⟩⟩
theorem OwnT.below {W W' : World} {base top : Nat} {v : Value} {n : Nat} {f : Nat → List ByteArray} (h : OwnT W base top v n f) (hb : Below top W W') : OwnT W' base top v n f := by
  obtain ⟨vs, a, b, c, d⟩ := h
  exact ⟨vs, own_topT a b hb, b, fun i u hu => ⟨own_topT (c i u hu).1 (c i u hu).2 hb, (c i u hu).2⟩, d⟩
theorem OwnT.len {W : World} {base top : Nat} {v : Value} {n : Nat} {f : Nat → List ByteArray} (h : OwnT W base top v n f) : ∃ A c, v = .slice A n c := by
  obtain ⟨vs, a, _⟩ := h
  rcases a.2 with ⟨rfl, rfl⟩ | ⟨g, cap, cur, rfl, _⟩
  · exact ⟨none, 0, rfl⟩
  · exact ⟨_, cap, rfl⟩
theorem strs_zero (z : Nat) : (madeCells (Value.string ByteArray.empty).cells (z * 1)).toList = strs (List.replicate z ByteArray.empty) := by
  rw [Nat.mul_one, show (Value.string ByteArray.empty).cells = #[Value.string ByteArray.empty] from rfl, toList_madeCells_one]
  simp [strs]
theorem row_oneT (A : Option Addr) (n c : Nat) : ∀ u ∈ (#[Value.slice A n c] : Array Value).toList, u.oneCell' = true := by
  intro u hu
  simp at hu
  subst hu
  rfl
theorem OwnT.retop {W : World} {base top : Nat} {v : Value} {n : Nat} {f : Nat → List ByteArray} (h : OwnT W base top v n f) : OwnT W base W.heap.size v n f := by
  obtain ⟨vs, a, b, c, d⟩ := h
  exact ⟨vs, a, fun k hk => (World.ownsRow.lt a k hk).2, fun i u hu => ⟨(c i u hu).1, fun k hk => (World.ownsRow.lt (c i u hu).1 k hk).2⟩, d⟩
theorem OwnT.rebase {W : World} {base base' top : Nat} {v : Value} {n : Nat} {f : Nat → List ByteArray} (h : OwnT W base top v n f) (hb : base' ≤ base) : OwnT W base' top v n f := by
  obtain ⟨vs, a, b, c, d⟩ := h
  exact ⟨vs, own_base a hb, b, fun i u hu => ⟨own_base (c i u hu).1 hb, (c i u hu).2⟩, d⟩
/-- One row more. -/
theorem OwnT.snoc {W0 W W' : World} {base : Nat} {vs : List Value} {v v' u : Value} {n : Nat} {f : Nat → List ByteArray} (h1 : W0.ownsRow base 23 1 v n vs)
    (h3 : ∀ (i : Nat) (x : Value), vs[i]? = some x → W0.ownsRow base 9 1 x (f i).length (strs (f i))) (h4 : Distinct vs) (hb : Below W0.heap.size W0 W) (hbase : base ≤ W0.heap.size)
    (hu : W.ownsRow W0.heap.size 9 1 u (f n).length (strs (f n))) (ho : W'.ownsRow base 23 1 v' (n + 1) (vs ++ [u])) (hg : W.grownBy W' v.ownBlock) : OwnT W' base W'.heap.size v' (n + 1) f := by
  have hvl : vs.length = n := own_len h1
  have hK : Keeps W W' 9 := Keeps.grown (own_below h1 hb) (by decide) hg
  have hrow : ∀ (i : Nat) (x : Value), (vs ++ [u])[i]? = some x → W'.ownsRow base 9 1 x (f i).length (strs (f i)) := by
    intro i x hx
    rcases Nat.lt_or_ge i n with hi | hi
    · rw [List.getElem?_append_left (by omega)] at hx
      exact own_keeps (own_below (h3 i x hx) hb) hK
    · rw [List.getElem?_append_right (by omega)] at hx
      have hi0 : i - vs.length = 0 := by
        have := (List.getElem?_eq_some_iff.1 hx).1
        simp at this
        omega
      rw [hi0] at hx
      simp at hx
      subst hx
      obtain rfl : i = n := by omega
      exact own_base (own_keeps hu hK) hbase
  refine ⟨vs ++ [u], ho, fun k hk => (World.ownsRow.lt ho k hk).2, fun i x hx => ⟨hrow i x hx, fun k hk => (World.ownsRow.lt (hrow i x hx) k hk).2⟩, h4.snoc fun j x hx => ?_⟩
  cases hxb : x.ownBlock with
  | none => exact .inl rfl
  | some k =>
    refine .inr fun he => ?_
    have e1 := (World.ownsRow.lt (h3 j x hx) k hxb).2
    have e2 := (World.ownsRow.lt hu k he.symm).1
    omega
theorem OwnT.nil (W : World) (base top : Nat) (v : Value) (f : Nat → List ByteArray) (h : W.ownsRow base 23 1 v 0 []) (ht : ∀ k, v.ownBlock = some k → k < top) : OwnT W base top v 0 f := ⟨[], h, ht, fun i u hu => by simp at hu, Distinct.nil⟩
/-- Row i and its column j: where they lie, and what a store into it leaves. -/
theorem OwnT.at {W : World} {base top : Nat} {v : Value} {n : Nat} {f : Nat → List ByteArray} (h : OwnT W base top v n f) (i j : Nat) (hi : i < n) (hj : j < (f i).length) :
    ∃ go co g rc x, v = .slice (some ⟨go, 0, none⟩) n co ∧ W.cell? ⟨go, i, none⟩ = some (.slice (some ⟨g, 0, none⟩) (f i).length rc) ∧ W.cell? ⟨g, j, none⟩ = some x ∧ W.frozen? ⟨g, j, none⟩ = false ∧ g < W.heap.size ∧ base ≤ g ∧
      ∀ y : ByteArray, OwnT (W.setCell ⟨g, j, none⟩ (.string y)) base W.heap.size v n (fun k => if k = i then (f i).set j y else f k) ∧ ∀ e, 9 ≠ e → Keeps W (W.setCell ⟨g, j, none⟩ (.string y)) e := by
  obtain ⟨vs, a, b, c, d⟩ := h
  have hvl : vs.length = n := own_len a
  obtain ⟨u, hu⟩ : ∃ u, vs[i]? = some u := ⟨_, List.getElem?_eq_getElem (by omega)⟩
  obtain ⟨hr, _⟩ := c i u hu
  rcases a.2 with ⟨_, hn⟩ | ⟨go, co, cur, rfl, _⟩
  · omega
  rcases hr.2 with ⟨_, hn⟩ | ⟨g, rc, cur2, rfl, hbg, hh, _⟩
  · omega
  have hil : j < (strs (f i)).length := by rw [strs_length]; exact hj
  refine ⟨go, co, g, rc, _, rfl, (a.cellAt i (by omega)).trans hu, (hr.cellAt j (by omega)).trans (List.getElem?_eq_getElem hil), hr.frozenAt j, (Array.getElem?_eq_some_iff.1 hh).1, hbg, fun y => ?_⟩
  obtain ⟨hs1, hs2⟩ := hr.stored j (.string y)
  have hset : (strs (f i)).set j (.string y) = strs ((f i).set j y) := by simp [strs, List.map_set]
  have hK : ∀ e, 9 ≠ e → Keeps W (W.setCell ⟨g, j, none⟩ (.string y)) e := fun e he => Keeps.grown hr he hs2
  have hrow : ∀ (k : Nat) (x : Value), vs[k]? = some x → (W.setCell ⟨g, j, none⟩ (.string y)).ownsRow base 9 1 x ((if k = i then (f i).set j y else f k)).length (strs (if k = i then (f i).set j y else f k)) := by
    intro k x hx
    by_cases hki : k = i
    · subst hki
      have hxu := hu.symm.trans hx
      injection hxu with hxu
      subst hxu
      rw [if_pos rfl, List.length_set, ← hset]
      exact hs1
    · rw [if_neg hki]
      exact (c k x hx).1.kept hs2 (d k i x _ hki hx hu)
  exact ⟨⟨vs, own_keeps a (hK _ (by decide)), fun k hk => (World.ownsRow.lt a k hk).2, fun k x hx => ⟨hrow k x hx, fun q hq => (World.ownsRow.lt (c k x hx).1 q hq).2⟩, d⟩, hK⟩
theorem OwnT.get {W : World} {base top : Nat} {v : Value} {n : Nat} {f : Nat → List ByteArray} (h : OwnT W base top v n f) (i j : Nat) (y : ByteArray) (hi : i < n) (hj : (f i)[j]? = some y) :
    ∃ go co g rc, v = .slice (some ⟨go, 0, none⟩) n co ∧ W.cell? ⟨go, i, none⟩ = some (.slice (some ⟨g, 0, none⟩) (f i).length rc) ∧ W.cell? ⟨g, j, none⟩ = some (.string y) ∧ go < W.heap.size ∧ g < W.heap.size := by
  obtain ⟨vs, a, b, c, d⟩ := h
  have hvl : vs.length = n := own_len a
  have hjl : j < (f i).length := (List.getElem?_eq_some_iff.1 hj).1
  obtain ⟨u, hu⟩ : ∃ u, vs[i]? = some u := ⟨_, List.getElem?_eq_getElem (by omega)⟩
  obtain ⟨hr, _⟩ := c i u hu
  have ha := a
  rcases a.2 with ⟨_, hn⟩ | ⟨go, co, cur, rfl, _, hh0, _⟩
  · omega
  rcases hr.2 with ⟨_, hn⟩ | ⟨g, rc, cur2, rfl, hbg, hh, _⟩
  · omega
  refine ⟨go, co, g, rc, rfl, (ha.cellAt i (by omega)).trans hu, (hr.cellAt j (by omega)).trans ?_, (Array.getElem?_eq_some_iff.1 hh0).1, (Array.getElem?_eq_some_iff.1 hh).1⟩
  have e : (strs (f i))[j]? = ((f i)[j]?).map Value.string := List.getElem?_map
  rw [e, hj]
  rfl
/-- A row of a table. -/
theorem OwnT.row {W : World} {base top : Nat} {v : Value} {n : Nat} {f : Nat → List ByteArray} (h : OwnT W base top v n f) (i : Nat) (hi : i < n) :
    ∃ go co u, v = .slice (some ⟨go, 0, none⟩) n co ∧ W.cell? ⟨go, i, none⟩ = some u ∧ go < W.heap.size ∧ Rd W u (strs (f i)) := by
  obtain ⟨vs, a, b, c, d⟩ := h
  have hvl : vs.length = n := own_len a
  obtain ⟨u, hu⟩ : ∃ u, vs[i]? = some u := ⟨_, List.getElem?_eq_getElem (by omega)⟩
  have ha := a
  rcases a.2 with ⟨_, hn⟩ | ⟨go, co, cur, rfl, _, hh0, _⟩
  · omega
  exact ⟨go, co, u, rfl, (ha.cellAt i (by omega)).trans hu, (Array.getElem?_eq_some_iff.1 hh0).1, Rd.of_own (c i u hu).1⟩
/-- The first k rows of a table; the others have no cells. -/
def rowsT (f : Nat → List ByteArray) (k : Nat) : Nat → List ByteArray := fun i => if i < k then f i else []
theorem rowsT_step (f : Nat → List ByteArray) (k i : Nat) : rowsT f (k + 1) i = if i = k then f k else rowsT f k i := by
  unfold rowsT
  by_cases h : i = k
  · subst h
    rw [if_pos (by omega), if_pos rfl]
  · rw [if_neg h]
    by_cases h1 : i < k
    · rw [if_pos (by omega), if_pos h1]
    · rw [if_neg (by omega), if_neg h1]
theorem rowsT_all (f : Nat → List ByteArray) (k i : Nat) (h : i < k) : f i = rowsT f k i := by unfold rowsT; rw [if_pos h]
theorem OwnT.made {W : World} {base : Nat} {v : Value} {n : Nat} {xs : List Value} (h : W.ownsRow base 23 1 v n xs) (hx : xs = List.replicate n (.slice none 0 0)) (f : Nat → List ByteArray) : OwnT W base W.heap.size v n (rowsT f 0) := by
  subst hx
  have hz : ∀ (i : Nat) (u : Value), (List.replicate n (Value.slice none 0 0))[i]? = some u → u = .slice none 0 0 := by
    intro i u hu
    exact List.eq_of_mem_replicate (List.mem_of_getElem? hu)
  refine ⟨_, h, fun k hk => (World.ownsRow.lt h k hk).2, fun i u hu => ?_, fun i j u u' _ hu _ => ?_⟩
  · rw [hz i u hu]
    exact ⟨World.ownsRow_nil W base _ 1, fun k hk => by cases hk⟩
  · rw [hz i u hu]
    exact .inl rfl
/-- A row of a table stored. -/
theorem OwnT.put {W0 W : World} {base B c n i : Nat} {u : Value} {f : Nat → List ByteArray} {l : List ByteArray} (h : OwnT W0 base W0.heap.size (.slice (some ⟨B, 0, none⟩) n c) n f) (hb : Below W0.heap.size W0 W) (hi : i < n)
    (hu : W.ownsRow W0.heap.size 9 1 u l.length (strs l)) (hbase : base ≤ W0.heap.size) :
    ∃ x, W.cell? ⟨B, i, none⟩ = some x ∧ W.frozen? ⟨B, i, none⟩ = false ∧ base ≤ B ∧ OwnT (W.setCell ⟨B, i, none⟩ u) base (W.setCell ⟨B, i, none⟩ u).heap.size (.slice (some ⟨B, 0, none⟩) n c) n (fun j => if j = i then l else f j) ∧ ∀ e, 23 ≠ e → Keeps W (W.setCell ⟨B, i, none⟩ u) e := by
  obtain ⟨vs, a, b, cc, d⟩ := h
  have hvl : vs.length = n := own_len a
  have hs := hb.size
  have aW := own_below a hb
  obtain ⟨hs1, hs2⟩ := aW.stored i u
  have hK : ∀ e, 23 ≠ e → Keeps W (W.setCell ⟨B, i, none⟩ u) e := fun e he => Keeps.grown aW he hs2
  have hset : ∀ (j : Nat) (x : Value), (vs.set i u)[j]? = some x → (j = i ∧ x = u) ∨ (j ≠ i ∧ vs[j]? = some x) := by
    intro j x hx
    rw [List.getElem?_set] at hx
    by_cases hij : i = j
    · rw [if_pos hij, if_pos (by omega)] at hx
      exact .inl ⟨hij.symm, by simpa using hx.symm⟩
    · rw [if_neg hij] at hx
      exact .inr ⟨fun h => hij h.symm, hx⟩
  have hrow : ∀ (j : Nat) (x : Value), (vs.set i u)[j]? = some x → (W.setCell ⟨B, i, none⟩ u).ownsRow base 9 1 x (if j = i then l else f j).length (strs (if j = i then l else f j)) := by
    intro j x hx
    rcases hset j x hx with ⟨rfl, rfl⟩ | ⟨hne, hx'⟩
    · rw [if_pos rfl]
      exact own_base (own_keeps hu (hK _ (by decide))) hbase
    · rw [if_neg hne]
      exact own_keeps (own_below (cc j x hx').1 hb) (hK _ (by decide))
  have hfar : ∀ (j : Nat) (x : Value) (k : Nat), vs[j]? = some x → x.ownBlock = some k → u.ownBlock = some k → False := by
    intro j x k hx h1 h2
    have e1 := (World.ownsRow.lt (cc j x hx).1 k h1).2
    have e2 := (World.ownsRow.lt hu k h2).1
    omega
  refine ⟨_, (aW.cellAt i (by omega)).trans (List.getElem?_eq_getElem (by omega)), aW.frozenAt i, (World.ownsRow.lt a B rfl).1, ⟨vs.set i u, hs1, fun k hk => (World.ownsRow.lt hs1 k hk).2, fun j x hx => ⟨hrow j x hx, fun k hk => (World.ownsRow.lt (hrow j x hx) k hk).2⟩, fun j1 j2 x1 x2 hj h1 h2 => ?_⟩, hK⟩
  rcases hset j1 x1 h1 with ⟨rfl, rfl⟩ | ⟨n1, g1⟩ <;> rcases hset j2 x2 h2 with ⟨rfl, rfl⟩ | ⟨n2, g2⟩
  · exact absurd rfl hj
  · cases hk : x1.ownBlock with
    | none => exact .inl rfl
    | some k => exact .inr fun he => hfar j2 x2 k g2 he.symm hk
  · cases hk : x1.ownBlock with
    | none => exact .inl rfl
    | some k => exact .inr fun he => hfar j1 x1 k g1 hk he.symm
  · exact d j1 j2 x1 x2 hj g1 g2
theorem nils_zeroT (z : Nat) : (madeCells (Value.slice none 0 0).cells (z * 1)).toList = List.replicate z (.slice none 0 0) := by
  rw [Nat.mul_one, show (Value.slice none 0 0).cells = #[Value.slice none 0 0] from rfl, toList_madeCells_one]
end Go.Proofs.YtionfjofojfaoaaDoor
