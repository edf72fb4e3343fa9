/- Rows that a call owns: one element more, what is kept, what is apart. Any type of element. No walk. -/
import Derived.Test.YtionfjofojfaoaaDoorMem
import Derived.Maps.AppendAt
import Derived.Deep.AppendLies
namespace Go.Proofs.YtionfjofojfaoaaDoor
open Go.RowKit
set_option linter.unusedVariables false

theorem own_more {W : World} {base : Nat} {e : TypeId} {v : Value} {n m : Nat} {xs ys : List Value} (h : W.ownsRow base e 1 v n xs) (hn : n = m) (hx : xs = ys) : W.ownsRow base e 1 v m ys := by subst hn; subst hx; exact h
/-- A block of another type is not the row's own. -/
theorem own_not_blk {W : World} {base g : Nat} {e T : TypeId} {size : Nat} {v : Value} {n : Nat} {xs : List Value} {cs : Array Value} (h : W.ownsRow base e size v n xs) (hb : Blk W g T cs) (hne : e ≠ T) : ¬ v.ownBlock = some g := by
  intro he
  rcases h.2 with ⟨rfl, _⟩ | ⟨g', cap, cur, rfl, _, hg, _⟩
  · cases he
  · have : g' = g := by simpa [Value.ownBlock] using he
    subst this
    have := hg.symm.trans hb
    simp at this
    exact hne this.2
theorem Blk.grows {W W' : World} {base g : Nat} {e T : TypeId} {size : Nat} {v : Value} {n : Nat} {xs : List Value} {cs : Array Value} (hb : Blk W g T cs) (h : W.ownsRow base e size v n xs) (hne : e ≠ T) (hg : W.grownBy W' v.ownBlock) : Blk W' g T cs :=
  (hg.block g hb.lt (fun he => own_not_blk h hb hne he.symm)).trans hb
theorem own_blk {w : World} {base : Nat} {e : TypeId} {size g n c : Nat} {xs : List Value} (h : w.ownsRow base e size (.slice (some ⟨g, 0, none⟩) n c) n xs) (hc : c = n) : ∃ cs, Blk w g e cs ∧ cs.toList = xs ∧ base ≤ g := by
  subst hc
  rcases h.2 with ⟨h', _⟩ | ⟨g', cap', cur, h', hb, hg, hnc, hcm, hcs, htake⟩
  · simp at h'
  · simp only [Value.slice.injEq, Option.some.injEq, Addr.mk.injEq, and_true, true_and] at h'
    obtain ⟨rfl, rfl⟩ := h'
    refine ⟨cur, hg, ?_, hb⟩
    rw [List.take_of_length_le (by simp [hcs])] at htake
    exact htake
theorem grown_trans {a b c : World} {row : Option Nat} (h : a.grownBy b row) (k : b.grownBy c row) : a.grownBy c row :=
  ⟨k.os.trans h.os, k.tape.trans h.tape, k.output.trans h.output, Nat.le_trans h.size k.size, fun i hi hn => (k.block i (Nat.lt_of_lt_of_le hi h.size) hn).trans (h.block i hi hn)⟩
/-- One element more, of any size. -/
theorem append_el {P : Program} {ops : Array Oper} {rest : List Oper} {o : Oper} {a : Act} {Q : Exit → Act → World → Prop} (hgd : o.guard = none) (s x : Operand) (t : TypeId)
    (ho : o.op = .call { callee := .builtin .append, args := #[s, x], argTypes := #[t, t] })
    (base : Nat) (e : TypeId) (i : TypeInfo) (z : Value) (size bytes : Nat) (ht : P.underlying t = some (.slice e)) (hi : P.info? e = some i) (hz : i.zero = some z)
    (hsize : i.size = size) (hby : i.bytes = bytes) (hzs : z.cells.size = size) (hsz : 0 < size) (v : Value) (n : Nat) (xs : List Value) (hs : a.eval s = v) (W : World) (cs : Array Value)
    (hx : a.eval x = .slice (some ⟨W.heap.size, 0, none⟩) 1 1) (hcs : cs.size = size) (h1 : ∀ u ∈ cs.toList, u.oneCell' = true) (hown : W.ownsRow base e size v n xs) (hbytes : (n + 1) * bytes ≤ 140737488355328) (hn : n + 1 ≤ 9223372036854775807) (hbase : base ≤ W.heap.size)
    (h : ∀ v' w', w'.ownsRow base e size v' (n + 1) (xs ++ cs.toList) → W.grownBy w' v.ownBlock → (v'.ownBlock = v.ownBlock ∨ v'.ownBlock = some (W.heap.size + 1)) → wpList P ops Q rest (a.put o.dst v') w') : wpList P ops Q (o :: rest) a (W.alloc (.cells cs e)) := by
  refine wpList_append_own_at _ hgd s x t ho base e i z size bytes ht hi hz hsize hby hzs hsz v n xs hs (hown.alloc _) ⟨W.heap.size, 0, none⟩ 1 1 cs.toList hx (by simp [hcs]) ?_ h1 (by unfold maxLen; omega) hbytes (by simp; omega) ?_
  · intro j y hj
    rw [show (⟨W.heap.size, 0, none⟩ : Addr).add j = ⟨W.heap.size, j, none⟩ by simp [Addr.add]; intro h; exact h.symm, cell_of_row _ W.heap.size j cs e (0, 0) (heap_alloc_new W _)]
    simpa using hj
  · intro v' w' hown' hg _ hat
    exact h v' w' hown' (grown_trans (World.grownBy_alloc W _ _) hg) (by simpa using hat)

/-- .. where the new block's number is spelled otherwise. -/
theorem append_elH {P : Program} {ops : Array Oper} {rest : List Oper} {o : Oper} {a : Act} {Q : Exit → Act → World → Prop} (hgd : o.guard = none) (s x : Operand) (t : TypeId)
    (ho : o.op = .call { callee := .builtin .append, args := #[s, x], argTypes := #[t, t] })
    (base : Nat) (e : TypeId) (i : TypeInfo) (z : Value) (size bytes : Nat) (ht : P.underlying t = some (.slice e)) (hi : P.info? e = some i) (hz : i.zero = some z)
    (hsize : i.size = size) (hby : i.bytes = bytes) (hzs : z.cells.size = size) (hsz : 0 < size) (v : Value) (n : Nat) (xs : List Value) (hs : a.eval s = v) (W : World) (cs : Array Value)
    (H : Nat) (hH : W.heap.size = H) (hx : a.eval x = .slice (some ⟨H, 0, none⟩) 1 1) (hcs : cs.size = size) (h1 : ∀ u ∈ cs.toList, u.oneCell' = true) (hown : W.ownsRow base e size v n xs) (hbytes : (n + 1) * bytes ≤ 140737488355328) (hn : n + 1 ≤ 9223372036854775807) (hbase : base ≤ W.heap.size)
    (h : ∀ v' w', w'.ownsRow base e size v' (n + 1) (xs ++ cs.toList) → W.grownBy w' v.ownBlock → (v'.ownBlock = v.ownBlock ∨ v'.ownBlock = some (W.heap.size + 1)) → wpList P ops Q rest (a.put o.dst v') w') : wpList P ops Q (o :: rest) a (W.alloc (.cells cs e)) := by
  subst hH
  exact append_el hgd s x t ho base e i z size bytes ht hi hz hsize hby hzs hsz v n xs hs W cs hx hcs h1 hown hbytes hn hbase h
/-- The same, as a step of a region that draws its order (for 'go_region_law'). -/
theorem step_append_el {P : Program} {ops : Array Oper} {o : Oper} {a : Act} {K : Act → World → Prop} {Q : Exit → Act → World → Prop} {E : Prop} (hgd : o.guard = none) (s x : Operand) (t : TypeId)
    (ho : o.op = .call { callee := .builtin .append, args := #[s, x], argTypes := #[t, t] })
    (base : Nat) (e : TypeId) (i : TypeInfo) (z : Value) (size bytes : Nat) (ht : P.underlying t = some (.slice e)) (hi : P.info? e = some i) (hz : i.zero = some z)
    (hsize : i.size = size) (hby : i.bytes = bytes) (hzs : z.cells.size = size) (hsz : 0 < size) (v : Value) (n : Nat) (xs : List Value) (hs : a.eval s = v) (W : World) (cs : Array Value)
    (hx : a.eval x = .slice (some ⟨W.heap.size, 0, none⟩) 1 1) (hcs : cs.size = size) (h1 : ∀ u ∈ cs.toList, u.oneCell' = true) (hown : W.ownsRow base e size v n xs) (hbytes : (n + 1) * bytes ≤ 140737488355328) (hn : n + 1 ≤ 9223372036854775807) (hbase : base ≤ W.heap.size)
    (h : ∀ g cap w', w'.ownsRow base e size (.slice (some ⟨g, 0, none⟩) (n + 1) cap) (n + 1) (xs ++ cs.toList) → W.grownBy w' v.ownBlock → ((Value.slice (some ⟨g, 0, none⟩) (n + 1) cap).ownBlock = v.ownBlock ∨ (Value.slice (some ⟨g, 0, none⟩) (n + 1) cap).ownBlock = some (W.heap.size + 1)) → K (a.put o.dst (.slice (some ⟨g, 0, none⟩) (n + 1) cap)) w') :
    if Region.wanted o (yielded ops a.tmps) = true then Oper.wp P o a (W.alloc (.cells cs e)) K Q else E := by
  refine step_append_lies _ hgd s x t ho base e i z size bytes ht hi hz hsize hby hzs hsz v n xs hs (hown.alloc _) ⟨W.heap.size, 0, none⟩ 1 1 cs.toList hx (by simp [hcs]) ?_ h1 (by decide) (by unfold maxLen; omega) hbytes (by simp; omega) (W.heap.size + 1) (by simp) ?_
  · intro j y hj
    rw [show (⟨W.heap.size, 0, none⟩ : Addr).add j = ⟨W.heap.size, j, none⟩ by simp [Addr.add]; intro h; exact h.symm, cell_of_row _ W.heap.size j cs e (0, 0) (heap_alloc_new W _)]
    simpa using hj
  · intro g cap w' hown' hg hat _
    refine h g cap w' hown' (grown_trans (World.grownBy_alloc W _ _) hg) ?_
    rcases hat with hat | hat
    · exact .inl (by rw [hat]; rfl)
    · exact .inr (by rw [hat]; rfl)
/-! ### blocks of one type stay -/
def Keeps (W W' : World) (e : TypeId) : Prop := ∀ (g : Nat) (cs : Array Value), W.heap[g]? = some (.cells cs e (0, 0)) → W'.heap[g]? = some (.cells cs e (0, 0))
theorem own_keeps {W W' : World} {base : Nat} {e : TypeId} {size : Nat} {v : Value} {n : Nat} {xs : List Value} (h : W.ownsRow base e size v n xs) (hk : Keeps W W' e) : W'.ownsRow base e size v n xs :=
  ⟨h.1, h.2.imp id fun ⟨g, cap, cur, h1, h2, h3, h4⟩ => ⟨g, cap, cur, h1, h2, hk g cur h3, h4⟩⟩
theorem Blk.keeps {W W' : World} {g : Nat} {T : TypeId} {cs : Array Value} (h : Blk W g T cs) (hk : Keeps W W' T) : Blk W' g T cs := hk g cs h
theorem Keeps.trans {W W1 W2 : World} {e : TypeId} (h : Keeps W W1 e) (h' : Keeps W1 W2 e) : Keeps W W2 e := fun g cs hg => h' g cs (h g cs hg)
theorem Keeps.below {W W' : World} (e : TypeId) (h : Below W.heap.size W W') : Keeps W W' e := fun g cs hg => (h.block g (Array.getElem?_eq_some_iff.1 hg).1).trans hg
theorem Keeps.grown {W W' : World} {base : Nat} {e e2 : TypeId} {size : Nat} {v : Value} {n : Nat} {xs : List Value} (h : W.ownsRow base e2 size v n xs) (hne : e2 ≠ e) (hg : W.grownBy W' v.ownBlock) : Keeps W W' e :=
  fun g cs hc => Blk.grows hc h hne hg
theorem grown_set (W : World) (g j : Nat) (u : Value) : W.grownBy (W.setCell ⟨g, j, none⟩ u) (some g) :=
  ⟨rfl, rfl, rfl, by simp [World.setCell], fun k _ hne => Below.heap_setCell _ _ _ _ (fun h => hne (by rw [h]))⟩
theorem grown_row (W : World) (g : Nat) (cs : Array Value) : W.grownBy (W.setRow g cs) (some g) :=
  ⟨rfl, rfl, rfl, by simp [World.setRow], fun k _ hne => by
    have : g ≠ k := fun h => hne (by rw [h])
    simp [World.setRow, Array.getElem?_modify, this]⟩
theorem Keeps.blk {W W' : World} {g : Nat} {T e : TypeId} {cs : Array Value} (hb : Blk W g T cs) (hne : T ≠ e) (hg : W.grownBy W' (some g)) : Keeps W W' e := fun k ck hk =>
  (hg.block k (Array.getElem?_eq_some_iff.1 hk).1 (fun h => by
    injection h with h
    subst h
    have := hb.symm.trans hk
    simp at this
    exact hne this.2)).trans hk
/-- No two of them lie in one block. -/
def Distinct (vs : List Value) : Prop := ∀ (i j : Nat) (u u' : Value), i ≠ j → vs[i]? = some u → vs[j]? = some u' → u.ownBlock = none ∨ u.ownBlock ≠ u'.ownBlock
theorem Distinct.nil : Distinct [] := fun i j u u' _ h _ => by simp at h
theorem Distinct.snoc {vs : List Value} {v : Value} (h : Distinct vs) (hn : ∀ (j : Nat) (u : Value), vs[j]? = some u → u.ownBlock = none ∨ u.ownBlock ≠ v.ownBlock) : Distinct (vs ++ [v]) := by
  have key : ∀ (j : Nat) (x : Value), (vs ++ [v])[j]? = some x → (j < vs.length ∧ vs[j]? = some x) ∨ (j = vs.length ∧ x = v) := by
    intro j x hx
    rcases Nat.lt_trichotomy j vs.length with hj | hj | hj
    · exact .inl ⟨hj, by rw [List.getElem?_append_left hj] at hx; exact hx⟩
    · subst hj; rw [List.getElem?_append_right (Nat.le_refl _)] at hx; simp at hx; exact .inr ⟨rfl, hx.symm⟩
    · rw [List.getElem?_eq_none (by simp; omega)] at hx; cases hx
  intro i j u u' hij hi hj
  rcases key i u hi with ⟨a, hi'⟩ | ⟨a, rfl⟩ <;> rcases key j u' hj with ⟨b, hj'⟩ | ⟨b, rfl⟩
  · exact h i j u u' hij hi' hj'
  · exact hn i u hi'
  · rcases hn j u' hj' with h0 | h0
    · cases hx : u.ownBlock with
      | none => exact .inl rfl
      | some g => exact .inr (by rw [h0]; exact fun h => by cases h)
    · exact .inr (fun e => h0 e.symm)
  · omega
end Go.Proofs.YtionfjofojfaoaaDoor
