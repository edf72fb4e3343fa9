/- Lines that a call is putting together: rows of its own, told apart by their types. No walk. -/
import Derived.Test.YtncdglfcegmmgaaDoorLnMem
import Derived.Test.YtncdglfcegmmgaaDoorBytes8
import Derived.Maps.AppendAt
import Derived.Deep.AppendLies
namespace Go.Proofs.YtncdglfcegmmgaaDoor
open Go.RowKit
set_option linter.unusedVariables false

theorem grown_trans {a b c : World} {row : Option Nat} (h : a.grownBy b row) (k : b.grownBy c row) : a.grownBy c row :=
  ⟨k.os.trans h.os, k.tape.trans h.tape, k.output.trans h.output, Nat.le_trans h.size k.size, fun i hi hn => (k.block i (Nat.lt_of_lt_of_le hi h.size) hn).trans (h.block i hi hn)⟩
/-- One element more, of any size. -/
theorem append_el {P : Program} {ops : Array Oper} {rest : List Oper} {o : Oper} {a : Act} {Q : Exit → Act → World → Prop} (hgd : o.guard = none) (s x : Operand) (t : TypeId)
    (ho : o.op = .call { callee := .builtin .append, args := #[s, x], argTypes := #[t, t] })
    (base : Nat) (e : TypeId) (i : TypeInfo) (z : Value) (size bytes : Nat) (ht : P.underlying t = some (.slice e)) (hi : P.info? e = some i) (hz : i.zero = some z)
    (hsize : i.size = size) (hby : i.bytes = bytes) (hzs : z.cells.size = size) (hsz : 0 < size) (v : Value) (n : Nat) (xs : List Value) (hs : a.eval s = v) (W : World) (cs : Array Value)
    (hx : a.eval x = .slice (some ⟨W.heap.size, 0, none⟩) 1 1) (hcs : cs.size = size) (h1 : ∀ u ∈ cs.toList, u.oneCell' = true) (hown : W.ownsRow base e size v n xs) (hbytes : (n + 1) * bytes ≤ 140737488355328) (hn : n + 1 ≤ 9223372036854775807) (hbase : base ≤ W.heap.size)
    (h : ∀ v' w', w'.ownsRow base e size v' (n + 1) (xs ++ cs.toList) → W.grownBy w' v.ownBlock → (v'.ownBlock = v.ownBlock ∨ v'.ownBlock = some (W.heap.size + 1)) → wpList P ops Q rest (a.put o.dst v') w') : wpList P ops Q (o :: rest) a (W.alloc (.cells cs e)) := by
  refine wpList_append_own_at _ hgd s x t ho base e i z size bytes ht hi hz hsize hby hzs hsz v n xs hs (hown.alloc _) ⟨W.heap.size, 0, none⟩ 1 1 cs.toList hx (by simp [hcs]) ?_ h1 (by unfold maxLen; omega) hbytes (by simp; omega) ?_
  · intro j y hj
    rw [show (⟨W.heap.size, 0, none⟩ : Addr).add j = ⟨W.heap.size, j, none⟩ by simp [Addr.add]; intro h; exact h.symm, cell_of_row _ W.heap.size j cs e (0, 0) (heap_alloc_new W _)]
    simpa using hj
  · intro v' w' hown' hg _ hat
    exact h v' w' hown' (grown_trans (World.grownBy_alloc W _ _) hg) (by simpa using hat)

/-- .. where the new block's number is spelled otherwise. -/
theorem append_elH {P : Program} {ops : Array Oper} {rest : List Oper} {o : Oper} {a : Act} {Q : Exit → Act → World → Prop} (hgd : o.guard = none) (s x : Operand) (t : TypeId)
    (ho : o.op = .call { callee := .builtin .append, args := #[s, x], argTypes := #[t, t] })
    (base : Nat) (e : TypeId) (i : TypeInfo) (z : Value) (size bytes : Nat) (ht : P.underlying t = some (.slice e)) (hi : P.info? e = some i) (hz : i.zero = some z)
    (hsize : i.size = size) (hby : i.bytes = bytes) (hzs : z.cells.size = size) (hsz : 0 < size) (v : Value) (n : Nat) (xs : List Value) (hs : a.eval s = v) (W : World) (cs : Array Value)
    (H : Nat) (hH : W.heap.size = H) (hx : a.eval x = .slice (some ⟨H, 0, none⟩) 1 1) (hcs : cs.size = size) (h1 : ∀ u ∈ cs.toList, u.oneCell' = true) (hown : W.ownsRow base e size v n xs) (hbytes : (n + 1) * bytes ≤ 140737488355328) (hn : n + 1 ≤ 9223372036854775807) (hbase : base ≤ W.heap.size)
    (h : ∀ v' w', w'.ownsRow base e size v' (n + 1) (xs ++ cs.toList) → W.grownBy w' v.ownBlock → (v'.ownBlock = v.ownBlock ∨ v'.ownBlock = some (W.heap.size + 1)) → wpList P ops Q rest (a.put o.dst v') w') : wpList P ops Q (o :: rest) a (W.alloc (.cells cs e)) := by
  subst hH
  exact append_el hgd s x t ho base e i z size bytes ht hi hz hsize hby hzs hsz v n xs hs W cs hx hcs h1 hown hbytes hn hbase h
/-- The same, as a step of a region that draws its order (for 'go_region_law'). -/
theorem step_append_el {P : Program} {ops : Array Oper} {o : Oper} {a : Act} {K : Act → World → Prop} {Q : Exit → Act → World → Prop} {E : Prop} (hgd : o.guard = none) (s x : Operand) (t : TypeId)
    (ho : o.op = .call { callee := .builtin .append, args := #[s, x], argTypes := #[t, t] })
    (base : Nat) (e : TypeId) (i : TypeInfo) (z : Value) (size bytes : Nat) (ht : P.underlying t = some (.slice e)) (hi : P.info? e = some i) (hz : i.zero = some z)
    (hsize : i.size = size) (hby : i.bytes = bytes) (hzs : z.cells.size = size) (hsz : 0 < size) (v : Value) (n : Nat) (xs : List Value) (hs : a.eval s = v) (W : World) (cs : Array Value)
    (hx : a.eval x = .slice (some ⟨W.heap.size, 0, none⟩) 1 1) (hcs : cs.size = size) (h1 : ∀ u ∈ cs.toList, u.oneCell' = true) (hown : W.ownsRow base e size v n xs) (hbytes : (n + 1) * bytes ≤ 140737488355328) (hn : n + 1 ≤ 9223372036854775807) (hbase : base ≤ W.heap.size)
    (h : ∀ g cap w', w'.ownsRow base e size (.slice (some ⟨g, 0, none⟩) (n + 1) cap) (n + 1) (xs ++ cs.toList) → W.grownBy w' v.ownBlock → ((Value.slice (some ⟨g, 0, none⟩) (n + 1) cap).ownBlock = v.ownBlock ∨ (Value.slice (some ⟨g, 0, none⟩) (n + 1) cap).ownBlock = some (W.heap.size + 1)) → K (a.put o.dst (.slice (some ⟨g, 0, none⟩) (n + 1) cap)) w') :
    if Region.wanted o (yielded ops a.tmps) = true then Oper.wp P o a (W.alloc (.cells cs e)) K Q else E := by
  refine step_append_lies _ hgd s x t ho base e i z size bytes ht hi hz hsize hby hzs hsz v n xs hs (hown.alloc _) ⟨W.heap.size, 0, none⟩ 1 1 cs.toList hx (by simp [hcs]) ?_ h1 (by decide) (by unfold maxLen; omega) hbytes (by simp; omega) (W.heap.size + 1) (by simp) ?_
  · intro j y hj
    rw [show (⟨W.heap.size, 0, none⟩ : Addr).add j = ⟨W.heap.size, j, none⟩ by simp [Addr.add]; intro h; exact h.symm, cell_of_row _ W.heap.size j cs e (0, 0) (heap_alloc_new W _)]
    simpa using hj
  · intro g cap w' hown' hg hat _
    refine h g cap w' hown' (grown_trans (World.grownBy_alloc W _ _) hg) ?_
    rcases hat with hat | hat
    · exact .inl (by rw [hat]; rfl)
    · exact .inr (by rw [hat]; rfl)
/-! ### blocks of one type stay -/
def Keeps (W W' : World) (e : TypeId) : Prop := ∀ (g : Nat) (cs : Array Value), W.heap[g]? = some (.cells cs e (0, 0)) → W'.heap[g]? = some (.cells cs e (0, 0))
theorem own_keeps {W W' : World} {base : Nat} {e : TypeId} {size : Nat} {v : Value} {n : Nat} {xs : List Value} (h : W.ownsRow base e size v n xs) (hk : Keeps W W' e) : W'.ownsRow base e size v n xs :=
  ⟨h.1, h.2.imp id fun ⟨g, cap, cur, h1, h2, h3, h4⟩ => ⟨g, cap, cur, h1, h2, hk g cur h3, h4⟩⟩
theorem Blk.keeps {W W' : World} {g : Nat} {T : TypeId} {cs : Array Value} (h : Blk W g T cs) (hk : Keeps W W' T) : Blk W' g T cs := hk g cs h
theorem Keeps.trans {W W1 W2 : World} {e : TypeId} (h : Keeps W W1 e) (h' : Keeps W1 W2 e) : Keeps W W2 e := fun g cs hg => h' g cs (h g cs hg)
theorem Keeps.below {W W' : World} (e : TypeId) (h : Below W.heap.size W W') : Keeps W W' e := fun g cs hg => (h.block g (Array.getElem?_eq_some_iff.1 hg).1).trans hg
theorem Keeps.grown {W W' : World} {base : Nat} {e e2 : TypeId} {size : Nat} {v : Value} {n : Nat} {xs : List Value} (h : W.ownsRow base e2 size v n xs) (hne : e2 ≠ e) (hg : W.grownBy W' v.ownBlock) : Keeps W W' e :=
  fun g cs hc => Blk.grows hc h hne hg
theorem grown_set (W : World) (g j : Nat) (u : Value) : W.grownBy (W.setCell ⟨g, j, none⟩ u) (some g) :=
  ⟨rfl, rfl, rfl, by simp [World.setCell], fun k _ hne => Below.heap_setCell _ _ _ _ (fun h => hne (by rw [h]))⟩
theorem grown_row (W : World) (g : Nat) (cs : Array Value) : W.grownBy (W.setRow g cs) (some g) :=
  ⟨rfl, rfl, rfl, by simp [World.setRow], fun k _ hne => by
    have : g ≠ k := fun h => hne (by rw [h])
    simp [World.setRow, Array.getElem?_modify, this]⟩
theorem Keeps.blk {W W' : World} {g : Nat} {T e : TypeId} {cs : Array Value} (hb : Blk W g T cs) (hne : T ≠ e) (hg : W.grownBy W' (some g)) : Keeps W W' e := fun k ck hk =>
  (hg.block k (Array.getElem?_eq_some_iff.1 hk).1 (fun h => by
    injection h with h
    subst h
    have := hb.symm.trans hk
    simp at this
    exact hne this.2)).trans hk

/-! ### cells -/
def celVals (l : List Cel) : List Value := l.flatMap fun c => [.string c.txt, .int .i64 c.wid]
theorem celVals_snoc (l : List Cel) (c : Cel) : celVals (l ++ [c]) = celVals l ++ [.string c.txt, .int .i64 c.wid] := by simp [celVals]
theorem celVals_get (l : List Cel) (j : Nat) (c : Cel) (h : l[j]? = some c) : (celVals l)[j * 2]? = some (.string c.txt) ∧ (celVals l)[j * 2 + 1]? = some (.int .i64 c.wid) := by
  induction l generalizing j with
  | nil => simp at h
  | cons d r ih =>
    cases j with
    | zero => simp at h; subst h; simp [celVals]
    | succ j =>
      obtain ⟨a, b⟩ := ih j (by simpa using h)
      have e1 : (j + 1) * 2 = j * 2 + 1 + 1 := by omega
      rw [e1]
      exact ⟨a, b⟩
def OwnC (W : World) (base : Nat) (v : Value) (l : List Cel) : Prop := W.ownsRow base 32 2 v l.length (celVals l)
theorem OwnC.nil (W : World) (base : Nat) : OwnC W base (.slice none 0 0) [] := World.ownsRow_nil W base _ 2
theorem OwnC.keeps {W W' : World} {base : Nat} {v : Value} {l : List Cel} (h : OwnC W base v l) (hk : Keeps W W' 32) : OwnC W' base v l := own_keeps h hk
theorem OwnC.snoc {W : World} {base : Nat} {v : Value} {l : List Cel} {c : Cel} (h : W.ownsRow base 32 2 v (l.length + 1) (celVals l ++ [.string c.txt, .int .i64 c.wid])) : OwnC W base v (l ++ [c]) := by
  unfold OwnC
  rw [celVals_snoc, List.length_append]
  exact h
theorem OwnC.rd {W : World} {base : Nat} {v : Value} {l : List Cel} (h : OwnC W base v l) : RdCB base W v l := by
  have h0 : W.ownsRow base 32 2 v l.length (celVals l) := h
  rcases h0.2 with ⟨rfl, hn⟩ | ⟨g, cap, cur, rfl, hb, hg, _⟩
  · refine ⟨none, 0, by rw [hn], fun h1 => ?_⟩
    omega
  · refine ⟨_, cap, rfl, fun _ => ⟨g, 0, rfl, hb, (Array.getElem?_eq_some_iff.1 hg).1, fun j c hj => ?_⟩⟩
    have hjl : j < l.length := (List.getElem?_eq_some_iff.1 hj).1
    obtain ⟨a, b⟩ := celVals_get l j c hj
    exact ⟨by rw [Nat.zero_add, World.ownsRow.cellAt h0 _ (by omega)]; exact a, by rw [Nat.zero_add, World.ownsRow.cellAt h0 _ (by omega)]; exact b⟩

/-! ### lines -/
def lnVals : List Value → List Ln → List Value
  | v :: vs, l :: ls => v :: .string l.tail.txt :: .int .i64 l.tail.wid :: .int .i64 l.fin :: lnVals vs ls
  | _, _ => []
theorem lnVals_snoc (vs : List Value) (ls : List Ln) (v : Value) (l : Ln) (h : vs.length = ls.length) : lnVals (vs ++ [v]) (ls ++ [l]) = lnVals vs ls ++ [v, .string l.tail.txt, .int .i64 l.tail.wid, .int .i64 l.fin] := by
  induction vs generalizing ls with
  | nil =>
    have : ls = [] := List.length_eq_zero_iff.1 h.symm
    subst this
    rfl
  | cons u r ih =>
    cases ls with
    | nil => simp at h
    | cons d t =>
      simp only [List.cons_append, lnVals]
      rw [ih t (by simpa using h)]
theorem lnVals_get (vs : List Value) (ls : List Ln) (j : Nat) (v : Value) (l : Ln) (hv : vs[j]? = some v) (hl : ls[j]? = some l) :
    (lnVals vs ls)[j * 4]? = some v ∧ (lnVals vs ls)[j * 4 + 1]? = some (.string l.tail.txt) ∧ (lnVals vs ls)[j * 4 + 2]? = some (.int .i64 l.tail.wid) ∧ (lnVals vs ls)[j * 4 + 3]? = some (.int .i64 l.fin) := by
  induction vs generalizing ls j with
  | nil => simp at hv
  | cons u r ih =>
    cases ls with
    | nil => simp at hl
    | cons d t =>
      cases j with
      | zero => simp at hv hl; subst hv; subst hl; simp [lnVals]
      | succ j =>
        have hx := ih t j (by simpa using hv) (by simpa using hl)
        have e1 : (j + 1) * 4 = j * 4 + 1 + 1 + 1 + 1 := by omega
        rw [e1]
        exact hx
/-- No two of them lie in one block. -/
def Distinct (vs : List Value) : Prop := ∀ (i j : Nat) (u u' : Value), i ≠ j → vs[i]? = some u → vs[j]? = some u' → u.ownBlock = none ∨ u.ownBlock ≠ u'.ownBlock
theorem Distinct.nil : Distinct [] := fun i j u u' _ h _ => by simp at h
theorem Distinct.snoc {vs : List Value} {v : Value} (h : Distinct vs) (hn : ∀ (j : Nat) (u : Value), vs[j]? = some u → u.ownBlock = none ∨ u.ownBlock ≠ v.ownBlock) : Distinct (vs ++ [v]) := by
  have key : ∀ (j : Nat) (x : Value), (vs ++ [v])[j]? = some x → (j < vs.length ∧ vs[j]? = some x) ∨ (j = vs.length ∧ x = v) := by
    intro j x hx
    rcases Nat.lt_trichotomy j vs.length with hj | hj | hj
    · exact .inl ⟨hj, by rw [List.getElem?_append_left hj] at hx; exact hx⟩
    · subst hj; rw [List.getElem?_append_right (Nat.le_refl _)] at hx; simp at hx; exact .inr ⟨rfl, hx.symm⟩
    · rw [List.getElem?_eq_none (by simp; omega)] at hx; cases hx
  intro i j u u' hij hi hj
  rcases key i u hi with ⟨a, hi'⟩ | ⟨a, rfl⟩ <;> rcases key j u' hj with ⟨b, hj'⟩ | ⟨b, rfl⟩
  · exact h i j u u' hij hi' hj'
  · exact hn i u hi'
  · rcases hn j u' hj' with h0 | h0
    · cases hx : u.ownBlock with
      | none => exact .inl rfl
      | some g => exact .inr (by rw [h0]; exact fun h => by cases h)
    · exact .inr (fun e => h0 e.symm)
  · omega
/-- The cells of the lines ls, each the call's own, none in the block K, no two in one block. -/
def InC (W : World) (base : Nat) (K : Option Nat) (vs : List Value) (ls : List Ln) : Prop :=
  (∀ (j : Nat) (u : Value) (l : Ln), vs[j]? = some u → ls[j]? = some l → OwnC W base u l.cells ∧ (u.ownBlock = none ∨ u.ownBlock ≠ K)) ∧ Distinct vs
theorem InC.keeps {W W' : World} {base : Nat} {K : Option Nat} {vs : List Value} {ls : List Ln} (h : InC W base K vs ls) (hc : Keeps W W' 32) : InC W' base K vs ls :=
  ⟨fun j u l hu hj => ⟨(h.1 j u l hu hj).1.keeps hc, (h.1 j u l hu hj).2⟩, h.2⟩
/-- The lines ls are the call's own; none of their cells lies in the block K. -/
def OwnL (W : World) (base : Nat) (K : Option Nat) (v : Value) (ls : List Ln) : Prop :=
  ∃ vs : List Value, vs.length = ls.length ∧ W.ownsRow base 34 4 v ls.length (lnVals vs ls) ∧ InC W base K vs ls
theorem OwnL.keeps {W W' : World} {base : Nat} {K : Option Nat} {v : Value} {ls : List Ln} (h : OwnL W base K v ls) (hl : Keeps W W' 34) (hc : Keeps W W' 32) : OwnL W' base K v ls := by
  obtain ⟨vs, h1, h2, h3⟩ := h
  exact ⟨vs, h1, own_keeps h2 hl, h3.keeps hc⟩
/-- A store into a block of lines that is not the row's own. -/
theorem OwnL.other {W W' : World} {base g : Nat} {K : Option Nat} {v : Value} {ls : List Ln} (h : OwnL W base K v ls) (hg : W.grownBy W' (some g)) (hne : v.ownBlock ≠ some g) (hc : Keeps W W' 32) : OwnL W' base K v ls := by
  obtain ⟨vs, h1, h2, h3⟩ := h
  exact ⟨vs, h1, h2.kept hg (.inr hne), h3.keeps hc⟩
/-- One cell more in the block K (or in a new one). -/
theorem OwnL.celled {W W' : World} {base k : Nat} {vc vc' v : Value} {ls : List Ln} (h : OwnL W base vc.ownBlock v ls) (hl : Keeps W W' 34) (hg : W.grownBy W' vc.ownBlock) (hat : vc'.ownBlock = vc.ownBlock ∨ vc'.ownBlock = some k) (hk : W.heap.size ≤ k) : OwnL W' base vc'.ownBlock v ls := by
  obtain ⟨vs, h1, h2, h3⟩ := h
  refine ⟨vs, h1, own_keeps h2 hl, fun j u l hu hj => ?_, h3.2⟩
  obtain ⟨ho, hap⟩ := h3.1 j u l hu hj
  have ho' : W.ownsRow base 32 2 u l.cells.length (celVals l.cells) := ho
  refine ⟨ho'.kept hg hap, ?_⟩
  rcases hat with hat | hat
  · rw [hat]; exact hap
  · rw [hat]
    refine .inr fun he => ?_
    have := (World.ownsRow.lt ho' k he).2
    omega
/-- One line more. -/
theorem OwnL.snoc {W W' : World} {base : Nat} {vs : List Value} {ls : List Ln} {l : Ln} {vc v' : Value} (hlen : vs.length = ls.length) (h : W'.ownsRow base 34 4 v' (ls.length + 1) (lnVals vs ls ++ [vc, .string l.tail.txt, .int .i64 l.tail.wid, .int .i64 l.fin]))
    (hin : InC W base vc.ownBlock vs ls) (hk : Keeps W W' 32) (hc : OwnC W base vc l.cells) : OwnL W' base none v' (ls ++ [l]) := by
  refine ⟨vs ++ [vc], by simp [hlen], ?_, fun j u d hu hd => ?_, hin.2.snoc fun j u hu => ?_⟩
  · rw [lnVals_snoc vs ls vc l hlen, List.length_append]
    exact h
  · refine ⟨?_, ?_⟩
    · rcases Nat.lt_or_ge j ls.length with hj | hj
      · rw [List.getElem?_append_left (by omega)] at hu hd
        exact (hin.1 j u d hu hd).1.keeps hk
      · rw [List.getElem?_append_right (by omega)] at hu hd
        have hj0 : j - ls.length = 0 := by
          rcases Nat.eq_zero_or_pos (j - ls.length) with h0 | h0
          · exact h0
          · rw [List.getElem?_eq_none (by simp; omega)] at hd; cases hd
        rw [show j - vs.length = 0 by omega] at hu
        rw [hj0] at hd
        simp at hu hd
        subst hu
        subst hd
        exact hc.keeps hk
    · cases hx : u.ownBlock with
      | none => exact .inl rfl
      | some k => exact .inr (fun h => by cases h)
  · have hj : j < ls.length := by rw [← hlen]; exact (List.getElem?_eq_some_iff.1 hu).1
    exact (hin.1 j u ls[j] hu (List.getElem?_eq_getElem hj)).2
theorem OwnL.none {W : World} {base : Nat} {K : Option Nat} {v : Value} {ls : List Ln} (h : OwnL W base K v ls) : OwnL W base .none v ls := by
  obtain ⟨vs, h1, h2, h3⟩ := h
  refine ⟨vs, h1, h2, fun j u l hu hj => ⟨(h3.1 j u l hu hj).1, ?_⟩, h3.2⟩
  cases hx : u.ownBlock with
  | none => exact .inl rfl
  | some k => exact .inr (fun h => by cases h)
theorem OwnL.rd {W : World} {base : Nat} {K : Option Nat} {v : Value} {ls : List Ln} (h : OwnL W base K v ls) : RdL W v ls := by
  obtain ⟨vs, h1, h2, h3⟩ := h
  have h0 := h2
  rcases h2.2 with ⟨rfl, hn⟩ | ⟨g, cap, cur, rfl, hb, hg, _⟩
  · refine ⟨.none, 0, by rw [hn], fun h1 => ?_⟩
    omega
  · refine ⟨_, cap, rfl, fun _ => ⟨g, 0, rfl, (Array.getElem?_eq_some_iff.1 hg).1, fun j l hj => ?_⟩⟩
    have hjl : j < ls.length := (List.getElem?_eq_some_iff.1 hj).1
    obtain ⟨u, hu⟩ : ∃ u, vs[j]? = some u := ⟨_, List.getElem?_eq_getElem (by omega)⟩
    obtain ⟨a, b, c, d⟩ := lnVals_get vs ls j u l hu hj
    refine ⟨⟨u, ?_, (h3.1 j u l hu hj).1.rd.rd⟩, ?_, ?_, ?_⟩ <;> rw [Nat.zero_add, World.ownsRow.cellAt h0 _ (by omega)] <;> assumption
theorem OwnL.nilAt (W : World) (base : Nat) (K : Option Nat) (v : Value) (h : W.ownsRow base 34 4 v 0 []) : OwnL W base K v [] := ⟨[], rfl, h, fun j u l hu _ => by simp at hu, Distinct.nil⟩
end Go.Proofs.YtncdglfcegmmgaaDoor
