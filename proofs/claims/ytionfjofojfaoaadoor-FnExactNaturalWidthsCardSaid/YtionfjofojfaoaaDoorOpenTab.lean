/- A table that came in by value: its head and its rows. No walk. -/
import Derived.Test.YtionfjofojfaoaaDoorTextsIn
import Derived.Deep.Slices
import Derived.Deep.Fields
import Derived.Deep.Strs
import Derived.OpenShut
import Derived.Lib.SmallJoins
import Derived.ChangeSame
namespace Go.Proofs.YtionfjofojfaoaaDoor
open Go.RowKit Go.ChangeShapes Go.WideShapes Go.Joins Go.Deep
set_option linter.unusedVariables false

theorem list_ofT {α : Type} (n : Nat) (p : Nat → α → Prop) (h : ∀ i, i < n → ∃ a, p i a) : ∃ l : List α, l.length = n ∧ ∀ i a, l[i]? = some a → p i a := by
  induction n with
  | zero => exact ⟨[], rfl, fun i a ha => by cases ha⟩
  | succ n ih =>
    obtain ⟨l, hl, hp⟩ := ih fun i hi => h i (by omega)
    obtain ⟨a, ha⟩ := h n (by omega)
    refine ⟨l ++ [a], by simp [hl], fun i b hb => ?_⟩
    by_cases hi : i < l.length
    · rw [List.getElem?_append_left hi] at hb
      exact hp i b hb
    · rw [List.getElem?_append_right (by omega)] at hb
      have : i - l.length = 0 := by
        rcases Nat.eq_zero_or_pos (i - l.length) with h0 | h0
        · exact h0
        · rw [List.getElem?_eq_none (by simp; omega)] at hb; cases hb
      rw [this] at hb
      simp at hb
      subst hb
      have : i = n := by omega
      subst this
      exact ha
theorem addr_plainT {a : Addr} (k : Nat) (h : a.spot = none) : a.add k = ⟨a.block, a.off + k, none⟩ := by
  obtain ⟨b, o, s⟩ := a
  simp only at h
  subst h
  unfold Addr.add
  split <;> simp_all
/-- What the rows of a table that came in fit. -/
def RowsFit (n : Nat) (f : Nat → List ByteArray) : Prop := n ≤ maxLen ∧ (∀ i, (f i).length ≤ maxLen ∧ ∀ x ∈ f i, x.size ≤ maxLen) ∧ ∀ i, n ≤ i → f i = []
section
variable {H : Type} {enc : TypeId × Value → H} {P : Program} {w : World} {base : Nat} {sp : Nat → Bool} {held : Bool}
theorem list_strs {t e : TypeId} {fuel : Nat} {cs : List Value} {y : DataW H × List MemPlace} (ht : P.underlying t = some (.slice e)) (he : P.underlying e = some .string) (hc : P.cellsOf e = 1) (h : DataW.trod enc P w base sp held fuel t cs = some y) :
    ∃ (v : Value) (xs : List ByteArray), cs = [v] ∧ Rd w v (strs xs) ∧ xs.length ≤ maxLen ∧ ∀ x ∈ xs, x.size ≤ maxLen := by
  rcases _root_.Go.ChangeShapes.open_strings ht he hc h with ⟨rfl, _⟩ | ⟨a, len, c, ss, rfl, _, hl, hm, hz, _, hcell, hws⟩
  · exact ⟨_, [], rfl, ⟨none, 0, rfl, fun h0 => by simp [strs] at h0⟩, Nat.zero_le _, fun x hx => by cases hx⟩
  · have hsl : len ≤ ss.length := by rw [hz]; split <;> omega
    have htl : (ss.take len).length = len := by rw [List.length_take]; omega
    refine ⟨_, ss.take len, rfl, ⟨some a, c, by rw [strs_length, htl], fun h0 => ?_⟩, by omega, fun x hx => hws x (List.mem_of_mem_take hx)⟩
    rw [strs_length, htl] at h0
    have hc0 := hcell 0 (by omega)
    obtain ⟨b, off, spot⟩ := a
    have hspot : spot = none := by simpa [Addr.add] using World.cell?_spot hc0
    subst hspot
    refine ⟨b, off, rfl, by simpa [Addr.add] using World.block_lt_of_cell? w _ hc0, fun j u hu => ?_⟩
    have hj : j < len := by
      rcases Nat.lt_or_ge j len with h | h
      · exact h
      · rw [List.getElem?_eq_none (by rw [strs_length, htl]; exact h)] at hu; cases hu
    have hcj := hcell j (by omega)
    have hadd : (⟨b, off, none⟩ : Addr).add j = ⟨b, off + j, none⟩ := by unfold Addr.add; split <;> simp_all
    rw [hadd] at hcj
    rw [hcj, ← hu, strs_get _ j (by omega), List.getElem_take, List.getD_eq_getElem?_getD, List.getElem?_eq_getElem (by omega)]
    rfl
theorem list_rows {tt t e : TypeId} {fuel : Nat} {cs : List Value} {y : DataW H × List MemPlace} (htt : P.underlying tt = some (.slice t)) (ht : P.underlying t = some (.slice e)) (hct : P.cellsOf t = 1) (he : P.underlying e = some .string) (hc : P.cellsOf e = 1) (h : DataW.trod enc P w base sp held fuel tt cs = some y) :
    ∃ (v : Value) (n : Nat) (f : Nat → List ByteArray), cs = [v] ∧ RdT w v n f ∧ RowsFit n f := by
  rcases open_slice htt h with ⟨rfl, _⟩ | ⟨a, len, cap, m, n, D, Pl, rfl, _, hl, hm, hmm, _, hi⟩
  · exact ⟨_, 0, fun _ => [], rfl, ⟨none, 0, rfl, fun h0 => by omega⟩, Nat.zero_le _, fun i => ⟨Nat.zero_le _, fun x hx => by cases hx⟩, fun i _ => rfl⟩
  · have hlm : len ≤ m := by rw [hmm]; split <;> omega
    obtain ⟨l, hll, hp⟩ := list_ofT len (fun i (xs : List ByteArray) => (∃ v, w.cell? (a.add i) = some v ∧ Rd w v (strs xs)) ∧ xs.length ≤ maxLen ∧ ∀ x ∈ xs, x.size ≤ maxLen) (fun i hil => by
      obtain ⟨cs', hc', ht'⟩ := hi i (by omega)
      obtain ⟨v, xs, rfl, hrd, hb1, hb2⟩ := list_strs ht he hc ht'
      rw [hct, Nat.mul_one] at hc'
      obtain ⟨_, _, hat⟩ := World.cells?_some hc'
      have h0 := hat 0 (by omega)
      rw [Go.Deep.add_add] at h0
      exact ⟨xs, ⟨v, h0, hrd⟩, hb1, hb2⟩)
    have hget : ∀ i, i < len → l[i]? = some (l.getD i []) := by
      intro i hil
      rw [List.getD_eq_getElem?_getD, List.getElem?_eq_getElem (by omega)]
      rfl
    have hout : ∀ i, len ≤ i → l.getD i [] = [] := by
      intro i hil
      rw [List.getD_eq_getElem?_getD, List.getElem?_eq_none (by omega)]
      rfl
    refine ⟨_, len, fun i => l.getD i [], rfl, ⟨some a, cap, rfl, fun h0 => ?_⟩, by omega, fun i => ?_, hout⟩
    · obtain ⟨v1, h1, _⟩ := (hp 0 _ (hget 0 h0)).1
      obtain ⟨b, off, spot⟩ := a
      have hsp : spot = none := by simpa [Addr.add] using World.cell?_spot h1
      subst hsp
      refine ⟨b, off, rfl, ?_, fun j hj => ?_⟩
      · have := World.block_lt_of_cell? w _ h1
        rw [addr_plainT _ rfl] at this
        exact this
      · obtain ⟨v, p0, hv⟩ := (hp j _ (hget j hj)).1
        rw [addr_plainT _ rfl] at p0
        exact ⟨v, p0, hv⟩
    · rcases Nat.lt_or_ge i len with h1 | h1
      · exact (hp i _ (hget i h1)).2
      · have h2 := hout i h1
        refine ⟨?_, fun x hx => ?_⟩
        · show (l.getD i []).length ≤ maxLen
          rw [h2]
          exact Nat.zero_le _
        · have h3 : x ∈ l.getD i [] := hx
          rw [h2] at h3
          cases h3
theorem open_rows {tt t e : TypeId} {A : Option Addr} {len cap : Nat} {d : DataW H} {p : List MemPlace} (htt : P.underlying tt = some (.slice t)) (ht : P.underlying t = some (.slice e)) (hct : P.cellsOf t = 1) (he : P.underlying e = some .string) (hc : P.cellsOf e = 1)
    (h : DataW.Trod enc P w base sp held tt (.slice A len cap) d p) : ∃ f : Nat → List ByteArray, RdT w (.slice A len cap) len f ∧ RowsFit len f := by
  obtain ⟨fuel, hf⟩ := h
  obtain ⟨v, n, f, hcs, hr, hb⟩ := list_rows htt ht hct he hc hf
  simp [Value.cells] at hcs
  subst hcs
  obtain ⟨A', c', he', _⟩ := id hr
  simp at he'
  obtain ⟨_, rfl, _⟩ := he'
  exact ⟨f, hr, hb⟩
end
/-- What a table that came in fits. -/
def TabIn (w : World) (hv rv : Value) (h : List ByteArray) (n : Nat) (f : Nat → List ByteArray) : Prop :=
  Rd w hv (strs h) ∧ RdT w rv n f ∧ h.length ≤ maxLen ∧ (∀ x ∈ h, x.size ≤ maxLen) ∧ RowsFit n f
theorem open_tab {H : Type} {enc : TypeId × Value → H} {w : World} {base : Nat} {sp : Nat → Bool} {held : Bool} {r : Reach} {b0 : Nat} {v : Value} {d : DataW H} {p : List MemPlace}
    (hv : Value.okWide Tryd.prog w r b0 40 v) (h : DataW.Trod enc Tryd.prog w base sp held 40 v d p) : ∃ (hv rv : Value) (h : List ByteArray) (n : Nat) (f : Nat → List ByteArray), v = .agg #[hv, rv] ∧ TabIn w hv rv h n f := by
  obtain ⟨cs, rfl, hsz⟩ := okWide_struct Tryd.underlying40 hv
  obtain ⟨fuel, hf⟩ := h
  obtain ⟨y0, y1, n, _, hl, r0, r1⟩ := trod_struct2 Tryd.underlying40 hf
  obtain ⟨hv, hh, e0, hr0, hb0, hx0⟩ := list_strs Tryd.underlying23 Tryd.underlying9 (by kernel_rfl) r0
  obtain ⟨rv, m, f, e1, hr1, hb1⟩ := list_rows Tryd.underlying24 Tryd.underlying23 (by kernel_rfl) Tryd.underlying9 (by kernel_rfl) r1
  have c1 : Tryd.prog.cellsOf 23 = 1 := by kernel_rfl
  have c2 : Tryd.prog.cellsOf 24 = 1 := by kernel_rfl
  have c3 : Tryd.prog.cellsOf 40 = 2 := by kernel_rfl
  simp only [c1, c2, List.drop_zero] at e0 e1
  have hl2 : cs.toList.length = 2 := hl.trans c3
  refine ⟨hv, rv, hh, m, f, ?_, hr0, hr1, hb0, hx0, hb1⟩
  congr 1
  apply Array.ext'
  rw [show (Value.agg cs).cells = cs from rfl] at e0 e1
  generalize cs.toList = l at e0 e1 hl2 ⊢
  match l, hl2 with
  | [a0, a1], _ =>
    simp at e0 e1
    obtain rfl := e0
    obtain rfl := e1
    rfl
end Go.Proofs.YtionfjofojfaoaaDoor
