/- Plain words on a drawn table. No walk. -/
import Derived.Test.YtionfjofojfaoaaDoorMakeTab
import Derived.Test.YtionfjofojfaoaaDoorImplSel
import Derived.Test.YtionfjofojfaoaaDoorWidTab
import Derived.Test.YtionfjofojfaoaaDoorSpecSame
namespace Go.Proofs.YtionfjofojfaoaaDoor
open Go.RowKit
set_option linter.unusedVariables false

theorem Drawn.fits {h : List ByteArray} {n : Nat} {f : Nat → List ByteArray} (d : Drawn h n f) : TabFits h n f := by
  obtain ⟨h1, h2, h3, h4, h5, h6, h7⟩ := d
  refine ⟨by omega, fun x hx => by have := (head_good x (h5 x hx)).2; omega, by omega, fun i => ⟨?_, fun x hx => by have := (cell_good x (h6 i x hx)).2; omega⟩⟩
  rcases Nat.lt_or_ge i n with hi | hi
  · rw [h4 i hi]; omega
  · rw [h7 i hi]; exact Nat.zero_le _
theorem goodRow (r : List ByteArray) (h : ∀ x ∈ r, cellB x = true) : badRow r = false := by
  unfold badRow
  rw [List.any_eq_false]
  intro x hx
  rw [h x hx]
  decide
theorem Drawn.code {h : List ByteArray} {n : Nat} {f : Nat → List ByteArray} (d : Drawn h n f) : tabCode h n f = 0 := by
  obtain ⟨h1, h2, h3, h4, h5, h6, h7⟩ := d
  unfold tabCode
  have w1 : anyR (wrongRow h.length) f n = false := anyR_none _ _ _ fun i hi => by
    unfold wrongRow
    rw [decide_eq_false_iff_not]
    exact fun hne => hne (h4 i hi)
  have b1 := goodRow h fun x hx => (head_good x (h5 x hx)).1
  have b2 : anyR badRow f n = false := anyR_none _ _ _ fun i hi => goodRow _ fun x hx => (cell_good x (h6 i x hx)).1
  rw [w1, b1, b2, if_neg (by omega), if_neg (by decide), if_neg (by decide), if_neg (by omega)]
theorem Drawn.tab {h : List ByteArray} {n : Nat} {f : Nat → List ByteArray} (d : Drawn h n f) : isTab h n f = true := by
  unfold isTab
  rw [d.code]
  rfl
/-- The numbers 0 .. z - 1. -/
def upTo (z : Nat) : List Int := (List.range z).map fun (k : Nat) => (k : Int)
theorem upTo_length (z : Nat) : (upTo z).length = z := by simp [upTo]
theorem upTo_snoc (z : Nat) : ints (upTo (z + 1)) = ints (upTo z) ++ [.int .i64 (z : Int)] := by simp [upTo, List.range_succ, ints]
theorem pick_all (r : List ByteArray) (z : Nat) (h : r.length = z) : pickB r (upTo z) = r := by
  subst h
  apply List.ext_getElem
  · simp [pickB, upTo]
  · intro i h1 h2
    simp [pickB, upTo, List.getD_eq_getElem?_getD, List.getElem?_eq_getElem h2]
theorem Drawn.ok {h : List ByteArray} {n : Nat} {f : Nat → List ByteArray} (d : Drawn h n f) : selOk h n f (upTo h.length) = true := by
  have h1 := d.1
  have h2 := d.2.1
  unfold selOk
  rw [d.tab, upTo_length, decide_eq_true (by omega)]
  unfold inCols
  rw [Bool.true_and, Bool.true_and, List.all_eq_true]
  intro k hk
  simp [upTo] at hk
  obtain ⟨j, hj, rfl⟩ := hk
  rw [decide_eq_true_eq]
  omega
theorem eqR_all (f g : Nat → List ByteArray) (n : Nat) (h : ∀ i, i < n → f i = g i) : eqR f g n = true := by
  induction n with
  | zero => rfl
  | succ n ih => exact eqR_step f g n (ih fun i hi => h i (by omega)) (h n (by omega))
theorem Drawn.same {h : List ByteArray} {n : Nat} {f : Nat → List ByteArray} (d : Drawn h n f) : tabSame (selH h n f (upTo h.length)) h (selN h n f (upTo h.length)) n (selF f (upTo h.length)) f = true := by
  unfold tabSame sameRows selH selN
  rw [d.ok, if_pos rfl, if_pos rfl, pick_all h _ rfl, decide_eq_true rfl, decide_eq_true rfl, eqR_all (selF f (upTo h.length)) f n fun i hi => pick_all (f i) _ (d.2.2.2.1 i hi)]
  rfl
theorem Drawn.selN {h : List ByteArray} {n : Nat} {f : Nat → List ByteArray} (d : Drawn h n f) : selN h n f (upTo h.length) = n := by
  unfold Proofs.YtionfjofojfaoaaDoor.selN
  rw [d.ok, if_pos rfl]
theorem Drawn.twice {h : List ByteArray} {n : Nat} {f : Nat → List ByteArray} (d : Drawn h n f) : leastT (colT f n) (leastT f n) = n := by
  rcases Nat.eq_zero_or_pos n with rfl | h0
  · rfl
  · have h1 : leastT f n = h.length := leastT_same f _ n d.2.2.2.1 h0
    rw [h1]
    exact leastT_same _ _ _ (fun k _ => colT_length f n k) d.1
theorem gwT_le (F : Nat → List ByteArray) (k m i : Nat) (h : i < m) : (textW ((F i).getD k ByteArray.empty) : Int) ≤ gwT F k m := by
  induction m with
  | zero => omega
  | succ m ih =>
    rw [gwT]
    rcases Nat.lt_or_ge i m with h1 | h1
    · exact Int.le_trans (ih h1) (Int.le_max_left _ _)
    · obtain rfl : i = m := by omega
      exact Int.le_max_right _ _
theorem Drawn.natW {h : List ByteArray} {n : Nat} {f : Nat → List ByteArray} (d : Drawn h n f) : natW h n f = natWs (rowsA h f) (1 + n) h.length := by
  unfold Proofs.YtionfjofojfaoaaDoor.natW
  rw [d.tab, if_pos rfl]
theorem Drawn.colOf {h : List ByteArray} {n : Nat} {f : Nat → List ByteArray} (d : Drawn h n f) (k : Nat) (hk : k < h.length) : colOf h n f (k : Int) = colT f n k := by
  unfold Proofs.YtionfjofojfaoaaDoor.colOf
  rw [if_pos ⟨d.tab, by omega, by omega⟩]
  rfl
theorem Drawn.cell {h : List ByteArray} {n : Nat} {f : Nat → List ByteArray} (d : Drawn h n f) (k q : Nat) (hk : k < h.length) (hq : q < n) :
    cellB ((f q).getD k ByteArray.empty) = true ∧ ((f q).getD k ByteArray.empty).size ≤ 1000 ∧ (textW ((f q).getD k ByteArray.empty) : Int) ≤ gwT (rowsA h f) k (1 + n) := by
  have hkl : k < (f q).length := by rw [d.2.2.2.1 q hq]; exact hk
  have hm : (f q).getD k ByteArray.empty ∈ f q := by rw [getD_col _ _ hkl]; exact List.getElem_mem hkl
  have := cell_good _ (d.2.2.2.2.2.1 q _ hm)
  exact ⟨this.1, this.2, gwT_le (rowsA h f) k (1 + n) (q + 1) (by omega)⟩
end Go.Proofs.YtionfjofojfaoaaDoor
