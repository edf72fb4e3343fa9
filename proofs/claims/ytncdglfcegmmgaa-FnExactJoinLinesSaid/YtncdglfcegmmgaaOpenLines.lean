/- Lines that came in: what the argument reads as. No walk. -/
import Derived.Test.YtncdglfcegmmgaaLnLaws
import Derived.Deep.Slices
import Derived.Deep.Fields
import Derived.OpenShut
namespace Go.Proofs.Ytncdglfcegmmgaa
open Go.RowKit Go.ChangeShapes Go.WideShapes Go.Deep
set_option linter.unusedVariables false

theorem list_of {α : Type} (n : Nat) (p : Nat → α → Prop) (h : ∀ i, i < n → ∃ a, p i a) : ∃ l : List α, l.length = n ∧ ∀ i a, l[i]? = some a → p i a := by
  induction n with
  | zero => exact ⟨[], rfl, fun i a ha => by cases ha⟩
  | succ n ih =>
    obtain ⟨l, hl, hp⟩ := ih fun i hi => h i (by omega)
    obtain ⟨a, ha⟩ := h n (by omega)
    refine ⟨l ++ [a], by simp [hl], fun i b hb => ?_⟩
    by_cases hi : i < l.length
    · rw [List.getElem?_append_left hi] at hb
      exact hp i b hb
    · rw [List.getElem?_append_right (by omega)] at hb
      have : i - l.length = 0 := by
        rcases Nat.eq_zero_or_pos (i - l.length) with h0 | h0
        · exact h0
        · rw [List.getElem?_eq_none (by simp; omega)] at hb; cases hb
      rw [this] at hb
      simp at hb
      subst hb
      have : i = n := by omega
      subst this
      exact ha
theorem addr_plain {a : Addr} (k : Nat) (h : a.spot = none) : a.add k = ⟨a.block, a.off + k, none⟩ := by
  obtain ⟨b, o, s⟩ := a
  simp only at h
  subst h
  unfold Addr.add
  split <;> simp_all
section
variable {H : Type} {enc : TypeId × Value → H} {P : Program} {w : World} {base : Nat} {sp : Nat → Bool} {held : Bool}
/-- A cell's two cells of memory. -/
theorem open_cel {tC ti ts : TypeId} {f0 f1 : Field} {fuel : Nat} {cs : List Value} {x : DataW H × List MemPlace} (hs : P.underlying tC = some (.struct #[f0, f1])) (hC : P.cellsOf tC = 2) (o0 : f0.offset = 0) (o1 : f1.offset = 1) (t0 : f0.type = ts) (t1 : f1.type = ti)
    (hts : P.underlying ts = some .string) (hti : P.underlying ti = some (.int .i64)) (cS : P.cellsOf ts = 1) (cI : P.cellsOf ti = 1) (h : DataW.trod enc P w base sp held fuel tC cs = some x) : ∃ c : Cel, cs = [.string c.txt, .int .i64 c.wid] ∧ c.txt.size ≤ maxLen := by
  obtain ⟨xs, n, _, _, hlen, hxl, hg⟩ := DataW.trod_struct hs h
  rw [hC] at hlen
  match cs, hlen with
  | [a, b], _ =>
    have h0 := hg 0 f0 rfl
    have h1 := hg 1 f1 rfl
    rw [o0, t0, cS] at h0
    rw [o1, t1, cI] at h1
    have e0 : (([a, b] : List Value).drop 0).take 1 = [a] := rfl
    have e1 : (([a, b] : List Value).drop 1).take 1 = [b] := rfl
    rw [e0] at h0
    rw [e1] at h1
    have hx2 : xs.length = 2 := hxl
    rw [List.getElem?_eq_getElem (by omega)] at h0 h1
    obtain ⟨s, hs1, _, hs2⟩ := DataW.trod_string hts h0
    obtain ⟨m, hm1, _, _⟩ := DataW.trod_int hti h1
    simp only [List.cons.injEq, and_true] at hs1 hm1
    subst hs1; subst hm1
    exact ⟨⟨s, m⟩, rfl, hs2⟩
theorem open_cels {tS tC ti ts : TypeId} {f0 f1 : Field} {fuel : Nat} {cs : List Value} {x : DataW H × List MemPlace} (hS : P.underlying tS = some (.slice tC)) (hs : P.underlying tC = some (.struct #[f0, f1])) (hC : P.cellsOf tC = 2) (o0 : f0.offset = 0) (o1 : f1.offset = 1) (t0 : f0.type = ts) (t1 : f1.type = ti)
    (hts : P.underlying ts = some .string) (hti : P.underlying ti = some (.int .i64)) (cS : P.cellsOf ts = 1) (cI : P.cellsOf ti = 1) (h : DataW.trod enc P w base sp held fuel tS cs = some x) :
    ∃ (v : Value) (l : List Cel), cs = [v] ∧ RdC w v l ∧ l.length ≤ maxLen ∧ ∀ c ∈ l, c.txt.size ≤ maxLen := by
  rcases open_slice hS h with ⟨rfl, _⟩ | ⟨a, len, cap, m, n, D, Pl, rfl, _, hl, hm, hmm, _, hi⟩
  · exact ⟨_, [], rfl, RdC.nil w none 0, Nat.zero_le _, fun c hc => by cases hc⟩
  · have hlm : len ≤ m := by rw [hmm]; split <;> omega
    obtain ⟨l, hll, hp⟩ := list_of len (fun i (c : Cel) => w.cell? (a.add (i * 2)) = some (.string c.txt) ∧ w.cell? (a.add (i * 2 + 1)) = some (.int .i64 c.wid) ∧ c.txt.size ≤ maxLen) (fun i hil => by
      obtain ⟨cs', hc, ht'⟩ := hi i (by omega)
      obtain ⟨c, rfl, hsz⟩ := open_cel hs hC o0 o1 t0 t1 hts hti cS cI ht'
      rw [hC] at hc
      obtain ⟨_, _, hat⟩ := World.cells?_some hc
      refine ⟨c, ?_, ?_, hsz⟩
      · have := hat 0 (by omega)
        rw [Go.Deep.add_add] at this
        exact this
      · have := hat 1 (by omega)
        rw [Go.Deep.add_add] at this
        exact this)
    refine ⟨_, l, rfl, ⟨some a, cap, by rw [hll], fun h0 => ?_⟩, by omega, fun c hc => ?_⟩
    · have h1 := (hp 0 _ (List.getElem?_eq_getElem (by omega))).1
      obtain ⟨b, off, spot⟩ := a
      have hsp : spot = none := by simpa [Addr.add] using World.cell?_spot h1
      subst hsp
      refine ⟨b, off, rfl, ?_, fun j c hj => ?_⟩
      · have := World.block_lt_of_cell? w _ h1
        rw [addr_plain _ rfl] at this
        exact this
      · obtain ⟨p1, p2, _⟩ := hp j c hj
        rw [addr_plain _ rfl] at p1 p2
        exact ⟨p1, by simpa [Nat.add_assoc] using p2⟩
    · obtain ⟨j, hj, rfl⟩ := List.mem_iff_getElem.1 hc
      exact (hp j _ (List.getElem?_eq_getElem hj)).2.2
theorem open_lines {tL tN tS tC ti ts : TypeId} {f0 f1 g0 g1 g2 : Field} {A : Option Addr} {len cap : Nat} {d : DataW H} {ps : List MemPlace}
    (hL : P.underlying tL = some (.slice tN)) (hN : P.underlying tN = some (.struct #[g0, g1, g2])) (hNC : P.cellsOf tN = 4) (q0 : g0.offset = 0) (q1 : g1.offset = 1) (q2 : g2.offset = 3) (r0 : g0.type = tS) (r1 : g1.type = tC) (r2 : g2.type = ti) (cT : P.cellsOf tS = 1)
    (hS : P.underlying tS = some (.slice tC)) (hs : P.underlying tC = some (.struct #[f0, f1])) (hC : P.cellsOf tC = 2) (o0 : f0.offset = 0) (o1 : f1.offset = 1) (t0 : f0.type = ts) (t1 : f1.type = ti)
    (hts : P.underlying ts = some .string) (hti : P.underlying ti = some (.int .i64)) (cS : P.cellsOf ts = 1) (cI : P.cellsOf ti = 1) (h : DataW.Trod enc P w base sp held tL (.slice A len cap) d ps) :
    ∃ ls, RdL w (.slice A len cap) ls ∧ InL ls := by
  obtain ⟨fuel, hf⟩ := h
  rcases open_slice hL hf with ⟨hcs, _⟩ | ⟨a, len', cap', m, n, D, Pl, hcs, _, hl, hm, hmm, _, hi⟩
  · simp [Value.cells] at hcs
    obtain ⟨rfl, rfl, rfl⟩ := hcs
    exact ⟨[], RdL.nil w none 0, Nat.zero_le _, fun l hl => by cases hl⟩
  · simp [Value.cells] at hcs
    obtain ⟨rfl, rfl, rfl⟩ := hcs
    have hlm : len ≤ m := by rw [hmm]; split <;> omega
    obtain ⟨ls, hll, hp⟩ := list_of len (fun i (l : Ln) => (∃ v, w.cell? (a.add (i * 4)) = some v ∧ RdC w v l.cells) ∧ w.cell? (a.add (i * 4 + 1)) = some (.string l.tail.txt) ∧ w.cell? (a.add (i * 4 + 2)) = some (.int .i64 l.tail.wid) ∧ w.cell? (a.add (i * 4 + 3)) = some (.int .i64 l.fin) ∧
        l.cells.length ≤ maxLen ∧ (∀ c ∈ l.cells, c.txt.size ≤ maxLen) ∧ l.tail.txt.size ≤ maxLen) (fun i hil => by
      obtain ⟨cs', hc, ht'⟩ := hi i (by omega)
      rw [hNC] at hc
      obtain ⟨_, hlen, hat⟩ := World.cells?_some hc
      obtain ⟨xs, n', _, _, _, hxl, hg⟩ := DataW.trod_struct hN ht'
      have hx3 : xs.length = 3 := hxl
      match cs', hlen with
      | [c0, c1, c2, c3], _ =>
        have k0 := hg 0 g0 rfl
        have k1 := hg 1 g1 rfl
        have k2 := hg 2 g2 rfl
        rw [q0, r0, cT] at k0
        rw [q1, r1, hC] at k1
        rw [q2, r2, cI] at k2
        have e0 : (([c0, c1, c2, c3] : List Value).drop 0).take 1 = [c0] := rfl
        have e1 : (([c0, c1, c2, c3] : List Value).drop 1).take 2 = [c1, c2] := rfl
        have e2 : (([c0, c1, c2, c3] : List Value).drop 3).take 1 = [c3] := rfl
        rw [e0, List.getElem?_eq_getElem (by omega)] at k0
        rw [e1, List.getElem?_eq_getElem (by omega)] at k1
        rw [e2, List.getElem?_eq_getElem (by omega)] at k2
        obtain ⟨v, l, hv, hr, hb1, hb2⟩ := open_cels hS hs hC o0 o1 t0 t1 hts hti cS cI k0
        obtain ⟨c, hcc, hsz⟩ := open_cel hs hC o0 o1 t0 t1 hts hti cS cI k1
        obtain ⟨z, hz, _, _⟩ := DataW.trod_int hti k2
        simp only [List.cons.injEq, and_true] at hv hcc hz
        obtain ⟨hc1, hc2⟩ := hcc
        subst hv; subst hc1; subst hc2; subst hz
        have a0 := hat 0 (by omega)
        have a1 := hat 1 (by omega)
        have a2 := hat 2 (by omega)
        have a3 := hat 3 (by omega)
        rw [Go.Deep.add_add] at a0 a1 a2 a3
        exact ⟨⟨l, c, z⟩, ⟨_, a0, hr⟩, a1, a2, a3, hb1, hb2, hsz⟩)
    refine ⟨ls, ⟨some a, cap, by rw [hll], fun h0 => ?_⟩, by omega, fun l hl => ?_⟩
    · obtain ⟨v1, h1, _⟩ := (hp 0 _ (List.getElem?_eq_getElem (by omega))).1
      obtain ⟨b, off, spot⟩ := a
      have hsp : spot = none := by simpa [Addr.add] using World.cell?_spot h1
      subst hsp
      refine ⟨b, off, rfl, ?_, fun j c hj => ?_⟩
      · have := World.block_lt_of_cell? w _ h1
        rw [addr_plain _ rfl] at this
        exact this
      · obtain ⟨⟨v, p0, hv⟩, p1, p2, p3, _⟩ := hp j c hj
        rw [addr_plain _ rfl] at p0 p1 p2 p3
        exact ⟨⟨v, p0, hv⟩, by simpa [Nat.add_assoc] using p1, by simpa [Nat.add_assoc] using p2, by simpa [Nat.add_assoc] using p3⟩
    · obtain ⟨j, hj, rfl⟩ := List.mem_iff_getElem.1 hl
      exact (hp j _ (List.getElem?_eq_getElem hj)).2.2.2.2
end
end Go.Proofs.Ytncdglfcegmmgaa
