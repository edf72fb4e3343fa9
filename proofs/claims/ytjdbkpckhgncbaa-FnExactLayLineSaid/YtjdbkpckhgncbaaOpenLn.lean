/- A line that came in by value, numbers that came in: what they read as. No walk. -/
import Derived.Test.YtjdbkpckhgncbaaBB
import Derived.Test.YtjdbkpckhgncbaaBA
namespace Go.Proofs.Ytjdbkpckhgncbaa
open Go.RowKit Go.ChangeShapes Go.WideShapes Go.Deep
set_option linter.unusedVariables false

section
variable {H : Type} {enc : TypeId × Value → H} {P : Program} {w : World} {base : Nat} {sp : Nat → Bool} {held : Bool}
theorem wf_le {n : Int} (h : (Lit.int .i64 n).wf = true) : n ≤ 9223372036854775807 := by
  have : (Lit.int .i64 n).wf = true := h
  simp [Lit.wf, IntKind.min, IntKind.max, IntKind.signed, IntKind.bits] at this
  omega
theorem open_celW {tC ti ts : TypeId} {f0 f1 : Field} {fuel : Nat} {cs : List Value} {x : DataW H × List MemPlace} (hs : P.underlying tC = some (.struct #[f0, f1])) (hC : P.cellsOf tC = 2) (o0 : f0.offset = 0) (o1 : f1.offset = 1) (t0 : f0.type = ts) (t1 : f1.type = ti)
    (hts : P.underlying ts = some .string) (hti : P.underlying ti = some (.int .i64)) (cS : P.cellsOf ts = 1) (cI : P.cellsOf ti = 1) (h : DataW.trod enc P w base sp held fuel tC cs = some x) : ∃ c : Cel, cs = [.string c.txt, .int .i64 c.wid] ∧ c.txt.size ≤ maxLen ∧ c.wid ≤ 9223372036854775807 := by
  obtain ⟨xs, n, _, _, hlen, hxl, hg⟩ := DataW.trod_struct hs h
  rw [hC] at hlen
  match cs, hlen with
  | [a, b], _ =>
    have h0 := hg 0 f0 rfl
    have h1 := hg 1 f1 rfl
    rw [o0, t0, cS] at h0
    rw [o1, t1, cI] at h1
    have e0 : (([a, b] : List Value).drop 0).take 1 = [a] := rfl
    have e1 : (([a, b] : List Value).drop 1).take 1 = [b] := rfl
    rw [e0] at h0
    rw [e1] at h1
    have hx2 : xs.length = 2 := hxl
    rw [List.getElem?_eq_getElem (by omega)] at h0 h1
    obtain ⟨s, hs1, _, hs2⟩ := DataW.trod_string hts h0
    obtain ⟨m, hm1, _, hm2⟩ := DataW.trod_int hti h1
    simp only [List.cons.injEq, and_true] at hs1 hm1
    subst hs1; subst hm1
    exact ⟨⟨s, m⟩, rfl, hs2, wf_le hm2⟩
theorem open_celsW {tS tC ti ts : TypeId} {f0 f1 : Field} {fuel : Nat} {cs : List Value} {x : DataW H × List MemPlace} (hS : P.underlying tS = some (.slice tC)) (hs : P.underlying tC = some (.struct #[f0, f1])) (hC : P.cellsOf tC = 2) (o0 : f0.offset = 0) (o1 : f1.offset = 1) (t0 : f0.type = ts) (t1 : f1.type = ti)
    (hts : P.underlying ts = some .string) (hti : P.underlying ti = some (.int .i64)) (cS : P.cellsOf ts = 1) (cI : P.cellsOf ti = 1) (h : DataW.trod enc P w base sp held fuel tS cs = some x) :
    ∃ (v : Value) (l : List Cel), cs = [v] ∧ RdC w v l ∧ l.length ≤ maxLen ∧ ∀ c ∈ l, c.txt.size ≤ maxLen ∧ c.wid ≤ 9223372036854775807 := by
  rcases open_slice hS h with ⟨rfl, _⟩ | ⟨a, len, cap, m, n, D, Pl, rfl, _, hl, hm, hmm, _, hi⟩
  · exact ⟨_, [], rfl, RdC.nil w none 0, Nat.zero_le _, fun c hc => by cases hc⟩
  · have hlm : len ≤ m := by rw [hmm]; split <;> omega
    obtain ⟨l, hll, hp⟩ := list_of len (fun i (c : Cel) => w.cell? (a.add (i * 2)) = some (.string c.txt) ∧ w.cell? (a.add (i * 2 + 1)) = some (.int .i64 c.wid) ∧ c.txt.size ≤ maxLen ∧ c.wid ≤ 9223372036854775807) (fun i hil => by
      obtain ⟨cs', hc, ht'⟩ := hi i (by omega)
      obtain ⟨c, rfl, hsz⟩ := open_celW hs hC o0 o1 t0 t1 hts hti cS cI ht'
      rw [hC] at hc
      obtain ⟨_, _, hat⟩ := World.cells?_some hc
      refine ⟨c, ?_, ?_, hsz⟩
      · have := hat 0 (by omega)
        rw [Go.Deep.add_add] at this
        exact this
      · have := hat 1 (by omega)
        rw [Go.Deep.add_add] at this
        exact this)
    refine ⟨_, l, rfl, ⟨some a, cap, by rw [hll], fun h0 => ?_⟩, by omega, fun c hc => ?_⟩
    · have h1 := (hp 0 _ (List.getElem?_eq_getElem (by omega))).1
      obtain ⟨b, off, spot⟩ := a
      have hsp : spot = none := by simpa [Addr.add] using World.cell?_spot h1
      subst hsp
      refine ⟨b, off, rfl, ?_, fun j c hj => ?_⟩
      · have := World.block_lt_of_cell? w _ h1
        rw [addr_plain _ rfl] at this
        exact this
      · obtain ⟨p1, p2, _⟩ := hp j c hj
        rw [addr_plain _ rfl] at p1 p2
        exact ⟨p1, by simpa [Nat.add_assoc] using p2⟩
    · obtain ⟨j, hj, rfl⟩ := List.mem_iff_getElem.1 hc
      exact (hp j _ (List.getElem?_eq_getElem hj)).2.2
/-- A line by value. -/
theorem open_line {r : Reach} {b0 : Nat} {tN tS tC ti ts : TypeId} {f0 f1 g0 g1 g2 : Field} {v : Value} {d : DataW H} {ps : List MemPlace}
    (hN : P.underlying tN = some (.struct #[g0, g1, g2])) (hNC : P.cellsOf tN = 4) (q0 : g0.offset = 0) (q1 : g1.offset = 1) (q2 : g2.offset = 3) (r0 : g0.type = tS) (r1 : g1.type = tC) (r2 : g2.type = ti) (cT : P.cellsOf tS = 1)
    (hS : P.underlying tS = some (.slice tC)) (hs : P.underlying tC = some (.struct #[f0, f1])) (hC : P.cellsOf tC = 2) (o0 : f0.offset = 0) (o1 : f1.offset = 1) (t0 : f0.type = ts) (t1 : f1.type = ti)
    (hts : P.underlying ts = some .string) (hti : P.underlying ti = some (.int .i64)) (cS : P.cellsOf ts = 1) (cI : P.cellsOf ti = 1) (hv : Value.okWide P w r b0 tN v) (h : DataW.Trod enc P w base sp held tN v d ps) :
    ∃ (l : List Cel) (va : Value) (x : ByteArray) (m f : Int), v = .agg #[va, .string x, .int .i64 m, .int .i64 f] ∧ RdC w va l ∧ l.length ≤ maxLen ∧ (∀ c ∈ l, c.txt.size ≤ maxLen ∧ c.wid ≤ 9223372036854775807) ∧ x.size ≤ maxLen := by
  obtain ⟨cs, rfl, hsz⟩ := okWide_struct hN hv
  obtain ⟨cl⟩ := cs
  match cl, hsz.trans hNC with
  | [c0, c1, c2, c3], _ =>
    obtain ⟨fuel, hf⟩ := h
    obtain ⟨xs, n', _, _, _, hxl, hg⟩ := DataW.trod_struct hN hf
    have hx3 : xs.length = 3 := hxl
    have k0 := hg 0 g0 rfl
    have k1 := hg 1 g1 rfl
    have k2 := hg 2 g2 rfl
    rw [q0, r0, cT] at k0
    rw [q1, r1, hC] at k1
    rw [q2, r2, cI] at k2
    have e0 : ((Value.agg { toList := [c0, c1, c2, c3] }).cells.toList.drop 0).take 1 = [c0] := rfl
    have e1 : ((Value.agg { toList := [c0, c1, c2, c3] }).cells.toList.drop 1).take 2 = [c1, c2] := rfl
    have e2 : ((Value.agg { toList := [c0, c1, c2, c3] }).cells.toList.drop 3).take 1 = [c3] := rfl
    rw [e0, List.getElem?_eq_getElem (by omega)] at k0
    rw [e1, List.getElem?_eq_getElem (by omega)] at k1
    rw [e2, List.getElem?_eq_getElem (by omega)] at k2
    obtain ⟨va, l, hv, hr, hb1, hb2⟩ := open_celsW hS hs hC o0 o1 t0 t1 hts hti cS cI k0
    obtain ⟨c, hcc, hsz9, _⟩ := open_celW hs hC o0 o1 t0 t1 hts hti cS cI k1
    obtain ⟨z, hz, _, _⟩ := DataW.trod_int hti k2
    simp only [List.cons.injEq, and_true] at hv hcc hz
    obtain ⟨hc1, hc2⟩ := hcc
    subst hv; subst hc1; subst hc2; subst hz
    exact ⟨l, _, _, _, _, rfl, hr, hb1, hb2, hsz9⟩
/-- Numbers. -/
theorem open_nums {t e : TypeId} {A : Option Addr} {len cap : Nat} {d : DataW H} {ps : List MemPlace}
    (ht : P.underlying t = some (.slice e)) (he : P.underlying e = some (.int .i64)) (hc : P.cellsOf e = 1) (h : DataW.Trod enc P w base sp held t (.slice A len cap) d ps) : ∃ xs : List Int, xs.length = len ∧ Rd w (.slice A len cap) (ints xs) ∧ len ≤ maxLen := by
  obtain ⟨fuel, hf⟩ := h
  rcases _root_.Go.ChangeShapes.open_ints ht he hc hf with ⟨hcs, _⟩ | ⟨a, l, c, zs, hcs, _, hl, hm, hz, _, hcell, hwz⟩
  · simp [Value.cells] at hcs
    obtain ⟨rfl, rfl, rfl⟩ := hcs
    exact ⟨[], rfl, ⟨none, 0, rfl, fun h0 => absurd h0 (by simp [ints])⟩, Nat.zero_le _⟩
  · simp [Value.cells] at hcs
    obtain ⟨rfl, rfl, rfl⟩ := hcs
    have hzl : len ≤ zs.length := by rw [hz]; split <;> omega
    have htl : (zs.take len).length = len := by rw [List.length_take]; omega
    refine ⟨zs.take len, htl, ⟨some a, cap, by rw [ints_length, htl], fun h0 => ?_⟩, by omega⟩
    rw [ints_length, htl] at h0
    have hc0 := hcell 0 (by omega)
    obtain ⟨b, off, spot⟩ := a
    have hspot : spot = none := by simpa [Addr.add] using World.cell?_spot hc0
    subst hspot
    refine ⟨b, off, rfl, by simpa [Addr.add] using World.block_lt_of_cell? w _ hc0, fun j u hu => ?_⟩
    have hj : j < len := by
      rcases Nat.lt_or_ge j len with h | h
      · exact h
      · rw [List.getElem?_eq_none (by rw [ints_length, htl]; exact h)] at hu; cases hu
    have hcj := hcell j (by omega)
    have hadd : (⟨b, off, none⟩ : Addr).add j = ⟨b, off + j, none⟩ := by unfold Addr.add; split <;> simp_all
    rw [hadd] at hcj
    rw [hcj, ← hu, ints_get _ j (by omega), List.getElem_take, List.getD_eq_getElem?_getD, List.getElem?_eq_getElem (by omega)]
    rfl
end
end Go.Proofs.Ytjdbkpckhgncbaa
