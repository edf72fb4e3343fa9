/- Lines in memory: what reads as a list of cells, and of lines. No walk. -/
import Derived.Test.YtncdglfcegmmgaaDoorMem
import Derived.Test.YtncdglfcegmmgaaDoorLay
namespace Go.Proofs.YtncdglfcegmmgaaDoor
open Go.RowKit
set_option linter.unusedVariables false

/-- The slice value v reads as the cells l (two cells of memory each). -/
def CelAt (w : World) (g o : Nat) (c : Cel) : Prop := w.cell? ⟨g, o, none⟩ = some (.string c.txt) ∧ w.cell? ⟨g, o + 1, none⟩ = some (.int .i64 c.wid)
def RdC (w : World) (v : Value) (l : List Cel) : Prop :=
  ∃ (A : Option Addr) (cap : Nat), v = .slice A l.length cap ∧ (0 < l.length → ∃ g o, A = some ⟨g, o, none⟩ ∧ g < w.heap.size ∧ ∀ j c, l[j]? = some c → CelAt w g (o + j * 2) c)
/-- The slice value v reads as the lines ls (four cells of memory each). -/
def LnAt (w : World) (g o : Nat) (l : Ln) : Prop :=
  (∃ v, w.cell? ⟨g, o, none⟩ = some v ∧ RdC w v l.cells) ∧ w.cell? ⟨g, o + 1, none⟩ = some (.string l.tail.txt) ∧ w.cell? ⟨g, o + 2, none⟩ = some (.int .i64 l.tail.wid) ∧ w.cell? ⟨g, o + 3, none⟩ = some (.int .i64 l.fin)
def RdL (w : World) (v : Value) (ls : List Ln) : Prop :=
  ∃ (A : Option Addr) (cap : Nat), v = .slice A ls.length cap ∧ (0 < ls.length → ∃ g o, A = some ⟨g, o, none⟩ ∧ g < w.heap.size ∧ ∀ j l, ls[j]? = some l → LnAt w g (o + j * 4) l)
theorem CelAt.keep {w w' : World} {g o : Nat} {c : Cel} (h : CelAt w g o c) (hk : ∀ p : Addr, p.block < w.heap.size → w'.cell? p = w.cell? p) (hg : g < w.heap.size) : CelAt w' g o c := ⟨(hk _ hg).trans h.1, (hk _ hg).trans h.2⟩
theorem RdC.keep {w w' : World} {v : Value} {l : List Cel} (h : RdC w v l) (hs : w.heap.size ≤ w'.heap.size) (hk : ∀ p : Addr, p.block < w.heap.size → w'.cell? p = w.cell? p) : RdC w' v l := by
  obtain ⟨A, c, hv, hc⟩ := h
  refine ⟨A, c, hv, fun h0 => ?_⟩
  obtain ⟨g, o, hA, hg, hcell⟩ := hc h0
  exact ⟨g, o, hA, by omega, fun j u hu => (hcell j u hu).keep hk hg⟩
theorem RdL.keep {w w' : World} {v : Value} {ls : List Ln} (h : RdL w v ls) (hs : w.heap.size ≤ w'.heap.size) (hk : ∀ p : Addr, p.block < w.heap.size → w'.cell? p = w.cell? p) : RdL w' v ls := by
  obtain ⟨A, c, hv, hc⟩ := h
  refine ⟨A, c, hv, fun h0 => ?_⟩
  obtain ⟨g, o, hA, hg, hcell⟩ := hc h0
  refine ⟨g, o, hA, by omega, fun j u hu => ?_⟩
  obtain ⟨⟨vc, h1, h2⟩, h3, h4, h5⟩ := hcell j u hu
  exact ⟨⟨vc, (hk _ hg).trans h1, h2.keep hs hk⟩, (hk _ hg).trans h3, (hk _ hg).trans h4, (hk _ hg).trans h5⟩
theorem RdC.below {w w' : World} {v : Value} {l : List Cel} (h : RdC w v l) (hb : Below w.heap.size w w') : RdC w' v l := h.keep hb.size fun _ hp => hb.cell hp
theorem RdL.below {w w' : World} {v : Value} {ls : List Ln} (h : RdL w v ls) (hb : Below w.heap.size w w') : RdL w' v ls := h.keep hb.size fun _ hp => hb.cell hp
theorem RdC.nil (w : World) (A : Option Addr) (c : Nat) : RdC w (.slice A 0 c) [] := ⟨A, c, rfl, fun h => absurd h (by decide)⟩
theorem RdL.nil (w : World) (A : Option Addr) (c : Nat) : RdL w (.slice A 0 c) [] := ⟨A, c, rfl, fun h => absurd h (by decide)⟩
/-- .. and lies in a block from B on. -/
def RdCB (B : Nat) (w : World) (v : Value) (l : List Cel) : Prop :=
  ∃ (A : Option Addr) (cap : Nat), v = .slice A l.length cap ∧ (0 < l.length → ∃ g o, A = some ⟨g, o, none⟩ ∧ B ≤ g ∧ g < w.heap.size ∧ ∀ j c, l[j]? = some c → CelAt w g (o + j * 2) c)
theorem RdCB.rd {B : Nat} {w : World} {v : Value} {l : List Cel} (h : RdCB B w v l) : RdC w v l := by
  obtain ⟨A, c, hv, hc⟩ := h
  exact ⟨A, c, hv, fun h0 => (let ⟨g, o, h1, _, h2, h3⟩ := hc h0; ⟨g, o, h1, h2, h3⟩)⟩
theorem RdCB.keep {B : Nat} {w w' : World} {v : Value} {l : List Cel} (h : RdCB B w v l) (hs : w.heap.size ≤ w'.heap.size) (hk : ∀ p : Addr, B ≤ p.block → p.block < w.heap.size → w'.cell? p = w.cell? p) : RdCB B w' v l := by
  obtain ⟨A, c, hv, hc⟩ := h
  refine ⟨A, c, hv, fun h0 => ?_⟩
  obtain ⟨g, o, hA, hB, hg, hcell⟩ := hc h0
  exact ⟨g, o, hA, hB, by omega, fun j u hu => ⟨(hk _ hB hg).trans (hcell j u hu).1, (hk _ hB hg).trans (hcell j u hu).2⟩⟩
theorem RdCB.below {B : Nat} {w w' : World} {v : Value} {l : List Cel} (h : RdCB B w v l) (hb : Below w.heap.size w w') : RdCB B w' v l := h.keep hb.size fun _ _ hp => hb.cell hp
theorem RdCB.mono {B B' : Nat} {w : World} {v : Value} {l : List Cel} (h : RdCB B w v l) (hB : B' ≤ B) : RdCB B' w v l := by
  obtain ⟨A, c, hv, hc⟩ := h
  exact ⟨A, c, hv, fun h0 => (let ⟨g, o, h1, h4, h2, h3⟩ := hc h0; ⟨g, o, h1, Nat.le_trans hB h4, h2, h3⟩)⟩
/-- The first k of n cells have been filled in. -/
def MadeC (cs : Array Value) (l : List Cel) (k n : Nat) : Prop :=
  cs.size = n * 2 ∧ ∀ j c, j < k → l[j]? = some c → cs[j * 2]? = some (.string c.txt) ∧ cs[j * 2 + 1]? = some (.int .i64 c.wid)
theorem MadeC.step {cs : Array Value} {l : List Cel} {k n : Nat} (h : MadeC cs l k n) (hk : k < n) (c : Cel) (hc : l[k]? = some c) : MadeC ((cs.setIfInBounds (k * 2) (.string c.txt)).setIfInBounds (k * 2 + 1) (.int .i64 c.wid)) l (k + 1) n := by
  obtain ⟨h1, h2⟩ := h
  refine ⟨by simpa using h1, fun j d hj hd => ?_⟩
  simp only [Array.getElem?_setIfInBounds, Array.size_setIfInBounds]
  by_cases hjk : j = k
  · subst hjk
    rw [hc] at hd
    injection hd with hd
    subst hd
    have e1 : j * 2 < cs.size := by omega
    have e2 : j * 2 + 1 < cs.size := by omega
    simp [e1, e2]
  · have hlt : j < k := by omega
    obtain ⟨a, b⟩ := h2 j d hlt hd
    have e1 : k * 2 + 1 ≠ j * 2 := by omega
    have e2 : k * 2 ≠ j * 2 := by omega
    have e4 : k * 2 ≠ j * 2 + 1 := by omega
    simp [e1, e2, e4, a, b]
/-- The first k of n lines have been filled in. -/
def MadeL (B : Nat) (w : World) (cs : Array Value) (ls : List Ln) (k n : Nat) : Prop :=
  cs.size = n * 4 ∧ ∀ j l, j < k → ls[j]? = some l → (∃ v, cs[j * 4]? = some v ∧ RdCB B w v l.cells) ∧ cs[j * 4 + 1]? = some (.string l.tail.txt) ∧ cs[j * 4 + 2]? = some (.int .i64 l.tail.wid) ∧ cs[j * 4 + 3]? = some (.int .i64 l.fin)
theorem MadeL.keep {B : Nat} {w w' : World} {cs : Array Value} {ls : List Ln} {k n : Nat} (h : MadeL B w cs ls k n) (hs : w.heap.size ≤ w'.heap.size) (hk : ∀ p : Addr, B ≤ p.block → p.block < w.heap.size → w'.cell? p = w.cell? p) : MadeL B w' cs ls k n :=
  ⟨h.1, fun j l hj hl => (let ⟨⟨v, h1, h2⟩, h3⟩ := h.2 j l hj hl; ⟨⟨v, h1, h2.keep hs hk⟩, h3⟩)⟩
theorem MadeL.step {B : Nat} {w : World} {cs : Array Value} {ls : List Ln} {k n : Nat} (h : MadeL B w cs ls k n) (hk : k < n) (l : Ln) (hl : ls[k]? = some l) (v : Value) (hv : RdCB B w v l.cells) :
    MadeL B w ((((cs.setIfInBounds (k * 4) v).setIfInBounds (k * 4 + 1) (.string l.tail.txt)).setIfInBounds (k * 4 + 2) (.int .i64 l.tail.wid)).setIfInBounds (k * 4 + 3) (.int .i64 l.fin)) ls (k + 1) n := by
  obtain ⟨h1, h2⟩ := h
  refine ⟨by simpa using h1, fun j d hj hd => ?_⟩
  simp only [Array.getElem?_setIfInBounds, Array.size_setIfInBounds]
  by_cases hjk : j = k
  · subst hjk
    rw [hl] at hd
    injection hd with hd
    subst hd
    have e0 : j * 4 < cs.size := by omega
    have e1 : j * 4 + 1 < cs.size := by omega
    have e2 : j * 4 + 2 < cs.size := by omega
    have e3 : j * 4 + 3 < cs.size := by omega
    refine ⟨⟨v, by simp [e0], hv⟩, by simp [e1], by simp [e2], by simp [e3]⟩
  · have hlt : j < k := by omega
    obtain ⟨⟨u, a, hu⟩, b, c, e⟩ := h2 j d hlt hd
    refine ⟨⟨u, ?_, hu⟩, ?_, ?_, ?_⟩
    · rw [if_neg (by omega), if_neg (by omega), if_neg (by omega), if_neg (by omega)]; exact a
    · rw [if_neg (by omega), if_neg (by omega), if_neg (by omega), if_neg (by omega)]; exact b
    · rw [if_neg (by omega), if_neg (by omega), if_neg (by omega), if_neg (by omega)]; exact c
    · rw [if_neg (by omega), if_neg (by omega), if_neg (by omega), if_neg (by omega)]; exact e
theorem MadeC.rd {B g : Nat} {W : World} {T : TypeId} {cs : Array Value} {l : List Cel} {n : Nat} (h : MadeC cs l n n) (hn : l.length = n) (hb : Blk W g T cs) (hB : B ≤ g) (cap : Nat) : RdCB B W (.slice (some ⟨g, 0, none⟩) n cap) l := by
  refine ⟨_, cap, by rw [hn], fun _ => ⟨g, 0, rfl, hB, hb.lt, fun j c hj => ?_⟩⟩
  have hjn : j < n := by
    rcases Nat.lt_or_ge j n with h | h
    · exact h
    · rw [List.getElem?_eq_none (by omega)] at hj; cases hj
  obtain ⟨a, b⟩ := h.2 j c hjn hj
  exact ⟨by rw [hb.cell, Nat.zero_add]; exact a, by rw [hb.cell, Nat.zero_add]; exact b⟩
theorem MadeL.rd {B g : Nat} {W : World} {T : TypeId} {cs : Array Value} {ls : List Ln} {n : Nat} (h : MadeL B W cs ls n n) (hn : ls.length = n) (hb : Blk W g T cs) (cap : Nat) : RdL W (.slice (some ⟨g, 0, none⟩) n cap) ls := by
  refine ⟨_, cap, by rw [hn], fun _ => ⟨g, 0, rfl, hb.lt, fun j l hj => ?_⟩⟩
  have hjn : j < n := by
    rcases Nat.lt_or_ge j n with h | h
    · exact h
    · rw [List.getElem?_eq_none (by omega)] at hj; cases hj
  obtain ⟨⟨v, a, hv⟩, b, c, d⟩ := h.2 j l hjn hj
  refine ⟨⟨v, ?_, hv.rd⟩, ?_, ?_, ?_⟩
  · rw [hb.cell, Nat.zero_add]; exact a
  · rw [hb.cell, Nat.zero_add]; exact b
  · rw [hb.cell, Nat.zero_add]; exact c
  · rw [hb.cell, Nat.zero_add]; exact d
/-- All the bytes and places of a list of cells, of a list of lines. -/
def totC : List Cel → Nat
  | [] => 0
  | c :: r => c.txt.size + totC r
def totL : List Ln → Nat
  | [] => 0
  | l :: r => (l.cells.length + totC l.cells + l.tail.txt.size) + totL r
theorem totC_mem (l : List Cel) (c : Cel) (h : c ∈ l) : c.txt.size ≤ totC l := by
  induction l with
  | nil => cases h
  | cons y r ih =>
    cases h with
    | head => simp only [totC]; omega
    | tail _ h => have := ih h; simp only [totC]; omega
theorem totL_mem (ls : List Ln) (l : Ln) (h : l ∈ ls) : l.cells.length + totC l.cells + l.tail.txt.size ≤ totL ls := by
  induction ls with
  | nil => cases h
  | cons y r ih =>
    cases h with
    | head => simp only [totL]; omega
    | tail _ h => have := ih h; simp only [totL]; omega
theorem totC_drop (l : List Cel) (k : Nat) (h : k < l.length) : totC (l.drop k) = l[k].txt.size + totC (l.drop (k + 1)) := by
  rw [List.drop_eq_getElem_cons h]; rfl
theorem totL_drop (l : List Ln) (k : Nat) (h : k < l.length) : totL (l.drop k) = (l[k].cells.length + totC l[k].cells + l[k].tail.txt.size) + totL (l.drop (k + 1)) := by
  rw [List.drop_eq_getElem_cons h]; rfl
/-- Numbers fit. -/
def FitL (ls : List Ln) : Prop := ls.length ≤ 1048576 ∧ totL ls ≤ 1048576
def FitW (ls : List Ln) : Prop := ls.length ≤ 100000000 ∧ totL ls ≤ 100000000
theorem FitL.wide {ls : List Ln} (h : FitL ls) : FitW ls := ⟨Nat.le_trans h.1 (by omega), Nat.le_trans h.2 (by omega)⟩
/-- What a make gives: a block known whole. -/
theorem own_blk {w : World} {base : Nat} {e : TypeId} {size g n c : Nat} {xs : List Value} (h : w.ownsRow base e size (.slice (some ⟨g, 0, none⟩) n c) n xs) (hc : c = n) : ∃ cs, Blk w g e cs ∧ cs.toList = xs ∧ base ≤ g := by
  subst hc
  rcases h.2 with ⟨h', _⟩ | ⟨g', cap', cur, h', hb, hg, hnc, hcm, hcs, htake⟩
  · simp at h'
  · simp only [Value.slice.injEq, Option.some.injEq, Addr.mk.injEq, and_true, true_and] at h'
    obtain ⟨rfl, rfl⟩ := h'
    refine ⟨cur, hg, ?_, hb⟩
    rw [List.take_of_length_le (by simp [hcs])] at htake
    exact htake
/-- What came in fits: numbers of places, and texts. -/
def InL (ls : List Ln) : Prop := ls.length ≤ maxLen ∧ ∀ l ∈ ls, l.cells.length ≤ maxLen ∧ (∀ c ∈ l.cells, c.txt.size ≤ maxLen) ∧ l.tail.txt.size ≤ maxLen
end Go.Proofs.YtncdglfcegmmgaaDoor
