/- How wide a line of a layout is: plain words. No walk. -/
import Derived.Test.YtjdbkpckhgncbaaDoorSlots
import Derived.Test.YtjdbkpckhgncbaaDoorWidLay
import Derived.Test.YtjdbkpckhgncbaaDoorWidthMath
import Derived.Test.YtjdbkpckhgncbaaDoorBA
import Derived.Test.YtjdbkpckhgncbaaDoorBC
import Derived.Test.YtjdbkpckhgncbaaDoorBB
namespace Go.Proofs.YtjdbkpckhgncbaaDoor
open Go.RowKit
set_option linter.unusedVariables false

/-- The width of a list of bytes. -/
def tw (l : List UInt8) : Nat := textW ⟨l.toArray⟩
/-- It begins with no continuation byte. -/
def plainL : List UInt8 → Prop
  | [] => True
  | x :: _ => ¬ (128 ≤ x.toNat ∧ x.toNat ≤ 191)
theorem by8_list (l : List UInt8) (i : Nat) (h : i < l.length) : by8 ⟨l.toArray⟩ i = (l[i]).toNat := by
  rw [by8_of _ i (by show i < l.toArray.size; simpa using h)]
  rfl
theorem tw_append (a b : List UInt8) (h : plainL b) : tw (a ++ b) = tw a + tw b := by
  have e : (⟨(a ++ b).toArray⟩ : ByteArray) = ⟨a.toArray⟩ ++ ⟨b.toArray⟩ := by
    apply ByteArray.ext
    simp
  unfold tw textW
  rw [e, runes_append_plain, widthL_append]
  intro hx
  cases b with
  | nil => exact absurd hx (by decide)
  | cons x r => rw [by8_list (x :: r) 0 (by simp)]; exact h
theorem tw_one (x : UInt8) (h : x.toNat < 128) : tw [x] = rw1 ((x.toNat : Nat) : Int) := by
  have hs : (⟨[x].toArray⟩ : ByteArray).size = 1 := rfl
  have hb : by8 ⟨[x].toArray⟩ 0 = x.toNat := by8_list [x] 0 (by simp)
  have c0 : ch ⟨[x].toArray⟩ 0 = ((x.toNat : Int), 1) := by rw [ch_low _ 0 (by rw [hb]; exact h), hb]
  unfold tw textW runesB
  rw [runesFrom_yes _ 0 (by rw [hs]; omega), c0]
  simp only [Nat.zero_add]
  rw [runesFrom_no _ _ (by rw [hs]; omega)]
  simp [widthL]
theorem tw_nil : tw [] = 0 := by
  unfold tw textW runesB
  rw [runesFrom_no _ 0 (by decide)]
  rfl
theorem tw_dots : ∀ n, tw (List.replicate n 46) = n
  | 0 => tw_nil
  | n + 1 => by
    have h1 : tw [46] = 1 := by rw [tw_one 46 (by decide)]; decide
    have hp : plainL (List.replicate n 46) := by
      cases n with
      | zero => trivial
      | succ n => show ¬ (128 ≤ (46 : UInt8).toNat ∧ _); decide
    rw [List.replicate_succ, ← List.singleton_append, tw_append _ _ hp, h1, tw_dots n]
    omega
theorem plain_append {a b : List UInt8} (ha : plainL a) (hb : plainL b) : plainL (a ++ b) := by
  cases a with
  | nil => exact hb
  | cons x r => exact ha
/-! ### pieces of a text begin with no continuation byte -/
theorem by8_out (s : ByteArray) (i : Nat) (h : ¬ i < s.size) : by8 s i = 0 := by
  have h' : s.data.size ≤ i := by show s.size ≤ i; omega
  obtain ⟨bs⟩ := s
  show (bs[i]!).toNat = 0
  rw [Array.getElem!_eq_getD, Array.getD_eq_getD_getElem?, Array.getElem?_eq_none h']
  rfl
theorem ch_cont (s : ByteArray) (i : Nat) (h : 128 ≤ by8 s i ∧ by8 s i ≤ 191) : (ch s i).1 = -1 := by
  rcases Nat.lt_or_ge i s.size with hi | hi
  · by_cases hg : (ch s i).1 = -1
    · exact hg
    · obtain ⟨h1, v, _, _, _, _, h2, _⟩ := ch_good s i hi hg
      rcases needs_inv (by8 s i) with h3 | h3 | h3 | h3 | h3
      · exact absurd h3 h2
      · omega
      · omega
      · omega
      · omega
  · rw [by8_out s i (by omega)] at h
    omega
def goodL : List UInt8 → Bool → Prop
  | [], _ => True
  | x :: r, fresh => (fresh = true → ¬ (128 ≤ x.toNat ∧ x.toNat ≤ 191)) ∧ goodL r (decide (x = 9) || decide (x = 10) || decide (x = 12))
theorem good_text (b : Bool) : ∀ (l p : List UInt8), (runesB ⟨(p ++ l).toArray⟩).contains (-1) = false → (b = true → ∀ q x, p = q ++ [x] → x.toNat < 128) → goodL l b
  | [], _, _, _ => trivial
  | x :: r, p, ht, hb => by
    refine ⟨fun hbt hc => ?_, ?_⟩
    · -- a continuation byte behind a small one, or at the start
      have key : -1 ∈ runesB ⟨(p ++ x :: r).toArray⟩ := by
        rcases List.eq_nil_or_concat p with hp | ⟨q, y, hp⟩
        · subst hp
          have hx : by8 ⟨(x :: r).toArray⟩ 0 = x.toNat := by8_list (x :: r) 0 (by simp)
          have hm := ch_cont ⟨(x :: r).toArray⟩ 0 (by rw [hx]; exact hc)
          unfold runesB
          rw [List.nil_append, runesFrom_yes _ 0 (by show 0 < (x :: r).toArray.size; simp), hm]
          exact List.mem_cons_self ..
        · rw [List.concat_eq_append] at hp
          have hy := hb hbt q y hp
          have e : (⟨(p ++ x :: r).toArray⟩ : ByteArray) = ⟨q.toArray⟩ ++ ⟨(y :: x :: r).toArray⟩ := by
            rw [hp]
            apply ByteArray.ext
            simp
          have h0 : by8 ⟨(y :: x :: r).toArray⟩ 0 = y.toNat := by8_list (y :: x :: r) 0 (by simp)
          have h1 : by8 ⟨(y :: x :: r).toArray⟩ 1 = x.toNat := by8_list (y :: x :: r) 1 (by simp)
          have c0 : ch ⟨(y :: x :: r).toArray⟩ 0 = ((y.toNat : Int), 1) := by rw [ch_low _ 0 (by rw [h0]; exact hy), h0]
          have c1 := ch_cont ⟨(y :: x :: r).toArray⟩ 1 (by rw [h1]; exact hc)
          rw [e, runes_append_plain _ _ (fun _ => by rw [h0]; omega)]
          refine List.mem_append_right _ ?_
          unfold runesB
          rw [runesFrom_yes _ 0 (by show 0 < (y :: x :: r).toArray.size; simp), c0]
          refine List.mem_cons_of_mem _ ?_
          simp only [Nat.zero_add]
          rw [runesFrom_yes _ 1 (by show 1 < (y :: x :: r).toArray.size; simp), c1]
          exact List.mem_cons_self ..
      rw [List.contains_iff_mem.2 key] at ht
      cases ht
    · refine good_text _ r (p ++ [x]) (by rw [List.append_assoc]; exact ht) (fun h q y hq => ?_)
      have hxy : x = y := by
        have := congrArg List.getLast? hq
        simpa using this
      subst hxy
      simp only [Bool.or_eq_true, decide_eq_true_eq] at h
      rcases h with (h | h) | h <;> rw [h] <;> decide
theorem run_plain (W : ByteArray → Int) : ∀ (t : List UInt8) (s : Sp), s.raw = false → goodL t s.buf.isEmpty → plainL s.buf → (∀ x ∈ s.cells, plainL x.txt.data.toList) → (∀ l ∈ s.outs, (∀ x ∈ l.cells, plainL x.txt.data.toList) ∧ plainL l.tail.txt.data.toList) →
    plainL (spRun false W s t).buf ∧ (∀ x ∈ (spRun false W s t).cells, plainL x.txt.data.toList) ∧ (∀ l ∈ (spRun false W s t).outs, (∀ x ∈ l.cells, plainL x.txt.data.toList) ∧ plainL l.tail.txt.data.toList)
  | [], s, _, _, h1, h2, h3 => ⟨h1, h2, h3⟩
  | x :: t, s, hr, hg, h1, h2, h3 => by
    obtain ⟨g1, g2⟩ := hg
    rw [spRun_cons]
    obtain ⟨o, raw, cs, b⟩ := s
    simp only at hr h1 h2 h3 g1
    subst hr
    have hcel : plainL (celOf W b).txt.data.toList := h1
    by_cases h9 : x = 9
    · have e : spStep false W ⟨o, false, cs, b⟩ x = ⟨o, false, cs ++ [celOf W b], []⟩ := by unfold spStep; simp [h9]
      rw [e]
      refine run_plain W t _ rfl ?_ trivial ?_ h3
      · have : (decide (x = 9) || decide (x = 10) || decide (x = 12)) = true := by simp [h9]
        rw [this] at g2
        exact g2
      · intro y hy
        rcases List.mem_append.1 hy with hy | hy
        · exact h2 y hy
        · rw [List.mem_singleton] at hy
          subst hy
          exact hcel
    · by_cases hn : x = 10 ∨ x = 12
      · have e : spStep false W ⟨o, false, cs, b⟩ x = ⟨o ++ [⟨cs, celOf W b, (x.toNat : Int)⟩], false, [], []⟩ := by
          unfold spStep
          rcases hn with hn | hn <;> simp [hn]
        rw [e]
        refine run_plain W t _ rfl ?_ trivial (fun y hy => by cases hy) ?_
        · have : (decide (x = 9) || decide (x = 10) || decide (x = 12)) = true := by rcases hn with hn | hn <;> simp [hn]
          rw [this] at g2
          exact g2
        · intro l hl
          rcases List.mem_append.1 hl with hl | hl
          · exact h3 l hl
          · rw [List.mem_singleton] at hl
            subst hl
            exact ⟨h2, hcel⟩
      · have h10 : ¬ x = 10 := fun h => hn (.inl h)
        have h12 : ¬ x = 12 := fun h => hn (.inr h)
        have e : spStep false W ⟨o, false, cs, b⟩ x = ⟨o, false, cs, b ++ [x]⟩ := by unfold spStep; simp [h9, h10, h12]
        rw [e]
        refine run_plain W t _ rfl ?_ ?_ h2 h3
        · have h0 : (b ++ [x]).isEmpty = false := by cases b <;> rfl
          have hd : (decide (x = 9) || decide (x = 10) || decide (x = 12)) = false := by simp [h9, h10, h12]
          rw [hd] at g2
          show goodL t (b ++ [x]).isEmpty
          rw [h0]
          exact g2
        · cases b with
          | nil => exact g1 rfl
          | cons y r => exact h1
theorem lines_plain (W : ByteArray → Int) (s : ByteArray) (ht : (runesB s).contains (-1) = false) : ∀ l ∈ linesOf false W s.data.toList, (∀ x ∈ l.cells, plainL x.txt.data.toList) ∧ plainL l.tail.txt.data.toList := by
  have hg : goodL s.data.toList true := good_text true s.data.toList [] (by
    have : (⟨([] ++ s.data.toList).toArray⟩ : ByteArray) = s := by
      apply ByteArray.ext
      simp
    rw [this]
    exact ht) (fun _ q x hq => by
      have := congrArg List.length hq
      simp at this)
  obtain ⟨h1, h2, h3⟩ := run_plain W s.data.toList sp0 rfl hg trivial (fun x hx => by cases hx) (fun l hl => by cases hl)
  intro l hl
  unfold linesOf at hl
  rcases List.mem_append.1 hl with hl | hl
  · exact h3 l hl
  · rw [List.mem_singleton] at hl
    subst hl
    exact ⟨h2, h1⟩
/-! ### the width of a line -/
theorem bytes_list (s : ByteArray) : (⟨s.data.toList.toArray⟩ : ByteArray) = s := by
  apply ByteArray.ext
  simp
theorem tw_cel (c : Cfg) (x : Cel) (w : Int) (h46 : c.cpad = 46) (hp : plainL x.txt.data.toList) (hw : x.wid = (textW x.txt : Int)) (hle : x.wid ≤ w) :
    (tw (layCel c x w) : Int) = w + (if c.fl = true then 1 else 0) ∧ plainL (layCel c x w) := by
  have hf : fillL c (max (w - x.wid) 0) = List.replicate (w - x.wid).toNat 46 := by
    unfold fillL
    rw [if_neg (by omega), h46]
    have : (max (w - x.wid) 0).toNat = (w - x.wid).toNat := by omega
    rw [this]
    rfl
  have hpf : plainL (List.replicate (w - x.wid).toNat (46 : UInt8)) := by
    cases (w - x.wid).toNat with
    | zero => trivial
    | succ n => show ¬ (128 ≤ (46 : UInt8).toNat ∧ _); decide
  have ht : tw x.txt.data.toList = textW x.txt := by unfold tw; rw [bytes_list]
  have hb : plainL (if c.fl = true then ([124] : List UInt8) else []) := by
    split
    · show ¬ (128 ≤ (124 : UInt8).toNat ∧ _); decide
    · trivial
  have hbw : tw (if c.fl = true then ([124] : List UInt8) else []) = if c.fl = true then 1 else 0 := by
    split
    · rw [tw_one 124 (by decide)]; decide
    · exact tw_nil
  have hd := tw_dots (w - x.wid).toNat
  unfold layCel
  rw [tw_append _ _ hb, hbw, hf]
  by_cases hr : c.fr = true
  · rw [if_pos hr, tw_append _ _ hp, hd, ht]
    refine ⟨?_, plain_append (plain_append hpf hp) hb⟩
    split <;> omega
  · rw [if_neg hr, tw_append _ _ hpf, hd, ht]
    refine ⟨?_, plain_append (plain_append hp hpf) hb⟩
    split <;> omega
theorem sumS_acc (fl : Bool) : ∀ (l : List Int) (a : Int), l.foldl (fun a n => a + n + if fl = true then 1 else 0) a = a + sumS fl l
  | [], a => by show a = a + 0; omega
  | x :: r, a => by
    unfold sumS
    rw [List.foldl_cons, List.foldl_cons, sumS_acc fl r, sumS_acc fl r (0 + x + _)]
    split <;> omega
theorem sumS_cons (fl : Bool) (x : Int) (r : List Int) : sumS fl (x :: r) = x + (if fl = true then 1 else 0) + sumS fl r := by
  conv => lhs; unfold sumS
  rw [List.foldl_cons, sumS_acc]
  omega
theorem tw_cels (c : Cfg) (h46 : c.cpad = 46) (rest : List UInt8) (hr : plainL rest) : ∀ (l : List Cel) (ws : List Int), ws.length = l.length → (∀ x ∈ l, plainL x.txt.data.toList ∧ x.wid = (textW x.txt : Int)) → (∀ (k : Nat) x w, l[k]? = some x → ws[k]? = some w → x.wid ≤ w) →
    (tw (layCels c l ws ++ rest) : Int) = sumS c.fl ws + tw rest ∧ plainL (layCels c l ws ++ rest)
  | [], [], _, _, _ => ⟨by show (tw ([] ++ rest) : Int) = sumS c.fl [] + _; rw [List.nil_append, sumS_nil]; omega, hr⟩
  | [], _ :: _, h, _, _ => by simp at h
  | _ :: _, [], h, _, _ => by simp at h
  | x :: l, w :: ws, h, hl, hw => by
    obtain ⟨ih1, ih2⟩ := tw_cels c h46 rest hr l ws (by simpa using h) (fun y hy => hl y (List.mem_cons_of_mem _ hy)) (fun k y v h1 h2 => hw (k + 1) y v (by simpa using h1) (by simpa using h2))
    obtain ⟨h1, h2⟩ := hl x (List.mem_cons_self ..)
    obtain ⟨t1, t2⟩ := tw_cel c x w h46 h1 h2 (hw 0 x w rfl rfl)
    rw [layCels, List.append_assoc]
    refine ⟨?_, plain_append t2 ih2⟩
    rw [tw_append _ _ ih2, Int.natCast_add, t1, ih1, sumS_cons]
    split <;> omega
/-- A line is as wide as its slots and its tail. -/
theorem tw_line (c : Cfg) (l : Ln) (ws : List Int) (h46 : c.cpad = 46) (hlen : ws.length = l.cells.length) (hl : ∀ x ∈ l.cells, plainL x.txt.data.toList ∧ x.wid = (textW x.txt : Int)) (hw : ∀ (k : Nat) x w, l.cells[k]? = some x → ws[k]? = some w → x.wid ≤ w) (ht : plainL l.tail.txt.data.toList) (htw : l.tail.wid = (textW l.tail.txt : Int)) :
    (tw (layLn c l ws) : Int) = sumS c.fl ws + l.tail.wid := by
  have hb : plainL (if l.fin ≠ 0 then ([10] : List UInt8) else []) := by
    split
    · show ¬ (128 ≤ (10 : UInt8).toNat ∧ _); decide
    · trivial
  have hbw : tw (if l.fin ≠ 0 then ([10] : List UInt8) else []) = 0 := by
    split
    · rw [tw_one 10 (by decide)]; decide
    · exact tw_nil
  have h1 : (tw (l.tail.txt.data.toList ++ if l.fin ≠ 0 then [10] else []) : Int) = l.tail.wid := by
    rw [tw_append _ _ hb, hbw, htw]
    unfold tw
    rw [bytes_list]
    omega
  unfold layLn
  rw [(tw_cels c h46 _ (plain_append ht hb) l.cells ws hlen hl hw).1, h1]
theorem text_line (c : Cfg) (s : ByteArray) (hv : validC c = true) (h46 : c.cpad = 46) (hfm : c.fm = false) (hfe : c.fe = false) (ht : (runesB s).contains (-1) = false) (i : Nat) (hi : i < (splitL c s).length) :
    (textW ⟨(layLn c (splitL c s)[i] (widF c (splitL c s) i)).toArray⟩ : Int) = sumS c.fl (widF c (splitL c s) i) + (splitL c s)[i].tail.wid := by
  have hm := List.getElem_mem hi
  have e := splitL_yes (c := c) s hv
  rw [hfe, hfm] at e
  have hp := lines_plain (fun b => (celW false b 0 : Int)) s ht
  rw [← e] at hp
  obtain ⟨p1, p2⟩ := hp _ hm
  have hfine := lines_fine false (fun b => (celW false b 0 : Int)) s.data.toList
  rw [← e] at hfine
  obtain ⟨f1, f2⟩ := hfine _ hm
  have hct : ∀ x : ByteArray, celW false x 0 = textW x := fun x => celW_text x 0
  have hcn : cellsN (splitL c s) i = (splitL c s)[i].cells.length := cellsN_lt _ i hi
  refine tw_line c _ _ h46 (by rw [widF_size, hcn]) (fun x hx => ⟨p1 x hx, (f1 x hx).trans (by show ((celW false x.txt 0 : Nat) : Int) = _; rw [hct])⟩) (fun k x w h1 h2 => ?_) p2 (f2.1.trans (by show ((celW false _ 0 : Nat) : Int) = _; rw [hct]))
  have hk := (List.getElem?_eq_some_iff.1 h1).1
  obtain ⟨st, a1, a2, a3, a4⟩ := widF_blk c (splitL c s) i k (by rw [hcn]; exact hk)
  rw [a4] at h2
  have hb := block_wide c (splitL c s) i k st hv a1 a3
  rw [cellW_at hi hk] at hb
  have hx : (splitL c s)[i].cells[k] = x := by rw [List.getElem?_eq_getElem hk] at h1; simpa using h1
  rw [hx] at hb
  have hw : (blkOf c (splitL c s) st k).wid = w := by simpa using h2
  omega
end Go.Proofs.YtjdbkpckhgncbaaDoor
