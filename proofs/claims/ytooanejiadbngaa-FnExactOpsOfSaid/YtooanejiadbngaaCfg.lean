/- Configurations and their texts: plain words. No walk. -/
import Derived.Test.YtooanejiadbngaaParsePre
import Derived.Test.YtooanejiadbngaaSplit
import Derived.Test.YtooanejiadbngaaSpecChars
namespace Go.Proofs.Ytooanejiadbngaa
open Go.RowKit Go.Lib
set_option linter.unusedVariables false

/-- A configuration: four numbers and five flags. -/
structure Cfg where
  cmin : Int
  ctab : Int
  cpadding : Int
  cpad : Int
  fr : Bool
  fd : Bool
  fl : Bool
  fe : Bool
  fm : Bool
theorem Cfg.same {a b : Cfg} (h1 : a.cmin = b.cmin) (h2 : a.ctab = b.ctab) (h3 : a.cpadding = b.cpadding) (h4 : a.cpad = b.cpad) (h5 : a.fr = b.fr) (h6 : a.fd = b.fd) (h7 : a.fl = b.fl) (h8 : a.fe = b.fe) (h9 : a.fm = b.fm) : a = b := by
  cases a; cases b; simp_all
def zeroC : Cfg := ⟨0, 0, 0, 0, false, false, false, false, false⟩
/-- The configuration's cells. -/
def cfgV (c : Cfg) : Array Value := #[.int .i64 c.cmin, .int .i64 c.ctab, .int .i64 c.cpadding, .int .i64 c.cpad, .bool c.fr, .bool c.fd, .bool c.fl, .bool c.fe, .bool c.fm]
/-- What IsConfig answers. -/
def validC (c : Cfg) : Bool := inB c.cmin 0 200 && inB c.ctab 1 32 && inB c.cpadding 0 32 && (decide (c.cpad = 9) && !c.fr || inB c.cpad 32 126)
theorem inB_iff (n lo hi : Int) : inB n lo hi = true ↔ lo ≤ n ∧ n ≤ hi := by unfold inB; simp
theorem validC_iff (c : Cfg) : validC c = true ↔ (0 ≤ c.cmin ∧ c.cmin ≤ 200) ∧ (1 ≤ c.ctab ∧ c.ctab ≤ 32) ∧ (0 ≤ c.cpadding ∧ c.cpadding ≤ 32) ∧ ((c.cpad = 9 ∧ c.fr = false) ∨ (32 ≤ c.cpad ∧ c.cpad ≤ 126)) := by
  unfold validC
  simp only [Bool.and_eq_true, Bool.or_eq_true, inB_iff, decide_eq_true_iff, Bool.not_eq_true', and_assoc]

/-- The letters of the flags that are set. -/
def flags5 (a b c d e : Bool) : List UInt8 := (if a then [114] else []) ++ ((if b then [100] else []) ++ ((if c then [108] else []) ++ ((if d then [101] else []) ++ (if e then [109] else []))))
def tail5 (a b c d e : Bool) : List UInt8 := if flags5 a b c d e = [] then [45] else flags5 a b c d e
def flagsL (c : Cfg) : List UInt8 := flags5 c.fr c.fd c.fl c.fe c.fm
def tailL (c : Cfg) : List UInt8 := tail5 c.fr c.fd c.fl c.fe c.fm
def numsL (c : Cfg) : List UInt8 := itoa c.cmin ++ 44 :: (itoa c.ctab ++ 44 :: (itoa c.cpadding ++ 44 :: itoa c.cpad))
def fmtL (c : Cfg) : List UInt8 := numsL c ++ 32 :: tailL c
/-- What FormatConfig answers. -/
def fmtCB (c : Cfg) : ByteArray := if validC c = true then ⟨(fmtL c).toArray⟩ else ⟨#[]⟩
theorem fmtCB_yes {c : Cfg} (h : validC c = true) : fmtCB c = ⟨(fmtL c).toArray⟩ := if_pos h
theorem fmtCB_no {c : Cfg} (h : validC c = false) : fmtCB c = ⟨#[]⟩ := if_neg (by rw [h]; decide)

def hasB (s : ByteArray) (b : UInt8) : Bool := s.data.toList.contains b
theorem tail5_has : ∀ a b c d e, (tail5 a b c d e).contains 114 = a ∧ (tail5 a b c d e).contains 100 = b ∧ (tail5 a b c d e).contains 108 = c ∧ (tail5 a b c d e).contains 101 = d ∧ (tail5 a b c d e).contains 109 = e := by decide
theorem tail5_no : ∀ a b c d e, (tail5 a b c d e).contains 32 = false := by decide
theorem tail_has (c : Cfg) : (tailL c).contains 114 = c.fr ∧ (tailL c).contains 100 = c.fd ∧ (tailL c).contains 108 = c.fl ∧ (tailL c).contains 101 = c.fe ∧ (tailL c).contains 109 = c.fm := tail5_has _ _ _ _ _
theorem tail_no (c : Cfg) : (32 : UInt8) ∉ tailL c := fun h => by
  have := tail5_no c.fr c.fd c.fl c.fe c.fm
  rw [show tail5 c.fr c.fd c.fl c.fe c.fm = tailL c from rfl, List.contains_iff_mem.2 h] at this
  cases this

/-- A number's text that is not negative holds digits alone. -/
theorem itoa_dig (n : Int) (h : 0 ≤ n) (x : UInt8) (hx : x ∈ itoa n) : 48 ≤ x.toNat ∧ x.toNat ≤ 57 := by
  obtain ⟨m, rfl⟩ := Int.eq_ofNat_of_zero_le h
  rw [itoa_nat] at hx
  have := decDigits_digits m
  rw [List.all_eq_true] at this
  exact (isDig_iff x).1 (this x hx)
theorem itoa_not (n : Int) (h : 0 ≤ n) (b : UInt8) (hb : b.toNat < 48) : b ∉ itoa n := fun hx => by
  have := itoa_dig n h b hx; omega
theorem nums_no (c : Cfg) (h : validC c = true) : (32 : UInt8) ∉ numsL c := by
  rw [validC_iff] at h
  have h1 := itoa_not c.cmin (by omega) 32 (by decide)
  have h2 := itoa_not c.ctab (by omega) 32 (by decide)
  have h3 := itoa_not c.cpadding (by omega) 32 (by decide)
  have h4 := itoa_not c.cpad (by omega) 32 (by decide)
  unfold numsL
  simp only [List.mem_append, List.mem_cons]
  intro hx
  rcases hx with hx | hx | hx | hx | hx | hx | hx
  · exact h1 hx
  · exact absurd hx (by decide)
  · exact h2 hx
  · exact absurd hx (by decide)
  · exact h3 hx
  · exact absurd hx (by decide)
  · exact h4 hx
theorem split_first {a b p q : List UInt8} {x : UInt8} (ha : x ∉ a) (hb : x ∉ b) (h : a ++ x :: p = b ++ x :: q) : a = b ∧ p = q := by
  induction a generalizing b with
  | nil =>
    cases b with
    | nil => simp at h; exact ⟨rfl, h⟩
    | cons y t => simp at h; exact absurd (List.mem_cons.2 (.inl h.1)) hb
  | cons y t ih =>
    cases b with
    | nil => simp at h; exact absurd (List.mem_cons.2 (.inl h.1.symm)) ha
    | cons z u =>
      simp only [List.cons_append, List.cons.injEq] at h
      obtain ⟨e1, e2⟩ := ih (fun hx => ha (List.mem_cons_of_mem _ hx)) (fun hx => hb (List.mem_cons_of_mem _ hx)) h.2
      exact ⟨by rw [h.1, e1], e2⟩
theorem nums_inj {c d : Cfg} (hc : validC c = true) (hd : validC d = true) (h : numsL c = numsL d) : c.cmin = d.cmin ∧ c.ctab = d.ctab ∧ c.cpadding = d.cpadding ∧ c.cpad = d.cpad := by
  rw [validC_iff] at hc hd
  unfold numsL at h
  have k : ∀ n : Int, 0 ≤ n → (44 : UInt8) ∉ itoa n := fun n hn => itoa_not n hn 44 (by decide)
  obtain ⟨e1, h⟩ := split_first (k _ (by omega)) (k _ (by omega)) h
  obtain ⟨e2, h⟩ := split_first (k _ (by omega)) (k _ (by omega)) h
  obtain ⟨e3, h⟩ := split_first (k _ (by omega)) (k _ (by omega)) h
  exact ⟨itoa_inj e1, itoa_inj e2, itoa_inj e3, itoa_inj h⟩
/-- A configuration is recovered from its text. -/
theorem fmtCB_inj {c d : Cfg} (hc : validC c = true) (hd : validC d = true) (h : fmtCB c = fmtCB d) : c = d := by
  rw [fmtCB_yes hc, fmtCB_yes hd] at h
  have hl : fmtL c = fmtL d := by
    have := congrArg (fun x : ByteArray => x.data.toList) h
    simpa using this
  obtain ⟨e1, e2⟩ := split_first (nums_no c hc) (nums_no d hd) hl
  obtain ⟨n1, n2, n3, n4⟩ := nums_inj hc hd e1
  have t1 := tail_has c
  have t2 := tail_has d
  rw [e2] at t1
  exact Cfg.same n1 n2 n3 n4 (t1.1.symm.trans t2.1) (t1.2.1.symm.trans t2.2.1) (t1.2.2.1.symm.trans t2.2.2.1) (t1.2.2.2.1.symm.trans t2.2.2.2.1) (t1.2.2.2.2.symm.trans t2.2.2.2.2)
theorem fmtCB_ne {c : Cfg} (hc : validC c = true) : 0 < (fmtCB c).size := by
  rw [fmtCB_yes hc]
  show 0 < (fmtL c).toArray.size
  simp [fmtL]
  omega

/-- What ParseConfig answers of a text. -/
def IsCfg (t : ByteArray) (c : Cfg) : Prop := validC c = true ∧ fmtCB c = t
def NoCfg (t : ByteArray) : Prop := ∀ c, validC c = true → fmtCB c ≠ t
def ParseC (t : ByteArray) (c : Cfg) (ok : Bool) : Prop := (ok = true ∧ IsCfg t c) ∨ (ok = false ∧ c = zeroC ∧ NoCfg t)
theorem ParseC.unique {t : ByteArray} {c d : Cfg} {a b : Bool} (h : ParseC t c a) (k : ParseC t d b) : c = d ∧ a = b := by
  rcases h with ⟨rfl, h1, h2⟩ | ⟨rfl, rfl, h⟩
  · rcases k with ⟨rfl, k1, k2⟩ | ⟨rfl, rfl, k⟩
    · exact ⟨fmtCB_inj h1 k1 (h2.trans k2.symm), rfl⟩
    · exact absurd h2 (k _ h1)
  · rcases k with ⟨rfl, k1, k2⟩ | ⟨rfl, rfl, k⟩
    · exact absurd k2 (h _ k1)
    · exact ⟨rfl, rfl⟩

/-! ### parts between separators -/
theorem by_list (a : List UInt8) (i : Nat) : (⟨a.toArray⟩ : ByteArray).data.toList.getD i 0 = a.getD i 0 := by simp
theorem cutAt_succ (s : ByteArray) (p : UInt8 → Bool) (i : Nat) : cutAt s p (i + 1) = if p (s.data.toList.getD i 0) then ((cutAt s p i).1 ++ [s.extract (cutAt s p i).2 i], i + 1) else cutAt s p i := rfl
/-- No separator ahead of index i: nothing is cut. -/
theorem cut_none (s : ByteArray) (p : UInt8 → Bool) : ∀ i, (∀ j, j < i → p (s.data.toList.getD j 0) = false) → cutAt s p i = ([], 0)
  | 0, _ => rfl
  | i + 1, h => by
    rw [cutAt, if_neg (by rw [h i (by omega)]; decide)]
    exact cut_none s p i fun j hj => h j (by omega)
/-- The first part, a separator, and what follows. -/
theorem cut_after (a b : List UInt8) (c : UInt8) (p : UInt8 → Bool) (ha : ∀ x ∈ a, p x = false) (hc : p c = true) : ∀ j, j ≤ b.length →
    cutAt ⟨(a ++ c :: b).toArray⟩ p (a.length + 1 + j) = (⟨a.toArray⟩ :: (cutAt ⟨b.toArray⟩ p j).1, a.length + 1 + (cutAt ⟨b.toArray⟩ p j).2)
  | 0, _ => by
    have h0 : cutAt ⟨(a ++ c :: b).toArray⟩ p a.length = ([], 0) := cut_none _ p _ fun j hj => by
      rw [by_list, List.getD_eq_getElem?_getD, List.getElem?_append_left hj, List.getElem?_eq_getElem hj]
      exact ha _ (List.getElem_mem hj)
    rw [Nat.add_zero, cutAt_succ, by_list, List.getD_eq_getElem?_getD, List.getElem?_append_right (Nat.le_refl _), Nat.sub_self]
    simp only [List.getElem?_cons_zero, Option.getD_some]
    rw [if_pos hc, h0]
    simp only [cutAt, List.nil_append, Nat.add_zero, Prod.mk.injEq, List.cons.injEq, and_true]
    apply ByteArray.ext
    apply Array.ext'
    simp [ByteArray.data_extract]
  | j + 1, hj => by
    have ih := cut_after a b c p ha hc j (by omega)
    have hle := (cutAt_le ⟨b.toArray⟩ p j).1
    have e : (⟨(a ++ c :: b).toArray⟩ : ByteArray).data.toList.getD (a.length + 1 + j) 0 = (⟨b.toArray⟩ : ByteArray).data.toList.getD j 0 := by
      rw [by_list, by_list, List.getD_eq_getElem?_getD, List.getD_eq_getElem?_getD, List.getElem?_append_right (by omega), show a.length + 1 + j - a.length = j + 1 by omega, List.getElem?_cons_succ]
    rw [show a.length + 1 + (j + 1) = (a.length + 1 + j) + 1 by omega, cutAt_succ, cutAt_succ, e, ih]
    by_cases hp : p ((⟨b.toArray⟩ : ByteArray).data.toList.getD j 0) = true
    · rw [if_pos hp, if_pos hp]
      simp only [List.cons_append, Prod.mk.injEq, List.cons.injEq, true_and]
      refine ⟨?_, by omega⟩
      congr 2
      apply ByteArray.ext
      apply Array.ext'
      simp only [ByteArray.data_extract, Array.toList_extract, List.extract_eq_take_drop, List.drop_append, List.drop_of_length_le (show a.length ≤ a.length + 1 + (cutAt ⟨b.toArray⟩ p j).2 by omega), List.nil_append]
      rw [show a.length + 1 + (cutAt ⟨b.toArray⟩ p j).2 - a.length = (cutAt ⟨b.toArray⟩ p j).2 + 1 by omega, List.drop_succ_cons, show a.length + 1 + j - (a.length + 1 + (cutAt ⟨b.toArray⟩ p j).2) = j - (cutAt ⟨b.toArray⟩ p j).2 by omega]
    · rw [if_neg hp, if_neg hp]
theorem split_cons (a b : List UInt8) (c : UInt8) (p : UInt8 → Bool) (ha : ∀ x ∈ a, p x = false) (hc : p c = true) : splitB ⟨(a ++ c :: b).toArray⟩ p = ⟨a.toArray⟩ :: splitB ⟨b.toArray⟩ p := by
  have h := cut_after a b c p ha hc b.length (Nat.le_refl _)
  have hz : (⟨(a ++ c :: b).toArray⟩ : ByteArray).size = a.length + 1 + b.length := by
    show (a ++ c :: b).toArray.size = _
    simp; omega
  have hz2 : (⟨b.toArray⟩ : ByteArray).size = b.length := by show b.toArray.size = _; simp
  have hle := (cutAt_le ⟨b.toArray⟩ p b.length).1
  unfold splitB
  rw [hz, hz2, h]
  simp only [List.cons_append, List.cons.injEq, true_and]
  congr 2
  apply ByteArray.ext
  apply Array.ext'
  simp only [ByteArray.data_extract, Array.toList_extract, List.extract_eq_take_drop, List.drop_append, List.drop_of_length_le (show a.length ≤ a.length + 1 + (cutAt ⟨b.toArray⟩ p b.length).2 by omega), List.nil_append]
  rw [show a.length + 1 + (cutAt ⟨b.toArray⟩ p b.length).2 - a.length = (cutAt ⟨b.toArray⟩ p b.length).2 + 1 by omega, List.drop_succ_cons, show a.length + 1 + b.length - (a.length + 1 + (cutAt ⟨b.toArray⟩ p b.length).2) = b.length - (cutAt ⟨b.toArray⟩ p b.length).2 by omega]
theorem split_one (a : List UInt8) (p : UInt8 → Bool) (ha : ∀ x ∈ a, p x = false) : splitB ⟨a.toArray⟩ p = [⟨a.toArray⟩] := by
  have hz : (⟨a.toArray⟩ : ByteArray).size = a.length := by show a.toArray.size = _; simp
  unfold splitB
  rw [hz, cut_none _ p _ fun j hj => by
    rw [by_list, List.getD_eq_getElem?_getD, List.getElem?_eq_getElem hj]
    exact ha _ (List.getElem_mem hj)]
  simp only [List.nil_append, List.cons.injEq, and_true]
  apply ByteArray.ext
  apply Array.ext'
  simp [ByteArray.data_extract]
theorem sep_one (c : UInt8) (x : UInt8) : isSep ⟨#[c]⟩ x = decide (x = c) := by
  unfold isSep
  rw [Bool.eq_iff_iff]
  simp
/-- The parts of a configuration's text. -/
theorem split_cfg (d : Cfg) (h : validC d = true) : splitB (fmtCB d) (isSep ⟨#[32]⟩) = [⟨(numsL d).toArray⟩, ⟨(tailL d).toArray⟩] := by
  rw [fmtCB_yes h]
  unfold fmtL
  have h1 := nums_no d h
  have h2 := tail_no d
  rw [split_cons _ _ _ _ (fun x hx => by rw [sep_one]; exact decide_eq_false fun e => h1 (e ▸ hx)) (by rw [sep_one]; decide), split_one _ _ (fun x hx => by rw [sep_one]; exact decide_eq_false fun e => h2 (e ▸ hx))]
theorem split_nums (d : Cfg) (h : validC d = true) : splitB ⟨(numsL d).toArray⟩ (isSep ⟨#[44]⟩) = [fmtB d.cmin, fmtB d.ctab, fmtB d.cpadding, fmtB d.cpad] := by
  rw [validC_iff] at h
  have k : ∀ n : Int, 0 ≤ n → ∀ x ∈ itoa n, isSep ⟨#[44]⟩ x = false := fun n hn x hx => by
    rw [sep_one]; exact decide_eq_false fun e => itoa_not n hn 44 (by decide) (e ▸ hx)
  unfold numsL
  rw [split_cons _ _ _ _ (k _ (by omega)) (by rw [sep_one]; decide), split_cons _ _ _ _ (k _ (by omega)) (by rw [sep_one]; decide), split_cons _ _ _ _ (k _ (by omega)) (by rw [sep_one]; decide), split_one _ _ (k _ (by omega))]
  rfl

/-! ### rounding and filling -/
def roundC (c : Cfg) (n : Int) : Int := if validC c = true ∧ 0 ≤ n ∧ n ≤ 100000 then (if c.cpad = 9 then (n + c.ctab - 1) / c.ctab * c.ctab else n) else 0
def fillN (c : Cfg) (n : Int) : Nat := if c.cpad = 9 then ((n + c.ctab - 1) / c.ctab).toNat else n.toNat
/-- k bytes b. -/
def copies (b : UInt8) (k : Nat) : ByteArray := ⟨(List.replicate k b).toArray⟩
theorem copies_size (b : UInt8) (k : Nat) : (copies b k).size = k := by
  show (List.replicate k b).toArray.size = k
  simp
def fillC (c : Cfg) (n : Int) : ByteArray := if validC c = true ∧ 0 ≤ n ∧ n ≤ 100000 then (if c.cpad = 9 then copies 9 (fillN c n) else copies (UInt8.ofNat c.cpad.toNat) (fillN c n)) else ⟨#[]⟩
theorem round_ok (c : Cfg) (n : Int) (h : validC c = true) (h0 : 0 ≤ n) (h1 : n ≤ 100000) : n ≤ roundC c n ∧ roundC c n < n + c.ctab ∧ (c.cpad = 9 ∨ roundC c n = n) := by
  unfold roundC
  rw [if_pos ⟨h, h0, h1⟩]
  rw [validC_iff] at h
  have ht : 1 ≤ c.ctab := by omega
  by_cases h9 : c.cpad = 9
  · rw [if_pos h9]
    have e1 := Int.ediv_mul_le (n + c.ctab - 1) (show c.ctab ≠ 0 by omega)
    have e2 := Int.lt_ediv_add_one_mul_self (n + c.ctab - 1) (show 0 < c.ctab by omega)
    rw [Int.add_mul, Int.one_mul] at e2
    exact ⟨by omega, by omega, .inl h9⟩
  · rw [if_neg h9]
    exact ⟨by omega, by omega, .inr rfl⟩
theorem fill_ok (c : Cfg) (n : Int) (h : validC c = true) (h0 : 0 ≤ n) (h1 : n ≤ 100000) (h9 : c.cpad ≠ 9) : ((fillC c n).size : Int) = n := by
  unfold fillC
  rw [if_pos ⟨h, h0, h1⟩, if_neg h9, copies_size]
  unfold fillN
  rw [if_neg h9]; omega
def defC : Cfg := ⟨0, 8, 1, 32, false, false, false, false, false⟩
theorem def_valid : validC defC = true := by decide
end Go.Proofs.Ytooanejiadbngaa
