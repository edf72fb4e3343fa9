/- What ParseConfig answers, out of the parts of the text: plain words; and a block that a call fills field by field. -/
import Derived.Test.YtooanejiadbngaaCfg
import Derived.Test.YtooanejiadbngaaSpecCfg
namespace Go.Proofs.Ytooanejiadbngaa
open Go.RowKit Go.Lib
set_option linter.unusedVariables false

/-! ### parts -/
theorem extract_size_le (s : ByteArray) (a b : Nat) : (s.extract a b).size ≤ s.size := by
  rw [ByteArray.size_extract]; omega
theorem cut_size (s : ByteArray) (p : UInt8 → Bool) : ∀ i, ∀ x ∈ (cutAt s p i).1, x.size ≤ s.size
  | 0, x, hx => by cases hx
  | i + 1, x, hx => by
    rw [cutAt_succ] at hx
    split at hx
    · rcases List.mem_append.1 hx with h | h
      · exact cut_size s p i x h
      · rcases List.mem_singleton.1 h with rfl
        exact extract_size_le _ _ _
    · exact cut_size s p i x hx
theorem part_size (s : ByteArray) (p : UInt8 → Bool) (x : ByteArray) (hx : x ∈ splitB s p) : x.size ≤ s.size := by
  unfold splitB at hx
  rcases List.mem_append.1 hx with h | h
  · exact cut_size s p _ x h
  · rcases List.mem_singleton.1 h with rfl
    exact extract_size_le _ _ _
theorem split_ne (s : ByteArray) (p : UInt8 → Bool) : splitB s p ≠ [] := by unfold splitB; simp
theorem two_of {l : List ByteArray} (h : l.length = 2) : ∃ a b, l = [a, b] := by
  match l, h with
  | [a, b], _ => exact ⟨a, b, rfl⟩
theorem four_of {l : List ByteArray} (h : l.length = 4) : ∃ a b c d, l = [a, b, c, d] := by
  match l, h with
  | [a, b, c, d], _ => exact ⟨a, b, c, d, rfl⟩
theorem five_of {l : List ByteArray} (h : l.length = 5) : ∃ a b c d e, l = [a, b, c, d, e] := by
  match l, h with
  | [a, b, c, d, e], _ => exact ⟨a, b, c, d, e, rfl⟩

/-! ### numbers -/
/-- v is the number that s is the text of, or 0. -/
def NumOf (s : ByteArray) (v : Int) : Prop := IsNum s v ∨ (NoNum s ∧ v = 0)
theorem ParseEnd.num {s : ByteArray} {e : Ending} (h : ParseEnd s e) : ∃ (v : Int) (ok : Bool), NumOf s v ∧ (ok = true → IsNum s v) ∧ (ok = false → NoNum s) ∧ e = .returned (.tuple #[.int .i64 v, .bool ok]) := by
  rcases h with ⟨v, hv, rfl⟩ | ⟨hn, rfl⟩
  · exact ⟨v, true, .inl hv, fun _ => hv, (fun h => by cases h), rfl⟩
  · exact ⟨0, false, .inr ⟨hn, rfl⟩, (fun h => by cases h), fun _ => hn, rfl⟩
theorem NumOf.at_ {s : ByteArray} {v n : Int} (h : NumOf s v) (hn : InInt n) (he : fmtB n = s) : v = n := by
  rcases h with h | h
  · exact fmtB_inj (h.2.trans he.symm)
  · exact absurd he (h.1 n hn)
theorem valid_in {c : Cfg} (h : validC c = true) : InInt c.cmin ∧ InInt c.ctab ∧ InInt c.cpadding ∧ InInt c.cpad := by
  rw [validC_iff] at h
  unfold InInt
  omega

/-! ### the model's way: two parts at a space, four at commas -/
theorem no_two {t : ByteArray} (h : (splitB t (isSep ⟨#[32]⟩)).length ≠ 2) : NoCfg t := fun d hd he => h (by rw [← he, split_cfg d hd]; rfl)
theorem no_four {t w0 w1 : ByteArray} (h : splitB t (isSep ⟨#[32]⟩) = [w0, w1]) (h4 : (splitB w0 (isSep ⟨#[44]⟩)).length ≠ 4) : NoCfg t := fun d hd he => by
  rw [← he, split_cfg d hd] at h
  injection h with h1 _
  rw [← h1, split_nums d hd] at h4
  exact h4 rfl
/-- The configuration that is read out of the parts. -/
def partsC (v0 v1 v2 v3 : Int) (f : ByteArray) : Cfg := ⟨v0, v1, v2, v3, hasB f 114, hasB f 100, hasB f 108, hasB f 101, hasB f 109⟩
theorem has_tail (d : Cfg) : hasB ⟨(tailL d).toArray⟩ 114 = d.fr ∧ hasB ⟨(tailL d).toArray⟩ 100 = d.fd ∧ hasB ⟨(tailL d).toArray⟩ 108 = d.fl ∧ hasB ⟨(tailL d).toArray⟩ 101 = d.fe ∧ hasB ⟨(tailL d).toArray⟩ 109 = d.fm := by
  have := tail_has d
  unfold hasB
  simpa using this
theorem parts_of {t w0 w1 n0 n1 n2 n3 : ByteArray} {v0 v1 v2 v3 : Int} (hw : splitB t (isSep ⟨#[32]⟩) = [w0, w1]) (hn : splitB w0 (isSep ⟨#[44]⟩) = [n0, n1, n2, n3])
    (h0 : NumOf n0 v0) (h1 : NumOf n1 v1) (h2 : NumOf n2 v2) (h3 : NumOf n3 v3) {d : Cfg} (hd : validC d = true) (he : fmtCB d = t) : partsC v0 v1 v2 v3 w1 = d := by
  rw [← he, split_cfg d hd] at hw
  simp only [List.cons.injEq, and_true] at hw
  obtain ⟨rfl, rfl⟩ := hw
  rw [split_nums d hd] at hn
  simp only [List.cons.injEq, and_true] at hn
  obtain ⟨e0, e1, e2, e3⟩ := hn
  obtain ⟨b0, b1, b2, b3⟩ := valid_in hd
  obtain ⟨f0, f1, f2, f3, f4⟩ := has_tail d
  exact Cfg.same (h0.at_ b0 e0) (h1.at_ b1 e1) (h2.at_ b2 e2) (h3.at_ b3 e3) f0 f1 f2 f3 f4
theorem fmt_valid {c : Cfg} (h : fmtCB c ≠ ⟨#[]⟩) : validC c = true := by
  cases hv : validC c with
  | true => rfl
  | false => exact absurd (fmtCB_no hv) h
theorem fmt_ne {c : Cfg} (h : validC c = true) : fmtCB c ≠ ⟨#[]⟩ := fun e => by
  have := fmtCB_ne h
  rw [e] at this
  exact absurd this (by decide)
theorem parse_no {t w0 w1 n0 n1 n2 n3 : ByteArray} {v0 v1 v2 v3 : Int} (hw : splitB t (isSep ⟨#[32]⟩) = [w0, w1]) (hn : splitB w0 (isSep ⟨#[44]⟩) = [n0, n1, n2, n3])
    (h0 : NumOf n0 v0) (h1 : NumOf n1 v1) (h2 : NumOf n2 v2) (h3 : NumOf n3 v3) (hf : fmtCB (partsC v0 v1 v2 v3 w1) = ⟨#[]⟩ ∨ fmtCB (partsC v0 v1 v2 v3 w1) ≠ t) : NoCfg t := fun d hd he => by
  have e := parts_of hw hn h0 h1 h2 h3 hd he
  rw [e] at hf
  rcases hf with hf | hf
  · exact fmt_ne hd hf
  · exact hf he
theorem parse_yes {t : ByteArray} {c : Cfg} (he : fmtCB c ≠ ⟨#[]⟩) (hf : fmtCB c = t) : IsCfg t c := ⟨fmt_valid he, hf⟩

/-! ### the program's way: five parts at commas and spaces -/
theorem sep_two (x : UInt8) : isSep ⟨#[44, 32]⟩ x = (decide (x = 44) || decide (x = 32)) := by
  unfold isSep
  rw [Bool.eq_iff_iff]
  simp
theorem split_five (d : Cfg) (h : validC d = true) : splitB (fmtCB d) (isSep ⟨#[44, 32]⟩) = [fmtB d.cmin, fmtB d.ctab, fmtB d.cpadding, fmtB d.cpad, ⟨(tailL d).toArray⟩] := by
  rw [fmtCB_yes h]
  have hn := (validC_iff d).1 h
  have k : ∀ n : Int, 0 ≤ n → ∀ x ∈ itoa n, isSep ⟨#[44, 32]⟩ x = false := fun n hn x hx => by
    have := itoa_dig n hn x hx
    rw [sep_two, Bool.or_eq_false_iff, decide_eq_false_iff_not, decide_eq_false_iff_not]
    constructor
    · rintro rfl; exact absurd this.1 (by decide)
    · rintro rfl; exact absurd this.1 (by decide)
  have kt : ∀ x ∈ tailL d, isSep ⟨#[44, 32]⟩ x = false := fun x hx => by
    have h32 := tail_no d
    have h44 : (44 : UInt8) ∉ tailL d := fun hx => by
      have : ∀ a b c d e, (tail5 a b c d e).contains 44 = false := by decide
      have := this d.fr d.fd d.fl d.fe d.fm
      rw [show tail5 d.fr d.fd d.fl d.fe d.fm = tailL d from rfl, List.contains_iff_mem.2 hx] at this
      cases this
    rw [sep_two, Bool.or_eq_false_iff, decide_eq_false_iff_not, decide_eq_false_iff_not]
    exact ⟨fun e => h44 (e ▸ hx), fun e => h32 (e ▸ hx)⟩
  have e : fmtL d = itoa d.cmin ++ 44 :: (itoa d.ctab ++ 44 :: (itoa d.cpadding ++ 44 :: (itoa d.cpad ++ 32 :: tailL d))) := by
    unfold fmtL numsL
    simp
  rw [e, split_cons _ _ _ _ (k _ (by omega)) (by rw [sep_two]; decide), split_cons _ _ _ _ (k _ (by omega)) (by rw [sep_two]; decide), split_cons _ _ _ _ (k _ (by omega)) (by rw [sep_two]; decide), split_cons _ _ _ _ (k _ (by omega)) (by rw [sep_two]; decide), split_one _ _ kt]
  rfl
theorem no_five {t : ByteArray} (h : (splitB t (isSep ⟨#[44, 32]⟩)).length ≠ 5) : NoCfg t := fun d hd he => h (by rw [← he, split_five d hd]; rfl)
theorem five_no {t n0 n1 n2 n3 f : ByteArray} (hw : splitB t (isSep ⟨#[44, 32]⟩) = [n0, n1, n2, n3, f]) (h : NoNum n0 ∨ NoNum n1 ∨ NoNum n2 ∨ NoNum n3) : NoCfg t := fun d hd he => by
  rw [← he, split_five d hd] at hw
  simp only [List.cons.injEq, and_true] at hw
  obtain ⟨e0, e1, e2, e3, _⟩ := hw
  obtain ⟨b0, b1, b2, b3⟩ := valid_in hd
  rcases h with h | h | h | h
  · exact h _ b0 e0
  · exact h _ b1 e1
  · exact h _ b2 e2
  · exact h _ b3 e3
theorem five_of_cfg {t n0 n1 n2 n3 f : ByteArray} {v0 v1 v2 v3 : Int} (hw : splitB t (isSep ⟨#[44, 32]⟩) = [n0, n1, n2, n3, f]) (h0 : IsNum n0 v0) (h1 : IsNum n1 v1) (h2 : IsNum n2 v2) (h3 : IsNum n3 v3)
    {d : Cfg} (hd : validC d = true) (he : fmtCB d = t) : partsC v0 v1 v2 v3 f = d := by
  rw [← he, split_five d hd] at hw
  simp only [List.cons.injEq, and_true] at hw
  obtain ⟨e0, e1, e2, e3, rfl⟩ := hw
  obtain ⟨b0, b1, b2, b3⟩ := valid_in hd
  obtain ⟨f0, f1, f2, f3, f4⟩ := has_tail d
  exact Cfg.same ((NumOf.at_ (.inl h0)) b0 e0) ((NumOf.at_ (.inl h1)) b1 e1) ((NumOf.at_ (.inl h2)) b2 e2) ((NumOf.at_ (.inl h3)) b3 e3) f0 f1 f2 f3 f4
/-- What readConfig gives: no configuration, or the only one whose text t can be. -/
def ReadC (t : ByteArray) (c : Cfg) (ok : Bool) : Prop := (ok = false ∧ NoCfg t) ∨ (ok = true ∧ t ≠ ⟨#[]⟩ ∧ ∀ d, validC d = true → fmtCB d = t → d = c)
theorem ReadC.none {t : ByteArray} {c : Cfg} (h : ReadC t c false) : NoCfg t := by
  rcases h with ⟨_, h⟩ | ⟨h, _⟩
  · exact h
  · cases h
theorem ReadC.no {t : ByteArray} {c : Cfg} (h : ReadC t c true) (hf : fmtCB c ≠ t) : NoCfg t := fun d hd he => by
  rcases h with ⟨h, _⟩ | ⟨_, _, h⟩
  · cases h
  · have := h d hd he
    subst this
    exact hf he
theorem ReadC.yes {t : ByteArray} {c : Cfg} (h : ReadC t c true) (hf : fmtCB c = t) : IsCfg t c := by
  rcases h with ⟨h, _⟩ | ⟨_, h0, _⟩
  · cases h
  · exact ⟨fmt_valid (by rw [hf]; exact h0), hf⟩
theorem five_ne {t n0 n1 n2 n3 f : ByteArray} (hw : splitB t (isSep ⟨#[44, 32]⟩) = [n0, n1, n2, n3, f]) : t ≠ ⟨#[]⟩ := fun e => by
  rw [e, show (⟨#[]⟩ : ByteArray) = ⟨([] : List UInt8).toArray⟩ from rfl, split_one _ _ (fun x hx => by cases hx)] at hw
  simp at hw

theorem Blk.boxed {W : World} {g : Nat} {T : TypeId} {m t p d : Int} {fr fd fl fe fm : Bool} (h : Blk W g T #[.int .i64 m, .int .i64 t, .int .i64 p, .int .i64 d, .bool fr, .bool fd, .bool fl, .bool fe, .bool fm]) : Boxed W g m t p d fr fd fl fe fm :=
  ⟨h.cell 0, h.cell 1, h.cell 2, h.cell 3, h.cell 4, h.cell 5, h.cell 6, h.cell 7, h.cell 8⟩
end Go.Proofs.Ytooanejiadbngaa
