/- The program's decoder gives the character at an index; the reading loop gives all codes and all ends. -/
import Derived.Test.YtionfjofojfaoaaDoorMem
import Derived.Test.YtionfjofojfaoaaDoorMemI
import Derived.Test.YtionfjofojfaoaaDoorChars
import Derived.Test.YtionfjofojfaoaaDoorShelf
namespace Go.Proofs.YtionfjofojfaoaaDoor
open Go.RowKit
set_option linter.unusedVariables false

/-- The two tables of the decoder are as they are laid. -/
def Tabs (w : World) : Prop := Lib.Utf8Tabs 1 2 w ∧ 1 < w.heap.size ∧ 2 < w.heap.size
theorem Tabs.below {w w' : World} (h : Tabs w) (hb : Below w.heap.size w w') : Tabs w' := by
  obtain ⟨⟨h1, h2⟩, g1, g2⟩ := h
  have hs := hb.size
  refine ⟨⟨fun c hc => (hb.cell (p := ⟨_, c, none⟩) g1).trans (h1 c hc), fun i hi => ⟨(hb.cell (p := ⟨_, 2 * i, none⟩) g2).trans (h2 i hi).1, (hb.cell (p := ⟨_, 2 * i + 1, none⟩) g2).trans (h2 i hi).2⟩⟩, by omega, by omega⟩

theorem extract_size (s : ByteArray) (i : Nat) : (s.extract i s.size).size = s.size - i := by
  rw [ByteArray.size_extract]; omega
theorem extract_by8 (s : ByteArray) (i k : Nat) : by8 (s.extract i s.size) k = by8 s (i + k) := by
  by_cases h : i + k < s.size
  · rw [by8_of s _ h, by8_of _ _ (by rw [extract_size]; omega)]
    simp [ByteArray.getElem_extract]
  · have e1 : ∀ (t : ByteArray) (j : Nat), ¬ j < t.size → by8 t j = 0 := by
      intro t j hj
      unfold by8
      cases t with
      | mk d =>
        have : (ByteArray.mk d).get! j = default := getElem!_neg d j hj
        rw [this]; rfl
    rw [e1 _ _ h, e1 _ _ (by rw [extract_size]; omega)]
theorem ch_tail (s : ByteArray) (i : Nat) (h : i < s.size) : ch (s.extract i s.size) 0 = ch s i := by
  rw [ch_eq, ch_eq, extract_size, extract_by8, extract_by8, extract_by8, extract_by8]; rfl
theorem goDecode_tail (s : ByteArray) (i : Nat) (h : i < s.size) : chOf (Lib.decodeGo (s.extract i s.size)) = ch s i := by
  unfold Lib.decodeGo
  rw [extract_size, if_neg (by omega)]
  exact ch_tail s i h
theorem chOf_cases (d : Nat × Nat) : (d.1 = 65533 ∧ d.2 = 1 ∧ chOf d = (-1, 1)) ∨ (¬ (d.1 = 65533 ∧ d.2 = 1) ∧ chOf d = ((d.1 : Int), d.2)) := by
  by_cases h : d.1 = 65533 ∧ d.2 = 1
  · exact .inl ⟨h.1, h.2, if_pos h⟩
  · exact .inr ⟨h, if_neg h⟩

set_option maxRecDepth 100000 in
set_option maxHeartbeats 1000000 in
theorem charAt_in (s : ByteArray) (i : Nat) (w : World) (h : i < s.size) (hs : s.size ≤ 1000000000) (hT : Tabs w) :
    Calls Tryd.prog 54 #[.string s, .int .i64 (i : Int)] w fun e w' => e = .returned (.tuple #[.int .i64 (ch s i).1, .int .i64 ((ch s i).2 : Int)]) ∧ Below w.heap.size w w' := by
  have hd := Tryd.utf8_DecodeRuneInString (s.extract i s.size) w hT.1
  have hc := goDecode_tail s i h
  have hcode := ch_code s i
  have hlen := ch_len s i h
  have HT := Lib.hid hT
  clear hT
  generalize Lib.decodeGo (s.extract i s.size) = d at hd hc
  rw [← hc] at hcode hlen ⊢
  have h0 : ¬ (i : Int) < 0 := by omega
  have h1 : ¬ (s.size : Int) ≤ (i : Int) := by omega
  have hz0 : (0 : Int) ≤ (i : Int) := by omega
  have hz1 : (i : Int) ≤ (s.size : Int) := by omega
  rcases chOf_cases d with ⟨a, b, c⟩ | ⟨a, c⟩
  · rw [c]
    have ha : (((d.1 : Nat) : Int) == 65533) = true := by simp; omega
    have hb : (((d.2 : Nat) : Int) == 1) = true := by simp; omega
    obtain ⟨x, hx⟩ : ∃ x : Int, x = ((d.1 : Nat) : Int) := ⟨_, rfl⟩
    obtain ⟨y, hy⟩ : ∃ y : Int, y = ((d.2 : Nat) : Int) := ⟨_, rfl⟩
    rw [← hx] at ha hd
    rw [← hy] at hb hd
    have HD := Lib.hid hd
    clear hd hc hcode hlen a b c hx hy h
    go_enter Tryd.func54, Tryd.ntmps54
    go_wp2_with fail
    refine HD.out.mono ?_
    rintro e w1 ⟨rfl, hb1⟩
    go_wp2_with fail
    go_ret2
    exact ⟨rfl, hb1⟩
  · rw [c] at hcode hlen ⊢
    simp only at hcode hlen ⊢
    obtain ⟨x, hx⟩ : ∃ x : Int, x = ((d.1 : Nat) : Int) := ⟨_, rfl⟩
    obtain ⟨y, hy⟩ : ∃ y : Int, y = ((d.2 : Nat) : Int) := ⟨_, rfl⟩
    rw [← hx] at hcode hd ⊢
    rw [← hy] at hd ⊢
    have hx0 : 0 ≤ x := by omega
    have HD := Lib.hid hd
    by_cases hxa : x = 65533
    · have ha : (x == 65533) = true := by simp [hxa]
      have hb : (y == 1) = false := by
        rw [beq_eq_false_iff_ne]; intro hy1; exact a ⟨by omega, by omega⟩
      clear hd hc hlen a c hx hy hxa h
      go_enter Tryd.func54, Tryd.ntmps54
      go_wp2_with fail
      refine HD.out.mono ?_
      rintro e w1 ⟨rfl, hb1⟩
      go_wp2_with fail
      go_ret2
      exact ⟨rfl, hb1⟩
    · have ha : (x == 65533) = false := by rw [beq_eq_false_iff_ne]; exact hxa
      clear hd hc hlen a c hx hy hxa h
      go_enter Tryd.func54, Tryd.ntmps54
      go_wp2_with fail
      refine HD.out.mono ?_
      rintro e w1 ⟨rfl, hb1⟩
      go_wp2_with fail
      go_ret2
      exact ⟨rfl, hb1⟩

set_option maxRecDepth 100000 in
set_option maxHeartbeats 1000000 in
theorem charAt_out (s : ByteArray) (i : Int) (w : World) (h : i < 0 ∨ (s.size : Int) ≤ i) :
    Calls Tryd.prog 54 #[.string s, .int .i64 i] w fun e w' => e = .returned (.tuple #[.int .i64 (-1), .int .i64 0]) ∧ w = w' := by
  by_cases h0 : i < 0
  · clear h
    go_enter Tryd.func54, Tryd.ntmps54
    go_wp2
    go_ret2
    exact ⟨rfl, rfl⟩
  · have h1 : (s.size : Int) ≤ i := by omega
    clear h
    go_enter Tryd.func54, Tryd.ntmps54
    go_wp2
    go_ret2
    exact ⟨rfl, rfl⟩

end Go.Proofs.YtionfjofojfaoaaDoor
