/- MakeInput of the model's package gives some short text. -/
import Derived.Test.YtncdglfcegmmgaaDoorCur
namespace Go.Proofs.YtncdglfcegmmgaaDoor
open Go.RowKit

/-- The texts that a piece is picked from. -/
def inputs : List ByteArray := [⟨#[97]⟩, ⟨#[98, 99]⟩, ⟨#[9]⟩, ⟨#[10]⟩, ⟨#[9]⟩, ⟨#[120, 9, 121, 10]⟩, ⟨#[10, 10]⟩, ⟨#[12]⟩, ⟨#[255]⟩, ⟨#[255, 112, 9, 113, 10, 255]⟩, ⟨#[60, 98, 62]⟩, ⟨#[38, 108, 116, 59]⟩, ⟨#[38]⟩, ⟨#[228, 184, 173]⟩, ⟨#[228]⟩, ⟨#[108, 111, 110, 103, 32, 116, 101, 120, 116]⟩]
theorem inputs_size (x : ByteArray) (h : x ∈ inputs) : x.size ≤ 9 := by
  simp only [inputs, List.mem_cons, List.not_mem_nil, or_false] at h
  rcases h with rfl | rfl | rfl | rfl | rfl | rfl | rfl | rfl | rfl | rfl | rfl | rfl | rfl | rfl | rfl | rfl <;> decide
/-- Their cells. -/
def inputCells : Array Value := #[.string ⟨#[97]⟩, .string ⟨#[98, 99]⟩, .string ⟨#[9]⟩, .string ⟨#[10]⟩, .string ⟨#[9]⟩, .string ⟨#[120, 9, 121, 10]⟩, .string ⟨#[10, 10]⟩, .string ⟨#[12]⟩, .string ⟨#[255]⟩, .string ⟨#[255, 112, 9, 113, 10, 255]⟩, .string ⟨#[60, 98, 62]⟩, .string ⟨#[38, 108, 116, 59]⟩, .string ⟨#[38]⟩, .string ⟨#[228, 184, 173]⟩, .string ⟨#[228]⟩, .string ⟨#[108, 111, 110, 103, 32, 116, 101, 120, 116]⟩]
theorem inputs_cells (w : World) : ∀ (j : Nat) x, inputs[j]? = some x → (w.alloc (.cells inputCells 9)).cell? ⟨w.heap.size, j, none⟩ = some (.string x) := by
  intro j x hj
  rw [cell_of_row _ w.heap.size j _ 9 (0, 0) (heap_alloc_new w _)]
  match j, hj with
  | 0, hj => simp [inputs] at hj; subst hj; rfl
  | 1, hj => simp [inputs] at hj; subst hj; rfl
  | 2, hj => simp [inputs] at hj; subst hj; rfl
  | 3, hj => simp [inputs] at hj; subst hj; rfl
  | 4, hj => simp [inputs] at hj; subst hj; rfl
  | 5, hj => simp [inputs] at hj; subst hj; rfl
  | 6, hj => simp [inputs] at hj; subst hj; rfl
  | 7, hj => simp [inputs] at hj; subst hj; rfl
  | 8, hj => simp [inputs] at hj; subst hj; rfl
  | 9, hj => simp [inputs] at hj; subst hj; rfl
  | 10, hj => simp [inputs] at hj; subst hj; rfl
  | 11, hj => simp [inputs] at hj; subst hj; rfl
  | 12, hj => simp [inputs] at hj; subst hj; rfl
  | 13, hj => simp [inputs] at hj; subst hj; rfl
  | 14, hj => simp [inputs] at hj; subst hj; rfl
  | 15, hj => simp [inputs] at hj; subst hj; rfl
  | j + 16, hj => simp [inputs] at hj

set_option maxRecDepth 100000 in
set_option maxHeartbeats 1000000 in
theorem input_cur {w0 : World} {p : Nat} {A : Option Addr} {len cap : Nat} {zs : List Int} (m : Nat) (w : World) (h : CurB w0 w p A len cap zs) (hm : m ≤ 200) :
    Calls Tryd.prog 20 #[.pointer (some ⟨p, 0, none⟩), .int .i64 (m : Int)] w fun e w' => ∃ s : ByteArray, s.size ≤ 9 * m ∧ e = .returned (.string s) ∧ CurB w0 w' p A len cap zs := by
  have HC0 := Lib.hid (below_cur ((m : Int) + 1) w h (by omega) (by omega))
  clear h
  go_enter Tryd.func20, Tryd.ntmps20
  go_wp2_with fail
  refine HC0.out.mono ?_
  rintro e w1 ⟨n, hn0, hn1, rfl, hc1, _⟩
  have HC1 := Lib.hid hc1
  clear hc1
  go_wp2_with fail
  go_loopw [5, 6] (fun t i wr => ∃ (k : Int) (s : ByteArray), i = .int .i64 k ∧ t = .string s ∧ 0 ≤ k ∧ k ≤ m ∧ (s.size : Int) ≤ 9 * ((m : Int) - k) ∧ Hid (CurB w0 wr p A len cap zs)) (fun _ i _ => (intOf i).toNat)
  case atStart => exact ⟨n, ⟨#[]⟩, rfl, rfl, hn0, by omega, by show (0 : Int) ≤ _; omega, HC1⟩
  case round =>
    obtain ⟨k, s, rfl, rfl, hk0, hk1, hss, HC⟩ := hrel
    by_cases hk : 0 < k
    · have HB := Lib.hid (HC.out.below ((Below.refl _ _).alloc (Nat.le_refl _) (.cells inputCells 9)))
      go_wp2_with fail
      refine (str_cur inputs 16 wr.heap.size 16 _ HB.out rfl (by omega) (by omega) (by have := HC.out.lt; omega) (by simp) (inputs_cells wr)).mono ?_
      rintro e w3 ⟨x, hx, rfl, hc3, _⟩
      have hxs := inputs_size x hx
      have HC3 := Lib.hid hc3
      clear hc3 hx
      have hsz : (s ++ x).size = s.size + x.size := ByteArray.size_append' s x
      have HSZ := Lib.hid hsz
      clear hsz
      go_wp2_with fail
      go_roundw
      case rel => exact ⟨k - 1, s ++ x, rfl, rfl, by omega, by omega, by rw [HSZ.out]; omega, HC3⟩
      case measure => simp [intOf]; omega
    · go_wp2
      go_ret
      exact ⟨s, by omega, rfl, HC.out⟩
set_option maxRecDepth 100000 in
set_option maxHeartbeats 1000000 in
theorem makeInput_any (A : Option Addr) (len cap : Nat) (zs : List Int) (w : World) (hz : IsBytes w A len cap zs) :
    Calls Tryd.prog 7 #[.slice A len cap] w fun e w' => (∃ s : ByteArray, s.size ≤ 108 ∧ e = .returned (.string s)) ∧ Below w.heap.size w w' := by
  have HN := Lib.hid (new24_cur 12 A len cap zs w hz (by omega))
  clear hz
  go_enter Tryd.func7, Tryd.ntmps7
  go_wp2_with fail
  refine HN.out.mono ?_
  rintro e w1 ⟨p, rfl, hc1⟩
  have HD := Lib.hid (input_cur 12 w1 hc1 (by omega))
  clear hc1
  go_wp2_with fail
  refine HD.out.mono ?_
  rintro e w2 ⟨s, hs, rfl, hc2⟩
  have HC2 := Lib.hid hc2
  clear hc2
  go_wp2_with fail
  go_ret
  exact ⟨⟨s, by omega, rfl⟩, HC2.out.old⟩
end Go.Proofs.YtncdglfcegmmgaaDoor
