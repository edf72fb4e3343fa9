/- MakeText of the model's package gives some short text. -/
import Derived.Test.YtfbkefgabkiakaaDoorCur
namespace Go.Proofs.YtfbkefgabkiakaaDoor
open Go.RowKit

/-- The texts that MakeText picks from. -/
def picks : List ByteArray := [⟨#[97]⟩, ⟨#[98, 99]⟩, ⟨#[32]⟩, ⟨#[44]⟩, ⟨#[120, 49]⟩]
theorem picks_size (x : ByteArray) (h : x ∈ picks) : x.size ≤ 2 := by
  simp only [picks, List.mem_cons, List.not_mem_nil, or_false] at h
  rcases h with rfl | rfl | rfl | rfl | rfl <;> decide
theorem picks_cells (w : World) : ∀ (j : Nat) x, picks[j]? = some x → (w.alloc (.cells #[.string ⟨#[97]⟩, .string ⟨#[98, 99]⟩, .string ⟨#[32]⟩, .string ⟨#[44]⟩, .string ⟨#[120, 49]⟩] 9)).cell? ⟨w.heap.size, j, none⟩ = some (.string x) := by
  intro j x hj
  rw [cell_of_row _ w.heap.size j _ 9 (0, 0) (heap_alloc_new w _)]
  match j, hj with
  | 0, hj => simp [picks] at hj; subst hj; rfl
  | 1, hj => simp [picks] at hj; subst hj; rfl
  | 2, hj => simp [picks] at hj; subst hj; rfl
  | 3, hj => simp [picks] at hj; subst hj; rfl
  | 4, hj => simp [picks] at hj; subst hj; rfl
  | j + 5, hj => simp [picks] at hj

set_option maxHeartbeats 1000000 in
theorem makeText_any (A : Option Addr) (len cap : Nat) (zs : List Int) (w : World) (hz : IsBytes w A len cap zs) :
    Calls Tryd.prog 9 #[.slice A len cap] w fun e w' => (∃ s : ByteArray, s.size ≤ 16 ∧ e = .returned (.string s)) ∧ Below w.heap.size w w' := by
  have HN := Lib.hid (new_cur A len cap zs w hz)
  clear hz
  go_enter Tryd.func9, Tryd.ntmps9
  go_wp2_with fail
  refine HN.out.mono ?_
  rintro e w1 ⟨p, rfl, hc1⟩
  have HC1 := Lib.hid hc1
  clear hc1
  go_wp2_with fail
  refine (below_cur 8 _ HC1.out (by omega) (by omega)).mono ?_
  rintro e w2 ⟨n, hn0, hn1, rfl, hc2, _⟩
  have HC2 := Lib.hid hc2
  clear hc2
  go_wp2_with fail
  go_loopw [4, 5] (fun t i wr => ∃ (m : Int) (s : ByteArray), i = .int .i64 m ∧ t = .string s ∧ 0 ≤ m ∧ m ≤ 8 ∧ (s.size : Int) ≤ 16 - 2 * m ∧ Hid (CurB w wr p A len cap zs)) (fun _ i _ => (intOf i).toNat)
  case atStart => exact ⟨n, ⟨#[]⟩, rfl, rfl, hn0, by omega, by show (0 : Int) ≤ _; omega, HC2⟩
  case round =>
    obtain ⟨m, s, rfl, rfl, hm0, hm1, hss, HC⟩ := hrel
    by_cases hm : 0 < m
    · have HB := Lib.hid (HC.out.below ((Below.refl _ _).alloc (Nat.le_refl _) (.cells #[.string ⟨#[97]⟩, .string ⟨#[98, 99]⟩, .string ⟨#[32]⟩, .string ⟨#[44]⟩, .string ⟨#[120, 49]⟩] 9)))
      go_wp2_with fail
      refine (str_cur picks 5 wr.heap.size 5 _ HB.out rfl (by omega) (by omega) (by have := HC.out.lt; omega) (by simp) (picks_cells wr)).mono ?_
      rintro e w3 ⟨x, hx, rfl, hc3, _⟩
      have hxs := picks_size x hx
      have HC3 := Lib.hid hc3
      clear hc3 hx
      have hsz : (s ++ x).size = s.size + x.size := ByteArray.size_append' s x
      have HSZ := Lib.hid hsz
      clear hsz
      go_wp2_with fail
      go_roundw
      case rel => exact ⟨m - 1, s ++ x, rfl, rfl, by omega, by omega, by rw [HSZ.out]; omega, HC3⟩
      case measure => simp [intOf]; omega
    · go_wp2
      go_ret
      exact ⟨⟨s, by omega, rfl⟩, HC.out.old⟩
end Go.Proofs.YtfbkefgabkiakaaDoor
