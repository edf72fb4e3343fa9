/- MakeString of the model's package gives some short text. -/
import Derived.Test.YtijclaocmnkncaaDoorCur
namespace Go.Proofs.YtijclaocmnkncaaDoor
open Go.RowKit

/-- The texts that a piece is picked from. -/
def pieces : List ByteArray := [⟨#[97]⟩, ⟨#[98, 99]⟩, ⟨#[120]⟩, ⟨#[48]⟩, ⟨#[49, 50, 46, 53]⟩, ⟨#[195, 164]⟩, ⟨#[228, 184, 173]⟩, ⟨#[101, 204, 129]⟩, ⟨#[240, 159, 152, 128]⟩, ⟨#[228]⟩, ⟨#[228, 184]⟩, ⟨#[255]⟩, ⟨#[32]⟩, ⟨#[45, 55]⟩]
theorem pieces_size (x : ByteArray) (h : x ∈ pieces) : x.size ≤ 4 := by
  simp only [pieces, List.mem_cons, List.not_mem_nil, or_false] at h
  rcases h with rfl | rfl | rfl | rfl | rfl | rfl | rfl | rfl | rfl | rfl | rfl | rfl | rfl | rfl <;> decide
/-- Their cells. -/
def pieceCells : Array Value := #[.string ⟨#[97]⟩, .string ⟨#[98, 99]⟩, .string ⟨#[120]⟩, .string ⟨#[48]⟩, .string ⟨#[49, 50, 46, 53]⟩, .string ⟨#[195, 164]⟩, .string ⟨#[228, 184, 173]⟩, .string ⟨#[101, 204, 129]⟩, .string ⟨#[240, 159, 152, 128]⟩, .string ⟨#[228]⟩, .string ⟨#[228, 184]⟩, .string ⟨#[255]⟩, .string ⟨#[32]⟩, .string ⟨#[45, 55]⟩]
theorem pieces_cells (w : World) : ∀ (j : Nat) x, pieces[j]? = some x → (w.alloc (.cells pieceCells 9)).cell? ⟨w.heap.size, j, none⟩ = some (.string x) := by
  intro j x hj
  rw [cell_of_row _ w.heap.size j _ 9 (0, 0) (heap_alloc_new w _)]
  match j, hj with
  | 0, hj => simp [pieces] at hj; subst hj; rfl
  | 1, hj => simp [pieces] at hj; subst hj; rfl
  | 2, hj => simp [pieces] at hj; subst hj; rfl
  | 3, hj => simp [pieces] at hj; subst hj; rfl
  | 4, hj => simp [pieces] at hj; subst hj; rfl
  | 5, hj => simp [pieces] at hj; subst hj; rfl
  | 6, hj => simp [pieces] at hj; subst hj; rfl
  | 7, hj => simp [pieces] at hj; subst hj; rfl
  | 8, hj => simp [pieces] at hj; subst hj; rfl
  | 9, hj => simp [pieces] at hj; subst hj; rfl
  | 10, hj => simp [pieces] at hj; subst hj; rfl
  | 11, hj => simp [pieces] at hj; subst hj; rfl
  | 12, hj => simp [pieces] at hj; subst hj; rfl
  | 13, hj => simp [pieces] at hj; subst hj; rfl
  | j + 14, hj => simp [pieces] at hj

set_option maxHeartbeats 1000000 in
theorem piece_cur {w0 : World} {p : Nat} {A : Option Addr} {len cap : Nat} {zs : List Int} (w : World) (h : CurB w0 w p A len cap zs) :
    Calls Tryd.prog 40 #[.pointer (some ⟨p, 0, none⟩)] w fun e w' => ∃ x : ByteArray, x.size ≤ 4 ∧ e = .returned (.string x) ∧ CurB w0 w' p A len cap zs := by
  have HB := Lib.hid (h.below ((Below.refl _ _).alloc (Nat.le_refl _) (.cells pieceCells 9)))
  have HS := Lib.hid (str_cur pieces 14 w.heap.size 14 _ HB.out rfl (by omega) (by omega) (by have := h.lt; omega) (by simp) (pieces_cells w))
  clear h HB
  go_enter Tryd.func40, Tryd.ntmps40
  go_wp2_with fail
  refine HS.out.mono ?_
  rintro e w1 ⟨x, hx, rfl, hc, _⟩
  have hxs := pieces_size x hx
  have HC := Lib.hid hc
  clear hc hx
  go_wp2_with fail
  go_ret
  exact ⟨x, hxs, rfl, HC.out⟩

set_option maxHeartbeats 1000000 in
theorem draw_cur {w0 : World} {p : Nat} {A : Option Addr} {len cap : Nat} {zs : List Int} (m : Nat) (w : World) (h : CurB w0 w p A len cap zs) (hm : m ≤ 200) :
    Calls Tryd.prog 25 #[.pointer (some ⟨p, 0, none⟩), .int .i64 (m : Int)] w fun e w' => ∃ s : ByteArray, s.size ≤ 4 * m ∧ e = .returned (.string s) ∧ CurB w0 w' p A len cap zs := by
  have HC0 := Lib.hid (below_cur ((m : Int) + 1) w h (by omega) (by omega))
  clear h
  go_enter Tryd.func25, Tryd.ntmps25
  go_wp2_with fail
  refine HC0.out.mono ?_
  rintro e w1 ⟨n, hn0, hn1, rfl, hc1, _⟩
  have HC1 := Lib.hid hc1
  clear hc1
  go_wp2_with fail
  go_loopw [5, 6] (fun t i wr => ∃ (k : Int) (s : ByteArray), i = .int .i64 k ∧ t = .string s ∧ 0 ≤ k ∧ k ≤ m ∧ (s.size : Int) ≤ 4 * ((m : Int) - k) ∧ Hid (CurB w0 wr p A len cap zs)) (fun _ i _ => (intOf i).toNat)
  case atStart => exact ⟨n, ⟨#[]⟩, rfl, rfl, hn0, by omega, by show (0 : Int) ≤ _; omega, HC1⟩
  case round =>
    obtain ⟨k, s, rfl, rfl, hk0, hk1, hss, HC⟩ := hrel
    by_cases hk : 0 < k
    · go_wp2_with fail
      refine (piece_cur _ HC.out).mono ?_
      rintro e w3 ⟨x, hxs, rfl, hc3⟩
      have HC3 := Lib.hid hc3
      clear hc3
      have hsz : (s ++ x).size = s.size + x.size := ByteArray.size_append' s x
      have HSZ := Lib.hid hsz
      clear hsz
      go_wp2_with fail
      go_roundw
      case rel => exact ⟨k - 1, s ++ x, rfl, rfl, by omega, by omega, by rw [HSZ.out]; omega, HC3⟩
      case measure => simp [intOf]; omega
    · go_wp2
      go_ret
      exact ⟨s, by omega, rfl, HC.out⟩

set_option maxHeartbeats 1000000 in
theorem makeString_any (n : Nat) (A : Option Addr) (len cap : Nat) (zs : List Int) (w : World) (hz : IsBytes w A len cap zs) (hn : n ≤ 1000000) :
    Calls Tryd.prog 10 #[.slice A len cap, .int .i64 (n : Int)] w fun e w' => (∃ s : ByteArray, s.size ≤ 24 ∧ e = .returned (.string s)) ∧ Below w.heap.size w w' := by
  have HN := Lib.hid (new24_cur n A len cap zs w hz hn)
  clear hz
  go_enter Tryd.func10, Tryd.ntmps10
  go_wp2_with fail
  refine HN.out.mono ?_
  rintro e w1 ⟨p, rfl, hc1⟩
  have HD := Lib.hid (draw_cur 6 w1 hc1 (by omega))
  clear hc1
  go_wp2_with fail
  refine HD.out.mono ?_
  rintro e w2 ⟨s, hs, rfl, hc2⟩
  have HC2 := Lib.hid hc2
  clear hc2
  go_wp2_with fail
  go_ret
  exact ⟨⟨s, by omega, rfl⟩, HC2.out.old⟩
end Go.Proofs.YtijclaocmnkncaaDoor
