/- The program's TextWidth, FitWidth and paddings. -/
import Derived.Test.YtionfjofojfaoaaDoorImplWidth
import Derived.Test.YtionfjofojfaoaaDoorSpecPadW
import Derived.Lib.Repeat
namespace Go.Proofs.YtionfjofojfaoaaDoor
open Go.RowKit
set_option linter.unusedVariables false

/-- The decoder's tables and the table of widths are as they are laid. -/
def WT (w : World) : Prop := Tabs w ∧ WTab w
theorem WT.below {w w' : World} (h : WT w) (hb : Below w.heap.size w w') : WT w' := ⟨h.1.below hb, h.2.below hb⟩

set_option maxRecDepth 100000 in
set_option maxHeartbeats 1000000 in
theorem implTextWidth (s : ByteArray) (w : World) (hs : s.size ≤ 100000000) (hT : WT w) :
    Calls Tryd.prog 13 #[.string s] w fun e w' => e = .returned (.int .i64 (textW s : Int)) ∧ Below w.heap.size w w' := by
  have HC := Lib.hid (implRunesOf s w hs hT.1)
  have hlen := runesB_length s
  have hRW := fun r W (h : WTab W) => implRuneWidth r W h
  have HRW := Lib.hid hRW
  have HT := Lib.hid hT.2
  clear hRW hT
  unfold textW
  obtain ⟨L, hL⟩ : ∃ L, L = runesB s := ⟨_, rfl⟩
  rw [← hL] at HC hlen ⊢
  obtain ⟨n, hn⟩ : ∃ n, n = L.length := ⟨_, rfl⟩
  have HN := Lib.hid hn
  rw [← hn] at HC hlen
  clear hL hn
  go_enter Tryd.func13, Tryd.ntmps13
  go_wp2_with fail
  refine HC.out.mono ?_
  rintro e w1 ⟨v, rfl, h1, h2⟩
  obtain ⟨A, c, hv, hcell⟩ := Rd.of_own h1
  rw [ints_length, ← HN.out] at hv
  rw [ints_length, ← HN.out] at hcell
  subst hv
  have HCE := Lib.hid hcell
  have H2 := Lib.hid h2
  have hw1 : w.heap.size ≤ w1.heap.size := h2.size
  clear h1 h2 hcell
  go_wp2_with fail
  go_loopw [3, 9] (fun a k wr => ∃ (q : Nat), q ≤ n ∧ k = .int .i64 (q : Int) ∧ a = .int .i64 (widthL (L.take q) : Int) ∧ Below w1.heap.size w1 wr) (fun _ k _ => n - (intOf k).toNat)
  case atStart => exact ⟨0, Nat.zero_le _, rfl, rfl, Below.refl _ _⟩
  case round =>
    obtain ⟨q, hq, rfl, rfl, hbel⟩ := hrel
    by_cases hlt : q < n
    · have hqL : q < L.length := by rw [← HN.out]; exact hlt
      obtain ⟨g, o, rfl, hgl, hcc⟩ := HCE.out (by omega)
      have hcw : wr.cell? ⟨g, o + q, none⟩ = some (.int .i64 L[q]) := (hbel.cell (p := ⟨g, o + q, none⟩) hgl).trans (hcc q _ (ints_get L q hqL))
      have hst := widthL_take L q hqL
      have hle := widthL_take_le L q
      have hle2 := rw1_le L[q]
      have hle3 : widthL (L.take q) ≤ 200000000 := by have := HN.out; omega
      obtain ⟨x, hx⟩ : ∃ x, x = L[q] := ⟨_, rfl⟩
      rw [← hx] at hcw hst hle2
      obtain ⟨z, hz⟩ : ∃ z, z = rw1 x := ⟨_, rfl⟩
      have hcall := fun W h => HRW.out x W h
      rw [← hz] at hst hle2 hcall
      obtain ⟨t, ht⟩ : ∃ t, t = widthL (L.take q) := ⟨_, rfl⟩
      rw [← ht] at hst hle hle3
      rw [← ht]
      have HST := Lib.hid hst
      have HCL := Lib.hid hcall
      have BE := Lib.hid hbel
      clear hst hcall hx hz ht hcc hbel
      go_wp2_with fail
      refine (HCL.out _ (HT.out.below (H2.out.trans (BE.out.mono hw1)))).mono ?_
      rintro e w2 ⟨rfl, hb2⟩
      have B2 := Lib.hid (BE.out.trans (hb2.mono BE.out.size))
      clear hb2
      go_wp2_with fail
      go_roundw
      case rel => exact ⟨q + 1, by omega, by go_num, by rw [HST.out]; go_num, B2.out⟩
      case measure => simp [intOf]; omega
    · have hw := Lib.hid (widthL_whole L q (by rw [← HN.out]; exact hlt))
      have BE := Lib.hid hbel
      clear hbel
      go_wp2
      go_ret
      exact ⟨ret_int (by rw [hw.out]), H2.out.trans (BE.out.mono hw1)⟩

end Go.Proofs.YtionfjofojfaoaaDoor
