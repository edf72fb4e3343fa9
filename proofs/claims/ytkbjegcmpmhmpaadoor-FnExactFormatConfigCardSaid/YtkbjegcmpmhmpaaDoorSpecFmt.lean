/- FormatInt of the model gives fmtB. -/
import Derived.Test.YtkbjegcmpmhmpaaDoorProg
import Derived.Test.YtkbjegcmpmhmpaaDoorFmtPre
import Derived.Deep.RegionWith
import Derived.IntWalk
namespace Go.Proofs.YtkbjegcmpmhmpaaDoor
open Go.RowKit Go.Lib

/-- 'string([]byte{b})': a text of one byte, wherever the cell lies. -/
theorem byteStr (W : World) (g : Nat) (n : Int) (h0 : 0 ≤ n) (h1 : n ≤ 255) (hc : W.cell? ⟨g, 0, none⟩ = some (.int .u8 n)) :
    (convert 22 9 (.slice (some ⟨g, 0, none⟩) 1 1)).run Tryd.prog W = .ok (.string ⟨[UInt8.ofNat n.toNat].toArray⟩) W := by
  refine run_convert_bytes_back (P := Tryd.prog) _ 22 9 5 ⟨g, 0, none⟩ 1 [UInt8.ofNat n.toNat] Tryd.underlying22 Tryd.underlying5 Tryd.underlying9 ?_
  intro j hj
  match j, hj with
  | 0, _ =>
    have : (⟨g, 0, none⟩ : Addr).add 0 = ⟨g, 0, none⟩ := by simp [Addr.add]
    rw [this, hc]
    simp
    omega

theorem byteStr_new (W : World) (n : Int) (h0 : 0 ≤ n) (h1 : n ≤ 255) :
    (convert 22 9 (.slice (some ⟨W.heap.size, 0, none⟩) 1 1)).run Tryd.prog (W.alloc (.cells #[.int .u8 n] 5)) = .ok (.string ⟨[UInt8.ofNat n.toNat].toArray⟩) (W.alloc (.cells #[.int .u8 n] 5)) :=
  byteStr _ _ n h0 h1 (by simp)

set_option maxRecDepth 100000 in
set_option maxHeartbeats 400000 in
theorem specFmt_nat (k : Nat) (w : World) (hk : (k : Int) ≤ 9223372036854775807) :
    Calls Tryd.prog 32 #[.int .i64 k] w fun e w' => e = .returned (.string (fmtB k)) ∧ Below w.heap.size w w' := by
  have hl : (decDigits k).length ≤ 21 := by have := itoa_length_le k (by omega) hk; rw [itoa_nat] at this; exact this
  go_enter Tryd.func32, Tryd.ntmps32
  go_wp2
  go_loopw [0, 3] (fun t o wr => ∃ (j : Nat) (acc : List UInt8), t = .int .i64 j ∧ o = .string ⟨acc.toArray⟩ ∧ j ≤ k ∧ acc.length ≤ 21 ∧ Hid (decDigits j ++ acc = decDigits k) ∧ Below w.heap.size w wr) (fun t _ _ => (intOf t).toNat)
  case atStart => exact ⟨k, [], rfl, rfl, Nat.le_refl _, by simp, Lib.hid (by simp), Below.refl _ _⟩
  case round =>
    obtain ⟨j, acc, rfl, rfl, hjk, hal, HM, hbel⟩ := hrel
    by_cases hj : 9 < j
    · have hcv := byteStr_new wr (48 + (j : Int) % 10) (by omega) (by omega)
      have hst : decDigits (j / 10) ++ (UInt8.ofNat (48 + j % 10) :: acc) = decDigits k := by rw [← HM.out, decDigits_big (u := j) (by omega)]; simp
      have hal2 : (UInt8.ofNat (48 + j % 10) :: acc).length ≤ 21 := by
        have := congrArg List.length hst
        rw [List.length_append] at this; omega
      have HS := Lib.hid hst
      have HA := Lib.hid hal2
      clear hst hal2
      go_wp2
      go_roundw
      case rel =>
        refine ⟨j / 10, UInt8.ofNat (48 + j % 10) :: acc, by go_num, ?_, by omega, HA.out, HS, hbel.alloc hbel.size _⟩
        simpa using congrArg Value.string (byte_cons (UInt8.ofNat (48 + j % 10)) acc)
      case measure => simp [intOf]; omega
    · have hcv := byteStr_new wr (48 + (j : Int)) (by omega) (by omega)
      go_wp2
      go_ret
      refine ⟨ret_string ?_, hbel.alloc hbel.size _⟩
      have hm := HM.out
      rw [decDigits_small (by omega)] at hm
      unfold fmtB
      rw [itoa_nat, ← hm]
      simpa using byte_cons (UInt8.ofNat (48 + j)) acc

set_option maxRecDepth 100000 in
set_option maxHeartbeats 400000 in
theorem specFmt_neg : ∀ (f m : Nat) (w : World), m ≤ f → 0 < m → (m : Int) ≤ 9223372036854775808 →
    Calls Tryd.prog 32 #[.int .i64 (-(m : Int))] w fun e w' => e = .returned (.string (fmtB (-(m : Int)))) ∧ Below w.heap.size w w' := by
  intro f
  induction f with
  | zero => intro m w h1 h2; omega
  | succ f ih =>
    intro m w hf h0 hm
    have IH := Lib.hid ih
    clear ih
    have e1 : (-(m : Int)).tdiv 10 = -((m / 10 : Nat) : Int) := by rw [Int.neg_tdiv]; rfl
    have e2 : (-(m : Int)).tmod 10 = -((m % 10 : Nat) : Int) := by rw [Int.neg_tmod]; rfl
    by_cases hs : m < 10
    · have hcv := byteStr_new w (48 + (m : Int)) (by omega) (by omega)
      have e0 : (-(m : Int)).tdiv 10 = 0 := by rw [e1]; omega
      clear e1
      go_enter Tryd.func32, Tryd.ntmps32
      go_wp2
      go_ret
      refine ⟨ret_string ?_, (Below.refl _ _).alloc (Nat.le_refl _) _⟩
      rw [fmtB_neg_small m h0 hs]
      simpa using byte_cons 45 [UInt8.ofNat (48 + m)]
    · have ew1 : IntKind.i64.wrap (-((m : Int) / 10)) = -((m : Int) / 10) := IntWalk.i64_in _ (by omega)
      have hcall : ∀ W : World, Calls Tryd.prog 32 #[.int .i64 (IntKind.i64.wrap (-((m : Int) / 10)))] W fun e w' => e = .returned (.string (fmtB (-((m / 10 : Nat) : Int)))) ∧ Below W.heap.size W w' := fun W => by
        rw [ew1, show ((m : Int) / 10) = ((m / 10 : Nat) : Int) from by omega]
        exact IH.out (m / 10) W (by omega) (by omega) (by omega)
      obtain ⟨q, hq⟩ : ∃ q, q = fmtB (-((m / 10 : Nat) : Int)) := ⟨_, rfl⟩
      rw [← hq] at hcall
      have hqs : q.size ≤ 21 := by rw [hq]; exact fmtB_size _ (by omega) (by omega)
      have hfin : q ++ ByteArray.mk [UInt8.ofNat (48 + m % 10)].toArray = fmtB (-(m : Int)) := by rw [hq, fmtB_neg_big m hs]
      have HC := Lib.hid hcall
      have HF := Lib.hid hfin
      clear hcall hq hfin ew1
      obtain ⟨y, hy⟩ : ∃ y : ByteArray, y = ByteArray.mk [UInt8.ofNat (48 + m % 10)].toArray := ⟨_, rfl⟩
      have hcv : ∀ (W : World) (g : Nat), W.cell? ⟨g, 0, none⟩ = some (.int .u8 (IntKind.u8.wrap (IntKind.i64.wrap (48 + (m : Int) % 10)))) → (convert 22 9 (.slice (some ⟨g, 0, none⟩) 1 1)).run Tryd.prog W = .ok (.string y) W := fun W g hc => by
        have e3 : IntKind.u8.wrap (IntKind.i64.wrap (48 + (m : Int) % 10)) = 48 + ((m % 10 : Nat) : Int) := by
          rw [IntWalk.i64_in _ (by omega), IntWalk.u8_in _ (by omega)]; omega
        rw [e3] at hc
        have h := byteStr W g (48 + ((m % 10 : Nat) : Int)) (by omega) (by omega) hc
        rw [h, hy]
        congr 4
      have hys : y.size = 1 := by rw [hy]; rfl
      rw [← hy] at HF
      clear hy
      have hA1 : w.heap.size < (w.alloc (.cells #[.int .u8 (IntKind.u8.wrap (IntKind.i64.wrap (48 + (m : Int) % 10)))] 5)).drew.heap.size := by simp
      have hA2 : (w.alloc (.cells #[.int .u8 (IntKind.u8.wrap (IntKind.i64.wrap (48 + (m : Int) % 10)))] 5)).drew.cell? ⟨w.heap.size, 0, none⟩ = some (.int .u8 (IntKind.u8.wrap (IntKind.i64.wrap (48 + (m : Int) % 10)))) := by
        show (w.alloc _).cell? _ = _
        rw [cell_of_row _ w.heap.size 0 _ 5 (0, 0) (heap_alloc_new w _)]; rfl
      have HA1 := Lib.hid hA1
      have HA2 := Lib.hid hA2
      clear hA1 hA2
      go_enter Tryd.func32, Tryd.ntmps32
      go_wp2
      go_region_with ((go_at_call 32; refine (HC.out _).mono ?_; rintro e w1 ⟨rfl, hb1⟩; first | (have hx := (hb1.cell (p := ⟨w.heap.size, 0, none⟩) HA1.out).trans HA2.out) | skip))
      all_goals go_wp2
      all_goals go_ret
      all_goals refine ⟨Eq.trans (b := Ending.returned (.string (q ++ y))) rfl (ret_string HF.out), ?_⟩
      all_goals first
        | exact (Below.refl _ _).drew.trans hb1
        | exact ((Below.refl _ _).drew.trans hb1).alloc hb1.size _
        | exact (((Below.refl w.heap.size w).alloc (Nat.le_refl _) _).drew).trans (hb1.mono (Nat.le_of_lt HA1.out))

theorem specFormatInt (n : Int) (w : World) (h0 : -9223372036854775808 ≤ n) (h1 : n ≤ 9223372036854775807) :
    Calls Tryd.prog 32 #[.int .i64 n] w fun e w' => e = .returned (.string (fmtB n)) ∧ Below w.heap.size w w' := by
  by_cases h : 0 ≤ n
  · obtain ⟨k, rfl⟩ := Int.eq_ofNat_of_zero_le h
    exact specFmt_nat k w h1
  · obtain ⟨m, hm⟩ : ∃ m : Nat, n = -(m : Int) := ⟨n.natAbs, by omega⟩
    subst hm
    exact specFmt_neg m m w (Nat.le_refl _) (by omega) (by omega)
end Go.Proofs.YtkbjegcmpmhmpaaDoor
