/- The model's widths: RuneWidth, TextWidth, FitWidth, and the paddings. -/
import Derived.Test.YtionfjofojfaoaaDoorSpecRead
import Derived.Test.YtionfjofojfaoaaDoorWidth
import Derived.Lib.AppendStr
import Derived.IntWalk
namespace Go.Proofs.YtionfjofojfaoaaDoor
open Go.RowKit
set_option linter.unusedVariables false

theorem quiet_add_left {P : Program} {f : FuncId} {args : Array Value} {w : World} {a n : Nat} {v : Value}
    (h : Calls P f args (w.drewN (a + n)) fun e w' => e = .returned v ∧ w.drewN (a + n) = w') :
    Calls P f args (w.drewN (a + n)) fun e w'' => e = .returned v ∧ ∃ m, w'' = w.drewN (a + m) :=
  h.mono fun _ _ ⟨he, hm⟩ => ⟨he, n, hm.symm⟩

set_option maxRecDepth 100000 in
set_option maxHeartbeats 1000000 in
theorem l03Within_any (r : Int) (g o c n : Nat) (xs : List Int) (w : World) (hn : n = xs.length) (hx : n ≤ 1000) (hcell : ∀ (j : Nat) (h : j < xs.length), w.cell? ⟨g, o + j, none⟩ = some (.int .i64 xs[j])) :
    Calls Tryd.prog 67 #[.int .i64 r, .slice (some ⟨g, o, none⟩) n c] w fun e w' => e = .returned (.bool (inAny r xs)) ∧ ∃ m, w' = w.drewN m := by
  have HN := Lib.hid hn
  have HC := Lib.hid hcell
  clear hn hcell
  go_enter Tryd.func67, Tryd.ntmps67
  go_wp2
  go_loopw [5] (fun i wr => ∃ k m : Nat, k ≤ n + 1 ∧ i = .int .i64 k ∧ wr = w.drewN m ∧ Hid (inAny r (xs.drop k) = inAny r xs)) (fun i _ => n + 2 - (intOf i).toNat)
  case atStart => exact ⟨0, 0, Nat.zero_le _, rfl, rfl, Lib.hid rfl⟩
  case round =>
    obtain ⟨k, m, hk, rfl, rfl, HT⟩ := hrel
    by_cases hlt : k + 1 < n
    · have hka : k + 1 < xs.length := by rw [← HN.out]; exact hlt
      have ca : w.cell? ⟨g, o + k, none⟩ = some (.int .i64 xs[k]) := HC.out k (by omega)
      have cb : w.cell? ⟨g, o + (k + 1), none⟩ = some (.int .i64 xs[k + 1]) := HC.out (k + 1) hka
      obtain ⟨x, hx2⟩ : ∃ x, x = xs[k] := ⟨_, rfl⟩
      obtain ⟨y, hy2⟩ : ∃ y, y = xs[k + 1] := ⟨_, rfl⟩
      rw [← hx2] at ca
      rw [← hy2] at cb
      have HX := Lib.hid hx2
      have HY := Lib.hid hy2
      clear hx2 hy2
      cases hin : inB r x y with
      | true =>
        have hca := fun w => l01In_any r x y w
        rw [hin] at hca
        have HCA := Lib.hid hca
        have HIN := Lib.hid hin
        clear hca hin
        go_wp2
        have h0 : (0 : Int) ≤ (k : Int) + 1 := by omega
        have h1 : (k : Int) + 1 < n := by omega
        have h2 : (k : Int) < n := by omega
        have h3 : (0 : Int) ≤ (k : Int) := by omega
        have hw1 : IntKind.i64.wrap ((k : Int) + 1) = (k : Int) + 1 := IntWalk.i64_in _ (by omega)
        have hw2 : ((k : Int) + 1).toNat = k + 1 := by omega
        go_quiet ((go_at_call 64; exact quiet_add_left (HCA.out _)))
        clear hw1 hw2 h0 h1 h2 h3
        go_wp2
        go_ret
        exact ⟨ret_bool (by rw [← HT.out]; exact (inAny_yes r xs k hka (by rw [← HX.out, ← HY.out]; exact HIN.out)).symm), _, World.drewN_drewN ..⟩
      | false =>
        have hca := fun w => l01In_any r x y w
        rw [hin] at hca
        have HCA := Lib.hid hca
        have HIN := Lib.hid hin
        clear hca hin
        go_wp2
        have h0 : (0 : Int) ≤ (k : Int) + 1 := by omega
        have h1 : (k : Int) + 1 < n := by omega
        have h2 : (k : Int) < n := by omega
        have h3 : (0 : Int) ≤ (k : Int) := by omega
        have hw1 : IntKind.i64.wrap ((k : Int) + 1) = (k : Int) + 1 := IntWalk.i64_in _ (by omega)
        have hw2 : ((k : Int) + 1).toNat = k + 1 := by omega
        go_quiet ((go_at_call 64; exact quiet_add_left (HCA.out _)))
        clear hw1 hw2 h0 h1 h2 h3
        go_wp2
        go_roundw
        case rel => exact ⟨k + 2, _, by omega, by go_num, rfl, Lib.hid ((inAny_no r xs k hka (by rw [← HX.out, ← HY.out]; exact HIN.out)).symm.trans HT.out)⟩
        case measure => simp [intOf]; omega
    · have hno := Lib.hid (inAny_end r xs k (by rw [← HN.out]; exact hlt))
      go_wp2
      go_ret
      exact ⟨ret_bool (by rw [← HT.out, hno.out]), _, rfl⟩
theorem l03Within_lit (r : Int) (n : Nat) (xs : List Int) (cs : Array Value) (t : TypeId) (w : World) (hn : n = xs.length) (hx : n ≤ 1000) (hcs : cs = (ints xs).toArray) :
    Calls Tryd.prog 67 #[.int .i64 r, .slice (some ⟨w.heap.size, 0, none⟩) n n] (w.alloc (.cells cs t)) fun e w' => e = .returned (.bool (inAny r xs)) ∧ Below w.heap.size w w' := by
  refine (l03Within_any r w.heap.size 0 n n xs _ hn hx fun j hj => ?_).mono fun e w' ⟨he, m, hw⟩ => ⟨he, by rw [hw]; exact below_drewN ((Below.refl _ _).alloc (Nat.le_refl _) _) m⟩
  rw [Nat.zero_add, World.cell?_alloc_at cs t w.heap.size j rfl, hcs]
  rw [List.getElem?_toArray]
  exact ints_get xs j hj
theorem specRuneWidth (r : Int) (w : World) :
    Calls Tryd.prog 58 #[.int .i64 r] w fun e w' => e = .returned (.int .i64 (rw1 r : Int)) ∧ Below w.heap.size w w' := by
  have hA := fun (W : World) => l03Within_lit r 16 zeroL _ 3 W rfl (by omega) rfl
  have hB := fun (W : World) => l03Within_lit r 18 wideL _ 3 W rfl (by omega) rfl
  unfold rw1
  cases ha : inAny r zeroL with
  | true =>
    rw [if_pos rfl]
    rw [ha] at hA
    have HA := Lib.hid hA
    clear hA hB ha
    go_enter Tryd.func58, Tryd.ntmps58
    go_wp2_with fail
    refine (HA.out _).mono ?_
    rintro e w1 ⟨rfl, hb1⟩
    have B1 := Lib.hid hb1
    clear hb1
    go_wp2_with fail
    go_ret
    exact ⟨rfl, B1.out⟩
  | false =>
    rw [if_neg (by decide)]
    rw [ha] at hA
    cases hb : inAny r wideL with
    | true =>
      rw [if_pos rfl]
      rw [hb] at hB
      have HA := Lib.hid hA
      have HB := Lib.hid hB
      clear hA hB ha hb
      go_enter Tryd.func58, Tryd.ntmps58
      go_wp2_with fail
      refine (HA.out _).mono ?_
      rintro e w1 ⟨rfl, hb1⟩
      have B1 := Lib.hid hb1
      clear hb1
      go_wp2_with fail
      refine (HB.out _).mono ?_
      rintro e w2 ⟨rfl, hb2⟩
      have B2 := Lib.hid (B1.out.trans (hb2.mono B1.out.size))
      clear hb2
      go_wp2_with fail
      go_ret
      exact ⟨rfl, B2.out⟩
    | false =>
      rw [if_neg (by decide)]
      rw [hb] at hB
      have HA := Lib.hid hA
      have HB := Lib.hid hB
      clear hA hB ha hb
      go_enter Tryd.func58, Tryd.ntmps58
      go_wp2_with fail
      refine (HA.out _).mono ?_
      rintro e w1 ⟨rfl, hb1⟩
      have B1 := Lib.hid hb1
      clear hb1
      go_wp2_with fail
      refine (HB.out _).mono ?_
      rintro e w2 ⟨rfl, hb2⟩
      have B2 := Lib.hid (B1.out.trans (hb2.mono B1.out.size))
      clear hb2
      go_wp2_with fail
      go_ret
      exact ⟨rfl, B2.out⟩

set_option maxRecDepth 100000 in
set_option maxHeartbeats 1000000 in
theorem specTextWidth (s : ByteArray) (w : World) (hs : s.size ≤ 100000000) :
    Calls Tryd.prog 38 #[.string s] w fun e w' => e = .returned (.int .i64 (textW s : Int)) ∧ Below w.heap.size w w' := by
  have HC := Lib.hid (specRunesOf s w hs)
  have hlen := runesB_length s
  have hRW := fun r w => specRuneWidth r w
  have HRW := Lib.hid hRW
  clear hRW
  unfold textW
  obtain ⟨L, hL⟩ : ∃ L, L = runesB s := ⟨_, rfl⟩
  rw [← hL] at HC hlen ⊢
  obtain ⟨n, hn⟩ : ∃ n, n = L.length := ⟨_, rfl⟩
  have HN := Lib.hid hn
  rw [← hn] at HC hlen
  clear hL hn
  go_enter Tryd.func38, Tryd.ntmps38
  go_wp2_with fail
  refine HC.out.mono ?_
  rintro e w1 ⟨v, rfl, h1, h2⟩
  obtain ⟨A, c, hv, hcell⟩ := Rd.of_own h1
  rw [ints_length, ← HN.out] at hv
  rw [ints_length, ← HN.out] at hcell
  subst hv
  have HCE := Lib.hid hcell
  have H2 := Lib.hid h2
  have hw1 : w.heap.size ≤ w1.heap.size := h2.size
  clear h1 h2 hcell
  go_wp2_with fail
  go_loopw [3, 9] (fun a k wr => ∃ (q : Nat), q ≤ n ∧ k = .int .i64 (q : Int) ∧ a = .int .i64 (widthL (L.take q) : Int) ∧ Below w1.heap.size w1 wr) (fun _ k _ => n - (intOf k).toNat)
  case atStart => exact ⟨0, Nat.zero_le _, rfl, rfl, Below.refl _ _⟩
  case round =>
    obtain ⟨q, hq, rfl, rfl, hbel⟩ := hrel
    by_cases hlt : q < n
    · have hqL : q < L.length := by rw [← HN.out]; exact hlt
      obtain ⟨g, o, rfl, hgl, hcc⟩ := HCE.out (by omega)
      have hcw : wr.cell? ⟨g, o + q, none⟩ = some (.int .i64 L[q]) := (hbel.cell (p := ⟨g, o + q, none⟩) hgl).trans (hcc q _ (ints_get L q hqL))
      have hst := widthL_take L q hqL
      have hle := widthL_take_le L q
      have hle2 := rw1_le L[q]
      have hle3 : widthL (L.take q) ≤ 200000000 := by have := HN.out; omega
      obtain ⟨x, hx⟩ : ∃ x, x = L[q] := ⟨_, rfl⟩
      rw [← hx] at hcw hst hle2
      obtain ⟨z, hz⟩ : ∃ z, z = rw1 x := ⟨_, rfl⟩
      have hcall := fun w => HRW.out x w
      rw [← hz] at hst hle2 hcall
      obtain ⟨t, ht⟩ : ∃ t, t = widthL (L.take q) := ⟨_, rfl⟩
      rw [← ht] at hst hle hle3
      rw [← ht]
      have HST := Lib.hid hst
      have HCL := Lib.hid hcall
      have BE := Lib.hid hbel
      clear hst hcall hx hz ht hcc hbel
      go_wp2_with fail
      refine (HCL.out _).mono ?_
      rintro e w2 ⟨rfl, hb2⟩
      have B2 := Lib.hid (BE.out.trans (hb2.mono BE.out.size))
      clear hb2
      go_wp2_with fail
      go_roundw
      case rel => exact ⟨q + 1, by omega, by go_num, by rw [HST.out]; go_num, B2.out⟩
      case measure => simp [intOf]; omega
    · have hw := Lib.hid (widthL_whole L q (by rw [← HN.out]; exact hlt))
      have BE := Lib.hid hbel
      clear hbel
      go_wp2
      go_ret
      exact ⟨ret_int (by rw [hw.out]), H2.out.trans (BE.out.mono hw1)⟩
end Go.Proofs.YtionfjofojfaoaaDoor
