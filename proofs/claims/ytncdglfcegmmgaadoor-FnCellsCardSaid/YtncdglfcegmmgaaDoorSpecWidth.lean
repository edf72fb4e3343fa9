/- The model's widths: RuneWidth, TextWidth, FitWidth, and the paddings. -/
import Derived.Test.YtncdglfcegmmgaaDoorSpecRead
import Derived.Test.YtncdglfcegmmgaaDoorWidth
import Derived.Lib.AppendStr
import Derived.IntWalk
namespace Go.Proofs.YtncdglfcegmmgaaDoor
open Go.RowKit
set_option linter.unusedVariables false

theorem quiet_add_left {P : Program} {f : FuncId} {args : Array Value} {w : World} {a n : Nat} {v : Value}
    (h : Calls P f args (w.drewN (a + n)) fun e w' => e = .returned v ∧ w.drewN (a + n) = w') :
    Calls P f args (w.drewN (a + n)) fun e w'' => e = .returned v ∧ ∃ m, w'' = w.drewN (a + m) :=
  h.mono fun _ _ ⟨he, hm⟩ => ⟨he, n, hm.symm⟩

set_option maxRecDepth 100000 in
set_option maxHeartbeats 1000000 in
theorem l03Within_any (r : Int) (g o c n : Nat) (xs : List Int) (w : World) (hn : n = xs.length) (hx : n ≤ 1000) (hcell : ∀ (j : Nat) (h : j < xs.length), w.cell? ⟨g, o + j, none⟩ = some (.int .i64 xs[j])) :
    Calls Tryd.prog 67 #[.int .i64 r, .slice (some ⟨g, o, none⟩) n c] w fun e w' => e = .returned (.bool (inAny r xs)) ∧ ∃ m, w' = w.drewN m := by
  have HN := Lib.hid hn
  have HC := Lib.hid hcell
  clear hn hcell
  go_enter Tryd.func67, Tryd.ntmps67
  go_wp2
  go_loopw [5] (fun i wr => ∃ k m : Nat, k ≤ n + 1 ∧ i = .int .i64 k ∧ wr = w.drewN m ∧ Hid (inAny r (xs.drop k) = inAny r xs)) (fun i _ => n + 2 - (intOf i).toNat)
  case atStart => exact ⟨0, 0, Nat.zero_le _, rfl, rfl, Lib.hid rfl⟩
  case round =>
    obtain ⟨k, m, hk, rfl, rfl, HT⟩ := hrel
    by_cases hlt : k + 1 < n
    · have hka : k + 1 < xs.length := by rw [← HN.out]; exact hlt
      have ca : w.cell? ⟨g, o + k, none⟩ = some (.int .i64 xs[k]) := HC.out k (by omega)
      have cb : w.cell? ⟨g, o + (k + 1), none⟩ = some (.int .i64 xs[k + 1]) := HC.out (k + 1) hka
      obtain ⟨x, hx2⟩ : ∃ x, x = xs[k] := ⟨_, rfl⟩
      obtain ⟨y, hy2⟩ : ∃ y, y = xs[k + 1] := ⟨_, rfl⟩
      rw [← hx2] at ca
      rw [← hy2] at cb
      have HX := Lib.hid hx2
      have HY := Lib.hid hy2
      clear hx2 hy2
      cases hin : inB r x y with
      | true =>
        have hca := fun w => l01In_any r x y w
        rw [hin] at hca
        have HCA := Lib.hid hca
        have HIN := Lib.hid hin
        clear hca hin
        go_wp2
        have h0 : (0 : Int) ≤ (k : Int) + 1 := by omega
        have h1 : (k : Int) + 1 < n := by omega
        have h2 : (k : Int) < n := by omega
        have h3 : (0 : Int) ≤ (k : Int) := by omega
        have hw1 : IntKind.i64.wrap ((k : Int) + 1) = (k : Int) + 1 := IntWalk.i64_in _ (by omega)
        have hw2 : ((k : Int) + 1).toNat = k + 1 := by omega
        go_quiet ((go_at_call 50; exact quiet_add_left (HCA.out _)))
        clear hw1 hw2 h0 h1 h2 h3
        go_wp2
        go_ret
        exact ⟨ret_bool (by rw [← HT.out]; exact (inAny_yes r xs k hka (by rw [← HX.out, ← HY.out]; exact HIN.out)).symm), _, World.drewN_drewN ..⟩
      | false =>
        have hca := fun w => l01In_any r x y w
        rw [hin] at hca
        have HCA := Lib.hid hca
        have HIN := Lib.hid hin
        clear hca hin
        go_wp2
        have h0 : (0 : Int) ≤ (k : Int) + 1 := by omega
        have h1 : (k : Int) + 1 < n := by omega
        have h2 : (k : Int) < n := by omega
        have h3 : (0 : Int) ≤ (k : Int) := by omega
        have hw1 : IntKind.i64.wrap ((k : Int) + 1) = (k : Int) + 1 := IntWalk.i64_in _ (by omega)
        have hw2 : ((k : Int) + 1).toNat = k + 1 := by omega
        go_quiet ((go_at_call 50; exact quiet_add_left (HCA.out _)))
        clear hw1 hw2 h0 h1 h2 h3
        go_wp2
        go_roundw
        case rel => exact ⟨k + 2, _, by omega, by go_num, rfl, Lib.hid ((inAny_no r xs k hka (by rw [← HX.out, ← HY.out]; exact HIN.out)).symm.trans HT.out)⟩
        case measure => simp [intOf]; omega
    · have hno := Lib.hid (inAny_end r xs k (by rw [← HN.out]; exact hlt))
      go_wp2
      go_ret
      exact ⟨ret_bool (by rw [← HT.out, hno.out]), _, rfl⟩
theorem l03Within_lit (r : Int) (n : Nat) (xs : List Int) (cs : Array Value) (t : TypeId) (w : World) (hn : n = xs.length) (hx : n ≤ 1000) (hcs : cs = (ints xs).toArray) :
    Calls Tryd.prog 67 #[.int .i64 r, .slice (some ⟨w.heap.size, 0, none⟩) n n] (w.alloc (.cells cs t)) fun e w' => e = .returned (.bool (inAny r xs)) ∧ Below w.heap.size w w' := by
  refine (l03Within_any r w.heap.size 0 n n xs _ hn hx fun j hj => ?_).mono fun e w' ⟨he, m, hw⟩ => ⟨he, by rw [hw]; exact below_drewN ((Below.refl _ _).alloc (Nat.le_refl _) _) m⟩
  rw [Nat.zero_add, World.cell?_alloc_at cs t w.heap.size j rfl, hcs]
  rw [List.getElem?_toArray]
  exact ints_get xs j hj
theorem specRuneWidth (r : Int) (w : World) :
    Calls Tryd.prog 52 #[.int .i64 r] w fun e w' => e = .returned (.int .i64 (rw1 r : Int)) ∧ Below w.heap.size w w' := by
  have hA := fun (W : World) => l03Within_lit r 16 zeroL _ 3 W rfl (by omega) rfl
  have hB := fun (W : World) => l03Within_lit r 18 wideL _ 3 W rfl (by omega) rfl
  unfold rw1
  cases ha : inAny r zeroL with
  | true =>
    rw [if_pos rfl]
    rw [ha] at hA
    have HA := Lib.hid hA
    clear hA hB ha
    go_enter Tryd.func52, Tryd.ntmps52
    go_wp2_with fail
    refine (HA.out _).mono ?_
    rintro e w1 ⟨rfl, hb1⟩
    have B1 := Lib.hid hb1
    clear hb1
    go_wp2_with fail
    go_ret
    exact ⟨rfl, B1.out⟩
  | false =>
    rw [if_neg (by decide)]
    rw [ha] at hA
    cases hb : inAny r wideL with
    | true =>
      rw [if_pos rfl]
      rw [hb] at hB
      have HA := Lib.hid hA
      have HB := Lib.hid hB
      clear hA hB ha hb
      go_enter Tryd.func52, Tryd.ntmps52
      go_wp2_with fail
      refine (HA.out _).mono ?_
      rintro e w1 ⟨rfl, hb1⟩
      have B1 := Lib.hid hb1
      clear hb1
      go_wp2_with fail
      refine (HB.out _).mono ?_
      rintro e w2 ⟨rfl, hb2⟩
      have B2 := Lib.hid (B1.out.trans (hb2.mono B1.out.size))
      clear hb2
      go_wp2_with fail
      go_ret
      exact ⟨rfl, B2.out⟩
    | false =>
      rw [if_neg (by decide)]
      rw [hb] at hB
      have HA := Lib.hid hA
      have HB := Lib.hid hB
      clear hA hB ha hb
      go_enter Tryd.func52, Tryd.ntmps52
      go_wp2_with fail
      refine (HA.out _).mono ?_
      rintro e w1 ⟨rfl, hb1⟩
      have B1 := Lib.hid hb1
      clear hb1
      go_wp2_with fail
      refine (HB.out _).mono ?_
      rintro e w2 ⟨rfl, hb2⟩
      have B2 := Lib.hid (B1.out.trans (hb2.mono B1.out.size))
      clear hb2
      go_wp2_with fail
      go_ret
      exact ⟨rfl, B2.out⟩

end Go.Proofs.YtncdglfcegmmgaaDoor
