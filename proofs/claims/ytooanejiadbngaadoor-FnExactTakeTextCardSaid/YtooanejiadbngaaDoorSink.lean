/- Sinks: values, the law's own helpers, the model's TakeText, the exact law on it over a contract of the program's. -/
import Derived.Test.YtooanejiadbngaaDoorMem
import Derived.Test.YtooanejiadbngaaDoorSpecMax
import Derived.Handy
import Derived.Deep.RegionHeld3
import Derived.IntWalk
namespace Go.Proofs.YtooanejiadbngaaDoor
open Go.RowKit
set_option linter.unusedVariables false

structure Snk where
  room : Int
  taken : ByteArray
  dead : Bool
/-- A sink's value. -/
def snkV (k : Snk) : Array Value := #[.int .i64 k.room, .string k.taken, .bool k.dead]
def SnkFits (k : Snk) : Prop := -9223372036854775808 ≤ k.room ∧ k.room ≤ 9223372036854775807 ∧ k.taken.size ≤ maxLen
/-- What TakeText answers. -/
def takeK (k : Snk) (s : ByteArray) : Snk := if k.dead = true then k else if (s.size : Int) ≤ k.room then ⟨k.room - s.size, k.taken ++ s, false⟩ else ⟨0, k.taken ++ s.extract 0 (max k.room 0).toNat, true⟩
def takeOk (k : Snk) (s : ByteArray) : Bool := !k.dead && decide ((s.size : Int) ≤ k.room)
theorem run_headK (s : ByteArray) (c : Nat) (hc : c ≤ s.size) (w : World) :
    (Instr.slice 9 (.string s) none (some (.int .i64 (c : Int))) none).run Tryd.prog w = .ok (.string (s.extract 0 c)) w := by
  rw [run_slice_string_h (P := Tryd.prog) (w := w) (t := 9) (s := s) (ht := Tryd.underlying9) .i64 _ (by omega) (by omega)]
  rw [Int.toNat_natCast]
theorem txt_addK {P : Program} {w : World} (a b : ByteArray) (h : a.size + b.size ≤ 9223372036854775807) : (Op.stringOp .add a b).run P w = .ok (.string (a ++ b)) w :=
  run_string_add_sum _ _ _ h
set_option maxRecDepth 100000 in
set_option maxHeartbeats 1000000 in
theorem toSink_any (k : Snk) (w : World) :
    Calls Tryd.prog 6 #[.agg (snkV k)] w fun e w' => e = .returned (.agg (snkV k)) ∧ Below w.heap.size w w' := by
  obtain ⟨r, t, d⟩ := k
  unfold snkV
  go_enter Tryd.func6, Tryd.ntmps6
  go_wp2
  first
    | (go_ret; exact ⟨rfl, by go_grown⟩)
    | exact bodyPost_ret (v := .agg #[.int .i64 r, .string t, .bool d]) (by simp [results, Tryd.results6, go_sem]) rfl ⟨rfl, by go_grown⟩
set_option maxRecDepth 100000 in
set_option maxHeartbeats 1000000 in
theorem szSink_any (k : Snk) (n : Int) (w : World) (h0 : 0 ≤ n) (h1 : n ≤ 1048576) (hk : k.taken.size ≤ maxLen) :
    Calls Tryd.prog 4 #[.agg (snkV k), .int .i64 n] w fun e w' => e = .returned (.int .i64 (if n - k.taken.size < 0 then -1 else n - k.taken.size)) ∧ Below w.heap.size w w' := by
  obtain ⟨r, t, d⟩ := k
  unfold snkV
  unfold maxLen at hk
  simp only at hk ⊢
  by_cases h : n - (t.size : Int) < 0
  · rw [if_pos h]
    go_enter Tryd.func4, Tryd.ntmps4
    go_wp2
    go_ret
    exact ⟨rfl, by go_grown⟩
  · rw [if_neg h]
    go_enter Tryd.func4, Tryd.ntmps4
    go_wp2
    go_ret
    exact ⟨rfl, by go_grown⟩
set_option maxRecDepth 100000 in
set_option maxHeartbeats 1000000 in
theorem eqSink_same (k : Snk) (w : World) :
    Calls Tryd.prog 8 #[.agg (snkV k), .agg (snkV k)] w fun e w' => e = .returned (.bool true) ∧ Below w.heap.size w w' := by
  obtain ⟨r, t, d⟩ := k
  unfold snkV
  simp only
  have hd : (d != d) = false := by cases d <;> rfl
  have hr : ((r : Int) != r) = false := by simp
  go_enter Tryd.func8, Tryd.ntmps8
  go_wp2
  go_ret
  exact ⟨rfl, by go_grown⟩
theorem size_snk : (Tryd.prog.info? 25).map (·.size) = some 3 := by kernel_rfl
set_option maxRecDepth 100000 in
set_option maxHeartbeats 2000000 in
theorem specTakeText (k : Snk) (s : ByteArray) (w : World) (hk : SnkFits k) (ht : k.taken.size ≤ 1048576) (hs : s.size ≤ 1048576) :
    Calls Tryd.prog 5 #[.agg (snkV k), .string s] w fun e w' => e = .returned (.tuple #[.agg (snkV (takeK k s)), .bool (takeOk k s)]) ∧ Below w.heap.size w w' := by
  have HMX := Lib.hid (fun a b W => specMax a b W)
  have hb0 := hk.1
  have hb1 := hk.2.1
  have e1 : k.dead = true → takeK k s = k ∧ takeOk k s = false := fun h => by unfold takeK takeOk; rw [if_pos h, h]; exact ⟨rfl, rfl⟩
  have e2 : k.dead = false → (s.size : Int) ≤ k.room → takeK k s = ⟨k.room - s.size, k.taken ++ s, false⟩ ∧ takeOk k s = true := fun h h' => by unfold takeK takeOk; rw [if_neg (by rw [h]; decide), if_pos h', h, decide_eq_true h']; exact ⟨rfl, rfl⟩
  have e3 : k.dead = false → ¬ (s.size : Int) ≤ k.room → takeK k s = ⟨0, k.taken ++ s.extract 0 (max k.room 0).toNat, true⟩ ∧ takeOk k s = false := fun h h' => by unfold takeK takeOk; rw [if_neg (by rw [h]; decide), if_neg h', h, decide_eq_false h']; exact ⟨rfl, rfl⟩
  obtain ⟨r, t, d⟩ := k
  simp only at e1 e2 e3 hb0 hb1 ht
  cases d with
  | true =>
    obtain ⟨f1, f2⟩ := e1 rfl
    rw [f1, f2]
    unfold snkV
    clear e1 e2 e3 f1 f2 hk
    go_enter Tryd.func5, Tryd.ntmps5
    go_wp2
    first
      | (go_ret; exact ⟨rfl, by go_grown⟩)
      | exact bodyPost_ret (v := .tuple #[.agg #[.int .i64 r, .string t, .bool true], .bool false]) (by simp [results, Tryd.results5, go_sem]) rfl ⟨rfl, by go_grown⟩
  | false =>
    by_cases h : (s.size : Int) ≤ r
    · obtain ⟨f1, f2⟩ := e2 rfl h
      rw [f1, f2]
      unfold snkV
      simp only
      have hadd := fun w => txt_addK (P := Tryd.prog) (w := w) t s (by omega)
      generalize t ++ s = u at hadd ⊢
      clear e1 e2 e3 f1 f2 hk
      go_enter Tryd.func5, Tryd.ntmps5
      go_wp2
      first
        | (go_ret; exact ⟨rfl, by go_grown⟩)
        | exact bodyPost_ret (v := .tuple #[.agg #[.int .i64 (r - s.size), .string u, .bool false], .bool true]) (by simp [results, Tryd.results5, go_sem]) rfl ⟨rfl, by go_grown⟩
    · obtain ⟨f1, f2⟩ := e3 rfl h
      rw [f1, f2]
      obtain ⟨n, hn⟩ : ∃ n, n = (max r 0).toNat := ⟨_, rfl⟩
      have hn2 : max r 0 = (n : Int) := by omega
      have hle : n ≤ s.size := by omega
      rw [← hn]
      have hsl := fun w => run_headK s n hle w
      have hadd := fun w => txt_addK (P := Tryd.prog) (w := w) t (s.extract 0 n) (by simp; omega)
      have HM1 := Lib.hid (fun W => HMX.out r 0 W)
      rw [hn2] at HM1
      generalize s.extract 0 n = q at hsl hadd ⊢
      generalize t ++ q = u at hadd ⊢
      unfold snkV
      simp only
      have hlt : ¬ (s.size : Int) ≤ r := h
      have hC0 := (Blk.new w 25 #[.int .i64 r, .string t, .bool false]).after ((Below.refl _ _).alloc (Nat.le_refl _) (.cells #[.int .i64 0, .string ⟨#[]⟩, .bool false] 25))
      clear e1 e2 e3 f1 f2 hk hn hn2
      go_enter Tryd.func5, Tryd.ntmps5
      have s0 := hC0.cell 0
      have s1 := hC0.cell 1
      have s2 := hC0.cell 2
      simp at s0 s1 s2
      go_wp2_with fail
      go_region_held3 (fun W => W.cell? ⟨w.heap.size, 0, none⟩ = some (.int .i64 r) ∧ W.cell? ⟨w.heap.size, 1, none⟩ = some (.string t) ∧ W.cell? ⟨w.heap.size, 2, none⟩ = some (.bool false))
        (first | exact ⟨s0, s1, s2⟩ | assumption | (refine ⟨?_, ?_, ?_⟩ <;> go_simp))
        (first | (go_at_call 9; refine (HM1.out _).mono ?_; rintro e w4 ⟨rfl, rfl⟩))
      all_goals
        go_wp2
        first
          | (go_ret; exact ⟨rfl, by go_grown⟩)
          | (go_ret; exact ⟨rfl, Below.drew (by go_grown)⟩)
          | exact bodyPost_ret (v := .tuple #[.agg #[.int .i64 0, .string u, .bool true], .bool false]) (by simp [results, Tryd.results5, go_sem]) rfl ⟨rfl, Below.drew (by go_grown)⟩
set_option maxRecDepth 100000 in
set_option maxHeartbeats 2000000 in
theorem takeText_law (w : World) (k : Snk) (hk : SnkFits k) (s : ByteArray) (hs : s.size ≤ maxLen)
    (hI : ∀ W, Below w.heap.size w W → k.taken.size ≤ 1048576 → s.size ≤ 1048576 → Calls Tryd.prog 7 #[.agg (snkV k), .string s] W fun e w' => e = .returned (.tuple #[.agg (snkV (takeK k s)), .bool (takeOk k s)]) ∧ Below W.heap.size W w') :
    Calls Tryd.prog 3 #[.agg (snkV k), .string s] w fun e w' => e = .returned (.bool true) ∧ Below w.heap.size w w' := by
  have htl := hk.2.2
  unfold maxLen at hs
  by_cases hbig : (1048576 : Int) < (s.size : Int)
  · unfold snkV
    go_enter Tryd.func3, Tryd.ntmps3
    go_wp2
    go_ret
    exact ⟨rfl, by go_grown⟩
  · have HZ := Lib.hid (fun W => szSink_any k 1048576 W (by omega) (by omega) htl)
    have B0 := Lib.hid (by go_grown : Below w.heap.size w (w.alloc (.cells (snkV k) 23)))
    have hX0 := Lib.hid (Blk.new w 23 (snkV k))
    by_cases hz : (1048576 : Int) - (k.taken.size : Int) < 0
    · rw [if_pos hz] at HZ
      obtain ⟨r, t, d⟩ := k
      unfold snkV at HZ B0 hX0 ⊢
      simp only at HZ B0 hX0 ⊢
      clear hI hz
      go_enter Tryd.func3, Tryd.ntmps3
      go_wp2_with fail
      refine (HZ.out _).mono ?_
      rintro e w1 ⟨rfl, hb1⟩
      have B1 := Lib.hid (B0.out.trans (hb1.mono B0.out.size))
      clear hb1
      go_wp2_with fail
      go_ret
      exact ⟨rfl, B1.out⟩
    · rw [if_neg hz] at HZ
      have hz2 : ¬ ((1048576 : Int) - (k.taken.size : Int)) < 0 := hz
      have HT := Lib.hid (fun W => toSink_any k W)
      have HS := Lib.hid (fun W => specTakeText k s W hk (by omega) (by omega))
      have HI := Lib.hid (fun W hb => hI W hb (by omega) (by omega))
      have HE := Lib.hid (fun W => eqSink_same (takeK k s) W)
      generalize takeK k s = k2 at HS HI HE
      generalize takeOk k s = ok at HS HI
      have hok : (ok != ok) = false := by cases ok <;> rfl
      obtain ⟨left, hleft⟩ : ∃ l, l = (1048576 : Int) - (k.taken.size : Int) := ⟨_, rfl⟩
      rw [← hleft] at HZ hz2
      obtain ⟨r, t, d⟩ := k
      obtain ⟨r2, t2, d2⟩ := k2
      unfold snkV at HZ HT HS HI HE B0 hX0 ⊢
      simp only at HZ HT HS HI HE B0 hX0 ⊢
      clear hI hz hk htl hleft
      go_enter Tryd.func3, Tryd.ntmps3
      go_wp2_with fail
      refine (HZ.out _).mono ?_
      rintro e w1 ⟨rfl, hb1⟩
      have B1 := Lib.hid (B0.out.trans (hb1.mono B0.out.size))
      have X1 := Lib.hid (hX0.out.after hb1)
      have a0 := X1.out.cell 0
      have a1 := X1.out.cell 1
      have a2 := X1.out.cell 2
      simp at a0 a1 a2
      clear hb1
      go_wp2_with fail
      refine (HT.out _).mono ?_
      rintro e w2 ⟨rfl, hb2⟩
      have B2 := Lib.hid (B1.out.trans (hb2.mono B1.out.size))
      have X2 := Lib.hid (X1.out.after hb2)
      clear hb2 a0 a1 a2
      go_wp2_with fail
      refine (HS.out _).mono ?_
      rintro e w3 ⟨rfl, hb3⟩
      have B3 := Lib.hid (B2.out.trans (hb3.mono B2.out.size))
      have D3 := (Below.refl w3.heap.size w3).alloc (Nat.le_refl _) (.cells #[.int .i64 r2, .string t2, .bool d2] 25)
      have BA3 := Lib.hid (B3.out.trans (D3.mono B3.out.size))
      have X3 := Lib.hid ((X2.out.after hb3).after D3)
      have Y3 := Lib.hid (Blk.new w3 25 #[.int .i64 r2, .string t2, .bool d2])
      have a0 := X3.out.cell 0
      have a1 := X3.out.cell 1
      have a2 := X3.out.cell 2
      simp at a0 a1 a2
      clear hb3 D3
      go_wp2_with fail
      refine (HT.out _).mono ?_
      rintro e w4 ⟨rfl, hb4⟩
      have B4 := Lib.hid (BA3.out.trans (hb4.mono BA3.out.size))
      have Y4 := Lib.hid (Y3.out.after hb4)
      clear hb4 a0 a1 a2
      go_wp2_with fail
      refine (HI.out _ B4.out).mono ?_
      rintro e w5 ⟨rfl, hb5⟩
      have B5 := Lib.hid (B4.out.trans (hb5.mono B4.out.size))
      have D5 := (Below.refl w5.heap.size w5).alloc (Nat.le_refl _) (.cells #[.int .i64 r2, .string t2, .bool d2] 25)
      have BA5 := Lib.hid (B5.out.trans (D5.mono B5.out.size))
      have Y5 := Lib.hid ((Y4.out.after hb5).after D5)
      have y0 := Y5.out.cell 0
      have y1 := Y5.out.cell 1
      have y2 := Y5.out.cell 2
      simp at y0 y1 y2
      clear hb5 D5
      go_wp2_with fail
      refine (HE.out _).mono ?_
      rintro e w6 ⟨rfl, hb6⟩
      have B6 := Lib.hid (BA5.out.trans (hb6.mono BA5.out.size))
      clear hb6 y0 y1 y2
      go_wp2_with fail
      go_ret
      exact ⟨rfl, B6.out⟩
end Go.Proofs.YtooanejiadbngaaDoor
