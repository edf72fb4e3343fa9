/- The exact laws on NewWriter and WriterName, over contracts of the program's. -/
import Derived.Test.YtdplcbfiidnfcaaWr
namespace Go.Proofs.Ytdplcbfiidnfcaa
open Go.RowKit
set_option linter.unusedVariables false

set_option maxRecDepth 100000 in
set_option maxHeartbeats 1000000 in
theorem newWriter_law (w : World) (c : Cfg)
    (hI : ∀ W, Below w.heap.size w W → Calls Try.prog 7 #[.agg (cfgV c)] W fun e w' => e = .returned (.tuple #[.agg (wrV (newC c) ⟨#[]⟩), .int .i64 (newI c)]) ∧ Below W.heap.size W w') :
    Calls Try.prog 3 #[.agg (cfgV c)] w fun e w' => e = .returned (.bool true) ∧ Below w.heap.size w w' := by
  have HT := Lib.hid (fun W => toConfig_any c W)
  have HS := Lib.hid (fun W => specNewWriter c W)
  have HI := Lib.hid hI
  have HE := Lib.hid (fun W => eqWriter_same (newC c) ⟨#[]⟩ W)
  generalize newC c = c2 at HS HI HE
  generalize newI c = n at HS HI
  have hne : (n != n) = false := by simp
  obtain ⟨m, t, p, d, fr, fd, fl, fe, fm⟩ := c
  obtain ⟨m2, t2, p2, d2, fr2, fd2, fl2, fe2, fm2⟩ := c2
  unfold cfgV at HT HS HI ⊢
  unfold wrV at HS HI HE
  simp only at HT HS HI HE ⊢
  clear hI
  go_enter Try.func3, Try.ntmps3
  go_wp2_with fail
  refine (HT.out _).mono ?_
  rintro e w1 ⟨rfl, hb1⟩
  have X1 := Lib.hid ((Boxed.new w 23 m t p d fr fd fl fe fm).below hb1 (by simp))
  have B1 := Lib.hid ((by go_grown : Below w.heap.size w (w.alloc _)).trans (hb1.mono (by simp)))
  have hlt1 : w.heap.size < w1.heap.size := by have := hb1.size; simp at this; omega
  clear hb1
  go_wp2_with fail
  refine (HS.out _).mono ?_
  rintro e w2 ⟨rfl, hb2⟩
  have B2 := Lib.hid (B1.out.trans (hb2.mono B1.out.size))
  have hlt2 : w.heap.size < w2.heap.size := Nat.lt_of_lt_of_le hlt1 hb2.size
  have D2 := (Below.refl w2.heap.size w2).alloc (Nat.le_refl _) (.cells #[.int .i64 m2, .int .i64 t2, .int .i64 p2, .int .i64 d2, .bool fr2, .bool fd2, .bool fl2, .bool fe2, .bool fm2, .string ⟨#[]⟩] 26)
  have B2' := Lib.hid (B2.out.trans (D2.mono B2.out.size))
  have HW2 := Lib.hid (Blk.new w2 26 #[.int .i64 m2, .int .i64 t2, .int .i64 p2, .int .i64 d2, .bool fr2, .bool fd2, .bool fl2, .bool fe2, .bool fm2, .string ⟨#[]⟩])
  obtain ⟨c0, c1, c2, c3, c4, c5, c6, c7, c8⟩ := (X1.out.below hb2 hlt1).below D2 hlt2
  have hs2 : w2.heap.size < (w2.alloc (.cells #[.int .i64 m2, .int .i64 t2, .int .i64 p2, .int .i64 d2, .bool fr2, .bool fd2, .bool fl2, .bool fe2, .bool fm2, .string ⟨#[]⟩] 26)).heap.size := by simp
  clear hb2 D2
  go_wp2_with fail
  refine (HT.out _).mono ?_
  rintro e w3 ⟨rfl, hb3⟩
  have B3 := Lib.hid (B2'.out.trans (hb3.mono B2'.out.size))
  have HW3 := Lib.hid (HW2.out.after hb3)
  clear hb3 c0 c1 c2 c3 c4 c5 c6 c7 c8
  go_wp2_with fail
  refine (HI.out _ B3.out).mono ?_
  rintro e w4 ⟨rfl, hb4⟩
  have B4 := Lib.hid (B3.out.trans (hb4.mono B3.out.size))
  have D4 := (Below.refl w4.heap.size w4).alloc (Nat.le_refl _) (.cells #[.int .i64 m2, .int .i64 t2, .int .i64 p2, .int .i64 d2, .bool fr2, .bool fd2, .bool fl2, .bool fe2, .bool fm2, .string ⟨#[]⟩] 26)
  have B4' := Lib.hid (B4.out.trans (D4.mono B4.out.size))
  obtain ⟨c0, c1, c2, c3, c4, c5, c6, c7, c8, c9⟩ := ((HW3.out.after hb4).after D4).ten
  clear hb4 D4
  go_wp2_with fail
  refine (HE.out _).mono ?_
  rintro e w5 ⟨rfl, hb5⟩
  have B5 := Lib.hid (B4'.out.trans (hb5.mono B4'.out.size))
  clear hb5 c0 c1 c2 c3 c4 c5 c6 c7 c8 c9
  go_wp2_with fail
  go_ret
  exact ⟨rfl, B5.out⟩
set_option maxRecDepth 100000 in
set_option maxHeartbeats 1000000 in
theorem writerName_law (w : World) (n : Int)
    (hI : ∀ W, Below w.heap.size w W → Calls Try.prog 10 #[.int .i64 n] W fun e w' => e = .returned (.string (wnameB n)) ∧ Below W.heap.size W w') :
    Calls Try.prog 4 #[.int .i64 n] w fun e w' => e = .returned (.bool true) ∧ Below w.heap.size w w' := by
  have HS := Lib.hid (fun W => specWriterName n W)
  have HI := Lib.hid hI
  generalize wnameB n = x at HS HI
  clear hI
  go_enter Try.func4, Try.ntmps4
  go_wp2_with fail
  refine (HS.out _).mono ?_
  rintro e w1 ⟨rfl, hb1⟩
  have B1 := Lib.hid hb1
  clear hb1
  go_wp2_with fail
  refine (HI.out _ B1.out).mono ?_
  rintro e w2 ⟨rfl, hb2⟩
  have B2 := Lib.hid (B1.out.trans (hb2.mono B1.out.size))
  clear hb2
  go_wp2_with fail
  go_ret
  exact ⟨rfl, B2.out⟩
end Go.Proofs.Ytdplcbfiidnfcaa
