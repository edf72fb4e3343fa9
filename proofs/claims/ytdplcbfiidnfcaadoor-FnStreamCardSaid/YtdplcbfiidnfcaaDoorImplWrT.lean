/- The program's WriteText, FlushText and Pending. -/
import Derived.Test.YtdplcbfiidnfcaaDoorImplWrite
namespace Go.Proofs.YtdplcbfiidnfcaaDoor
open Go.RowKit
set_option linter.unusedVariables false

set_option maxRecDepth 100000 in
set_option maxHeartbeats 4000000 in
theorem writeText_of (c : Cfg) (h r h' R : ByteArray) (k : Int) (w : World)
    (hW : ∀ W, Below w.heap.size w W → Blk W w.heap.size 28 (wrV c h) → Calls Tryd.prog 22 #[.pointer (some ⟨w.heap.size, 0, none⟩), .string r] W fun e w' => e = .returned (.tuple #[.string R, .int .i64 k]) ∧ (Blk w' w.heap.size 28 (wrV c h') ∧ OnlyAt w.heap.size W w')) :
    Calls Tryd.prog 13 #[.agg (wrV c h), .string r] w fun e w' => e = .returned (.tuple #[.agg (wrV c h'), .string R, .int .i64 k]) ∧ Below w.heap.size w w' := by
  have hR := Blk.new (w.alloc (.cells (wrV c h) 28)) 28 #[.int .i64 0, .int .i64 0, .int .i64 0, .int .i64 0, .bool false, .bool false, .bool false, .bool false, .bool false, .string ⟨#[]⟩]
  rw [show (w.alloc (.cells (wrV c h) 28)).heap.size = w.heap.size + 1 by simp] at hR
  have HR0 := Lib.hid hR
  have HC0 := Lib.hid ((Blk.new w 28 (wrV c h)).after ((Below.refl _ _).alloc (Nat.le_refl _) (.cells #[.int .i64 0, .int .i64 0, .int .i64 0, .int .i64 0, .bool false, .bool false, .bool false, .bool false, .bool false, .string ⟨#[]⟩] 28)))
  have B0 := Lib.hid (by go_grown : Below w.heap.size w ((w.alloc (.cells (wrV c h) 28)).alloc (.cells #[.int .i64 0, .int .i64 0, .int .i64 0, .int .i64 0, .bool false, .bool false, .bool false, .bool false, .bool false, .string ⟨#[]⟩] 28)))
  have HW := Lib.hid (hW _ B0.out HC0.out)
  clear hR hW
  obtain ⟨m, t, p, d, fr, fd, fl, fe, fm⟩ := c
  unfold wrV at HW HR0 HC0 B0 ⊢
  simp only at HW HR0 HC0 B0 ⊢
  go_enter Tryd.func13, Tryd.ntmps13
  go_wp2_with fail
  refine HW.out.mono ?_
  rintro e w1 ⟨rfl, hg1, ho1⟩
  have B1 := Lib.hid (B0.out.trans (ho1.below (Nat.le_refl _) B0.out.size))
  have hz := ho1.blk HR0.out (by omega)
  have HZ := Lib.hid ((hz.row (cs' := #[.int .i64 m, .int .i64 t, .int .i64 p, .int .i64 d, .bool fr, .bool fd, .bool fl, .bool fe, .bool fm, .string h'])).ten)
  obtain ⟨d0, d1, d2, d3, d4, d5, d6, d7, d8, d9⟩ := hg1.ten
  clear ho1 hg1
  go_wp2_with (refine wpList_store_row rfl _ _ _ rfl (w.heap.size + 1) #[.int .i64 m, .int .i64 t, .int .i64 p, .int .i64 d, .bool fr, .bool fd, .bool fl, .bool fe, .bool fm, .string h'] rfl rfl 28 _ hz size_wr rfl (one_wr _ _ _ _ _ _ _ _ _ _) ?_)
  obtain ⟨c0, c1, c2, c3, c4, c5, c6, c7, c8, c9⟩ := HZ.out
  exact bodyPost_ret (v := .tuple #[.agg #[.int .i64 m, .int .i64 t, .int .i64 p, .int .i64 d, .bool fr, .bool fd, .bool fl, .bool fe, .bool fm, .string h'], .string R, .int .i64 k]) (by simp [results, Tryd.results13, go_sem, c0, c1, c2, c3, c4, c5, c6, c7, c8, c9]) rfl ⟨rfl, below_row B1.out (by omega)⟩
set_option maxRecDepth 100000 in
set_option maxHeartbeats 4000000 in
theorem flushText_of (c : Cfg) (h h' R : ByteArray) (k : Int) (w : World)
    (hW : ∀ W, Below w.heap.size w W → Blk W w.heap.size 28 (wrV c h) → Calls Tryd.prog 25 #[.pointer (some ⟨w.heap.size, 0, none⟩)] W fun e w' => e = .returned (.tuple #[.string R, .int .i64 k]) ∧ (Blk w' w.heap.size 28 (wrV c h') ∧ OnlyAt w.heap.size W w')) :
    Calls Tryd.prog 10 #[.agg (wrV c h)] w fun e w' => e = .returned (.tuple #[.agg (wrV c h'), .string R, .int .i64 k]) ∧ Below w.heap.size w w' := by
  have hR := Blk.new (w.alloc (.cells (wrV c h) 28)) 28 #[.int .i64 0, .int .i64 0, .int .i64 0, .int .i64 0, .bool false, .bool false, .bool false, .bool false, .bool false, .string ⟨#[]⟩]
  rw [show (w.alloc (.cells (wrV c h) 28)).heap.size = w.heap.size + 1 by simp] at hR
  have HR0 := Lib.hid hR
  have HC0 := Lib.hid ((Blk.new w 28 (wrV c h)).after ((Below.refl _ _).alloc (Nat.le_refl _) (.cells #[.int .i64 0, .int .i64 0, .int .i64 0, .int .i64 0, .bool false, .bool false, .bool false, .bool false, .bool false, .string ⟨#[]⟩] 28)))
  have B0 := Lib.hid (by go_grown : Below w.heap.size w ((w.alloc (.cells (wrV c h) 28)).alloc (.cells #[.int .i64 0, .int .i64 0, .int .i64 0, .int .i64 0, .bool false, .bool false, .bool false, .bool false, .bool false, .string ⟨#[]⟩] 28)))
  have HW := Lib.hid (hW _ B0.out HC0.out)
  clear hR hW
  obtain ⟨m, t, p, d, fr, fd, fl, fe, fm⟩ := c
  unfold wrV at HW HR0 HC0 B0 ⊢
  simp only at HW HR0 HC0 B0 ⊢
  go_enter Tryd.func10, Tryd.ntmps10
  go_wp2_with fail
  refine HW.out.mono ?_
  rintro e w1 ⟨rfl, hg1, ho1⟩
  have B1 := Lib.hid (B0.out.trans (ho1.below (Nat.le_refl _) B0.out.size))
  have hz := ho1.blk HR0.out (by omega)
  have HZ := Lib.hid ((hz.row (cs' := #[.int .i64 m, .int .i64 t, .int .i64 p, .int .i64 d, .bool fr, .bool fd, .bool fl, .bool fe, .bool fm, .string h'])).ten)
  obtain ⟨d0, d1, d2, d3, d4, d5, d6, d7, d8, d9⟩ := hg1.ten
  clear ho1 hg1
  go_wp2_with (refine wpList_store_row rfl _ _ _ rfl (w.heap.size + 1) #[.int .i64 m, .int .i64 t, .int .i64 p, .int .i64 d, .bool fr, .bool fd, .bool fl, .bool fe, .bool fm, .string h'] rfl rfl 28 _ hz size_wr rfl (one_wr _ _ _ _ _ _ _ _ _ _) ?_)
  obtain ⟨c0, c1, c2, c3, c4, c5, c6, c7, c8, c9⟩ := HZ.out
  exact bodyPost_ret (v := .tuple #[.agg #[.int .i64 m, .int .i64 t, .int .i64 p, .int .i64 d, .bool fr, .bool fd, .bool fl, .bool fe, .bool fm, .string h'], .string R, .int .i64 k]) (by simp [results, Tryd.results10, go_sem, c0, c1, c2, c3, c4, c5, c6, c7, c8, c9]) rfl ⟨rfl, below_row B1.out (by omega)⟩
set_option maxRecDepth 100000 in
set_option maxHeartbeats 4000000 in
theorem pending_of (c : Cfg) (h h' R : ByteArray) (k : Int) (w : World)
    (hW : ∀ W, Below w.heap.size w W → Blk W w.heap.size 28 (wrV c h) → Calls Tryd.prog 25 #[.pointer (some ⟨w.heap.size, 0, none⟩)] W fun e w' => e = .returned (.tuple #[.string R, .int .i64 k]) ∧ (Blk w' w.heap.size 28 (wrV c h') ∧ OnlyAt w.heap.size W w')) :
    Calls Tryd.prog 12 #[.agg (wrV c h)] w fun e w' => e = .returned (.string R) ∧ Below w.heap.size w w' := by
  have B0 := Lib.hid ((Below.refl w.heap.size w).alloc (Nat.le_refl _) (.cells (wrV c h) 28))
  have HW := Lib.hid (hW _ B0.out (Blk.new w 28 (wrV c h)))
  clear hW
  obtain ⟨m, t, p, d, fr, fd, fl, fe, fm⟩ := c
  unfold wrV at HW B0 ⊢
  simp only at HW B0 ⊢
  go_enter Tryd.func12, Tryd.ntmps12
  go_wp2_with fail
  refine HW.out.mono ?_
  rintro e w1 ⟨rfl, hg1, ho1⟩
  have B1 := Lib.hid (B0.out.trans (ho1.below (Nat.le_refl _) B0.out.size))
  clear ho1 hg1
  go_wp2_with fail
  go_ret
  exact ⟨rfl, B1.out⟩
end Go.Proofs.YtdplcbfiidnfcaaDoor
