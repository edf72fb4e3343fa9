/- Merged texts: RunInitL RunInitD. -/
import Derived.Test.YtooanejiadbngaaGreatDoorBT
/- The program's RunOp: a new writer, the sink lives on. -/
namespace Go.Proofs.YtooanejiadbngaaGreatDoor
open Go.RowKit
set_option linter.unusedVariables false
set_option linter.unusedSimpArgs false

set_option maxRecDepth 100000 in
set_option maxHeartbeats 8000000 in
theorem run_init_lives (c o c2 : Cfg) (h txt h2 T : ByteArray) (k k2 : Snk) (w : World) (hE : ErrT w)
    (hW : ∀ W, Below w.heap.size w W → Calls Tryz.prog 27 #[.agg (cfgV o)] W fun e w' => e = .returned (.tuple #[.agg (wrV c2 h2), .int .i64 0]) ∧ Below W.heap.size W w')
    (hP : ∀ W, Calls Tryz.prog 30 #[.agg (snkV k), .string ⟨#[]⟩] W fun e w' => e = .returned (.agg (snkV k2)) ∧ Below W.heap.size W w') :
    Calls Tryz.prog 19 #[.agg (sesV c h k), .agg (opnV ⟨1, o, txt⟩)] w fun e w' => e = .returned (.tuple #[.agg (sesV c2 h2 k2), .int .i64 0]) ∧ Below w.heap.size w w' := by
  have hmf : ∀ (fn : Fn) (first cap : Array Value) (w : World), (Instr.makeFunc fn first cap).run Tryz.prog w = .ok (.func fn first cap) w := fun _ _ _ _ => rfl
  have HW := Lib.hid hW
  have HP := Lib.hid hP
  clear hW hP
  obtain ⟨m, t, p, d, fr, fd, fl, fe, fm⟩ := c
  obtain ⟨m2, t2, p2, d2, fr2, fd2, fl2, fe2, fm2⟩ := c2
  obtain ⟨m4, t4, p4, d4, fr4, fd4, fl4, fe4, fm4⟩ := o
  obtain ⟨r, tk, dd⟩ := k
  obtain ⟨r2, tk2, dd2⟩ := k2
  try unfold cfgV at HW
  try unfold wrV at HW
  try unfold snkV at HW
  try unfold sesV at HW
  try unfold opnV at HW
  try unfold cfgV at HP
  try unfold wrV at HP
  try unfold snkV at HP
  try unfold sesV at HP
  try unfold opnV at HP
  try unfold cfgV at ⊢
  try unfold wrV at ⊢
  try unfold snkV at ⊢
  try unfold sesV at ⊢
  try unfold opnV at ⊢
  simp only at HW HP ⊢
  have s0 : (w.alloc (.cells #[.int .i64 m, .int .i64 t, .int .i64 p, .int .i64 d, .bool fr, .bool fd, .bool fl, .bool fe, .bool fm, .string h, .int .i64 r, .string tk, .bool dd] 37)).heap.size = w.heap.size + 1 := by simp
  have s1 : ((w.alloc (.cells #[.int .i64 m, .int .i64 t, .int .i64 p, .int .i64 d, .bool fr, .bool fd, .bool fl, .bool fe, .bool fm, .string h, .int .i64 r, .string tk, .bool dd] 37)).alloc (.cells #[.int .i64 1, .int .i64 m4, .int .i64 t4, .int .i64 p4, .int .i64 d4, .bool fr4, .bool fd4, .bool fl4, .bool fe4, .bool fm4, .string txt] 51)).heap.size = w.heap.size + 1 + 1 := by simp
  have s2 : (((w.alloc (.cells #[.int .i64 m, .int .i64 t, .int .i64 p, .int .i64 d, .bool fr, .bool fd, .bool fl, .bool fe, .bool fm, .string h, .int .i64 r, .string tk, .bool dd] 37)).alloc (.cells #[.int .i64 1, .int .i64 m4, .int .i64 t4, .int .i64 p4, .int .i64 d4, .bool fr4, .bool fd4, .bool fl4, .bool fe4, .bool fm4, .string txt] 51)).alloc (.cells #[.int .i64 0, .int .i64 0, .int .i64 0, .int .i64 0, .bool false, .bool false, .bool false, .bool false, .bool false, .string ⟨#[]⟩, .int .i64 0, .string ⟨#[]⟩, .bool false] 37)).heap.size = w.heap.size + 1 + 1 + 1 := by simp
  have b0 := Blk.new w 37 #[.int .i64 m, .int .i64 t, .int .i64 p, .int .i64 d, .bool fr, .bool fd, .bool fl, .bool fe, .bool fm, .string h, .int .i64 r, .string tk, .bool dd]
  have b1 := Blk.new (w.alloc (.cells #[.int .i64 m, .int .i64 t, .int .i64 p, .int .i64 d, .bool fr, .bool fd, .bool fl, .bool fe, .bool fm, .string h, .int .i64 r, .string tk, .bool dd] 37)) 51 #[.int .i64 1, .int .i64 m4, .int .i64 t4, .int .i64 p4, .int .i64 d4, .bool fr4, .bool fd4, .bool fl4, .bool fe4, .bool fm4, .string txt]
  rw [s0] at b1
  have b2 := Blk.new ((w.alloc (.cells #[.int .i64 m, .int .i64 t, .int .i64 p, .int .i64 d, .bool fr, .bool fd, .bool fl, .bool fe, .bool fm, .string h, .int .i64 r, .string tk, .bool dd] 37)).alloc (.cells #[.int .i64 1, .int .i64 m4, .int .i64 t4, .int .i64 p4, .int .i64 d4, .bool fr4, .bool fd4, .bool fl4, .bool fe4, .bool fm4, .string txt] 51)) 37 #[.int .i64 0, .int .i64 0, .int .i64 0, .int .i64 0, .bool false, .bool false, .bool false, .bool false, .bool false, .string ⟨#[]⟩, .int .i64 0, .string ⟨#[]⟩, .bool false]
  rw [s1] at b2
  have b3 := Blk.new (((w.alloc (.cells #[.int .i64 m, .int .i64 t, .int .i64 p, .int .i64 d, .bool fr, .bool fd, .bool fl, .bool fe, .bool fm, .string h, .int .i64 r, .string tk, .bool dd] 37)).alloc (.cells #[.int .i64 1, .int .i64 m4, .int .i64 t4, .int .i64 p4, .int .i64 d4, .bool fr4, .bool fd4, .bool fl4, .bool fe4, .bool fm4, .string txt] 51)).alloc (.cells #[.int .i64 0, .int .i64 0, .int .i64 0, .int .i64 0, .bool false, .bool false, .bool false, .bool false, .bool false, .string ⟨#[]⟩, .int .i64 0, .string ⟨#[]⟩, .bool false] 37)) 3 #[.int .i64 0]
  rw [s2] at b3
  have e0 : Below (w.alloc (.cells #[.int .i64 m, .int .i64 t, .int .i64 p, .int .i64 d, .bool fr, .bool fd, .bool fl, .bool fe, .bool fm, .string h, .int .i64 r, .string tk, .bool dd] 37)).heap.size (w.alloc (.cells #[.int .i64 m, .int .i64 t, .int .i64 p, .int .i64 d, .bool fr, .bool fd, .bool fl, .bool fe, .bool fm, .string h, .int .i64 r, .string tk, .bool dd] 37)) ((w.alloc (.cells #[.int .i64 m, .int .i64 t, .int .i64 p, .int .i64 d, .bool fr, .bool fd, .bool fl, .bool fe, .bool fm, .string h, .int .i64 r, .string tk, .bool dd] 37)).alloc (.cells #[.int .i64 1, .int .i64 m4, .int .i64 t4, .int .i64 p4, .int .i64 d4, .bool fr4, .bool fd4, .bool fl4, .bool fe4, .bool fm4, .string txt] 51)) := (Below.refl _ _).alloc (Nat.le_refl _) _
  have e1 : Below ((w.alloc (.cells #[.int .i64 m, .int .i64 t, .int .i64 p, .int .i64 d, .bool fr, .bool fd, .bool fl, .bool fe, .bool fm, .string h, .int .i64 r, .string tk, .bool dd] 37)).alloc (.cells #[.int .i64 1, .int .i64 m4, .int .i64 t4, .int .i64 p4, .int .i64 d4, .bool fr4, .bool fd4, .bool fl4, .bool fe4, .bool fm4, .string txt] 51)).heap.size ((w.alloc (.cells #[.int .i64 m, .int .i64 t, .int .i64 p, .int .i64 d, .bool fr, .bool fd, .bool fl, .bool fe, .bool fm, .string h, .int .i64 r, .string tk, .bool dd] 37)).alloc (.cells #[.int .i64 1, .int .i64 m4, .int .i64 t4, .int .i64 p4, .int .i64 d4, .bool fr4, .bool fd4, .bool fl4, .bool fe4, .bool fm4, .string txt] 51)) (((w.alloc (.cells #[.int .i64 m, .int .i64 t, .int .i64 p, .int .i64 d, .bool fr, .bool fd, .bool fl, .bool fe, .bool fm, .string h, .int .i64 r, .string tk, .bool dd] 37)).alloc (.cells #[.int .i64 1, .int .i64 m4, .int .i64 t4, .int .i64 p4, .int .i64 d4, .bool fr4, .bool fd4, .bool fl4, .bool fe4, .bool fm4, .string txt] 51)).alloc (.cells #[.int .i64 0, .int .i64 0, .int .i64 0, .int .i64 0, .bool false, .bool false, .bool false, .bool false, .bool false, .string ⟨#[]⟩, .int .i64 0, .string ⟨#[]⟩, .bool false] 37)) := (Below.refl _ _).alloc (Nat.le_refl _) _
  have e2 : Below (((w.alloc (.cells #[.int .i64 m, .int .i64 t, .int .i64 p, .int .i64 d, .bool fr, .bool fd, .bool fl, .bool fe, .bool fm, .string h, .int .i64 r, .string tk, .bool dd] 37)).alloc (.cells #[.int .i64 1, .int .i64 m4, .int .i64 t4, .int .i64 p4, .int .i64 d4, .bool fr4, .bool fd4, .bool fl4, .bool fe4, .bool fm4, .string txt] 51)).alloc (.cells #[.int .i64 0, .int .i64 0, .int .i64 0, .int .i64 0, .bool false, .bool false, .bool false, .bool false, .bool false, .string ⟨#[]⟩, .int .i64 0, .string ⟨#[]⟩, .bool false] 37)).heap.size (((w.alloc (.cells #[.int .i64 m, .int .i64 t, .int .i64 p, .int .i64 d, .bool fr, .bool fd, .bool fl, .bool fe, .bool fm, .string h, .int .i64 r, .string tk, .bool dd] 37)).alloc (.cells #[.int .i64 1, .int .i64 m4, .int .i64 t4, .int .i64 p4, .int .i64 d4, .bool fr4, .bool fd4, .bool fl4, .bool fe4, .bool fm4, .string txt] 51)).alloc (.cells #[.int .i64 0, .int .i64 0, .int .i64 0, .int .i64 0, .bool false, .bool false, .bool false, .bool false, .bool false, .string ⟨#[]⟩, .int .i64 0, .string ⟨#[]⟩, .bool false] 37)) ((((w.alloc (.cells #[.int .i64 m, .int .i64 t, .int .i64 p, .int .i64 d, .bool fr, .bool fd, .bool fl, .bool fe, .bool fm, .string h, .int .i64 r, .string tk, .bool dd] 37)).alloc (.cells #[.int .i64 1, .int .i64 m4, .int .i64 t4, .int .i64 p4, .int .i64 d4, .bool fr4, .bool fd4, .bool fl4, .bool fe4, .bool fm4, .string txt] 51)).alloc (.cells #[.int .i64 0, .int .i64 0, .int .i64 0, .int .i64 0, .bool false, .bool false, .bool false, .bool false, .bool false, .string ⟨#[]⟩, .int .i64 0, .string ⟨#[]⟩, .bool false] 37)).alloc (.cells #[.int .i64 0] 3)) := (Below.refl _ _).alloc (Nat.le_refl _) _
  have B0 : Below w.heap.size w ((((w.alloc (.cells #[.int .i64 m, .int .i64 t, .int .i64 p, .int .i64 d, .bool fr, .bool fd, .bool fl, .bool fe, .bool fm, .string h, .int .i64 r, .string tk, .bool dd] 37)).alloc (.cells #[.int .i64 1, .int .i64 m4, .int .i64 t4, .int .i64 p4, .int .i64 d4, .bool fr4, .bool fd4, .bool fl4, .bool fe4, .bool fm4, .string txt] 51)).alloc (.cells #[.int .i64 0, .int .i64 0, .int .i64 0, .int .i64 0, .bool false, .bool false, .bool false, .bool false, .bool false, .string ⟨#[]⟩, .int .i64 0, .string ⟨#[]⟩, .bool false] 37)).alloc (.cells #[.int .i64 0] 3)) := by go_grown
  have b0 := ((b0.after e0).after e1).after e2
  have b1 := (b1.after e1).after e2
  have b2 := b2.after e2
  clear e0 e1 e2 s0 s1 s2
  have k0 := b0.thirteen
  have b3r := b3.rowElse (q := w.heap.size + 1 + 1) (ds := #[.int .i64 m, .int .i64 t, .int .i64 p, .int .i64 d, .bool fr, .bool fd, .bool fl, .bool fe, .bool fm, .string h, .int .i64 r, .string tk, .bool dd]) (by omega)
  have f3 := b3r.free 0
  have x3 := b3r.cell 0
  simp at x3
  have BY : Below w.heap.size w ((((((w.alloc (.cells #[.int .i64 m, .int .i64 t, .int .i64 p, .int .i64 d, .bool fr, .bool fd, .bool fl, .bool fe, .bool fm, .string h, .int .i64 r, .string tk, .bool dd] 37)).alloc (.cells #[.int .i64 1, .int .i64 m4, .int .i64 t4, .int .i64 p4, .int .i64 d4, .bool fr4, .bool fd4, .bool fl4, .bool fe4, .bool fm4, .string txt] 51)).alloc (.cells #[.int .i64 0, .int .i64 0, .int .i64 0, .int .i64 0, .bool false, .bool false, .bool false, .bool false, .bool false, .string ⟨#[]⟩, .int .i64 0, .string ⟨#[]⟩, .bool false] 37)).alloc (.cells #[.int .i64 0] 3)).setRow (w.heap.size + 1 + 1) #[.int .i64 m, .int .i64 t, .int .i64 p, .int .i64 d, .bool fr, .bool fd, .bool fl, .bool fe, .bool fm, .string h, .int .i64 r, .string tk, .bool dd]).setCell ⟨w.heap.size + 1 + 1 + 1, 0, none⟩ (.int .i64 1)) := (below_setRow B0 (by omega) _).setCell (p := ⟨w.heap.size + 1 + 1 + 1, 0, none⟩) (by show w.heap.size ≤ w.heap.size + 1 + 1 + 1; omega) _
  have y0 : Blk ((((((w.alloc (.cells #[.int .i64 m, .int .i64 t, .int .i64 p, .int .i64 d, .bool fr, .bool fd, .bool fl, .bool fe, .bool fm, .string h, .int .i64 r, .string tk, .bool dd] 37)).alloc (.cells #[.int .i64 1, .int .i64 m4, .int .i64 t4, .int .i64 p4, .int .i64 d4, .bool fr4, .bool fd4, .bool fl4, .bool fe4, .bool fm4, .string txt] 51)).alloc (.cells #[.int .i64 0, .int .i64 0, .int .i64 0, .int .i64 0, .bool false, .bool false, .bool false, .bool false, .bool false, .string ⟨#[]⟩, .int .i64 0, .string ⟨#[]⟩, .bool false] 37)).alloc (.cells #[.int .i64 0] 3)).setRow (w.heap.size + 1 + 1) #[.int .i64 m, .int .i64 t, .int .i64 p, .int .i64 d, .bool fr, .bool fd, .bool fl, .bool fe, .bool fm, .string h, .int .i64 r, .string tk, .bool dd]).setCell ⟨w.heap.size + 1 + 1 + 1, 0, none⟩ (.int .i64 1)) (w.heap.size) 37 #[.int .i64 m, .int .i64 t, .int .i64 p, .int .i64 d, .bool fr, .bool fd, .bool fl, .bool fe, .bool fm, .string h, .int .i64 r, .string tk, .bool dd] := (b0.rowElse (by omega)).other (by omega)
  have y1 : Blk ((((((w.alloc (.cells #[.int .i64 m, .int .i64 t, .int .i64 p, .int .i64 d, .bool fr, .bool fd, .bool fl, .bool fe, .bool fm, .string h, .int .i64 r, .string tk, .bool dd] 37)).alloc (.cells #[.int .i64 1, .int .i64 m4, .int .i64 t4, .int .i64 p4, .int .i64 d4, .bool fr4, .bool fd4, .bool fl4, .bool fe4, .bool fm4, .string txt] 51)).alloc (.cells #[.int .i64 0, .int .i64 0, .int .i64 0, .int .i64 0, .bool false, .bool false, .bool false, .bool false, .bool false, .string ⟨#[]⟩, .int .i64 0, .string ⟨#[]⟩, .bool false] 37)).alloc (.cells #[.int .i64 0] 3)).setRow (w.heap.size + 1 + 1) #[.int .i64 m, .int .i64 t, .int .i64 p, .int .i64 d, .bool fr, .bool fd, .bool fl, .bool fe, .bool fm, .string h, .int .i64 r, .string tk, .bool dd]).setCell ⟨w.heap.size + 1 + 1 + 1, 0, none⟩ (.int .i64 1)) (w.heap.size + 1) 51 #[.int .i64 1, .int .i64 m4, .int .i64 t4, .int .i64 p4, .int .i64 d4, .bool fr4, .bool fd4, .bool fl4, .bool fe4, .bool fm4, .string txt] := (b1.rowElse (by omega)).other (by omega)
  have y2 : Blk ((((((w.alloc (.cells #[.int .i64 m, .int .i64 t, .int .i64 p, .int .i64 d, .bool fr, .bool fd, .bool fl, .bool fe, .bool fm, .string h, .int .i64 r, .string tk, .bool dd] 37)).alloc (.cells #[.int .i64 1, .int .i64 m4, .int .i64 t4, .int .i64 p4, .int .i64 d4, .bool fr4, .bool fd4, .bool fl4, .bool fe4, .bool fm4, .string txt] 51)).alloc (.cells #[.int .i64 0, .int .i64 0, .int .i64 0, .int .i64 0, .bool false, .bool false, .bool false, .bool false, .bool false, .string ⟨#[]⟩, .int .i64 0, .string ⟨#[]⟩, .bool false] 37)).alloc (.cells #[.int .i64 0] 3)).setRow (w.heap.size + 1 + 1) #[.int .i64 m, .int .i64 t, .int .i64 p, .int .i64 d, .bool fr, .bool fd, .bool fl, .bool fe, .bool fm, .string h, .int .i64 r, .string tk, .bool dd]).setCell ⟨w.heap.size + 1 + 1 + 1, 0, none⟩ (.int .i64 1)) (w.heap.size + 1 + 1) 37 #[.int .i64 m, .int .i64 t, .int .i64 p, .int .i64 d, .bool fr, .bool fd, .bool fl, .bool fe, .bool fm, .string h, .int .i64 r, .string tk, .bool dd] := b2.row.other (by omega)
  have y3 : Blk ((((((w.alloc (.cells #[.int .i64 m, .int .i64 t, .int .i64 p, .int .i64 d, .bool fr, .bool fd, .bool fl, .bool fe, .bool fm, .string h, .int .i64 r, .string tk, .bool dd] 37)).alloc (.cells #[.int .i64 1, .int .i64 m4, .int .i64 t4, .int .i64 p4, .int .i64 d4, .bool fr4, .bool fd4, .bool fl4, .bool fe4, .bool fm4, .string txt] 51)).alloc (.cells #[.int .i64 0, .int .i64 0, .int .i64 0, .int .i64 0, .bool false, .bool false, .bool false, .bool false, .bool false, .string ⟨#[]⟩, .int .i64 0, .string ⟨#[]⟩, .bool false] 37)).alloc (.cells #[.int .i64 0] 3)).setRow (w.heap.size + 1 + 1) #[.int .i64 m, .int .i64 t, .int .i64 p, .int .i64 d, .bool fr, .bool fd, .bool fl, .bool fe, .bool fm, .string h, .int .i64 r, .string tk, .bool dd]).setCell ⟨w.heap.size + 1 + 1 + 1, 0, none⟩ (.int .i64 1)) (w.heap.size + 1 + 1 + 1) 3 #[.int .i64 1] := b3r.set 0 _
  have ky0 := y0.thirteen
  have ky1 := y1.elevenR
  have HB2 := Lib.hid b2
  have HY0 := Lib.hid y0
  have HY1 := Lib.hid y1
  have HY2 := Lib.hid y2
  have HY3 := Lib.hid y3
  have HBY := Lib.hid BY
  clear b0 b1 b2 b3 b3r B0 y0 y1 y2 y3 BY
  obtain ⟨ka0, ka1, ka2, ka3, ka4, ka5, ka6, ka7, ka8, ka9, ka10, ka11, ka12⟩ := k0
  obtain ⟨kb0, kb1, kb2, kb3, kb4, kb5, kb6, kb7, kb8, kb9, kb10, kb11, kb12⟩ := ky0
  obtain ⟨kc0, kc1, kc2, kc3, kc4, kc5, kc6, kc7, kc8, kc9, kc10⟩ := ky1
  go_enter_defers Tryz.func19, Tryz.ntmps19
  go_wp2_with (refine wpList_store_row rfl _ _ _ rfl (w.heap.size + 1 + 1) #[.int .i64 m, .int .i64 t, .int .i64 p, .int .i64 d, .bool fr, .bool fd, .bool fl, .bool fe, .bool fm, .string h, .int .i64 r, .string tk, .bool dd] rfl rfl 37 _ HB2.out size_sesR rfl (one_ses _ _ _ _ _ _ _ _ _ _ _ _ _) ?_)
  refine (HW.out _ HBY.out).mono ?_
  rintro e w1 ⟨rfl, hb1⟩
  have z0 := HY0.out.after hb1
  have z2 := HY2.out.after hb1
  have z3 := HY3.out.after hb1
  have BZ := HBY.out.trans (hb1.mono HBY.out.size)
  clear hb1 f3 x3 ka0 ka1 ka2 ka3 ka4 ka5 ka6 ka7 ka8 ka9 ka10 ka11 ka12 kb0 kb1 kb2 kb3 kb4 kb5 kb6 kb7 kb8 kb9 kb10 kb11 kb12 kc0 kc1 kc2 kc3 kc4 kc5 kc6 kc7 kc8 kc9 kc10
  have z3r := z3.rowElse (q := w.heap.size + 1 + 1) (ds := #[.int .i64 m2, .int .i64 t2, .int .i64 p2, .int .i64 d2, .bool fr2, .bool fd2, .bool fl2, .bool fe2, .bool fm2, .string h2, .int .i64 r, .string tk, .bool dd]) (by omega)
  have f3 := z3r.free 0
  have x3 := z3r.cell 0
  simp at x3
  have u0 : Blk ((w1.setRow (w.heap.size + 1 + 1) #[.int .i64 m2, .int .i64 t2, .int .i64 p2, .int .i64 d2, .bool fr2, .bool fd2, .bool fl2, .bool fe2, .bool fm2, .string h2, .int .i64 r, .string tk, .bool dd]).setCell ⟨w.heap.size + 1 + 1 + 1, 0, none⟩ (.int .i64 0)) (w.heap.size) 37 #[.int .i64 m, .int .i64 t, .int .i64 p, .int .i64 d, .bool fr, .bool fd, .bool fl, .bool fe, .bool fm, .string h, .int .i64 r, .string tk, .bool dd] := (z0.rowElse (by omega)).other (by omega)
  have u2 : Blk ((w1.setRow (w.heap.size + 1 + 1) #[.int .i64 m2, .int .i64 t2, .int .i64 p2, .int .i64 d2, .bool fr2, .bool fd2, .bool fl2, .bool fe2, .bool fm2, .string h2, .int .i64 r, .string tk, .bool dd]).setCell ⟨w.heap.size + 1 + 1 + 1, 0, none⟩ (.int .i64 0)) (w.heap.size + 1 + 1) 37 #[.int .i64 m2, .int .i64 t2, .int .i64 p2, .int .i64 d2, .bool fr2, .bool fd2, .bool fl2, .bool fe2, .bool fm2, .string h2, .int .i64 r, .string tk, .bool dd] := z2.row.other (by omega)
  have u3 : Blk ((w1.setRow (w.heap.size + 1 + 1) #[.int .i64 m2, .int .i64 t2, .int .i64 p2, .int .i64 d2, .bool fr2, .bool fd2, .bool fl2, .bool fe2, .bool fm2, .string h2, .int .i64 r, .string tk, .bool dd]).setCell ⟨w.heap.size + 1 + 1 + 1, 0, none⟩ (.int .i64 0)) (w.heap.size + 1 + 1 + 1) 3 #[.int .i64 0] := z3r.set 0 _
  have BU : Below w.heap.size w ((w1.setRow (w.heap.size + 1 + 1) #[.int .i64 m2, .int .i64 t2, .int .i64 p2, .int .i64 d2, .bool fr2, .bool fd2, .bool fl2, .bool fe2, .bool fm2, .string h2, .int .i64 r, .string tk, .bool dd]).setCell ⟨w.heap.size + 1 + 1 + 1, 0, none⟩ (.int .i64 0)) := (below_setRow BZ (by omega) _).setCell (p := ⟨w.heap.size + 1 + 1 + 1, 0, none⟩) (by show w.heap.size ≤ w.heap.size + 1 + 1 + 1; omega) _
  have HZ2 := Lib.hid z2
  have HU2 := Lib.hid u2
  have HU3 := Lib.hid u3
  have HBU := Lib.hid BU
  have v10 := u0.cell 10
  have v11 := u0.cell 11
  have v12 := u0.cell 12
  have v3 := u3.cell 0
  simp at v10 v11 v12 v3
  clear z0 z2 z3 z3r u0 u2 u3 BZ BU
  go_wp2_with (refine wpList_store_part rfl _ _ _ rfl (w.heap.size + 1 + 1) 0 #[.int .i64 m2, .int .i64 t2, .int .i64 p2, .int .i64 d2, .bool fr2, .bool fd2, .bool fl2, .bool fe2, .bool fm2, .string h2] rfl rfl 37 _ #[.int .i64 m2, .int .i64 t2, .int .i64 p2, .int .i64 d2, .bool fr2, .bool fd2, .bool fl2, .bool fe2, .bool fm2, .string h2, .int .i64 r, .string tk, .bool dd] HZ2.out size_wrR (by simp) (one_wrR _ _ _ _ _ _ _ _ _ _) rfl ?_)
  refine (HP.out _).mono ?_
  rintro e w2 ⟨rfl, hb2⟩
  have z2 := HU2.out.after hb2
  have z3 := HU3.out.after hb2
  have BZ := HBU.out.trans (hb2.mono HBU.out.size)
  clear hb2 f3 x3 v10 v11 v12 v3
  have z2r := z2.row (cs' := #[.int .i64 m2, .int .i64 t2, .int .i64 p2, .int .i64 d2, .bool fr2, .bool fd2, .bool fl2, .bool fe2, .bool fm2, .string h2, .int .i64 r2, .string tk2, .bool dd2])
  have z3r := z3.rowElse (q := w.heap.size + 1 + 1) (ds := #[.int .i64 m2, .int .i64 t2, .int .i64 p2, .int .i64 d2, .bool fr2, .bool fd2, .bool fl2, .bool fe2, .bool fm2, .string h2, .int .i64 r2, .string tk2, .bool dd2]) (by omega)
  have BR := below_setRow BZ (by omega : w.heap.size ≤ w.heap.size + 1 + 1) #[.int .i64 m2, .int .i64 t2, .int .i64 p2, .int .i64 d2, .bool fr2, .bool fd2, .bool fl2, .bool fe2, .bool fm2, .string h2, .int .i64 r2, .string tk2, .bool dd2]
  go_wp2_with (refine wpList_store_part rfl _ _ _ rfl (w.heap.size + 1 + 1) 10 #[.int .i64 r2, .string tk2, .bool dd2] rfl rfl 37 _ #[.int .i64 m2, .int .i64 t2, .int .i64 p2, .int .i64 d2, .bool fr2, .bool fd2, .bool fl2, .bool fe2, .bool fm2, .string h2, .int .i64 r2, .string tk2, .bool dd2] z2 size_snkT (by simp) (one_snk _ _ _) rfl ?_)
  have hA0 := z2r
  have hO0 := z3r
  clear z2 z3 z2r z3r BZ
  refine wp_region_noPanic ?_
  refine wp_region_held_drew (S := (fun W => Blk W (w.heap.size + 1 + 1) 37 #[.int .i64 m2, .int .i64 t2, .int .i64 p2, .int .i64 d2, .bool fr2, .bool fd2, .bool fl2, .bool fe2, .bool fm2, .string h2, .int .i64 r2, .string tk2, .bool dd2] ∧ Blk W (w.heap.size + 1 + 1 + 1) 3 #[.int .i64 0] ∧ Below w.heap.size w W)) (by kernel_rfl) ⟨hA0, hO0, BR.drew⟩ (fun hHeld => ?_)
  refine wpAnyH_take (i := 0) (oi := ⟨some 49, _, _, _, _, _⟩) (v := .agg #[.int .i64 m2, .int .i64 t2, .int .i64 p2, .int .i64 d2, .bool fr2, .bool fd2, .bool fl2, .bool fe2, .bool fm2, .string h2, .int .i64 r2, .string tk2, .bool dd2]) rfl (by kernel_rfl) (by kernel_rfl) (by kernel_rfl) (fun _ _ _ h => h) (Or.inl ⟨by rfl, ?_⟩) (by assumption) ?_
  · intro W hSw
    obtain ⟨a0, a1, a2, a3, a4, a5, a6, a7, a8, a9, a10, a11, a12⟩ := hSw.1.thirteen
    go_simp
  try simp only [Act.put, List.setIfInBounds_toArray, List.set_cons_zero, List.set_cons_succ]
  refine wpAnyH_take (i := 1) (oi := ⟨some 50, _, _, _, _, _⟩) (v := .int .i64 0) rfl (by kernel_rfl) (by kernel_rfl) (by kernel_rfl) (fun _ _ _ h => h) (Or.inl ⟨by rfl, ?_⟩) (by assumption) ?_
  · intro W hSw
    have a0 := hSw.2.1.cell 0
    simp at a0
    go_simp
  try simp only [Act.put, List.setIfInBounds_toArray, List.set_cons_zero, List.set_cons_succ]
  refine wpAnyH_ready (rs := [2]) (by kernel_rfl) (by simp) ?_
  refine AllReadyH.cons (o := _) rfl (fun K hK => ?_) AllReadyH.nil
  rw [if_pos (by rfl)]
  refine wp_store_row _ _ _ rfl (w.heap.size + 1 + 1) #[.int .i64 m2, .int .i64 t2, .int .i64 p2, .int .i64 d2, .bool fr2, .bool fd2, .bool fl2, .bool fe2, .bool fm2, .string h2, .int .i64 r2, .string tk2, .bool dd2] rfl rfl 37 _ hHeld.1 size_sesR rfl (one_ses _ _ _ _ _ _ _ _ _ _ _ _ _) ?_
  refine hK.out _ _ ⟨hHeld.1.row, hHeld.2.1.rowElse (by omega), below_setRow hHeld.2.2 (by omega) _⟩ (fun hHeld2 => ?_)
  clear hK K hHeld
  try simp only [Act.put, List.setIfInBounds_toArray, List.set_cons_zero, List.set_cons_succ]
  refine wpAnyH_ready (rs := [3]) (by kernel_rfl) (by simp) ?_
  refine AllReadyH.cons (o := _) rfl (fun K hK => ?_) AllReadyH.nil
  have g0 := hHeld2.2.1.cell 0
  have gf := hHeld2.2.1.free 0
  simp at g0
  go_simp
  refine hK.out _ _ ⟨hHeld2.1.other (by omega), hHeld2.2.1.set 0 _, hHeld2.2.2.setCell (p := ⟨w.heap.size + 1 + 1 + 1, 0, none⟩) (by show w.heap.size ≤ w.heap.size + 1 + 1 + 1; omega) _⟩ (fun hHeld3 => ?_)
  clear hK K hHeld2 g0 gf
  try simp only [Act.put, List.setIfInBounds_toArray, List.set_cons_zero, List.set_cons_succ]
  refine wpAnyH_done (by kernel_rfl) ?_ _
  refine NoPanic.normal ?_
  go_wp2_with fail
  refine leaves_cons (f := 25) (args := #[.pointer (some ⟨w.heap.size + 1 + 1, 0, none⟩), .pointer (some ⟨w.heap.size + 1 + 1 + 1, 0, none⟩)]) (by simp) (by simp [go_sem]) ?_
  refine (catchRun_idle _ _ _).mono ?_
  rintro e u' w3 ⟨rfl, rfl, hB⟩
  have hA := hHeld3.1.after hB
  have hO := hHeld3.2.1.after hB
  have hBB := hHeld3.2.2.trans (hB.mono hHeld3.2.2.size)
  obtain ⟨a0, a1, a2, a3, a4, a5, a6, a7, a8, a9, a10, a11, a12⟩ := hA.thirteen
  have o0 := hO.cell 0
  simp at o0
  simp [Leaves, settle, results, Tryz.results19, go_sem, a0, a1, a2, a3, a4, a5, a6, a7, a8, a9, a10, a11, a12, o0]
  exact hBB
end Go.Proofs.YtooanejiadbngaaGreatDoor

/- The program's RunOp: a new writer, the sink fails. -/
namespace Go.Proofs.YtooanejiadbngaaGreatDoor
open Go.RowKit
set_option linter.unusedVariables false
set_option linter.unusedSimpArgs false

set_option maxRecDepth 100000 in
set_option maxHeartbeats 8000000 in
theorem run_init_dies (c o c2 : Cfg) (h txt h2 T : ByteArray) (k k2 : Snk) (w : World) (hE : ErrT w)
    (hW : ∀ W, Below w.heap.size w W → Calls Tryz.prog 27 #[.agg (cfgV o)] W fun e w' => e = .returned (.tuple #[.agg (wrV c2 h2), .int .i64 0]) ∧ Below W.heap.size W w')
    (hP : ∀ W, Calls Tryz.prog 30 #[.agg (snkV k), .string ⟨#[]⟩] W fun e w' => e = .panicked [{ v := sinkPV k2, recovered := false }] ∧ Below W.heap.size W w') :
    Calls Tryz.prog 19 #[.agg (sesV c h k), .agg (opnV ⟨1, o, txt⟩)] w fun e w' => e = .returned (.tuple #[.agg (sesV c2 h2 k2), .int .i64 3]) ∧ Below w.heap.size w w' := by
  have hmf : ∀ (fn : Fn) (first cap : Array Value) (w : World), (Instr.makeFunc fn first cap).run Tryz.prog w = .ok (.func fn first cap) w := fun _ _ _ _ => rfl
  have HW := Lib.hid hW
  have HP := Lib.hid hP
  clear hW hP
  have HCD := Lib.hid (fun x older W ha ho hE => catchRun_panicking k2 (w.heap.size + 1 + 1) (w.heap.size + 1 + 1 + 1) x c2 h2 k older W ha ho (by omega) hE)
  obtain ⟨m, t, p, d, fr, fd, fl, fe, fm⟩ := c
  obtain ⟨m2, t2, p2, d2, fr2, fd2, fl2, fe2, fm2⟩ := c2
  obtain ⟨m4, t4, p4, d4, fr4, fd4, fl4, fe4, fm4⟩ := o
  obtain ⟨r, tk, dd⟩ := k
  obtain ⟨r2, tk2, dd2⟩ := k2
  try unfold cfgV at HW
  try unfold wrV at HW
  try unfold snkV at HW
  try unfold sesV at HW
  try unfold opnV at HW
  try unfold cfgV at HP
  try unfold wrV at HP
  try unfold snkV at HP
  try unfold sesV at HP
  try unfold opnV at HP
  try unfold cfgV at ⊢
  try unfold wrV at ⊢
  try unfold snkV at ⊢
  try unfold sesV at ⊢
  try unfold opnV at ⊢
  try unfold cfgV at HCD
  try unfold wrV at HCD
  try unfold snkV at HCD
  try unfold sesV at HCD
  try unfold opnV at HCD
  simp only at HW HP ⊢ HCD
  have s0 : (w.alloc (.cells #[.int .i64 m, .int .i64 t, .int .i64 p, .int .i64 d, .bool fr, .bool fd, .bool fl, .bool fe, .bool fm, .string h, .int .i64 r, .string tk, .bool dd] 37)).heap.size = w.heap.size + 1 := by simp
  have s1 : ((w.alloc (.cells #[.int .i64 m, .int .i64 t, .int .i64 p, .int .i64 d, .bool fr, .bool fd, .bool fl, .bool fe, .bool fm, .string h, .int .i64 r, .string tk, .bool dd] 37)).alloc (.cells #[.int .i64 1, .int .i64 m4, .int .i64 t4, .int .i64 p4, .int .i64 d4, .bool fr4, .bool fd4, .bool fl4, .bool fe4, .bool fm4, .string txt] 51)).heap.size = w.heap.size + 1 + 1 := by simp
  have s2 : (((w.alloc (.cells #[.int .i64 m, .int .i64 t, .int .i64 p, .int .i64 d, .bool fr, .bool fd, .bool fl, .bool fe, .bool fm, .string h, .int .i64 r, .string tk, .bool dd] 37)).alloc (.cells #[.int .i64 1, .int .i64 m4, .int .i64 t4, .int .i64 p4, .int .i64 d4, .bool fr4, .bool fd4, .bool fl4, .bool fe4, .bool fm4, .string txt] 51)).alloc (.cells #[.int .i64 0, .int .i64 0, .int .i64 0, .int .i64 0, .bool false, .bool false, .bool false, .bool false, .bool false, .string ⟨#[]⟩, .int .i64 0, .string ⟨#[]⟩, .bool false] 37)).heap.size = w.heap.size + 1 + 1 + 1 := by simp
  have b0 := Blk.new w 37 #[.int .i64 m, .int .i64 t, .int .i64 p, .int .i64 d, .bool fr, .bool fd, .bool fl, .bool fe, .bool fm, .string h, .int .i64 r, .string tk, .bool dd]
  have b1 := Blk.new (w.alloc (.cells #[.int .i64 m, .int .i64 t, .int .i64 p, .int .i64 d, .bool fr, .bool fd, .bool fl, .bool fe, .bool fm, .string h, .int .i64 r, .string tk, .bool dd] 37)) 51 #[.int .i64 1, .int .i64 m4, .int .i64 t4, .int .i64 p4, .int .i64 d4, .bool fr4, .bool fd4, .bool fl4, .bool fe4, .bool fm4, .string txt]
  rw [s0] at b1
  have b2 := Blk.new ((w.alloc (.cells #[.int .i64 m, .int .i64 t, .int .i64 p, .int .i64 d, .bool fr, .bool fd, .bool fl, .bool fe, .bool fm, .string h, .int .i64 r, .string tk, .bool dd] 37)).alloc (.cells #[.int .i64 1, .int .i64 m4, .int .i64 t4, .int .i64 p4, .int .i64 d4, .bool fr4, .bool fd4, .bool fl4, .bool fe4, .bool fm4, .string txt] 51)) 37 #[.int .i64 0, .int .i64 0, .int .i64 0, .int .i64 0, .bool false, .bool false, .bool false, .bool false, .bool false, .string ⟨#[]⟩, .int .i64 0, .string ⟨#[]⟩, .bool false]
  rw [s1] at b2
  have b3 := Blk.new (((w.alloc (.cells #[.int .i64 m, .int .i64 t, .int .i64 p, .int .i64 d, .bool fr, .bool fd, .bool fl, .bool fe, .bool fm, .string h, .int .i64 r, .string tk, .bool dd] 37)).alloc (.cells #[.int .i64 1, .int .i64 m4, .int .i64 t4, .int .i64 p4, .int .i64 d4, .bool fr4, .bool fd4, .bool fl4, .bool fe4, .bool fm4, .string txt] 51)).alloc (.cells #[.int .i64 0, .int .i64 0, .int .i64 0, .int .i64 0, .bool false, .bool false, .bool false, .bool false, .bool false, .string ⟨#[]⟩, .int .i64 0, .string ⟨#[]⟩, .bool false] 37)) 3 #[.int .i64 0]
  rw [s2] at b3
  have e0 : Below (w.alloc (.cells #[.int .i64 m, .int .i64 t, .int .i64 p, .int .i64 d, .bool fr, .bool fd, .bool fl, .bool fe, .bool fm, .string h, .int .i64 r, .string tk, .bool dd] 37)).heap.size (w.alloc (.cells #[.int .i64 m, .int .i64 t, .int .i64 p, .int .i64 d, .bool fr, .bool fd, .bool fl, .bool fe, .bool fm, .string h, .int .i64 r, .string tk, .bool dd] 37)) ((w.alloc (.cells #[.int .i64 m, .int .i64 t, .int .i64 p, .int .i64 d, .bool fr, .bool fd, .bool fl, .bool fe, .bool fm, .string h, .int .i64 r, .string tk, .bool dd] 37)).alloc (.cells #[.int .i64 1, .int .i64 m4, .int .i64 t4, .int .i64 p4, .int .i64 d4, .bool fr4, .bool fd4, .bool fl4, .bool fe4, .bool fm4, .string txt] 51)) := (Below.refl _ _).alloc (Nat.le_refl _) _
  have e1 : Below ((w.alloc (.cells #[.int .i64 m, .int .i64 t, .int .i64 p, .int .i64 d, .bool fr, .bool fd, .bool fl, .bool fe, .bool fm, .string h, .int .i64 r, .string tk, .bool dd] 37)).alloc (.cells #[.int .i64 1, .int .i64 m4, .int .i64 t4, .int .i64 p4, .int .i64 d4, .bool fr4, .bool fd4, .bool fl4, .bool fe4, .bool fm4, .string txt] 51)).heap.size ((w.alloc (.cells #[.int .i64 m, .int .i64 t, .int .i64 p, .int .i64 d, .bool fr, .bool fd, .bool fl, .bool fe, .bool fm, .string h, .int .i64 r, .string tk, .bool dd] 37)).alloc (.cells #[.int .i64 1, .int .i64 m4, .int .i64 t4, .int .i64 p4, .int .i64 d4, .bool fr4, .bool fd4, .bool fl4, .bool fe4, .bool fm4, .string txt] 51)) (((w.alloc (.cells #[.int .i64 m, .int .i64 t, .int .i64 p, .int .i64 d, .bool fr, .bool fd, .bool fl, .bool fe, .bool fm, .string h, .int .i64 r, .string tk, .bool dd] 37)).alloc (.cells #[.int .i64 1, .int .i64 m4, .int .i64 t4, .int .i64 p4, .int .i64 d4, .bool fr4, .bool fd4, .bool fl4, .bool fe4, .bool fm4, .string txt] 51)).alloc (.cells #[.int .i64 0, .int .i64 0, .int .i64 0, .int .i64 0, .bool false, .bool false, .bool false, .bool false, .bool false, .string ⟨#[]⟩, .int .i64 0, .string ⟨#[]⟩, .bool false] 37)) := (Below.refl _ _).alloc (Nat.le_refl _) _
  have e2 : Below (((w.alloc (.cells #[.int .i64 m, .int .i64 t, .int .i64 p, .int .i64 d, .bool fr, .bool fd, .bool fl, .bool fe, .bool fm, .string h, .int .i64 r, .string tk, .bool dd] 37)).alloc (.cells #[.int .i64 1, .int .i64 m4, .int .i64 t4, .int .i64 p4, .int .i64 d4, .bool fr4, .bool fd4, .bool fl4, .bool fe4, .bool fm4, .string txt] 51)).alloc (.cells #[.int .i64 0, .int .i64 0, .int .i64 0, .int .i64 0, .bool false, .bool false, .bool false, .bool false, .bool false, .string ⟨#[]⟩, .int .i64 0, .string ⟨#[]⟩, .bool false] 37)).heap.size (((w.alloc (.cells #[.int .i64 m, .int .i64 t, .int .i64 p, .int .i64 d, .bool fr, .bool fd, .bool fl, .bool fe, .bool fm, .string h, .int .i64 r, .string tk, .bool dd] 37)).alloc (.cells #[.int .i64 1, .int .i64 m4, .int .i64 t4, .int .i64 p4, .int .i64 d4, .bool fr4, .bool fd4, .bool fl4, .bool fe4, .bool fm4, .string txt] 51)).alloc (.cells #[.int .i64 0, .int .i64 0, .int .i64 0, .int .i64 0, .bool false, .bool false, .bool false, .bool false, .bool false, .string ⟨#[]⟩, .int .i64 0, .string ⟨#[]⟩, .bool false] 37)) ((((w.alloc (.cells #[.int .i64 m, .int .i64 t, .int .i64 p, .int .i64 d, .bool fr, .bool fd, .bool fl, .bool fe, .bool fm, .string h, .int .i64 r, .string tk, .bool dd] 37)).alloc (.cells #[.int .i64 1, .int .i64 m4, .int .i64 t4, .int .i64 p4, .int .i64 d4, .bool fr4, .bool fd4, .bool fl4, .bool fe4, .bool fm4, .string txt] 51)).alloc (.cells #[.int .i64 0, .int .i64 0, .int .i64 0, .int .i64 0, .bool false, .bool false, .bool false, .bool false, .bool false, .string ⟨#[]⟩, .int .i64 0, .string ⟨#[]⟩, .bool false] 37)).alloc (.cells #[.int .i64 0] 3)) := (Below.refl _ _).alloc (Nat.le_refl _) _
  have B0 : Below w.heap.size w ((((w.alloc (.cells #[.int .i64 m, .int .i64 t, .int .i64 p, .int .i64 d, .bool fr, .bool fd, .bool fl, .bool fe, .bool fm, .string h, .int .i64 r, .string tk, .bool dd] 37)).alloc (.cells #[.int .i64 1, .int .i64 m4, .int .i64 t4, .int .i64 p4, .int .i64 d4, .bool fr4, .bool fd4, .bool fl4, .bool fe4, .bool fm4, .string txt] 51)).alloc (.cells #[.int .i64 0, .int .i64 0, .int .i64 0, .int .i64 0, .bool false, .bool false, .bool false, .bool false, .bool false, .string ⟨#[]⟩, .int .i64 0, .string ⟨#[]⟩, .bool false] 37)).alloc (.cells #[.int .i64 0] 3)) := by go_grown
  have b0 := ((b0.after e0).after e1).after e2
  have b1 := (b1.after e1).after e2
  have b2 := b2.after e2
  clear e0 e1 e2 s0 s1 s2
  have k0 := b0.thirteen
  have b3r := b3.rowElse (q := w.heap.size + 1 + 1) (ds := #[.int .i64 m, .int .i64 t, .int .i64 p, .int .i64 d, .bool fr, .bool fd, .bool fl, .bool fe, .bool fm, .string h, .int .i64 r, .string tk, .bool dd]) (by omega)
  have f3 := b3r.free 0
  have x3 := b3r.cell 0
  simp at x3
  have BY : Below w.heap.size w ((((((w.alloc (.cells #[.int .i64 m, .int .i64 t, .int .i64 p, .int .i64 d, .bool fr, .bool fd, .bool fl, .bool fe, .bool fm, .string h, .int .i64 r, .string tk, .bool dd] 37)).alloc (.cells #[.int .i64 1, .int .i64 m4, .int .i64 t4, .int .i64 p4, .int .i64 d4, .bool fr4, .bool fd4, .bool fl4, .bool fe4, .bool fm4, .string txt] 51)).alloc (.cells #[.int .i64 0, .int .i64 0, .int .i64 0, .int .i64 0, .bool false, .bool false, .bool false, .bool false, .bool false, .string ⟨#[]⟩, .int .i64 0, .string ⟨#[]⟩, .bool false] 37)).alloc (.cells #[.int .i64 0] 3)).setRow (w.heap.size + 1 + 1) #[.int .i64 m, .int .i64 t, .int .i64 p, .int .i64 d, .bool fr, .bool fd, .bool fl, .bool fe, .bool fm, .string h, .int .i64 r, .string tk, .bool dd]).setCell ⟨w.heap.size + 1 + 1 + 1, 0, none⟩ (.int .i64 1)) := (below_setRow B0 (by omega) _).setCell (p := ⟨w.heap.size + 1 + 1 + 1, 0, none⟩) (by show w.heap.size ≤ w.heap.size + 1 + 1 + 1; omega) _
  have y0 : Blk ((((((w.alloc (.cells #[.int .i64 m, .int .i64 t, .int .i64 p, .int .i64 d, .bool fr, .bool fd, .bool fl, .bool fe, .bool fm, .string h, .int .i64 r, .string tk, .bool dd] 37)).alloc (.cells #[.int .i64 1, .int .i64 m4, .int .i64 t4, .int .i64 p4, .int .i64 d4, .bool fr4, .bool fd4, .bool fl4, .bool fe4, .bool fm4, .string txt] 51)).alloc (.cells #[.int .i64 0, .int .i64 0, .int .i64 0, .int .i64 0, .bool false, .bool false, .bool false, .bool false, .bool false, .string ⟨#[]⟩, .int .i64 0, .string ⟨#[]⟩, .bool false] 37)).alloc (.cells #[.int .i64 0] 3)).setRow (w.heap.size + 1 + 1) #[.int .i64 m, .int .i64 t, .int .i64 p, .int .i64 d, .bool fr, .bool fd, .bool fl, .bool fe, .bool fm, .string h, .int .i64 r, .string tk, .bool dd]).setCell ⟨w.heap.size + 1 + 1 + 1, 0, none⟩ (.int .i64 1)) (w.heap.size) 37 #[.int .i64 m, .int .i64 t, .int .i64 p, .int .i64 d, .bool fr, .bool fd, .bool fl, .bool fe, .bool fm, .string h, .int .i64 r, .string tk, .bool dd] := (b0.rowElse (by omega)).other (by omega)
  have y1 : Blk ((((((w.alloc (.cells #[.int .i64 m, .int .i64 t, .int .i64 p, .int .i64 d, .bool fr, .bool fd, .bool fl, .bool fe, .bool fm, .string h, .int .i64 r, .string tk, .bool dd] 37)).alloc (.cells #[.int .i64 1, .int .i64 m4, .int .i64 t4, .int .i64 p4, .int .i64 d4, .bool fr4, .bool fd4, .bool fl4, .bool fe4, .bool fm4, .string txt] 51)).alloc (.cells #[.int .i64 0, .int .i64 0, .int .i64 0, .int .i64 0, .bool false, .bool false, .bool false, .bool false, .bool false, .string ⟨#[]⟩, .int .i64 0, .string ⟨#[]⟩, .bool false] 37)).alloc (.cells #[.int .i64 0] 3)).setRow (w.heap.size + 1 + 1) #[.int .i64 m, .int .i64 t, .int .i64 p, .int .i64 d, .bool fr, .bool fd, .bool fl, .bool fe, .bool fm, .string h, .int .i64 r, .string tk, .bool dd]).setCell ⟨w.heap.size + 1 + 1 + 1, 0, none⟩ (.int .i64 1)) (w.heap.size + 1) 51 #[.int .i64 1, .int .i64 m4, .int .i64 t4, .int .i64 p4, .int .i64 d4, .bool fr4, .bool fd4, .bool fl4, .bool fe4, .bool fm4, .string txt] := (b1.rowElse (by omega)).other (by omega)
  have y2 : Blk ((((((w.alloc (.cells #[.int .i64 m, .int .i64 t, .int .i64 p, .int .i64 d, .bool fr, .bool fd, .bool fl, .bool fe, .bool fm, .string h, .int .i64 r, .string tk, .bool dd] 37)).alloc (.cells #[.int .i64 1, .int .i64 m4, .int .i64 t4, .int .i64 p4, .int .i64 d4, .bool fr4, .bool fd4, .bool fl4, .bool fe4, .bool fm4, .string txt] 51)).alloc (.cells #[.int .i64 0, .int .i64 0, .int .i64 0, .int .i64 0, .bool false, .bool false, .bool false, .bool false, .bool false, .string ⟨#[]⟩, .int .i64 0, .string ⟨#[]⟩, .bool false] 37)).alloc (.cells #[.int .i64 0] 3)).setRow (w.heap.size + 1 + 1) #[.int .i64 m, .int .i64 t, .int .i64 p, .int .i64 d, .bool fr, .bool fd, .bool fl, .bool fe, .bool fm, .string h, .int .i64 r, .string tk, .bool dd]).setCell ⟨w.heap.size + 1 + 1 + 1, 0, none⟩ (.int .i64 1)) (w.heap.size + 1 + 1) 37 #[.int .i64 m, .int .i64 t, .int .i64 p, .int .i64 d, .bool fr, .bool fd, .bool fl, .bool fe, .bool fm, .string h, .int .i64 r, .string tk, .bool dd] := b2.row.other (by omega)
  have y3 : Blk ((((((w.alloc (.cells #[.int .i64 m, .int .i64 t, .int .i64 p, .int .i64 d, .bool fr, .bool fd, .bool fl, .bool fe, .bool fm, .string h, .int .i64 r, .string tk, .bool dd] 37)).alloc (.cells #[.int .i64 1, .int .i64 m4, .int .i64 t4, .int .i64 p4, .int .i64 d4, .bool fr4, .bool fd4, .bool fl4, .bool fe4, .bool fm4, .string txt] 51)).alloc (.cells #[.int .i64 0, .int .i64 0, .int .i64 0, .int .i64 0, .bool false, .bool false, .bool false, .bool false, .bool false, .string ⟨#[]⟩, .int .i64 0, .string ⟨#[]⟩, .bool false] 37)).alloc (.cells #[.int .i64 0] 3)).setRow (w.heap.size + 1 + 1) #[.int .i64 m, .int .i64 t, .int .i64 p, .int .i64 d, .bool fr, .bool fd, .bool fl, .bool fe, .bool fm, .string h, .int .i64 r, .string tk, .bool dd]).setCell ⟨w.heap.size + 1 + 1 + 1, 0, none⟩ (.int .i64 1)) (w.heap.size + 1 + 1 + 1) 3 #[.int .i64 1] := b3r.set 0 _
  have ky0 := y0.thirteen
  have ky1 := y1.elevenR
  have HB2 := Lib.hid b2
  have HY0 := Lib.hid y0
  have HY1 := Lib.hid y1
  have HY2 := Lib.hid y2
  have HY3 := Lib.hid y3
  have HBY := Lib.hid BY
  clear b0 b1 b2 b3 b3r B0 y0 y1 y2 y3 BY
  obtain ⟨ka0, ka1, ka2, ka3, ka4, ka5, ka6, ka7, ka8, ka9, ka10, ka11, ka12⟩ := k0
  obtain ⟨kb0, kb1, kb2, kb3, kb4, kb5, kb6, kb7, kb8, kb9, kb10, kb11, kb12⟩ := ky0
  obtain ⟨kc0, kc1, kc2, kc3, kc4, kc5, kc6, kc7, kc8, kc9, kc10⟩ := ky1
  go_enter_defers Tryz.func19, Tryz.ntmps19
  go_wp2_with (refine wpList_store_row rfl _ _ _ rfl (w.heap.size + 1 + 1) #[.int .i64 m, .int .i64 t, .int .i64 p, .int .i64 d, .bool fr, .bool fd, .bool fl, .bool fe, .bool fm, .string h, .int .i64 r, .string tk, .bool dd] rfl rfl 37 _ HB2.out size_sesR rfl (one_ses _ _ _ _ _ _ _ _ _ _ _ _ _) ?_)
  refine (HW.out _ HBY.out).mono ?_
  rintro e w1 ⟨rfl, hb1⟩
  have z0 := HY0.out.after hb1
  have z2 := HY2.out.after hb1
  have z3 := HY3.out.after hb1
  have BZ := HBY.out.trans (hb1.mono HBY.out.size)
  clear hb1 f3 x3 ka0 ka1 ka2 ka3 ka4 ka5 ka6 ka7 ka8 ka9 ka10 ka11 ka12 kb0 kb1 kb2 kb3 kb4 kb5 kb6 kb7 kb8 kb9 kb10 kb11 kb12 kc0 kc1 kc2 kc3 kc4 kc5 kc6 kc7 kc8 kc9 kc10
  have z3r := z3.rowElse (q := w.heap.size + 1 + 1) (ds := #[.int .i64 m2, .int .i64 t2, .int .i64 p2, .int .i64 d2, .bool fr2, .bool fd2, .bool fl2, .bool fe2, .bool fm2, .string h2, .int .i64 r, .string tk, .bool dd]) (by omega)
  have f3 := z3r.free 0
  have x3 := z3r.cell 0
  simp at x3
  have u0 : Blk ((w1.setRow (w.heap.size + 1 + 1) #[.int .i64 m2, .int .i64 t2, .int .i64 p2, .int .i64 d2, .bool fr2, .bool fd2, .bool fl2, .bool fe2, .bool fm2, .string h2, .int .i64 r, .string tk, .bool dd]).setCell ⟨w.heap.size + 1 + 1 + 1, 0, none⟩ (.int .i64 0)) (w.heap.size) 37 #[.int .i64 m, .int .i64 t, .int .i64 p, .int .i64 d, .bool fr, .bool fd, .bool fl, .bool fe, .bool fm, .string h, .int .i64 r, .string tk, .bool dd] := (z0.rowElse (by omega)).other (by omega)
  have u2 : Blk ((w1.setRow (w.heap.size + 1 + 1) #[.int .i64 m2, .int .i64 t2, .int .i64 p2, .int .i64 d2, .bool fr2, .bool fd2, .bool fl2, .bool fe2, .bool fm2, .string h2, .int .i64 r, .string tk, .bool dd]).setCell ⟨w.heap.size + 1 + 1 + 1, 0, none⟩ (.int .i64 0)) (w.heap.size + 1 + 1) 37 #[.int .i64 m2, .int .i64 t2, .int .i64 p2, .int .i64 d2, .bool fr2, .bool fd2, .bool fl2, .bool fe2, .bool fm2, .string h2, .int .i64 r, .string tk, .bool dd] := z2.row.other (by omega)
  have u3 : Blk ((w1.setRow (w.heap.size + 1 + 1) #[.int .i64 m2, .int .i64 t2, .int .i64 p2, .int .i64 d2, .bool fr2, .bool fd2, .bool fl2, .bool fe2, .bool fm2, .string h2, .int .i64 r, .string tk, .bool dd]).setCell ⟨w.heap.size + 1 + 1 + 1, 0, none⟩ (.int .i64 0)) (w.heap.size + 1 + 1 + 1) 3 #[.int .i64 0] := z3r.set 0 _
  have BU : Below w.heap.size w ((w1.setRow (w.heap.size + 1 + 1) #[.int .i64 m2, .int .i64 t2, .int .i64 p2, .int .i64 d2, .bool fr2, .bool fd2, .bool fl2, .bool fe2, .bool fm2, .string h2, .int .i64 r, .string tk, .bool dd]).setCell ⟨w.heap.size + 1 + 1 + 1, 0, none⟩ (.int .i64 0)) := (below_setRow BZ (by omega) _).setCell (p := ⟨w.heap.size + 1 + 1 + 1, 0, none⟩) (by show w.heap.size ≤ w.heap.size + 1 + 1 + 1; omega) _
  have HZ2 := Lib.hid z2
  have HU2 := Lib.hid u2
  have HU3 := Lib.hid u3
  have HBU := Lib.hid BU
  have v10 := u0.cell 10
  have v11 := u0.cell 11
  have v12 := u0.cell 12
  have v3 := u3.cell 0
  simp at v10 v11 v12 v3
  clear z0 z2 z3 z3r u0 u2 u3 BZ BU
  go_wp2_with (refine wpList_store_part rfl _ _ _ rfl (w.heap.size + 1 + 1) 0 #[.int .i64 m2, .int .i64 t2, .int .i64 p2, .int .i64 d2, .bool fr2, .bool fd2, .bool fl2, .bool fe2, .bool fm2, .string h2] rfl rfl 37 _ #[.int .i64 m2, .int .i64 t2, .int .i64 p2, .int .i64 d2, .bool fr2, .bool fd2, .bool fl2, .bool fe2, .bool fm2, .string h2, .int .i64 r, .string tk, .bool dd] HZ2.out size_wrR (by simp) (one_wrR _ _ _ _ _ _ _ _ _ _) rfl ?_)
  refine (HP.out _).mono ?_
  rintro e w2 ⟨rfl, hb2⟩
  have z2 := HU2.out.after hb2
  have z3 := HU3.out.after hb2
  have BZ := HBU.out.trans (hb2.mono HBU.out.size)
  clear hb2 f3 x3 v10 v11 v12 v3
  go_wp2_with fail
  refine leaves_cons (f := 25) (args := #[.pointer (some ⟨w.heap.size + 1 + 1, 0, none⟩), .pointer (some ⟨w.heap.size + 1 + 1 + 1, 0, none⟩)]) (by simp) (by simp [go_sem]) ?_
  refine (HCD.out 0 [] _ z2 z3 (hE.below BZ)).mono ?_
  rintro e u' w3 ⟨rfl, rfl, hA, hO, hB⟩
  have hBB := BZ.trans (hB.mono (by omega))
  obtain ⟨a0, a1, a2, a3, a4, a5, a6, a7, a8, a9, a10, a11, a12⟩ := hA.thirteen
  have o0 := hO.cell 0
  simp at o0
  simp [Leaves, settle, results, Tryz.results19, go_sem, a0, a1, a2, a3, a4, a5, a6, a7, a8, a9, a10, a11, a12, o0]
  exact hBB
end Go.Proofs.YtooanejiadbngaaGreatDoor
