/- The program's two methods of a pointer to a writer. -/
import Derived.Test.YtdplcbfiidnfcaaDoorWrMath
import Derived.Test.YtdplcbfiidnfcaaDoorWr
import Derived.Test.YtdplcbfiidnfcaaDoorOnly
import Derived.Test.YtdplcbfiidnfcaaDoorImplClone
import Derived.Test.YtdplcbfiidnfcaaDoorBB
import Derived.Deep.RegionHeld3
import Derived.IntWalk
namespace Go.Proofs.YtdplcbfiidnfcaaDoor
open Go.RowKit
set_option linter.unusedVariables false

theorem txt_addW {P : Program} {w : World} (a b : ByteArray) (h : a.size + b.size ≤ 9223372036854775807) : (Op.stringOp .add a b).run P w = .ok (.string (a ++ b)) w :=
  run_string_add_sum _ _ _ h
theorem run_headW (s : ByteArray) (c : Nat) (hc : c ≤ s.size) (w : World) :
    (Instr.slice 9 (.string s) none (some (.int .i64 (c : Int))) none).run Tryd.prog w = .ok (.string (s.extract 0 c)) w := by
  rw [run_slice_string_h (P := Tryd.prog) (w := w) (t := 9) (s := s) (ht := Tryd.underlying9) .i64 _ (by omega) (by omega)]
  rw [Int.toNat_natCast]
theorem run_tailW (s : ByteArray) (c : Nat) (hc : c ≤ s.size) (w : World) :
    (Instr.slice 9 (.string s) (some (.int .i64 (c : Int))) none none).run Tryd.prog w = .ok (.string (s.extract c s.size)) w := by
  rw [run_slice_string_l (P := Tryd.prog) (w := w) (t := 9) (s := s) (ht := Tryd.underlying9) .i64 _ (by omega) (by omega)]
  rw [Int.toNat_natCast]
/-- What 'write' makes of the text so far. -/
theorem write_pack (c : Cfg) (T : ByteArray) (hv : validC c = true) : ∃ n : Nat, closedB c T = (n : Int) ∧ n ≤ T.size ∧ T.extract n T.size = heldB c T ∧ layB c (T.extract 0 n) = toldB c T ∧ T.size - n = (heldB c T).size := by
  have hle := lc_le c.fe T.data.toList false false
  have e2 : T.data.toList.length = T.size := rfl
  have e : (heldB c T).size = T.size - lc c.fe T.data.toList false false := by
    have e3 : (heldB c T).data.toList.length = (heldB c T).size := rfl
    rw [← e3, heldB_list]
    unfold heldL
    rw [List.length_drop]
    omega
  refine ⟨_, closedB_yes T hv, by omega, bytes_ext ?_, ?_, by omega⟩
  · rw [heldB_list]
    unfold heldL
    rw [ByteArray.data_extract, Array.toList_extract, List.extract_eq_take_drop]
    rw [List.take_of_length_le (by rw [List.length_drop]; omega)]
  · rw [told_cut c T hv, e]
    congr 2
    omega
/-- A writer's cells, and that nothing else has changed. -/
theorem wrS_start {X : World} {g : Nat} {T : TypeId} {m t p d : Int} {fr fd fl fe fm : Bool} {h : ByteArray} (hb : Blk X g T #[.int .i64 m, .int .i64 t, .int .i64 p, .int .i64 d, .bool fr, .bool fd, .bool fl, .bool fe, .bool fm, .string h]) :
    X.drew.cell? ⟨g, 0, none⟩ = some (.int .i64 m) ∧ X.drew.cell? ⟨g, 1, none⟩ = some (.int .i64 t) ∧ X.drew.cell? ⟨g, 2, none⟩ = some (.int .i64 p) ∧ X.drew.cell? ⟨g, 3, none⟩ = some (.int .i64 d) ∧ X.drew.cell? ⟨g, 4, none⟩ = some (.bool fr) ∧ X.drew.cell? ⟨g, 5, none⟩ = some (.bool fd) ∧ X.drew.cell? ⟨g, 6, none⟩ = some (.bool fl) ∧ X.drew.cell? ⟨g, 7, none⟩ = some (.bool fe) ∧ X.drew.cell? ⟨g, 8, none⟩ = some (.bool fm) ∧ X.drew.cell? ⟨g, 9, none⟩ = some (.string h) ∧ g < X.drew.heap.size ∧ Below X.heap.size X X.drew :=
  ⟨hb.cell 0, hb.cell 1, hb.cell 2, hb.cell 3, hb.cell 4, hb.cell 5, hb.cell 6, hb.cell 7, hb.cell 8, hb.cell 9, hb.lt, (Below.refl _ _).drew⟩
theorem wrS_step {X W W' : World} {g : Nat} {v0 v1 v2 v3 v4 v5 v6 v7 v8 v9 : Value} (hb : Below W.heap.size W W')
    (h : W.cell? ⟨g, 0, none⟩ = some v0 ∧ W.cell? ⟨g, 1, none⟩ = some v1 ∧ W.cell? ⟨g, 2, none⟩ = some v2 ∧ W.cell? ⟨g, 3, none⟩ = some v3 ∧ W.cell? ⟨g, 4, none⟩ = some v4 ∧ W.cell? ⟨g, 5, none⟩ = some v5 ∧ W.cell? ⟨g, 6, none⟩ = some v6 ∧ W.cell? ⟨g, 7, none⟩ = some v7 ∧ W.cell? ⟨g, 8, none⟩ = some v8 ∧ W.cell? ⟨g, 9, none⟩ = some v9 ∧ g < W.heap.size ∧ Below X.heap.size X W) :
    W'.cell? ⟨g, 0, none⟩ = some v0 ∧ W'.cell? ⟨g, 1, none⟩ = some v1 ∧ W'.cell? ⟨g, 2, none⟩ = some v2 ∧ W'.cell? ⟨g, 3, none⟩ = some v3 ∧ W'.cell? ⟨g, 4, none⟩ = some v4 ∧ W'.cell? ⟨g, 5, none⟩ = some v5 ∧ W'.cell? ⟨g, 6, none⟩ = some v6 ∧ W'.cell? ⟨g, 7, none⟩ = some v7 ∧ W'.cell? ⟨g, 8, none⟩ = some v8 ∧ W'.cell? ⟨g, 9, none⟩ = some v9 ∧ g < W'.heap.size ∧ Below X.heap.size X W' := by
  obtain ⟨h0, h1, h2, h3, h4, h5, h6, h7, h8, h9, h10, h11⟩ := h
  have hs := hb.size
  have k : ∀ j v, W.cell? ⟨g, j, none⟩ = some v → W'.cell? ⟨g, j, none⟩ = some v := fun j v hv => (hb.cell (p := ⟨g, j, none⟩) h10).trans hv
  exact ⟨k _ _ h0, k _ _ h1, k _ _ h2, k _ _ h3, k _ _ h4, k _ _ h5, k _ _ h6, k _ _ h7, k _ _ h8, k _ _ h9, by omega, h11.trans (hb.mono h11.size)⟩
theorem wrS_old {X W : World} {g : Nat} {v0 v1 v2 v3 v4 v5 v6 v7 v8 v9 : Value}
    (h : W.cell? ⟨g, 0, none⟩ = some v0 ∧ W.cell? ⟨g, 1, none⟩ = some v1 ∧ W.cell? ⟨g, 2, none⟩ = some v2 ∧ W.cell? ⟨g, 3, none⟩ = some v3 ∧ W.cell? ⟨g, 4, none⟩ = some v4 ∧ W.cell? ⟨g, 5, none⟩ = some v5 ∧ W.cell? ⟨g, 6, none⟩ = some v6 ∧ W.cell? ⟨g, 7, none⟩ = some v7 ∧ W.cell? ⟨g, 8, none⟩ = some v8 ∧ W.cell? ⟨g, 9, none⟩ = some v9 ∧ g < W.heap.size ∧ Below X.heap.size X W) : Below X.heap.size X W :=
  h.2.2.2.2.2.2.2.2.2.2.2
set_option maxRecDepth 100000 in
set_option maxHeartbeats 4000000 in
theorem implWrite (c : Cfg) (h r : ByteArray) (g : Nat) (w0 w : World) (hv : validC c = true) (hs : h.size + r.size ≤ 50000) (hh : (heldB c (h ++ r)).size ≤ 400) (hb0 : Below w0.heap.size w0 w) (hg0 : w0.heap.size ≤ g) (hg : Blk w g 28 (wrV c h))
    (hC0 : ∀ (T : ByteArray) (W : World), T.size ≤ 50000 → Below w0.heap.size w0 W → Calls Tryd.prog 14 #[.agg (cfgV c), .string T] W fun e w' => e = .returned (.int .i64 (closedB c T)) ∧ Below W.heap.size W w')
    (hL0 : ∀ (Q : ByteArray) (W : World), Q.size ≤ 50000 → Below w0.heap.size w0 W → Calls Tryd.prog 11 #[.agg (cfgV c), .string Q] W fun e w' => e = .returned (.string (layB c Q)) ∧ Below W.heap.size W w') :
    Calls Tryd.prog 22 #[.pointer (some ⟨g, 0, none⟩), .string r] w fun e w' => e = .returned (.tuple #[.string (toldB c (h ++ r)), .int .i64 0]) ∧ (Blk w' g 28 (wrV c (heldB c (h ++ r))) ∧ OnlyAt g w w') := by
  obtain ⟨n, e1, e2, e3, e4, e5⟩ := write_pack c (h ++ r) hv
  have hS := fun W => implIsConfig c W
  rw [hv] at hS
  have HAD := Lib.hid (fun W => txt_addW (P := Tryd.prog) (w := W) h r (by omega))
  have hTs : (h ++ r).size ≤ 50000 := by rw [ByteArray.size_append]; omega
  have HHE := Lib.hid (heldB_size c (h ++ r))
  generalize h ++ r = T at e1 e2 e3 e4 e5 hh HAD hTs HHE ⊢
  have hC := fun W hb => hC0 T W hTs hb
  rw [e1] at hC
  have hL := fun W hb => hL0 (T.extract 0 n) W (by simp; omega) hb
  rw [e4] at hL
  have hK := fun W => cloneText (heldB c T) W (by omega)
  have hsl := fun W => run_tailW T n e2 W
  rw [e3] at hsl
  have hsh := fun W => run_headW T n e2 W
  have HS := Lib.hid hS
  have HC := Lib.hid hC
  have HL := Lib.hid hL
  have HK := Lib.hid hK
  have HSL := Lib.hid hsl
  have HSH := Lib.hid hsh
  have HB0 := Lib.hid hb0
  have HG := Lib.hid hg
  have HN : Hid ((T.size : Int) - (n : Int) ≤ 400 ∧ n ≤ T.size ∧ T.size ≤ 50000) := Lib.hid ⟨by omega, e2, hTs⟩
  generalize heldB c T = H at HK HSL ⊢
  generalize toldB c T = R at HL ⊢
  generalize T.extract 0 n = Q at HL HSH
  clear hS hC hL hC0 hL0 hK hsl hsh e1 e2 e3 e4 e5 hh hTs HHE hv hs hb0
  obtain ⟨m, t, p, d, fr, fd, fl, fe, fm⟩ := c
  unfold cfgV at HS HC HL
  unfold wrV at HG hg ⊢
  simp only at HS HC HL HG hg ⊢
  obtain ⟨c0, c1, c2, c3, c4, c5, c6, c7, c8, c9⟩ := hg.ten
  clear hg
  go_enter Tryd.func22, Tryd.ntmps22
  go_wp2_with fail
  refine (HS.out _).mono ?_
  rintro e w1 ⟨rfl, hb1⟩
  have HB1 := Lib.hid hb1
  have HG1 := Lib.hid (HG.out.after hb1)
  clear hb1 c0 c1 c2 c3 c4 c5 c6 c7 c8 c9
  obtain ⟨c0, c1, c2, c3, c4, c5, c6, c7, c8, c9⟩ := HG1.out.ten
  have had := HAD.out
  go_wp2_with fail
  refine (HC.out _ (HB0.out.trans (HB1.out.mono HB0.out.size))).mono ?_
  rintro e w2 ⟨rfl, hb2⟩
  have HB2 := Lib.hid (HB1.out.trans (hb2.mono HB1.out.size))
  have HG2 := Lib.hid (HG1.out.after hb2)
  clear hb2 c0 c1 c2 c3 c4 c5 c6 c7 c8 c9 had
  obtain ⟨c0, c1, c2, c3, c4, c5, c6, c7, c8, c9⟩ := HG2.out.ten
  have hwz : IntKind.i64.wrap ((T.size : Int) - (n : Int)) = (T.size : Int) - (n : Int) := IntWalk.i64_in _ (by have := HN.out; omega)
  have h400 : ¬ (400 : Int) < (T.size : Int) - (n : Int) := by have := HN.out; omega
  have hsl := HSL.out
  go_wp2_with fail
  refine (HK.out _).mono ?_
  rintro e w3 ⟨rfl, hb3⟩
  have HB3 := Lib.hid (HB2.out.trans (hb3.mono HB2.out.size))
  have HG3 := Lib.hid (HG2.out.after hb3)
  have HO4 := Lib.hid ((OnlyAt.of HB3.out).set 9 (.string H) (g := g))
  have HG4 : Hid (Blk (w3.setCell ⟨g, 9, none⟩ (.string H)) g 28 #[.int .i64 m, .int .i64 t, .int .i64 p, .int .i64 d, .bool fr, .bool fd, .bool fl, .bool fe, .bool fm, .string H]) := Lib.hid (HG3.out.set 9 (.string H))
  have HBW := Lib.hid ((HB0.out.trans (HB3.out.mono HB0.out.size)).setCell (p := ⟨g, 9, none⟩) hg0 (.string H))
  have f9 := HG3.out.free 9
  clear hb3 c0 c1 c2 c3 c4 c5 c6 c7 c8 c9 hsl
  obtain ⟨c0, c1, c2, c3, c4, c5, c6, c7, c8, c9⟩ := HG3.out.ten
  have hsh := HSH.out
  go_wp2_with fail
  obtain ⟨w4, hw4⟩ : ∃ x, x = w3.setCell ⟨g, 9, none⟩ (.string H) := ⟨_, rfl⟩
  rw [← hw4] at HG4 HO4 HBW ⊢
  clear hw4 c0 c1 c2 c3 c4 c5 c6 c7 c8 c9 f9 h400 hwz
  go_region_held3 (fun W => W.cell? ⟨g, 0, none⟩ = some (.int .i64 m) ∧ W.cell? ⟨g, 1, none⟩ = some (.int .i64 t) ∧ W.cell? ⟨g, 2, none⟩ = some (.int .i64 p) ∧ W.cell? ⟨g, 3, none⟩ = some (.int .i64 d) ∧ W.cell? ⟨g, 4, none⟩ = some (.bool fr) ∧ W.cell? ⟨g, 5, none⟩ = some (.bool fd) ∧ W.cell? ⟨g, 6, none⟩ = some (.bool fl) ∧ W.cell? ⟨g, 7, none⟩ = some (.bool fe) ∧ W.cell? ⟨g, 8, none⟩ = some (.bool fm) ∧ W.cell? ⟨g, 9, none⟩ = some (.string H) ∧ g < W.heap.size ∧ Below w4.heap.size w4 W)
    (first | exact wrS_start HG4.out | exact wrS_step (by assumption) (by assumption))
    (first | (go_at_call 11; refine (HL.out _ (HBW.out.trans ((wrS_old (by assumption)).mono HBW.out.size))).mono ?_; rintro e w5 ⟨rfl, hb5⟩))
  all_goals
    have HX := Lib.hid (wrS_old (X := w4) (W := w5) (by assumption))
    have HR := Lib.hid (⟨HG4.out.after HX.out, HO4.out.then HX.out⟩ : Blk w5 g 28 #[.int .i64 m, .int .i64 t, .int .i64 p, .int .i64 d, .bool fr, .bool fd, .bool fl, .bool fe, .bool fm, .string H] ∧ OnlyAt g w w5)
    go_wp2_with fail
    exact bodyPost_ret (v := .tuple #[.string R, .int .i64 0]) (by simp [results, Tryd.results22, go_sem]) rfl ⟨rfl, HR.out⟩
set_option maxRecDepth 100000 in
set_option maxHeartbeats 4000000 in
/-- More would be held than may be. -/
theorem implWriteNo (c : Cfg) (h r : ByteArray) (g : Nat) (w0 w : World) (hv : validC c = true) (hs : h.size + r.size ≤ 50000) (hh : 400 < (heldB c (h ++ r)).size) (hb0 : Below w0.heap.size w0 w) (hg : Blk w g 28 (wrV c h))
    (hC0 : ∀ (T : ByteArray) (W : World), T.size ≤ 50000 → Below w0.heap.size w0 W → Calls Tryd.prog 14 #[.agg (cfgV c), .string T] W fun e w' => e = .returned (.int .i64 (closedB c T)) ∧ Below W.heap.size W w') :
    Calls Tryd.prog 22 #[.pointer (some ⟨g, 0, none⟩), .string r] w fun e w' => e = .returned (.tuple #[.string ⟨#[]⟩, .int .i64 2]) ∧ Below w.heap.size w w' := by
  obtain ⟨n, e1, e2, e3, e4, e5⟩ := write_pack c (h ++ r) hv
  have hS := fun W => implIsConfig c W
  rw [hv] at hS
  have HAD := Lib.hid (fun W => txt_addW (P := Tryd.prog) (w := W) h r (by omega))
  have hTs : (h ++ r).size ≤ 50000 := by rw [ByteArray.size_append]; omega
  generalize h ++ r = T at e1 e2 e3 e4 e5 hh HAD hTs ⊢
  have hC := fun W hb => hC0 T W hTs hb
  rw [e1] at hC
  have HS := Lib.hid hS
  have HC := Lib.hid hC
  have HB0 := Lib.hid hb0
  have HG := Lib.hid hg
  have HN : Hid (400 < (T.size : Int) - (n : Int) ∧ n ≤ T.size ∧ T.size ≤ 50000) := Lib.hid ⟨by omega, e2, hTs⟩
  clear hS hC hC0 e1 e2 e3 e4 e5 hh hTs hv hs hb0
  obtain ⟨m, t, p, d, fr, fd, fl, fe, fm⟩ := c
  unfold cfgV at HS HC
  unfold wrV at HG hg
  simp only at HS HC HG hg ⊢
  obtain ⟨c0, c1, c2, c3, c4, c5, c6, c7, c8, c9⟩ := hg.ten
  clear hg
  go_enter Tryd.func22, Tryd.ntmps22
  go_wp2_with fail
  refine (HS.out _).mono ?_
  rintro e w1 ⟨rfl, hb1⟩
  have HB1 := Lib.hid hb1
  have HG1 := Lib.hid (HG.out.after hb1)
  clear hb1 c0 c1 c2 c3 c4 c5 c6 c7 c8 c9
  obtain ⟨c0, c1, c2, c3, c4, c5, c6, c7, c8, c9⟩ := HG1.out.ten
  have had := HAD.out
  go_wp2_with fail
  refine (HC.out _ (HB0.out.trans (HB1.out.mono HB0.out.size))).mono ?_
  rintro e w2 ⟨rfl, hb2⟩
  have HB2 := Lib.hid (HB1.out.trans (hb2.mono HB1.out.size))
  clear hb2 c0 c1 c2 c3 c4 c5 c6 c7 c8 c9 had
  have hwz : IntKind.i64.wrap ((T.size : Int) - (n : Int)) = (T.size : Int) - (n : Int) := IntWalk.i64_in _ (by have := HN.out; omega)
  have h400 : (400 : Int) < (T.size : Int) - (n : Int) := HN.out.1
  go_wp2_with fail
  exact bodyPost_ret (v := .tuple #[.string ⟨#[]⟩, .int .i64 2]) (by simp [results, Tryd.results22, go_sem]) rfl ⟨rfl, HB2.out⟩
set_option maxRecDepth 100000 in
set_option maxHeartbeats 4000000 in
/-- A writer whose configuration is not valid takes nothing. -/
theorem implWriteBad (c : Cfg) (h r : ByteArray) (g : Nat) (w : World) (hv : validC c = false) (hg : Blk w g 28 (wrV c h)) :
    Calls Tryd.prog 22 #[.pointer (some ⟨g, 0, none⟩), .string r] w fun e w' => e = .returned (.tuple #[.string ⟨#[]⟩, .int .i64 1]) ∧ Below w.heap.size w w' := by
  have hS := fun W => implIsConfig c W
  rw [hv] at hS
  have HS := Lib.hid hS
  clear hS hv
  obtain ⟨m, t, p, d, fr, fd, fl, fe, fm⟩ := c
  unfold cfgV at HS
  unfold wrV at hg
  simp only at HS hg ⊢
  obtain ⟨c0, c1, c2, c3, c4, c5, c6, c7, c8, c9⟩ := hg.ten
  clear hg
  go_enter Tryd.func22, Tryd.ntmps22
  go_wp2_with fail
  refine (HS.out _).mono ?_
  rintro e w1 ⟨rfl, hb1⟩
  have HB1 := Lib.hid hb1
  clear hb1 c0 c1 c2 c3 c4 c5 c6 c7 c8 c9
  go_wp2_with fail
  exact bodyPost_ret (v := .tuple #[.string ⟨#[]⟩, .int .i64 1]) (by simp [results, Tryd.results22, go_sem]) rfl ⟨rfl, HB1.out⟩
set_option maxRecDepth 100000 in
set_option maxHeartbeats 4000000 in
theorem implFlush (c : Cfg) (h : ByteArray) (g : Nat) (w0 w : World) (hv : validC c = true) (hs : h.size ≤ 50000) (hb0 : Below w0.heap.size w0 w) (hg : Blk w g 28 (wrV c h))
    (hL0 : ∀ (Q : ByteArray) (W : World), Q.size ≤ 50000 → Below w0.heap.size w0 W → Calls Tryd.prog 11 #[.agg (cfgV c), .string Q] W fun e w' => e = .returned (.string (layB c Q)) ∧ Below W.heap.size W w') :
    Calls Tryd.prog 25 #[.pointer (some ⟨g, 0, none⟩)] w fun e w' => e = .returned (.tuple #[.string (layB c h), .int .i64 0]) ∧ (Blk w' g 28 (wrV c ⟨#[]⟩) ∧ OnlyAt g w w') := by
  have hS := fun W => implIsConfig c W
  rw [hv] at hS
  have hL := fun W hb => hL0 h W hs hb
  have HS := Lib.hid hS
  have HL := Lib.hid hL
  have HB0 := Lib.hid hb0
  have HG := Lib.hid hg
  generalize layB c h = R at HL ⊢
  clear hS hL hL0 hv hs hb0
  obtain ⟨m, t, p, d, fr, fd, fl, fe, fm⟩ := c
  unfold cfgV at HS HL
  unfold wrV at HG hg ⊢
  simp only at HS HL HG hg ⊢
  obtain ⟨c0, c1, c2, c3, c4, c5, c6, c7, c8, c9⟩ := hg.ten
  clear hg
  go_enter Tryd.func25, Tryd.ntmps25
  go_wp2_with fail
  refine (HS.out _).mono ?_
  rintro e w1 ⟨rfl, hb1⟩
  have HB1 := Lib.hid hb1
  have HG1 := Lib.hid (HG.out.after hb1)
  have HBW := Lib.hid (HB0.out.trans (HB1.out.mono HB0.out.size))
  clear hb1 c0 c1 c2 c3 c4 c5 c6 c7 c8 c9
  go_wp2_with fail
  go_region_held3 (fun W => W.cell? ⟨g, 0, none⟩ = some (.int .i64 m) ∧ W.cell? ⟨g, 1, none⟩ = some (.int .i64 t) ∧ W.cell? ⟨g, 2, none⟩ = some (.int .i64 p) ∧ W.cell? ⟨g, 3, none⟩ = some (.int .i64 d) ∧ W.cell? ⟨g, 4, none⟩ = some (.bool fr) ∧ W.cell? ⟨g, 5, none⟩ = some (.bool fd) ∧ W.cell? ⟨g, 6, none⟩ = some (.bool fl) ∧ W.cell? ⟨g, 7, none⟩ = some (.bool fe) ∧ W.cell? ⟨g, 8, none⟩ = some (.bool fm) ∧ W.cell? ⟨g, 9, none⟩ = some (.string h) ∧ g < W.heap.size ∧ Below w1.heap.size w1 W)
    (first | exact wrS_start HG1.out | exact wrS_step (by assumption) (by assumption))
    (first | (go_at_call 11; refine (HL.out _ (HBW.out.trans ((wrS_old (by assumption)).mono HBW.out.size))).mono ?_; rintro e w5 ⟨rfl, hb5⟩))
  all_goals
    have HX := Lib.hid (wrS_old (X := w1) (W := w5) (by assumption))
    have HG5 := Lib.hid (HG1.out.after HX.out)
    have c9' := HG5.out.cell 9
    have f9 := HG5.out.free 9
    have HR := Lib.hid (⟨HG5.out.set 9 (.string ⟨#[]⟩), ((OnlyAt.of HB1.out).then HX.out).set 9 (.string ⟨#[]⟩)⟩ : Blk (w5.setCell ⟨g, 9, none⟩ (.string ⟨#[]⟩)) g 28 #[.int .i64 m, .int .i64 t, .int .i64 p, .int .i64 d, .bool fr, .bool fd, .bool fl, .bool fe, .bool fm, .string ⟨#[]⟩] ∧ OnlyAt g w (w5.setCell ⟨g, 9, none⟩ (.string ⟨#[]⟩)))
    simp at c9'
    go_wp2_with fail
    exact bodyPost_ret (v := .tuple #[.string R, .int .i64 0]) (by simp [results, Tryd.results25, go_sem]) rfl ⟨rfl, HR.out⟩
end Go.Proofs.YtdplcbfiidnfcaaDoor
