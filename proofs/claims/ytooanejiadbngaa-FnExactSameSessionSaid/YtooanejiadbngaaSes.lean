/- Sessions: values, the law's own helpers, '==' of two sessions. -/
import Derived.Test.YtooanejiadbngaaSink
import Derived.Test.YtooanejiadbngaaWr
import Derived.Test.YtooanejiadbngaaEqWr
import Derived.Test.YtooanejiadbngaaPart
import Derived.Laws.CopyOwn
namespace Go.Proofs.Ytooanejiadbngaa
open Go.RowKit
set_option linter.unusedVariables false

/-- A session's value. -/
def sesV (c : Cfg) (h : ByteArray) (k : Snk) : Array Value := #[.int .i64 c.cmin, .int .i64 c.ctab, .int .i64 c.cpadding, .int .i64 c.cpad, .bool c.fr, .bool c.fd, .bool c.fl, .bool c.fe, .bool c.fm, .string h, .int .i64 k.room, .string k.taken, .bool k.dead]
theorem one_ses (m t p d : Int) (fr fd fl fe fm : Bool) (h : ByteArray) (r : Int) (tk : ByteArray) (dd : Bool) : (#[.int .i64 m, .int .i64 t, .int .i64 p, .int .i64 d, .bool fr, .bool fd, .bool fl, .bool fe, .bool fm, .string h, .int .i64 r, .string tk, .bool dd] : Array Value).all (·.oneCell') = true := by simp [Value.oneCell']
theorem one_snk (r : Int) (tk : ByteArray) (dd : Bool) : (#[.int .i64 r, .string tk, .bool dd] : Array Value).all (·.oneCell') = true := by simp [Value.oneCell']
theorem one_cfgE (m t p d : Int) (fr fd fl fe fm : Bool) : (#[.int .i64 m, .int .i64 t, .int .i64 p, .int .i64 d, .bool fr, .bool fd, .bool fl, .bool fe, .bool fm] : Array Value).all (·.oneCell') = true := by simp [Value.oneCell']
theorem Blk.thirteen {W : World} {g : Nat} {T : TypeId} {m t p d : Int} {fr fd fl fe fm : Bool} {h : ByteArray} {r : Int} {tk : ByteArray} {dd : Bool} (hb : Blk W g T #[.int .i64 m, .int .i64 t, .int .i64 p, .int .i64 d, .bool fr, .bool fd, .bool fl, .bool fe, .bool fm, .string h, .int .i64 r, .string tk, .bool dd]) :
    W.cell? ⟨g, 0, none⟩ = some (.int .i64 m) ∧ W.cell? ⟨g, 1, none⟩ = some (.int .i64 t) ∧ W.cell? ⟨g, 2, none⟩ = some (.int .i64 p) ∧ W.cell? ⟨g, 3, none⟩ = some (.int .i64 d) ∧ W.cell? ⟨g, 4, none⟩ = some (.bool fr) ∧ W.cell? ⟨g, 5, none⟩ = some (.bool fd) ∧ W.cell? ⟨g, 6, none⟩ = some (.bool fl) ∧ W.cell? ⟨g, 7, none⟩ = some (.bool fe) ∧ W.cell? ⟨g, 8, none⟩ = some (.bool fm) ∧ W.cell? ⟨g, 9, none⟩ = some (.string h) ∧ W.cell? ⟨g, 10, none⟩ = some (.int .i64 r) ∧ W.cell? ⟨g, 11, none⟩ = some (.string tk) ∧ W.cell? ⟨g, 12, none⟩ = some (.bool dd) :=
  ⟨hb.cell 0, hb.cell 1, hb.cell 2, hb.cell 3, hb.cell 4, hb.cell 5, hb.cell 6, hb.cell 7, hb.cell 8, hb.cell 9, hb.cell 10, hb.cell 11, hb.cell 12⟩
/-- A block below another whose row is laid anew stands. -/
theorem Blk.belowRow {W : World} {g q : Nat} {T : TypeId} {cs ds : Array Value} (h : Blk W g T cs) (hq : g < q) : Blk (W.setRow q ds) g T cs := h.below (below_setRow (Below.refl _ _) (Nat.le_refl _) ds) hq
theorem Blk.belowSet {W : World} {g q j : Nat} {u : Value} {T : TypeId} {cs : Array Value} (h : Blk W g T cs) (hq : g < q) : Blk (W.setCell ⟨q, j, none⟩ u) g T cs := h.other (by omega)
set_option maxRecDepth 100000 in
set_option maxHeartbeats 2000000 in
theorem toWriter_any (c : Cfg) (h : ByteArray) (w : World) :
    Calls Try.prog 23 #[.agg (wrV c h)] w fun e w' => e = .returned (.agg (wrV c h)) ∧ Below w.heap.size w w' := by
  have HT := Lib.hid (fun W => toConfig_any c W)
  obtain ⟨m, t, p, d, fr, fd, fl, fe, fm⟩ := c
  unfold cfgV at HT
  unfold wrV
  simp only at HT ⊢
  have hA1 := Blk.new w 36 #[.int .i64 m, .int .i64 t, .int .i64 p, .int .i64 d, .bool fr, .bool fd, .bool fl, .bool fe, .bool fm, .string h]
  have hR2 := Blk.new (w.alloc (.cells #[.int .i64 m, .int .i64 t, .int .i64 p, .int .i64 d, .bool fr, .bool fd, .bool fl, .bool fe, .bool fm, .string h] 36)) 44 #[.int .i64 0, .int .i64 0, .int .i64 0, .int .i64 0, .bool false, .bool false, .bool false, .bool false, .bool false, .string ⟨#[]⟩]
  rw [show (w.alloc (.cells #[.int .i64 m, .int .i64 t, .int .i64 p, .int .i64 d, .bool fr, .bool fd, .bool fl, .bool fe, .bool fm, .string h] 36)).heap.size = w.heap.size + 1 by simp] at hR2
  have hO3 := Blk.new ((w.alloc (.cells #[.int .i64 m, .int .i64 t, .int .i64 p, .int .i64 d, .bool fr, .bool fd, .bool fl, .bool fe, .bool fm, .string h] 36)).alloc (.cells #[.int .i64 0, .int .i64 0, .int .i64 0, .int .i64 0, .bool false, .bool false, .bool false, .bool false, .bool false, .string ⟨#[]⟩] 44)) 44 #[.int .i64 0, .int .i64 0, .int .i64 0, .int .i64 0, .bool false, .bool false, .bool false, .bool false, .bool false, .string ⟨#[]⟩]
  rw [show ((w.alloc (.cells #[.int .i64 m, .int .i64 t, .int .i64 p, .int .i64 d, .bool fr, .bool fd, .bool fl, .bool fe, .bool fm, .string h] 36)).alloc (.cells #[.int .i64 0, .int .i64 0, .int .i64 0, .int .i64 0, .bool false, .bool false, .bool false, .bool false, .bool false, .string ⟨#[]⟩] 44)).heap.size = w.heap.size + 1 + 1 by simp] at hO3
  have s1 : Below (w.alloc (.cells #[.int .i64 m, .int .i64 t, .int .i64 p, .int .i64 d, .bool fr, .bool fd, .bool fl, .bool fe, .bool fm, .string h] 36)).heap.size (w.alloc (.cells #[.int .i64 m, .int .i64 t, .int .i64 p, .int .i64 d, .bool fr, .bool fd, .bool fl, .bool fe, .bool fm, .string h] 36)) ((w.alloc (.cells #[.int .i64 m, .int .i64 t, .int .i64 p, .int .i64 d, .bool fr, .bool fd, .bool fl, .bool fe, .bool fm, .string h] 36)).alloc (.cells #[.int .i64 0, .int .i64 0, .int .i64 0, .int .i64 0, .bool false, .bool false, .bool false, .bool false, .bool false, .string ⟨#[]⟩] 44)) := (Below.refl _ _).alloc (Nat.le_refl _) _
  have s2 : Below ((w.alloc (.cells #[.int .i64 m, .int .i64 t, .int .i64 p, .int .i64 d, .bool fr, .bool fd, .bool fl, .bool fe, .bool fm, .string h] 36)).alloc (.cells #[.int .i64 0, .int .i64 0, .int .i64 0, .int .i64 0, .bool false, .bool false, .bool false, .bool false, .bool false, .string ⟨#[]⟩] 44)).heap.size ((w.alloc (.cells #[.int .i64 m, .int .i64 t, .int .i64 p, .int .i64 d, .bool fr, .bool fd, .bool fl, .bool fe, .bool fm, .string h] 36)).alloc (.cells #[.int .i64 0, .int .i64 0, .int .i64 0, .int .i64 0, .bool false, .bool false, .bool false, .bool false, .bool false, .string ⟨#[]⟩] 44)) (((w.alloc (.cells #[.int .i64 m, .int .i64 t, .int .i64 p, .int .i64 d, .bool fr, .bool fd, .bool fl, .bool fe, .bool fm, .string h] 36)).alloc (.cells #[.int .i64 0, .int .i64 0, .int .i64 0, .int .i64 0, .bool false, .bool false, .bool false, .bool false, .bool false, .string ⟨#[]⟩] 44)).alloc (.cells #[.int .i64 0, .int .i64 0, .int .i64 0, .int .i64 0, .bool false, .bool false, .bool false, .bool false, .bool false, .string ⟨#[]⟩] 44)) := (Below.refl _ _).alloc (Nat.le_refl _) _
  have HA := Lib.hid ((hA1.after s1).after s2)
  have HR := Lib.hid (hR2.after s2)
  have HO := Lib.hid hO3
  have B0 := Lib.hid (by go_grown : Below w.heap.size w (((w.alloc (.cells #[.int .i64 m, .int .i64 t, .int .i64 p, .int .i64 d, .bool fr, .bool fd, .bool fl, .bool fe, .bool fm, .string h] 36)).alloc (.cells #[.int .i64 0, .int .i64 0, .int .i64 0, .int .i64 0, .bool false, .bool false, .bool false, .bool false, .bool false, .string ⟨#[]⟩] 44)).alloc (.cells #[.int .i64 0, .int .i64 0, .int .i64 0, .int .i64 0, .bool false, .bool false, .bool false, .bool false, .bool false, .string ⟨#[]⟩] 44)))
  clear hA1 hR2 hO3 s1 s2
  go_enter Try.func23, Try.ntmps23
  go_wp2_with fail
  refine (HT.out _).mono ?_
  rintro e w1 ⟨rfl, hb1⟩
  have B1 := Lib.hid (B0.out.trans (hb1.mono B0.out.size))
  have hA1 := HA.out.after hb1
  have hR1 := HR.out.after hb1
  have hO1 := HO.out.after hb1
  have hO2 := hO1.row (cs' := #[.int .i64 m, .int .i64 t, .int .i64 p, .int .i64 d, .bool fr, .bool fd, .bool fl, .bool fe, .bool fm, .string ⟨#[]⟩])
  have a9 := (hA1.belowRow (q := w.heap.size + 1 + 1) (ds := #[.int .i64 m, .int .i64 t, .int .i64 p, .int .i64 d, .bool fr, .bool fd, .bool fl, .bool fe, .bool fm, .string ⟨#[]⟩]) (by omega)).cell 9
  have o9 := hO2.cell 9
  have f9 := hO2.free 9
  have hO3 : Blk ((w1.setRow (w.heap.size + 1 + 1) #[.int .i64 m, .int .i64 t, .int .i64 p, .int .i64 d, .bool fr, .bool fd, .bool fl, .bool fe, .bool fm, .string ⟨#[]⟩]).setCell ⟨w.heap.size + 1 + 1, 9, none⟩ (.string h)) (w.heap.size + 1 + 1) 44 #[.int .i64 m, .int .i64 t, .int .i64 p, .int .i64 d, .bool fr, .bool fd, .bool fl, .bool fe, .bool fm, .string h] := hO2.set 9 (.string h)
  have hR3 := (hR1.belowRow (q := w.heap.size + 1 + 1) (ds := #[.int .i64 m, .int .i64 t, .int .i64 p, .int .i64 d, .bool fr, .bool fd, .bool fl, .bool fe, .bool fm, .string ⟨#[]⟩]) (by omega)).belowSet (q := w.heap.size + 1 + 1) (j := 9) (u := .string h) (by omega)
  have HZ := Lib.hid ((hR3.row (cs' := #[.int .i64 m, .int .i64 t, .int .i64 p, .int .i64 d, .bool fr, .bool fd, .bool fl, .bool fe, .bool fm, .string h])).ten)
  have B3 := Lib.hid (below_row ((below_setRow B1.out (show w.heap.size ≤ w.heap.size + 1 + 1 by omega) #[.int .i64 m, .int .i64 t, .int .i64 p, .int .i64 d, .bool fr, .bool fd, .bool fl, .bool fe, .bool fm, .string ⟨#[]⟩]).setCell (p := ⟨w.heap.size + 1 + 1, 9, none⟩) (show w.heap.size ≤ w.heap.size + 1 + 1 by omega) (.string h)) (g := w.heap.size + 1) (cs := #[.int .i64 m, .int .i64 t, .int .i64 p, .int .i64 d, .bool fr, .bool fd, .bool fl, .bool fe, .bool fm, .string h]) (by omega))
  obtain ⟨d0, d1, d2, d3, d4, d5, d6, d7, d8, d9⟩ := hO3.ten
  simp at a9 o9
  clear hb1 hA1 hO2 hO3
  go_wp2_with (first | (refine wpList_store_part rfl _ _ _ rfl (w.heap.size + 1 + 1) 0 #[.int .i64 m, .int .i64 t, .int .i64 p, .int .i64 d, .bool fr, .bool fd, .bool fl, .bool fe, .bool fm] rfl rfl 44 _ #[.int .i64 m, .int .i64 t, .int .i64 p, .int .i64 d, .bool fr, .bool fd, .bool fl, .bool fe, .bool fm, .string ⟨#[]⟩] hO1 size_cfg (by simp) (one_cfgE _ _ _ _ _ _ _ _ _) rfl ?_) | (refine wpList_store_row rfl _ _ _ rfl (w.heap.size + 1) #[.int .i64 m, .int .i64 t, .int .i64 p, .int .i64 d, .bool fr, .bool fd, .bool fl, .bool fe, .bool fm, .string h] rfl rfl 44 _ hR3 size_wr rfl (one_wr _ _ _ _ _ _ _ _ _ _) ?_))
  obtain ⟨c0, c1, c2, c3, c4, c5, c6, c7, c8, c9⟩ := HZ.out
  exact bodyPost_ret (v := .agg #[.int .i64 m, .int .i64 t, .int .i64 p, .int .i64 d, .bool fr, .bool fd, .bool fl, .bool fe, .bool fm, .string h]) (by simp [results, Try.results23, go_sem, c0, c1, c2, c3, c4, c5, c6, c7, c8, c9]) rfl ⟨rfl, B3.out⟩
theorem size_ses : (Try.prog.info? 47).map (·.size) = some 13 := by kernel_rfl
theorem size_snkS : (Try.prog.info? 45).map (·.size) = some 3 := by kernel_rfl
set_option maxRecDepth 100000 in
set_option maxHeartbeats 4000000 in
theorem toSession_any (c : Cfg) (h : ByteArray) (k : Snk) (w : World) :
    Calls Try.prog 17 #[.agg (sesV c h k)] w fun e w' => e = .returned (.agg (sesV c h k)) ∧ Below w.heap.size w w' := by
  have HT := Lib.hid (fun W => toWriter_any c h W)
  have HK := Lib.hid (fun W => toSink_any k W)
  obtain ⟨m, t, p, d, fr, fd, fl, fe, fm⟩ := c
  obtain ⟨r, tk, dd⟩ := k
  unfold wrV at HT
  unfold snkV at HK
  unfold sesV
  simp only at HT HK ⊢
  have hA1 := Blk.new w 40 #[.int .i64 m, .int .i64 t, .int .i64 p, .int .i64 d, .bool fr, .bool fd, .bool fl, .bool fe, .bool fm, .string h, .int .i64 r, .string tk, .bool dd]
  have hR2 := Blk.new (w.alloc (.cells #[.int .i64 m, .int .i64 t, .int .i64 p, .int .i64 d, .bool fr, .bool fd, .bool fl, .bool fe, .bool fm, .string h, .int .i64 r, .string tk, .bool dd] 40)) 47 #[.int .i64 0, .int .i64 0, .int .i64 0, .int .i64 0, .bool false, .bool false, .bool false, .bool false, .bool false, .string ⟨#[]⟩, .int .i64 0, .string ⟨#[]⟩, .bool false]
  rw [show (w.alloc (.cells #[.int .i64 m, .int .i64 t, .int .i64 p, .int .i64 d, .bool fr, .bool fd, .bool fl, .bool fe, .bool fm, .string h, .int .i64 r, .string tk, .bool dd] 40)).heap.size = w.heap.size + 1 by simp] at hR2
  have hO3 := Blk.new ((w.alloc (.cells #[.int .i64 m, .int .i64 t, .int .i64 p, .int .i64 d, .bool fr, .bool fd, .bool fl, .bool fe, .bool fm, .string h, .int .i64 r, .string tk, .bool dd] 40)).alloc (.cells #[.int .i64 0, .int .i64 0, .int .i64 0, .int .i64 0, .bool false, .bool false, .bool false, .bool false, .bool false, .string ⟨#[]⟩, .int .i64 0, .string ⟨#[]⟩, .bool false] 47)) 47 #[.int .i64 0, .int .i64 0, .int .i64 0, .int .i64 0, .bool false, .bool false, .bool false, .bool false, .bool false, .string ⟨#[]⟩, .int .i64 0, .string ⟨#[]⟩, .bool false]
  rw [show ((w.alloc (.cells #[.int .i64 m, .int .i64 t, .int .i64 p, .int .i64 d, .bool fr, .bool fd, .bool fl, .bool fe, .bool fm, .string h, .int .i64 r, .string tk, .bool dd] 40)).alloc (.cells #[.int .i64 0, .int .i64 0, .int .i64 0, .int .i64 0, .bool false, .bool false, .bool false, .bool false, .bool false, .string ⟨#[]⟩, .int .i64 0, .string ⟨#[]⟩, .bool false] 47)).heap.size = w.heap.size + 1 + 1 by simp] at hO3
  have s1 : Below (w.alloc (.cells #[.int .i64 m, .int .i64 t, .int .i64 p, .int .i64 d, .bool fr, .bool fd, .bool fl, .bool fe, .bool fm, .string h, .int .i64 r, .string tk, .bool dd] 40)).heap.size (w.alloc (.cells #[.int .i64 m, .int .i64 t, .int .i64 p, .int .i64 d, .bool fr, .bool fd, .bool fl, .bool fe, .bool fm, .string h, .int .i64 r, .string tk, .bool dd] 40)) ((w.alloc (.cells #[.int .i64 m, .int .i64 t, .int .i64 p, .int .i64 d, .bool fr, .bool fd, .bool fl, .bool fe, .bool fm, .string h, .int .i64 r, .string tk, .bool dd] 40)).alloc (.cells #[.int .i64 0, .int .i64 0, .int .i64 0, .int .i64 0, .bool false, .bool false, .bool false, .bool false, .bool false, .string ⟨#[]⟩, .int .i64 0, .string ⟨#[]⟩, .bool false] 47)) := (Below.refl _ _).alloc (Nat.le_refl _) _
  have s2 : Below ((w.alloc (.cells #[.int .i64 m, .int .i64 t, .int .i64 p, .int .i64 d, .bool fr, .bool fd, .bool fl, .bool fe, .bool fm, .string h, .int .i64 r, .string tk, .bool dd] 40)).alloc (.cells #[.int .i64 0, .int .i64 0, .int .i64 0, .int .i64 0, .bool false, .bool false, .bool false, .bool false, .bool false, .string ⟨#[]⟩, .int .i64 0, .string ⟨#[]⟩, .bool false] 47)).heap.size ((w.alloc (.cells #[.int .i64 m, .int .i64 t, .int .i64 p, .int .i64 d, .bool fr, .bool fd, .bool fl, .bool fe, .bool fm, .string h, .int .i64 r, .string tk, .bool dd] 40)).alloc (.cells #[.int .i64 0, .int .i64 0, .int .i64 0, .int .i64 0, .bool false, .bool false, .bool false, .bool false, .bool false, .string ⟨#[]⟩, .int .i64 0, .string ⟨#[]⟩, .bool false] 47)) (((w.alloc (.cells #[.int .i64 m, .int .i64 t, .int .i64 p, .int .i64 d, .bool fr, .bool fd, .bool fl, .bool fe, .bool fm, .string h, .int .i64 r, .string tk, .bool dd] 40)).alloc (.cells #[.int .i64 0, .int .i64 0, .int .i64 0, .int .i64 0, .bool false, .bool false, .bool false, .bool false, .bool false, .string ⟨#[]⟩, .int .i64 0, .string ⟨#[]⟩, .bool false] 47)).alloc (.cells #[.int .i64 0, .int .i64 0, .int .i64 0, .int .i64 0, .bool false, .bool false, .bool false, .bool false, .bool false, .string ⟨#[]⟩, .int .i64 0, .string ⟨#[]⟩, .bool false] 47)) := (Below.refl _ _).alloc (Nat.le_refl _) _
  have HA := Lib.hid ((hA1.after s1).after s2)
  have HR := Lib.hid (hR2.after s2)
  have HO := Lib.hid hO3
  have B0 := Lib.hid (by go_grown : Below w.heap.size w (((w.alloc (.cells #[.int .i64 m, .int .i64 t, .int .i64 p, .int .i64 d, .bool fr, .bool fd, .bool fl, .bool fe, .bool fm, .string h, .int .i64 r, .string tk, .bool dd] 40)).alloc (.cells #[.int .i64 0, .int .i64 0, .int .i64 0, .int .i64 0, .bool false, .bool false, .bool false, .bool false, .bool false, .string ⟨#[]⟩, .int .i64 0, .string ⟨#[]⟩, .bool false] 47)).alloc (.cells #[.int .i64 0, .int .i64 0, .int .i64 0, .int .i64 0, .bool false, .bool false, .bool false, .bool false, .bool false, .string ⟨#[]⟩, .int .i64 0, .string ⟨#[]⟩, .bool false] 47)))
  clear hA1 hR2 hO3 s1 s2
  go_enter Try.func17, Try.ntmps17
  go_wp2_with fail
  refine (HT.out _).mono ?_
  rintro e w1 ⟨rfl, hb1⟩
  have B1 := Lib.hid (B0.out.trans (hb1.mono B0.out.size))
  have hA1 := HA.out.after hb1
  have HR1 := Lib.hid (HR.out.after hb1)
  have hO1 := HO.out.after hb1
  have HO2 := Lib.hid (hO1.row (cs' := #[.int .i64 m, .int .i64 t, .int .i64 p, .int .i64 d, .bool fr, .bool fd, .bool fl, .bool fe, .bool fm, .string h, .int .i64 0, .string ⟨#[]⟩, .bool false]))
  have HA2 := Lib.hid (hA1.belowRow (q := w.heap.size + 1 + 1) (ds := #[.int .i64 m, .int .i64 t, .int .i64 p, .int .i64 d, .bool fr, .bool fd, .bool fl, .bool fe, .bool fm, .string h, .int .i64 0, .string ⟨#[]⟩, .bool false]) (by omega))
  have HR2 := Lib.hid (HR1.out.belowRow (q := w.heap.size + 1 + 1) (ds := #[.int .i64 m, .int .i64 t, .int .i64 p, .int .i64 d, .bool fr, .bool fd, .bool fl, .bool fe, .bool fm, .string h, .int .i64 0, .string ⟨#[]⟩, .bool false]) (by omega))
  have B2 := Lib.hid (below_setRow B1.out (show w.heap.size ≤ w.heap.size + 1 + 1 by omega) #[.int .i64 m, .int .i64 t, .int .i64 p, .int .i64 d, .bool fr, .bool fd, .bool fl, .bool fe, .bool fm, .string h, .int .i64 0, .string ⟨#[]⟩, .bool false])
  obtain ⟨a0, a1, a2, a3, a4, a5, a6, a7, a8, a9, a10, a11, a12⟩ := HA2.out.thirteen
  clear hb1 hA1
  go_wp2_with (refine wpList_store_part rfl _ _ _ rfl (w.heap.size + 1 + 1) 0 #[.int .i64 m, .int .i64 t, .int .i64 p, .int .i64 d, .bool fr, .bool fd, .bool fl, .bool fe, .bool fm, .string h] rfl rfl 47 _ #[.int .i64 m, .int .i64 t, .int .i64 p, .int .i64 d, .bool fr, .bool fd, .bool fl, .bool fe, .bool fm, .string h, .int .i64 0, .string ⟨#[]⟩, .bool false] hO1 size_wr (by simp) (one_wr _ _ _ _ _ _ _ _ _ _) rfl ?_)
  refine (HK.out _).mono ?_
  rintro e w2 ⟨rfl, hb2⟩
  have B3 := Lib.hid (B2.out.trans (hb2.mono B2.out.size))
  have hO3 := HO2.out.after hb2
  have hO4 := hO3.row (cs' := #[.int .i64 m, .int .i64 t, .int .i64 p, .int .i64 d, .bool fr, .bool fd, .bool fl, .bool fe, .bool fm, .string h, .int .i64 r, .string tk, .bool dd])
  have hR3 := (HR2.out.after hb2).belowRow (q := w.heap.size + 1 + 1) (ds := #[.int .i64 m, .int .i64 t, .int .i64 p, .int .i64 d, .bool fr, .bool fd, .bool fl, .bool fe, .bool fm, .string h, .int .i64 r, .string tk, .bool dd]) (by omega)
  have HZ := Lib.hid ((hR3.row (cs' := #[.int .i64 m, .int .i64 t, .int .i64 p, .int .i64 d, .bool fr, .bool fd, .bool fl, .bool fe, .bool fm, .string h, .int .i64 r, .string tk, .bool dd])).thirteen)
  have B4 := Lib.hid (below_row (below_setRow B3.out (show w.heap.size ≤ w.heap.size + 1 + 1 by omega) #[.int .i64 m, .int .i64 t, .int .i64 p, .int .i64 d, .bool fr, .bool fd, .bool fl, .bool fe, .bool fm, .string h, .int .i64 r, .string tk, .bool dd]) (g := w.heap.size + 1) (cs := #[.int .i64 m, .int .i64 t, .int .i64 p, .int .i64 d, .bool fr, .bool fd, .bool fl, .bool fe, .bool fm, .string h, .int .i64 r, .string tk, .bool dd]) (by omega))
  clear a0 a1 a2 a3 a4 a5 a6 a7 a8 a9 a10 a11 a12 hb2 hO1
  obtain ⟨d0, d1, d2, d3, d4, d5, d6, d7, d8, d9, d10, d11, d12⟩ := hO4.thirteen
  clear hO4
  go_wp2_with (first | (refine wpList_store_part rfl _ _ _ rfl (w.heap.size + 1 + 1) 10 #[.int .i64 r, .string tk, .bool dd] rfl rfl 47 _ #[.int .i64 m, .int .i64 t, .int .i64 p, .int .i64 d, .bool fr, .bool fd, .bool fl, .bool fe, .bool fm, .string h, .int .i64 r, .string tk, .bool dd] hO3 size_snkS (by simp) (one_snk _ _ _) rfl ?_) | (refine wpList_store_row rfl _ _ _ rfl (w.heap.size + 1) #[.int .i64 m, .int .i64 t, .int .i64 p, .int .i64 d, .bool fr, .bool fd, .bool fl, .bool fe, .bool fm, .string h, .int .i64 r, .string tk, .bool dd] rfl rfl 47 _ hR3 size_ses rfl (one_ses _ _ _ _ _ _ _ _ _ _ _ _ _) ?_))
  obtain ⟨c0, c1, c2, c3, c4, c5, c6, c7, c8, c9, c10, c11, c12⟩ := HZ.out
  exact bodyPost_ret (v := .agg #[.int .i64 m, .int .i64 t, .int .i64 p, .int .i64 d, .bool fr, .bool fd, .bool fl, .bool fe, .bool fm, .string h, .int .i64 r, .string tk, .bool dd]) (by simp [results, Try.results17, go_sem, c0, c1, c2, c3, c4, c5, c6, c7, c8, c9, c10, c11, c12]) rfl ⟨rfl, B4.out⟩
set_option maxRecDepth 100000 in
set_option maxHeartbeats 1000000 in
theorem szWriter_any (c : Cfg) (h : ByteArray) (n : Int) (w : World) (h0 : 0 ≤ n) (h1 : n ≤ 1048576) (hk : h.size ≤ maxLen) :
    Calls Try.prog 21 #[.agg (wrV c h), .int .i64 n] w fun e w' => e = .returned (.int .i64 (if n - h.size < 0 then -1 else n - h.size)) ∧ Below w.heap.size w w' := by
  obtain ⟨m, t, p, d, fr, fd, fl, fe, fm⟩ := c
  unfold wrV
  unfold maxLen at hk
  simp only at hk ⊢
  by_cases hn : n - (h.size : Int) < 0
  · rw [if_pos hn]
    go_enter Try.func21, Try.ntmps21
    go_wp2
    go_ret
    exact ⟨rfl, by go_grown⟩
  · rw [if_neg hn]
    go_enter Try.func21, Try.ntmps21
    go_wp2
    go_ret
    exact ⟨rfl, by go_grown⟩
/-- What is left behind a session. -/
def leftS (h tk : ByteArray) (n : Int) : Int := if n - (h.size : Int) < 0 then -1 else if n - (h.size : Int) - (tk.size : Int) < 0 then -1 else n - (h.size : Int) - (tk.size : Int)
theorem leftS_bd (h tk : ByteArray) (n : Int) (hn : n ≤ 1048576) : leftS h tk n ≤ 1048576 ∧ (0 ≤ leftS h tk n → (h.size : Int) ≤ n ∧ (tk.size : Int) ≤ n) := by
  unfold leftS
  split
  · omega
  · split <;> omega
set_option maxRecDepth 100000 in
set_option maxHeartbeats 2000000 in
theorem szSession_any (c : Cfg) (h : ByteArray) (k : Snk) (n : Int) (w : World) (h0 : 0 ≤ n) (h1 : n ≤ 1048576) (hk : h.size ≤ maxLen) (ht : k.taken.size ≤ maxLen) :
    Calls Try.prog 15 #[.agg (sesV c h k), .int .i64 n] w fun e w' => e = .returned (.int .i64 (leftS h k.taken n)) ∧ Below w.heap.size w w' := by
  have HW := Lib.hid (fun W => szWriter_any c h n W h0 h1 hk)
  have HKS := Lib.hid (fun (x : Int) W (hx0 : 0 ≤ x) (hx1 : x ≤ 1048576) => szSink_any k x W hx0 hx1 ht)
  have hA := Blk.new w 40 (sesV c h k)
  have HA := Lib.hid hA
  have B0 := Lib.hid (by go_grown : Below w.heap.size w (w.alloc (.cells (sesV c h k) 40)))
  obtain ⟨m, t, p, d, fr, fd, fl, fe, fm⟩ := c
  obtain ⟨r, tk, dd⟩ := k
  unfold wrV at HW
  unfold snkV at HKS
  unfold sesV at HA B0 hA ⊢
  simp only at HW HKS HA B0 hA ⊢
  obtain ⟨a0, a1, a2, a3, a4, a5, a6, a7, a8, a9, a10, a11, a12⟩ := hA.thirteen
  clear hA
  unfold leftS
  by_cases hn : n - (h.size : Int) < 0
  · rw [if_pos hn] at HW ⊢
    go_enter Try.func15, Try.ntmps15
    go_wp2_with fail
    refine (HW.out _).mono ?_
    rintro e w1 ⟨rfl, hb1⟩
    have B1 := Lib.hid (B0.out.trans (hb1.mono B0.out.size))
    clear hb1 a0 a1 a2 a3 a4 a5 a6 a7 a8 a9 a10 a11 a12
    go_wp2_with fail
    go_ret
    exact ⟨rfl, B1.out⟩
  · rw [if_neg hn] at HW ⊢
    have HK2 := Lib.hid (fun W => HKS.out (n - (h.size : Int)) W (by omega) (by omega))
    obtain ⟨x, hx⟩ : ∃ x, x = n - (h.size : Int) := ⟨_, rfl⟩
    rw [← hx] at HW HK2 hn ⊢
    obtain ⟨y, hy⟩ : ∃ y, y = (if x - (tk.size : Int) < 0 then -1 else x - (tk.size : Int)) := ⟨_, rfl⟩
    rw [← hy] at HK2 ⊢
    have HY := Lib.hid (show y = -1 ∨ 0 ≤ y by rw [hy]; split <;> omega)
    clear hx hy
    go_enter Try.func15, Try.ntmps15
    go_wp2_with fail
    refine (HW.out _).mono ?_
    rintro e w1 ⟨rfl, hb1⟩
    have B1 := Lib.hid (B0.out.trans (hb1.mono B0.out.size))
    have hA1 := HA.out.after hb1
    clear hb1 a0 a1 a2 a3 a4 a5 a6 a7 a8 a9 a10 a11 a12
    obtain ⟨a0, a1, a2, a3, a4, a5, a6, a7, a8, a9, a10, a11, a12⟩ := hA1.thirteen
    clear hA1
    go_wp2_with fail
    refine (HK2.out _).mono ?_
    rintro e w2 ⟨rfl, hb2⟩
    have B2 := Lib.hid (B1.out.trans (hb2.mono B1.out.size))
    clear hb2 a0 a1 a2 a3 a4 a5 a6 a7 a8 a9 a10 a11 a12
    rcases HY.out with rfl | hy0
    · go_wp2_with fail
      go_ret
      exact ⟨rfl, B2.out⟩
    · have hy1 : ¬ y < 0 := by omega
      go_wp2_with fail
      go_ret
      exact ⟨rfl, B2.out⟩
theorem stood_snk : Try.prog.stoodInHeld 45 = false := by kernel_rfl
theorem struct_snk : Try.prog.underlying 45 = some (.struct (Try.prog.fieldsOf 45)) := by
  rw [fields_of Try.underlying45]
  exact Try.underlying45
set_option maxRecDepth 100000 in
set_option maxHeartbeats 1000000 in
theorem eqSnkD (e : Nat) (a b : Snk) (w : World) : (Op.equalIn (e + 3) 45 (.agg (snkV a)) (.agg (snkV b))).run Try.prog w = .ok (decide (a.room = b.room ∧ a.taken = b.taken ∧ a.dead = b.dead)) w := by
  have hi : ∀ (x y : Int), (Op.equalIn (e + 2) 3 (.int .i64 x) (.int .i64 y)).run Try.prog w = .ok (x == y) w := fun x y => run_equalIn_int w (e + 1) 3 .i64 .i64 x y Try.underlying3
  have hb : ∀ (x y : Bool), (Op.equalIn (e + 2) 4 (.bool x) (.bool y)).run Try.prog w = .ok (x == y) w := fun x y => run_equalIn_bool' w (e + 1) 4 x y Try.underlying4
  have hs : ∀ (x y : ByteArray), (Op.equalIn (e + 2) 9 (.string x) (.string y)).run Try.prog w = .ok (decide (x = y)) w := by
    intro x y
    rw [← list_beq]
    exact run_equalIn_string w (e + 1) 9 x y Try.underlying9
  rw [show (e + 3 : Nat) = (e + 2) + 1 from rfl, run_equalIn_struct w (e + 2) 45 _ _ struct_snk stood_snk, fields_of Try.underlying45]
  obtain ⟨a0, a1, a2⟩ := a
  obtain ⟨b0, b1, b2⟩ := b
  unfold snkV
  rw [eqFields_step (a := .int .i64 a0) (b := .int .i64 b0) (r := a0 == b0) (by decide) (by kernel_rfl) (by kernel_rfl) (hi a0 b0),
    eqFields_step (a := .string a1) (b := .string b1) (r := decide (a1 = b1)) (by decide) (by kernel_rfl) (by kernel_rfl) (hs a1 b1),
    eqFields_step (a := .bool a2) (b := .bool b2) (r := a2 == b2) (by decide) (by kernel_rfl) (by kernel_rfl) (hb a2 b2)]
  rw [Op.eqFields]
  by_cases h0 : a0 = b0
  case neg => simp [h0]
  by_cases h1 : a1 = b1
  case neg => simp [h0, h1]
  by_cases h2 : a2 = b2
  case neg => simp [h0, h1, h2]
  simp [h0, h1, h2]
theorem stood_ses : Try.prog.stoodInHeld 47 = false := by kernel_rfl
theorem struct_ses : Try.prog.underlying 47 = some (.struct (Try.prog.fieldsOf 47)) := by
  rw [fields_of Try.underlying47]
  exact Try.underlying47
/-- Whether two sessions are equal. -/
def sameS (c : Cfg) (h : ByteArray) (k : Snk) (c' : Cfg) (h' : ByteArray) (k' : Snk) : Bool := decide ((c = c' ∧ h = h') ∧ k.room = k'.room ∧ k.taken = k'.taken ∧ k.dead = k'.dead)
set_option maxRecDepth 100000 in
set_option maxHeartbeats 1000000 in
theorem eqSes (c : Cfg) (h : ByteArray) (k : Snk) (c' : Cfg) (h' : ByteArray) (k' : Snk) (w : World) : (Op.equalIn 10000 47 (.agg (sesV c h k)) (.agg (sesV c' h' k'))).run Try.prog w = .ok (sameS c h k c' h' k') w := by
  have hw := eqWrD 9996 c c' h h' w
  have hk := eqSnkD 9996 k k' w
  rw [show (10000 : Nat) = 9999 + 1 from rfl, run_equalIn_struct w 9999 47 _ _ struct_ses stood_ses, fields_of Try.underlying47]
  rw [eqFields_step (a := .agg (wrV c h)) (b := .agg (wrV c' h')) (r := decide (c = c' ∧ h = h')) (by decide) (by kernel_rfl) (by kernel_rfl) hw,
    eqFields_step (a := .agg (snkV k)) (b := .agg (snkV k')) (r := decide (k.room = k'.room ∧ k.taken = k'.taken ∧ k.dead = k'.dead)) (by decide) (by kernel_rfl) (by kernel_rfl) hk]
  rw [Op.eqFields]
  unfold sameS
  by_cases h0 : c = c' ∧ h = h' <;> by_cases h1 : k.room = k'.room ∧ k.taken = k'.taken ∧ k.dead = k'.dead <;> simp [h0, h1]
set_option maxRecDepth 100000 in
set_option maxHeartbeats 2000000 in
theorem specSameSession (c : Cfg) (h : ByteArray) (k : Snk) (c' : Cfg) (h' : ByteArray) (k' : Snk) (w : World) :
    Calls Try.prog 16 #[.agg (sesV c h k), .agg (sesV c' h' k')] w fun e w' => e = .returned (.bool (sameS c h k c' h' k')) ∧ Below w.heap.size w w' := by
  have heq := fun W => eqSes c h k c' h' k' W
  generalize sameS c h k c' h' k' = q at heq ⊢
  obtain ⟨m, t, p, d, fr, fd, fl, fe, fm⟩ := c
  obtain ⟨r, tk, dd⟩ := k
  obtain ⟨m2, t2, p2, d2, fr2, fd2, fl2, fe2, fm2⟩ := c'
  obtain ⟨r2, tk2, dd2⟩ := k'
  unfold sesV at heq ⊢
  simp only at heq ⊢
  go_enter Try.func16, Try.ntmps16
  go_wp2
  go_ret
  exact ⟨rfl, by go_grown⟩
set_option maxRecDepth 100000 in
set_option maxHeartbeats 2000000 in
theorem implSameSession (c : Cfg) (h : ByteArray) (k : Snk) (c' : Cfg) (h' : ByteArray) (k' : Snk) (w : World) :
    Calls Try.prog 18 #[.agg (sesV c h k), .agg (sesV c' h' k')] w fun e w' => e = .returned (.bool (sameS c h k c' h' k')) ∧ Below w.heap.size w w' := by
  have heq := fun W => eqSes c h k c' h' k' W
  generalize sameS c h k c' h' k' = q at heq ⊢
  obtain ⟨m, t, p, d, fr, fd, fl, fe, fm⟩ := c
  obtain ⟨r, tk, dd⟩ := k
  obtain ⟨m2, t2, p2, d2, fr2, fd2, fl2, fe2, fm2⟩ := c'
  obtain ⟨r2, tk2, dd2⟩ := k'
  unfold sesV at heq ⊢
  simp only at heq ⊢
  go_enter Try.func18, Try.ntmps18
  go_wp2
  go_ret
  exact ⟨rfl, by go_grown⟩
end Go.Proofs.Ytooanejiadbngaa
