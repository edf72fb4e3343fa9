/- Merged texts: Only ImplClone ImplWrite ImplWrT ImplWr. -/
import Derived.Test.YtooanejiadbngaaGreatDoorBA
import Derived.Below
import Derived.Test.YtooanejiadbngaaGreatDoorBB
import Derived.Lib.UnsafeStr
import Derived.Lib.BufferWrite
import Derived.Laws.CopyOwn
import Derived.Test.YtooanejiadbngaaGreatDoorWrMath
import Derived.Test.YtooanejiadbngaaGreatDoorWr
import Derived.Deep.RegionHeld3
import Derived.IntWalk
/- What a call through a pointer leaves: of what was there, one block alone may have changed. No walk. -/
namespace Go.Proofs.YtooanejiadbngaaGreatDoor
open Go.RowKit
set_option linter.unusedVariables false

/-- Of the blocks that were there, all but g stand. -/
structure OnlyAt (g : Nat) (w w' : World) : Prop where
  os : w'.os = w.os
  tape : w'.tape = w.tape
  output : w'.output = w.output
  size : w.heap.size ≤ w'.heap.size
  block : ∀ k, k < w.heap.size → k ≠ g → w'.heap[k]? = w.heap[k]?
theorem OnlyAt.refl (g : Nat) (w : World) : OnlyAt g w w := ⟨rfl, rfl, rfl, Nat.le_refl _, fun _ _ _ => rfl⟩
theorem OnlyAt.of {g : Nat} {w w' : World} (h : Below w.heap.size w w') : OnlyAt g w w' := ⟨h.os, h.tape, h.output, h.size, fun k hk _ => h.block k hk⟩
theorem OnlyAt.trans {g : Nat} {a b c : World} (h : OnlyAt g a b) (k : OnlyAt g b c) : OnlyAt g a c :=
  ⟨k.os.trans h.os, k.tape.trans h.tape, k.output.trans h.output, Nat.le_trans h.size k.size, fun i hi hn => (k.block i (Nat.lt_of_lt_of_le hi h.size) hn).trans (h.block i hi hn)⟩
theorem OnlyAt.set {g : Nat} {a w : World} (h : OnlyAt g a w) (j : Nat) (u : Value) : OnlyAt g a (w.setCell ⟨g, j, none⟩ u) :=
  h.trans ⟨rfl, rfl, rfl, by simp [World.setCell], fun k _ hn => Below.heap_setCell _ _ _ _ hn⟩
theorem OnlyAt.then {g : Nat} {a w w' : World} (h : OnlyAt g a w) (hb : Below w.heap.size w w') : OnlyAt g a w' := h.trans (.of hb)
theorem OnlyAt.below {g B : Nat} {w w' : World} (h : OnlyAt g w w') (hB : B ≤ g) (hs : B ≤ w.heap.size) : Below B w w' :=
  ⟨h.os, h.tape, h.output, h.size, fun k hk => h.block k (by omega) (by omega)⟩
theorem OnlyAt.blk {g k : Nat} {w w' : World} {T : TypeId} {cs : Array Value} (h : OnlyAt g w w') (hb : Blk w k T cs) (hn : k ≠ g) : Blk w' k T cs := (h.block k hb.lt hn).trans hb
end Go.Proofs.YtooanejiadbngaaGreatDoor

/- strings.Clone: a text of its own with the same bytes. -/
namespace Go.Proofs.YtooanejiadbngaaGreatDoor
open Go.RowKit
set_option linter.unusedVariables false

theorem Blk.shp {W : World} {g : Nat} {T : TypeId} {cs : Array Value} (h : Blk W g T cs) : W.shape? g = some (T, cs.size) := by
  unfold Blk at h
  simp [World.shape?, h]
theorem bytes_ofC (s : ByteArray) : (⟨s.data.toList.toArray⟩ : ByteArray) = s := by apply ByteArray.ext; simp
theorem Tryz.infoByteC : (Tryz.prog.info? 5).map (fun i => (i.zero, i.size, i.bytes)) = some (some (.int .u8 0), 1, 1) := by kernel_rfl
set_option maxRecDepth 100000 in
set_option maxHeartbeats 2000000 in
theorem cloneLite (s : ByteArray) (w : World) (hs : s.size ≤ 140737488355328) :
    Calls Tryz.prog 68 #[.string s] w fun e w' => e = .returned (.string s) ∧ Below w.heap.size w w' := by
  by_cases h0 : s.size = 0
  · have : s = ⟨#[]⟩ := by
      apply ByteArray.ext
      exact Array.eq_empty_of_size_eq_zero h0
    subst this
    go_enter Tryz.func68, Tryz.ntmps68
    go_wp2
    go_ret
    exact ⟨rfl, Below.refl _ _⟩
  · obtain ⟨iB, hiB, hzB0, hzB1, hzB2⟩ := info_parts Tryz.infoByteC
    have h0i : ¬ (s.size : Int) = 0 := by omega
    have H0 := Lib.hid h0
    clear h0
    go_enter Tryz.func68, Tryz.ntmps68
    go_wp2_with (at_make; refine wpList_make_full _ rfl _ _ 22 rfl w.heap.size 5 iB _ 1 Tryz.underlying22 hiB hzB0 hzB1 _ _ _ _ s.size rfl rfl rfl rfl (by rw [hzB2]; omega) (by unfold maxLen; omega) (Nat.le_refl _) ?_; intro w2 hown2 hgr2; have HO2 := Lib.hid hown2; have HD2 := Lib.hid ((Below.refl w.heap.size w).grown hgr2 (Nat.le_refl _) (fun k hk => by cases hk)); clear hown2 hgr2)
    obtain ⟨cs0, hcs0, hcl0, _⟩ := own_blk HO2.out rfl
    have hcs : cs0.size = s.size := by
      rw [← Array.length_toList, hcl0]
      simp [madeCells]
    obtain ⟨nc, hnc⟩ : ∃ nc : Array Value, nc = (cs0.toList.take 0 ++ Lib.byteCells s.data.toList ++ cs0.toList.drop (0 + s.size)).toArray := ⟨_, rfl⟩
    have hnl : nc.toList = u8s s.data.toList := by
      rw [hnc, List.toList_toArray, List.drop_of_length_le (by rw [Array.length_toList]; omega)]
      simp [u8s, Lib.byteCells]
    have hcp := fun ty => Lib.run_copy_row_string (P := Tryz.prog) w2 22 9 ty 5 w.heap.size 0 s.size s.size s cs0 5 Tryz.underlying22 (by kernel_rfl) hcs0 (Nat.le_refl _) (by omega)
    rw [← hnc] at hcp
    have hK : Blk (w2.setRow w.heap.size nc) w.heap.size 5 nc := hcs0.row
    have hln : s.data.toList.length = s.size := rfl
    have hsz : nc.size = s.size := by rw [← Array.length_toList, hnl, u8s_len, hln]
    have hus := fun ty => Lib.run_unsafeString_row (P := Tryz.prog) (w := w2.setRow w.heap.size nc) 138 3 ty 5 Tryz.underlying138 (by kernel_rfl) w.heap.size nc.size hK.shp s.data.toList (by intro e; have := H0.out; rw [← hln, e] at this; exact this rfl) (by rw [hsz, hln]; exact Nat.le_refl _) (by rw [hln]; omega) (fun j x hx => by
      have : nc[j]? = some (.int .u8 x.toNat) := by
        rw [← Array.getElem?_toList, hnl]
        unfold u8s
        rw [List.getElem?_map, hx]
        rfl
      have hc := hK.cell j
      rw [this] at hc
      by_cases hj : j = 0
      · subst hj; simpa [Addr.add] using hc
      · simpa [Addr.add, hj] using hc)
    rw [bytes_ofC, hln] at hus
    have HB := Lib.hid (Lib.below_freeze (below_setRow HD2.out (Nat.le_refl _) nc) (p := ⟨w.heap.size, 0, none⟩) (Nat.le_refl _) s.size)
    have hpos : (0 : Int) < (s.size : Int) := by have := H0.out; omega
    have hpn : 0 < s.size := by have := H0.out; omega
    clear hcs0 hcl0 hnc hnl hK hln hsz hcs
    go_wp2_with fail
    rw [hcp]
    simp only [Result.andThen]
    rw [Oper.upon_value]
    clear hcp
    go_wp2_with fail
    go_ret
    exact ⟨rfl, HB.out⟩
set_option maxRecDepth 100000 in
set_option maxHeartbeats 1000000 in
theorem cloneText (s : ByteArray) (w : World) (hs : s.size ≤ 140737488355328) :
    Calls Tryz.prog 55 #[.string s] w fun e w' => e = .returned (.string s) ∧ Below w.heap.size w w' := by
  have HC := Lib.hid (cloneLite s w hs)
  clear hs
  go_enter Tryz.func55, Tryz.ntmps55
  go_wp2_with fail
  refine HC.out.mono ?_
  rintro e w1 ⟨rfl, hb1⟩
  have HB := Lib.hid hb1
  clear hb1
  go_wp2_with fail
  go_ret
  exact ⟨rfl, HB.out⟩
end Go.Proofs.YtooanejiadbngaaGreatDoor

/- The program's two methods of a pointer to a writer. -/
namespace Go.Proofs.YtooanejiadbngaaGreatDoor
open Go.RowKit
set_option linter.unusedVariables false

theorem txt_addW {P : Program} {w : World} (a b : ByteArray) (h : a.size + b.size ≤ 9223372036854775807) : (Op.stringOp .add a b).run P w = .ok (.string (a ++ b)) w :=
  run_string_add_sum _ _ _ h
theorem run_headW (s : ByteArray) (c : Nat) (hc : c ≤ s.size) (w : World) :
    (Instr.slice 9 (.string s) none (some (.int .i64 (c : Int))) none).run Tryz.prog w = .ok (.string (s.extract 0 c)) w := by
  rw [run_slice_string_h (P := Tryz.prog) (w := w) (t := 9) (s := s) (ht := Tryz.underlying9) .i64 _ (by omega) (by omega)]
  rw [Int.toNat_natCast]
theorem run_tailW (s : ByteArray) (c : Nat) (hc : c ≤ s.size) (w : World) :
    (Instr.slice 9 (.string s) (some (.int .i64 (c : Int))) none none).run Tryz.prog w = .ok (.string (s.extract c s.size)) w := by
  rw [run_slice_string_l (P := Tryz.prog) (w := w) (t := 9) (s := s) (ht := Tryz.underlying9) .i64 _ (by omega) (by omega)]
  rw [Int.toNat_natCast]
/-- What 'write' makes of the text so far. -/
theorem write_pack (c : Cfg) (T : ByteArray) (hv : validC c = true) : ∃ n : Nat, closedB c T = (n : Int) ∧ n ≤ T.size ∧ T.extract n T.size = heldB c T ∧ layB c (T.extract 0 n) = toldB c T ∧ T.size - n = (heldB c T).size := by
  have hle := lc_le c.fe T.data.toList false false
  have e2 : T.data.toList.length = T.size := rfl
  have e : (heldB c T).size = T.size - lc c.fe T.data.toList false false := by
    have e3 : (heldB c T).data.toList.length = (heldB c T).size := rfl
    rw [← e3, heldB_list]
    unfold heldL
    rw [List.length_drop]
    omega
  refine ⟨_, closedB_yes T hv, by omega, bytes_ext ?_, ?_, by omega⟩
  · rw [heldB_list]
    unfold heldL
    rw [ByteArray.data_extract, Array.toList_extract, List.extract_eq_take_drop]
    rw [List.take_of_length_le (by rw [List.length_drop]; omega)]
  · rw [told_cut c T hv, e]
    congr 2
    omega
/-- A writer's cells, and that nothing else has changed. -/
theorem wrS_start {X : World} {g : Nat} {T : TypeId} {m t p d : Int} {fr fd fl fe fm : Bool} {h : ByteArray} (hb : Blk X g T #[.int .i64 m, .int .i64 t, .int .i64 p, .int .i64 d, .bool fr, .bool fd, .bool fl, .bool fe, .bool fm, .string h]) :
    X.drew.cell? ⟨g, 0, none⟩ = some (.int .i64 m) ∧ X.drew.cell? ⟨g, 1, none⟩ = some (.int .i64 t) ∧ X.drew.cell? ⟨g, 2, none⟩ = some (.int .i64 p) ∧ X.drew.cell? ⟨g, 3, none⟩ = some (.int .i64 d) ∧ X.drew.cell? ⟨g, 4, none⟩ = some (.bool fr) ∧ X.drew.cell? ⟨g, 5, none⟩ = some (.bool fd) ∧ X.drew.cell? ⟨g, 6, none⟩ = some (.bool fl) ∧ X.drew.cell? ⟨g, 7, none⟩ = some (.bool fe) ∧ X.drew.cell? ⟨g, 8, none⟩ = some (.bool fm) ∧ X.drew.cell? ⟨g, 9, none⟩ = some (.string h) ∧ g < X.drew.heap.size ∧ Below X.heap.size X X.drew :=
  ⟨hb.cell 0, hb.cell 1, hb.cell 2, hb.cell 3, hb.cell 4, hb.cell 5, hb.cell 6, hb.cell 7, hb.cell 8, hb.cell 9, hb.lt, (Below.refl _ _).drew⟩
theorem wrS_step {X W W' : World} {g : Nat} {v0 v1 v2 v3 v4 v5 v6 v7 v8 v9 : Value} (hb : Below W.heap.size W W')
    (h : W.cell? ⟨g, 0, none⟩ = some v0 ∧ W.cell? ⟨g, 1, none⟩ = some v1 ∧ W.cell? ⟨g, 2, none⟩ = some v2 ∧ W.cell? ⟨g, 3, none⟩ = some v3 ∧ W.cell? ⟨g, 4, none⟩ = some v4 ∧ W.cell? ⟨g, 5, none⟩ = some v5 ∧ W.cell? ⟨g, 6, none⟩ = some v6 ∧ W.cell? ⟨g, 7, none⟩ = some v7 ∧ W.cell? ⟨g, 8, none⟩ = some v8 ∧ W.cell? ⟨g, 9, none⟩ = some v9 ∧ g < W.heap.size ∧ Below X.heap.size X W) :
    W'.cell? ⟨g, 0, none⟩ = some v0 ∧ W'.cell? ⟨g, 1, none⟩ = some v1 ∧ W'.cell? ⟨g, 2, none⟩ = some v2 ∧ W'.cell? ⟨g, 3, none⟩ = some v3 ∧ W'.cell? ⟨g, 4, none⟩ = some v4 ∧ W'.cell? ⟨g, 5, none⟩ = some v5 ∧ W'.cell? ⟨g, 6, none⟩ = some v6 ∧ W'.cell? ⟨g, 7, none⟩ = some v7 ∧ W'.cell? ⟨g, 8, none⟩ = some v8 ∧ W'.cell? ⟨g, 9, none⟩ = some v9 ∧ g < W'.heap.size ∧ Below X.heap.size X W' := by
  obtain ⟨h0, h1, h2, h3, h4, h5, h6, h7, h8, h9, h10, h11⟩ := h
  have hs := hb.size
  have k : ∀ j v, W.cell? ⟨g, j, none⟩ = some v → W'.cell? ⟨g, j, none⟩ = some v := fun j v hv => (hb.cell (p := ⟨g, j, none⟩) h10).trans hv
  exact ⟨k _ _ h0, k _ _ h1, k _ _ h2, k _ _ h3, k _ _ h4, k _ _ h5, k _ _ h6, k _ _ h7, k _ _ h8, k _ _ h9, by omega, h11.trans (hb.mono h11.size)⟩
theorem wrS_old {X W : World} {g : Nat} {v0 v1 v2 v3 v4 v5 v6 v7 v8 v9 : Value}
    (h : W.cell? ⟨g, 0, none⟩ = some v0 ∧ W.cell? ⟨g, 1, none⟩ = some v1 ∧ W.cell? ⟨g, 2, none⟩ = some v2 ∧ W.cell? ⟨g, 3, none⟩ = some v3 ∧ W.cell? ⟨g, 4, none⟩ = some v4 ∧ W.cell? ⟨g, 5, none⟩ = some v5 ∧ W.cell? ⟨g, 6, none⟩ = some v6 ∧ W.cell? ⟨g, 7, none⟩ = some v7 ∧ W.cell? ⟨g, 8, none⟩ = some v8 ∧ W.cell? ⟨g, 9, none⟩ = some v9 ∧ g < W.heap.size ∧ Below X.heap.size X W) : Below X.heap.size X W :=
  h.2.2.2.2.2.2.2.2.2.2.2
set_option maxRecDepth 100000 in
set_option maxHeartbeats 4000000 in
theorem implWrite (c : Cfg) (h r : ByteArray) (g : Nat) (w0 w : World) (hv : validC c = true) (hs : h.size + r.size ≤ 50000) (hh : (heldB c (h ++ r)).size ≤ 400) (hb0 : Below w0.heap.size w0 w) (hg0 : w0.heap.size ≤ g) (hg : Blk w g 33 (wrV c h))
    (hC0 : ∀ (T : ByteArray) (W : World), T.size ≤ 50000 → Below w0.heap.size w0 W → Calls Tryz.prog 54 #[.agg (cfgV c), .string T] W fun e w' => e = .returned (.int .i64 (closedB c T)) ∧ Below W.heap.size W w')
    (hL0 : ∀ (Q : ByteArray) (W : World), Q.size ≤ 50000 → Below w0.heap.size w0 W → Calls Tryz.prog 11 #[.agg (cfgV c), .string Q] W fun e w' => e = .returned (.string (layB c Q)) ∧ Below W.heap.size W w') :
    Calls Tryz.prog 37 #[.pointer (some ⟨g, 0, none⟩), .string r] w fun e w' => e = .returned (.tuple #[.string (toldB c (h ++ r)), .int .i64 0]) ∧ (Blk w' g 33 (wrV c (heldB c (h ++ r))) ∧ OnlyAt g w w') := by
  obtain ⟨n, e1, e2, e3, e4, e5⟩ := write_pack c (h ++ r) hv
  have hS := fun W => implIsConfig c W
  rw [hv] at hS
  have HAD := Lib.hid (fun W => txt_addW (P := Tryz.prog) (w := W) h r (by omega))
  have hTs : (h ++ r).size ≤ 50000 := by rw [ByteArray.size_append]; omega
  have HHE := Lib.hid (heldB_size c (h ++ r))
  generalize h ++ r = T at e1 e2 e3 e4 e5 hh HAD hTs HHE ⊢
  have hC := fun W hb => hC0 T W hTs hb
  rw [e1] at hC
  have hL := fun W hb => hL0 (T.extract 0 n) W (by simp; omega) hb
  rw [e4] at hL
  have hK := fun W => cloneText (heldB c T) W (by omega)
  have hsl := fun W => run_tailW T n e2 W
  rw [e3] at hsl
  have hsh := fun W => run_headW T n e2 W
  have HS := Lib.hid hS
  have HC := Lib.hid hC
  have HL := Lib.hid hL
  have HK := Lib.hid hK
  have HSL := Lib.hid hsl
  have HSH := Lib.hid hsh
  have HB0 := Lib.hid hb0
  have HG := Lib.hid hg
  have HN : Hid ((T.size : Int) - (n : Int) ≤ 400 ∧ n ≤ T.size ∧ T.size ≤ 50000) := Lib.hid ⟨by omega, e2, hTs⟩
  generalize heldB c T = H at HK HSL ⊢
  generalize toldB c T = R at HL ⊢
  generalize T.extract 0 n = Q at HL HSH
  clear hS hC hL hC0 hL0 hK hsl hsh e1 e2 e3 e4 e5 hh hTs HHE hv hs hb0
  obtain ⟨m, t, p, d, fr, fd, fl, fe, fm⟩ := c
  unfold cfgV at HS HC HL
  unfold wrV at HG hg ⊢
  simp only at HS HC HL HG hg ⊢
  obtain ⟨c0, c1, c2, c3, c4, c5, c6, c7, c8, c9⟩ := hg.ten
  clear hg
  go_enter Tryz.func37, Tryz.ntmps37
  go_wp2_with fail
  refine (HS.out _).mono ?_
  rintro e w1 ⟨rfl, hb1⟩
  have HB1 := Lib.hid hb1
  have HG1 := Lib.hid (HG.out.after hb1)
  clear hb1 c0 c1 c2 c3 c4 c5 c6 c7 c8 c9
  obtain ⟨c0, c1, c2, c3, c4, c5, c6, c7, c8, c9⟩ := HG1.out.ten
  have had := HAD.out
  go_wp2_with fail
  refine (HC.out _ (HB0.out.trans (HB1.out.mono HB0.out.size))).mono ?_
  rintro e w2 ⟨rfl, hb2⟩
  have HB2 := Lib.hid (HB1.out.trans (hb2.mono HB1.out.size))
  have HG2 := Lib.hid (HG1.out.after hb2)
  clear hb2 c0 c1 c2 c3 c4 c5 c6 c7 c8 c9 had
  obtain ⟨c0, c1, c2, c3, c4, c5, c6, c7, c8, c9⟩ := HG2.out.ten
  have hwz : IntKind.i64.wrap ((T.size : Int) - (n : Int)) = (T.size : Int) - (n : Int) := IntWalk.i64_in _ (by have := HN.out; omega)
  have h400 : ¬ (400 : Int) < (T.size : Int) - (n : Int) := by have := HN.out; omega
  have hsl := HSL.out
  go_wp2_with fail
  refine (HK.out _).mono ?_
  rintro e w3 ⟨rfl, hb3⟩
  have HB3 := Lib.hid (HB2.out.trans (hb3.mono HB2.out.size))
  have HG3 := Lib.hid (HG2.out.after hb3)
  have HO4 := Lib.hid ((OnlyAt.of HB3.out).set 9 (.string H) (g := g))
  have HG4 : Hid (Blk (w3.setCell ⟨g, 9, none⟩ (.string H)) g 33 #[.int .i64 m, .int .i64 t, .int .i64 p, .int .i64 d, .bool fr, .bool fd, .bool fl, .bool fe, .bool fm, .string H]) := Lib.hid (HG3.out.set 9 (.string H))
  have HBW := Lib.hid ((HB0.out.trans (HB3.out.mono HB0.out.size)).setCell (p := ⟨g, 9, none⟩) hg0 (.string H))
  have f9 := HG3.out.free 9
  clear hb3 c0 c1 c2 c3 c4 c5 c6 c7 c8 c9 hsl
  obtain ⟨c0, c1, c2, c3, c4, c5, c6, c7, c8, c9⟩ := HG3.out.ten
  have hsh := HSH.out
  go_wp2_with fail
  obtain ⟨w4, hw4⟩ : ∃ x, x = w3.setCell ⟨g, 9, none⟩ (.string H) := ⟨_, rfl⟩
  rw [← hw4] at HG4 HO4 HBW ⊢
  clear hw4 c0 c1 c2 c3 c4 c5 c6 c7 c8 c9 f9 h400 hwz
  go_region_held3 (fun W => W.cell? ⟨g, 0, none⟩ = some (.int .i64 m) ∧ W.cell? ⟨g, 1, none⟩ = some (.int .i64 t) ∧ W.cell? ⟨g, 2, none⟩ = some (.int .i64 p) ∧ W.cell? ⟨g, 3, none⟩ = some (.int .i64 d) ∧ W.cell? ⟨g, 4, none⟩ = some (.bool fr) ∧ W.cell? ⟨g, 5, none⟩ = some (.bool fd) ∧ W.cell? ⟨g, 6, none⟩ = some (.bool fl) ∧ W.cell? ⟨g, 7, none⟩ = some (.bool fe) ∧ W.cell? ⟨g, 8, none⟩ = some (.bool fm) ∧ W.cell? ⟨g, 9, none⟩ = some (.string H) ∧ g < W.heap.size ∧ Below w4.heap.size w4 W)
    (first | exact wrS_start HG4.out | exact wrS_step (by assumption) (by assumption))
    (first | (go_at_call 11; refine (HL.out _ (HBW.out.trans ((wrS_old (by assumption)).mono HBW.out.size))).mono ?_; rintro e w5 ⟨rfl, hb5⟩))
  all_goals
    have HX := Lib.hid (wrS_old (X := w4) (W := w5) (by assumption))
    have HR := Lib.hid (⟨HG4.out.after HX.out, HO4.out.then HX.out⟩ : Blk w5 g 33 #[.int .i64 m, .int .i64 t, .int .i64 p, .int .i64 d, .bool fr, .bool fd, .bool fl, .bool fe, .bool fm, .string H] ∧ OnlyAt g w w5)
    go_wp2_with fail
    exact bodyPost_ret (v := .tuple #[.string R, .int .i64 0]) (by simp [results, Tryz.results37, go_sem]) rfl ⟨rfl, HR.out⟩
set_option maxRecDepth 100000 in
set_option maxHeartbeats 4000000 in
/-- More would be held than may be. -/
theorem implWriteNo (c : Cfg) (h r : ByteArray) (g : Nat) (w0 w : World) (hv : validC c = true) (hs : h.size + r.size ≤ 50000) (hh : 400 < (heldB c (h ++ r)).size) (hb0 : Below w0.heap.size w0 w) (hg : Blk w g 33 (wrV c h))
    (hC0 : ∀ (T : ByteArray) (W : World), T.size ≤ 50000 → Below w0.heap.size w0 W → Calls Tryz.prog 54 #[.agg (cfgV c), .string T] W fun e w' => e = .returned (.int .i64 (closedB c T)) ∧ Below W.heap.size W w') :
    Calls Tryz.prog 37 #[.pointer (some ⟨g, 0, none⟩), .string r] w fun e w' => e = .returned (.tuple #[.string ⟨#[]⟩, .int .i64 2]) ∧ Below w.heap.size w w' := by
  obtain ⟨n, e1, e2, e3, e4, e5⟩ := write_pack c (h ++ r) hv
  have hS := fun W => implIsConfig c W
  rw [hv] at hS
  have HAD := Lib.hid (fun W => txt_addW (P := Tryz.prog) (w := W) h r (by omega))
  have hTs : (h ++ r).size ≤ 50000 := by rw [ByteArray.size_append]; omega
  generalize h ++ r = T at e1 e2 e3 e4 e5 hh HAD hTs ⊢
  have hC := fun W hb => hC0 T W hTs hb
  rw [e1] at hC
  have HS := Lib.hid hS
  have HC := Lib.hid hC
  have HB0 := Lib.hid hb0
  have HG := Lib.hid hg
  have HN : Hid (400 < (T.size : Int) - (n : Int) ∧ n ≤ T.size ∧ T.size ≤ 50000) := Lib.hid ⟨by omega, e2, hTs⟩
  clear hS hC hC0 e1 e2 e3 e4 e5 hh hTs hv hs hb0
  obtain ⟨m, t, p, d, fr, fd, fl, fe, fm⟩ := c
  unfold cfgV at HS HC
  unfold wrV at HG hg
  simp only at HS HC HG hg ⊢
  obtain ⟨c0, c1, c2, c3, c4, c5, c6, c7, c8, c9⟩ := hg.ten
  clear hg
  go_enter Tryz.func37, Tryz.ntmps37
  go_wp2_with fail
  refine (HS.out _).mono ?_
  rintro e w1 ⟨rfl, hb1⟩
  have HB1 := Lib.hid hb1
  have HG1 := Lib.hid (HG.out.after hb1)
  clear hb1 c0 c1 c2 c3 c4 c5 c6 c7 c8 c9
  obtain ⟨c0, c1, c2, c3, c4, c5, c6, c7, c8, c9⟩ := HG1.out.ten
  have had := HAD.out
  go_wp2_with fail
  refine (HC.out _ (HB0.out.trans (HB1.out.mono HB0.out.size))).mono ?_
  rintro e w2 ⟨rfl, hb2⟩
  have HB2 := Lib.hid (HB1.out.trans (hb2.mono HB1.out.size))
  clear hb2 c0 c1 c2 c3 c4 c5 c6 c7 c8 c9 had
  have hwz : IntKind.i64.wrap ((T.size : Int) - (n : Int)) = (T.size : Int) - (n : Int) := IntWalk.i64_in _ (by have := HN.out; omega)
  have h400 : (400 : Int) < (T.size : Int) - (n : Int) := HN.out.1
  go_wp2_with fail
  exact bodyPost_ret (v := .tuple #[.string ⟨#[]⟩, .int .i64 2]) (by simp [results, Tryz.results37, go_sem]) rfl ⟨rfl, HB2.out⟩
set_option maxRecDepth 100000 in
set_option maxHeartbeats 4000000 in
/-- A writer whose configuration is not valid takes nothing. -/
theorem implWriteBad (c : Cfg) (h r : ByteArray) (g : Nat) (w : World) (hv : validC c = false) (hg : Blk w g 33 (wrV c h)) :
    Calls Tryz.prog 37 #[.pointer (some ⟨g, 0, none⟩), .string r] w fun e w' => e = .returned (.tuple #[.string ⟨#[]⟩, .int .i64 1]) ∧ Below w.heap.size w w' := by
  have hS := fun W => implIsConfig c W
  rw [hv] at hS
  have HS := Lib.hid hS
  clear hS hv
  obtain ⟨m, t, p, d, fr, fd, fl, fe, fm⟩ := c
  unfold cfgV at HS
  unfold wrV at hg
  simp only at HS hg ⊢
  obtain ⟨c0, c1, c2, c3, c4, c5, c6, c7, c8, c9⟩ := hg.ten
  clear hg
  go_enter Tryz.func37, Tryz.ntmps37
  go_wp2_with fail
  refine (HS.out _).mono ?_
  rintro e w1 ⟨rfl, hb1⟩
  have HB1 := Lib.hid hb1
  clear hb1 c0 c1 c2 c3 c4 c5 c6 c7 c8 c9
  go_wp2_with fail
  exact bodyPost_ret (v := .tuple #[.string ⟨#[]⟩, .int .i64 1]) (by simp [results, Tryz.results37, go_sem]) rfl ⟨rfl, HB1.out⟩
set_option maxRecDepth 100000 in
set_option maxHeartbeats 4000000 in
theorem implFlush (c : Cfg) (h : ByteArray) (g : Nat) (w0 w : World) (hv : validC c = true) (hs : h.size ≤ 50000) (hb0 : Below w0.heap.size w0 w) (hg : Blk w g 33 (wrV c h))
    (hL0 : ∀ (Q : ByteArray) (W : World), Q.size ≤ 50000 → Below w0.heap.size w0 W → Calls Tryz.prog 11 #[.agg (cfgV c), .string Q] W fun e w' => e = .returned (.string (layB c Q)) ∧ Below W.heap.size W w') :
    Calls Tryz.prog 38 #[.pointer (some ⟨g, 0, none⟩)] w fun e w' => e = .returned (.tuple #[.string (layB c h), .int .i64 0]) ∧ (Blk w' g 33 (wrV c ⟨#[]⟩) ∧ OnlyAt g w w') := by
  have hS := fun W => implIsConfig c W
  rw [hv] at hS
  have hL := fun W hb => hL0 h W hs hb
  have HS := Lib.hid hS
  have HL := Lib.hid hL
  have HB0 := Lib.hid hb0
  have HG := Lib.hid hg
  generalize layB c h = R at HL ⊢
  clear hS hL hL0 hv hs hb0
  obtain ⟨m, t, p, d, fr, fd, fl, fe, fm⟩ := c
  unfold cfgV at HS HL
  unfold wrV at HG hg ⊢
  simp only at HS HL HG hg ⊢
  obtain ⟨c0, c1, c2, c3, c4, c5, c6, c7, c8, c9⟩ := hg.ten
  clear hg
  go_enter Tryz.func38, Tryz.ntmps38
  go_wp2_with fail
  refine (HS.out _).mono ?_
  rintro e w1 ⟨rfl, hb1⟩
  have HB1 := Lib.hid hb1
  have HG1 := Lib.hid (HG.out.after hb1)
  have HBW := Lib.hid (HB0.out.trans (HB1.out.mono HB0.out.size))
  clear hb1 c0 c1 c2 c3 c4 c5 c6 c7 c8 c9
  go_wp2_with fail
  go_region_held3 (fun W => W.cell? ⟨g, 0, none⟩ = some (.int .i64 m) ∧ W.cell? ⟨g, 1, none⟩ = some (.int .i64 t) ∧ W.cell? ⟨g, 2, none⟩ = some (.int .i64 p) ∧ W.cell? ⟨g, 3, none⟩ = some (.int .i64 d) ∧ W.cell? ⟨g, 4, none⟩ = some (.bool fr) ∧ W.cell? ⟨g, 5, none⟩ = some (.bool fd) ∧ W.cell? ⟨g, 6, none⟩ = some (.bool fl) ∧ W.cell? ⟨g, 7, none⟩ = some (.bool fe) ∧ W.cell? ⟨g, 8, none⟩ = some (.bool fm) ∧ W.cell? ⟨g, 9, none⟩ = some (.string h) ∧ g < W.heap.size ∧ Below w1.heap.size w1 W)
    (first | exact wrS_start HG1.out | exact wrS_step (by assumption) (by assumption))
    (first | (go_at_call 11; refine (HL.out _ (HBW.out.trans ((wrS_old (by assumption)).mono HBW.out.size))).mono ?_; rintro e w5 ⟨rfl, hb5⟩))
  all_goals
    have HX := Lib.hid (wrS_old (X := w1) (W := w5) (by assumption))
    have HG5 := Lib.hid (HG1.out.after HX.out)
    have c9' := HG5.out.cell 9
    have f9 := HG5.out.free 9
    have HR := Lib.hid (⟨HG5.out.set 9 (.string ⟨#[]⟩), ((OnlyAt.of HB1.out).then HX.out).set 9 (.string ⟨#[]⟩)⟩ : Blk (w5.setCell ⟨g, 9, none⟩ (.string ⟨#[]⟩)) g 33 #[.int .i64 m, .int .i64 t, .int .i64 p, .int .i64 d, .bool fr, .bool fd, .bool fl, .bool fe, .bool fm, .string ⟨#[]⟩] ∧ OnlyAt g w (w5.setCell ⟨g, 9, none⟩ (.string ⟨#[]⟩)))
    simp at c9'
    go_wp2_with fail
    exact bodyPost_ret (v := .tuple #[.string R, .int .i64 0]) (by simp [results, Tryz.results38, go_sem]) rfl ⟨rfl, HR.out⟩
end Go.Proofs.YtooanejiadbngaaGreatDoor

/- The program's WriteText, FlushText and Pending. -/
namespace Go.Proofs.YtooanejiadbngaaGreatDoor
open Go.RowKit
set_option linter.unusedVariables false

set_option maxRecDepth 100000 in
set_option maxHeartbeats 4000000 in
theorem writeText_of (c : Cfg) (h r h' R : ByteArray) (k : Int) (w : World)
    (hW : ∀ W, Below w.heap.size w W → Blk W w.heap.size 33 (wrV c h) → Calls Tryz.prog 37 #[.pointer (some ⟨w.heap.size, 0, none⟩), .string r] W fun e w' => e = .returned (.tuple #[.string R, .int .i64 k]) ∧ (Blk w' w.heap.size 33 (wrV c h') ∧ OnlyAt w.heap.size W w')) :
    Calls Tryz.prog 28 #[.agg (wrV c h), .string r] w fun e w' => e = .returned (.tuple #[.agg (wrV c h'), .string R, .int .i64 k]) ∧ Below w.heap.size w w' := by
  have hR := Blk.new (w.alloc (.cells (wrV c h) 33)) 33 #[.int .i64 0, .int .i64 0, .int .i64 0, .int .i64 0, .bool false, .bool false, .bool false, .bool false, .bool false, .string ⟨#[]⟩]
  rw [show (w.alloc (.cells (wrV c h) 33)).heap.size = w.heap.size + 1 by simp] at hR
  have HR0 := Lib.hid hR
  have HC0 := Lib.hid ((Blk.new w 33 (wrV c h)).after ((Below.refl _ _).alloc (Nat.le_refl _) (.cells #[.int .i64 0, .int .i64 0, .int .i64 0, .int .i64 0, .bool false, .bool false, .bool false, .bool false, .bool false, .string ⟨#[]⟩] 33)))
  have B0 := Lib.hid (by go_grown : Below w.heap.size w ((w.alloc (.cells (wrV c h) 33)).alloc (.cells #[.int .i64 0, .int .i64 0, .int .i64 0, .int .i64 0, .bool false, .bool false, .bool false, .bool false, .bool false, .string ⟨#[]⟩] 33)))
  have HW := Lib.hid (hW _ B0.out HC0.out)
  clear hR hW
  obtain ⟨m, t, p, d, fr, fd, fl, fe, fm⟩ := c
  unfold wrV at HW HR0 HC0 B0 ⊢
  simp only at HW HR0 HC0 B0 ⊢
  go_enter Tryz.func28, Tryz.ntmps28
  go_wp2_with fail
  refine HW.out.mono ?_
  rintro e w1 ⟨rfl, hg1, ho1⟩
  have B1 := Lib.hid (B0.out.trans (ho1.below (Nat.le_refl _) B0.out.size))
  have hz := ho1.blk HR0.out (by omega)
  have HZ := Lib.hid ((hz.row (cs' := #[.int .i64 m, .int .i64 t, .int .i64 p, .int .i64 d, .bool fr, .bool fd, .bool fl, .bool fe, .bool fm, .string h'])).ten)
  obtain ⟨d0, d1, d2, d3, d4, d5, d6, d7, d8, d9⟩ := hg1.ten
  clear ho1 hg1
  go_wp2_with (refine wpList_store_row rfl _ _ _ rfl (w.heap.size + 1) #[.int .i64 m, .int .i64 t, .int .i64 p, .int .i64 d, .bool fr, .bool fd, .bool fl, .bool fe, .bool fm, .string h'] rfl rfl 33 _ hz size_wr rfl (one_wr _ _ _ _ _ _ _ _ _ _) ?_)
  obtain ⟨c0, c1, c2, c3, c4, c5, c6, c7, c8, c9⟩ := HZ.out
  exact bodyPost_ret (v := .tuple #[.agg #[.int .i64 m, .int .i64 t, .int .i64 p, .int .i64 d, .bool fr, .bool fd, .bool fl, .bool fe, .bool fm, .string h'], .string R, .int .i64 k]) (by simp [results, Tryz.results28, go_sem, c0, c1, c2, c3, c4, c5, c6, c7, c8, c9]) rfl ⟨rfl, below_row B1.out (by omega)⟩
set_option maxRecDepth 100000 in
set_option maxHeartbeats 4000000 in
theorem flushText_of (c : Cfg) (h h' R : ByteArray) (k : Int) (w : World)
    (hW : ∀ W, Below w.heap.size w W → Blk W w.heap.size 33 (wrV c h) → Calls Tryz.prog 38 #[.pointer (some ⟨w.heap.size, 0, none⟩)] W fun e w' => e = .returned (.tuple #[.string R, .int .i64 k]) ∧ (Blk w' w.heap.size 33 (wrV c h') ∧ OnlyAt w.heap.size W w')) :
    Calls Tryz.prog 29 #[.agg (wrV c h)] w fun e w' => e = .returned (.tuple #[.agg (wrV c h'), .string R, .int .i64 k]) ∧ Below w.heap.size w w' := by
  have hR := Blk.new (w.alloc (.cells (wrV c h) 33)) 33 #[.int .i64 0, .int .i64 0, .int .i64 0, .int .i64 0, .bool false, .bool false, .bool false, .bool false, .bool false, .string ⟨#[]⟩]
  rw [show (w.alloc (.cells (wrV c h) 33)).heap.size = w.heap.size + 1 by simp] at hR
  have HR0 := Lib.hid hR
  have HC0 := Lib.hid ((Blk.new w 33 (wrV c h)).after ((Below.refl _ _).alloc (Nat.le_refl _) (.cells #[.int .i64 0, .int .i64 0, .int .i64 0, .int .i64 0, .bool false, .bool false, .bool false, .bool false, .bool false, .string ⟨#[]⟩] 33)))
  have B0 := Lib.hid (by go_grown : Below w.heap.size w ((w.alloc (.cells (wrV c h) 33)).alloc (.cells #[.int .i64 0, .int .i64 0, .int .i64 0, .int .i64 0, .bool false, .bool false, .bool false, .bool false, .bool false, .string ⟨#[]⟩] 33)))
  have HW := Lib.hid (hW _ B0.out HC0.out)
  clear hR hW
  obtain ⟨m, t, p, d, fr, fd, fl, fe, fm⟩ := c
  unfold wrV at HW HR0 HC0 B0 ⊢
  simp only at HW HR0 HC0 B0 ⊢
  go_enter Tryz.func29, Tryz.ntmps29
  go_wp2_with fail
  refine HW.out.mono ?_
  rintro e w1 ⟨rfl, hg1, ho1⟩
  have B1 := Lib.hid (B0.out.trans (ho1.below (Nat.le_refl _) B0.out.size))
  have hz := ho1.blk HR0.out (by omega)
  have HZ := Lib.hid ((hz.row (cs' := #[.int .i64 m, .int .i64 t, .int .i64 p, .int .i64 d, .bool fr, .bool fd, .bool fl, .bool fe, .bool fm, .string h'])).ten)
  obtain ⟨d0, d1, d2, d3, d4, d5, d6, d7, d8, d9⟩ := hg1.ten
  clear ho1 hg1
  go_wp2_with (refine wpList_store_row rfl _ _ _ rfl (w.heap.size + 1) #[.int .i64 m, .int .i64 t, .int .i64 p, .int .i64 d, .bool fr, .bool fd, .bool fl, .bool fe, .bool fm, .string h'] rfl rfl 33 _ hz size_wr rfl (one_wr _ _ _ _ _ _ _ _ _ _) ?_)
  obtain ⟨c0, c1, c2, c3, c4, c5, c6, c7, c8, c9⟩ := HZ.out
  exact bodyPost_ret (v := .tuple #[.agg #[.int .i64 m, .int .i64 t, .int .i64 p, .int .i64 d, .bool fr, .bool fd, .bool fl, .bool fe, .bool fm, .string h'], .string R, .int .i64 k]) (by simp [results, Tryz.results29, go_sem, c0, c1, c2, c3, c4, c5, c6, c7, c8, c9]) rfl ⟨rfl, below_row B1.out (by omega)⟩
end Go.Proofs.YtooanejiadbngaaGreatDoor

/- The program's NewWriter and WriterName. -/
namespace Go.Proofs.YtooanejiadbngaaGreatDoor
open Go.RowKit
set_option linter.unusedVariables false

set_option maxRecDepth 100000 in
set_option maxHeartbeats 1000000 in
theorem implNewWriter (c : Cfg) (w : World) :
    Calls Tryz.prog 27 #[.agg (cfgV c)] w fun e w' => e = .returned (.tuple #[.agg (wrV (newC c) ⟨#[]⟩), .int .i64 (newI c)]) ∧ Below w.heap.size w w' := by
  have hS := fun W => implIsConfig c W
  have hC := fun (h : validC c = true) => (by unfold newC newI; rw [if_pos h, if_pos h]; exact ⟨rfl, rfl⟩ : newC c = c ∧ newI c = 0)
  have hD := fun (h : validC c = false) => (by unfold newC newI; rw [if_neg (by rw [h]; decide), if_neg (by rw [h]; decide)]; exact ⟨rfl, rfl⟩ : newC c = zeroC ∧ newI c = 1)
  have hR := Blk.new (w.alloc (.cells (cfgV c) 24)) 33 #[.int .i64 0, .int .i64 0, .int .i64 0, .int .i64 0, .bool false, .bool false, .bool false, .bool false, .bool false, .string ⟨#[]⟩]
  rw [show (w.alloc (.cells (cfgV c) 24)).heap.size = w.heap.size + 1 by simp] at hR
  have HR0 := Lib.hid hR
  have HC0 := Lib.hid ((Blk.new w 24 (cfgV c)).after ((Below.refl _ _).alloc (Nat.le_refl _) (.cells #[.int .i64 0, .int .i64 0, .int .i64 0, .int .i64 0, .bool false, .bool false, .bool false, .bool false, .bool false, .string ⟨#[]⟩] 33)))
  have B0 := Lib.hid (by go_grown : Below w.heap.size w ((w.alloc (.cells (cfgV c) 24)).alloc (.cells #[.int .i64 0, .int .i64 0, .int .i64 0, .int .i64 0, .bool false, .bool false, .bool false, .bool false, .bool false, .string ⟨#[]⟩] 33)))
  clear hR
  cases hv : validC c with
  | false =>
    obtain ⟨e1, e2⟩ := hD hv
    rw [e1, e2]
    rw [hv] at hS
    have HS := Lib.hid hS
    clear hS hv hC hD e1 e2
    obtain ⟨m, t, p, d, fr, fd, fl, fe, fm⟩ := c
    unfold cfgV at HS HR0 HC0 B0 ⊢
    simp only at HS HR0 HC0 B0 ⊢
    go_enter Tryz.func27, Tryz.ntmps27
    go_wp2_with fail
    refine (HS.out _).mono ?_
    rintro e w1 ⟨rfl, hb1⟩
    have B1 := Lib.hid (B0.out.trans (hb1.mono B0.out.size))
    have hz := HR0.out.after hb1
    have HZ := Lib.hid ((hz.row (cs' := #[.int .i64 0, .int .i64 0, .int .i64 0, .int .i64 0, .bool false, .bool false, .bool false, .bool false, .bool false, .string ⟨#[]⟩])).ten)
    clear hb1
    go_wp2_with (refine wpList_store_row rfl _ _ _ rfl (w.heap.size + 1) #[.int .i64 0, .int .i64 0, .int .i64 0, .int .i64 0, .bool false, .bool false, .bool false, .bool false, .bool false, .string ⟨#[]⟩] rfl rfl 33 _ hz size_wr rfl (one_wr _ _ _ _ _ _ _ _ _ _) ?_)
    obtain ⟨c0, c1, c2, c3, c4, c5, c6, c7, c8, c9⟩ := HZ.out
    exact bodyPost_ret (v := .tuple #[.agg (wrV zeroC ⟨#[]⟩), .int .i64 1]) (by simp [results, Tryz.results27, go_sem, c0, c1, c2, c3, c4, c5, c6, c7, c8, c9, wrV, zeroC]) rfl ⟨rfl, below_row B1.out (by omega)⟩
  | true =>
    obtain ⟨e1, e2⟩ := hC hv
    rw [e1, e2]
    rw [hv] at hS
    have HS := Lib.hid hS
    clear hS hv hC hD e1 e2
    obtain ⟨m, t, p, d, fr, fd, fl, fe, fm⟩ := c
    unfold cfgV at HS HR0 HC0 B0 ⊢
    simp only at HS HR0 HC0 B0 ⊢
    go_enter Tryz.func27, Tryz.ntmps27
    go_wp2_with fail
    refine (HS.out _).mono ?_
    rintro e w1 ⟨rfl, hb1⟩
    have B1 := Lib.hid (B0.out.trans (hb1.mono B0.out.size))
    have hz := HR0.out.after hb1
    have HZ := Lib.hid ((hz.row (cs' := #[.int .i64 m, .int .i64 t, .int .i64 p, .int .i64 d, .bool fr, .bool fd, .bool fl, .bool fe, .bool fm, .string ⟨#[]⟩])).ten)
    obtain ⟨d0, d1, d2, d3, d4, d5, d6, d7, d8⟩ := (HC0.out.after hb1).boxed
    clear hb1
    go_wp2_with (refine wpList_store_row rfl _ _ _ rfl (w.heap.size + 1) #[.int .i64 m, .int .i64 t, .int .i64 p, .int .i64 d, .bool fr, .bool fd, .bool fl, .bool fe, .bool fm, .string ⟨#[]⟩] rfl rfl 33 _ hz size_wr rfl (one_wr _ _ _ _ _ _ _ _ _ _) ?_)
    obtain ⟨c0, c1, c2, c3, c4, c5, c6, c7, c8, c9⟩ := HZ.out
    exact bodyPost_ret (v := .tuple #[.agg #[.int .i64 m, .int .i64 t, .int .i64 p, .int .i64 d, .bool fr, .bool fd, .bool fl, .bool fe, .bool fm, .string ⟨#[]⟩], .int .i64 0]) (by simp [results, Tryz.results27, go_sem, c0, c1, c2, c3, c4, c5, c6, c7, c8, c9]) rfl ⟨rfl, below_row B1.out (by omega)⟩
end Go.Proofs.YtooanejiadbngaaGreatDoor
