/- TakeText: the panic of take, recovered in a deferred closure. -/
import Derived.Test.YtooanejiadbngaaDoorTake
import Derived.Test.YtooanejiadbngaaDoorAsHit
import Derived.Test.YtooanejiadbngaaDoorErrT
namespace Go.Proofs.YtooanejiadbngaaDoor
open Go.RowKit
set_option linter.unusedVariables false
set_option linter.unusedSimpArgs false

set_option maxRecDepth 100000 in
set_option maxHeartbeats 1000000 in
theorem failed_no (w : World) :
    Calls Tryd.prog 11 #[.nilIface] w fun e w' => e = .returned (.tuple #[.agg #[.int .i64 0, .string ⟨#[]⟩, .bool false], .bool false]) ∧ Below w.heap.size w w' := by
  have hta : ∀ W : World, (Instr.typeAssert .nilIface 20 37 true).run Tryd.prog W = .ok (.tuple #[.nilIface, .bool false]) W := fun W => by kernel_rfl
  go_enter Tryd.func11, Tryd.ntmps11
  go_wp2
  refine bodyPost_ret (v := .tuple #[.agg #[.int .i64 0, .string ⟨#[]⟩, .bool false], .bool false]) (by simp [results, Tryd.results11, go_sem]) rfl ?_
  refine ⟨rfl, ?_⟩
  go_grown
theorem as_kept (r : Int) (s : ByteArray) (d : Bool) (g : Nat) (old : Array Value) (ho : old.size = 3) (w : World) (hE : ErrT w) (hg : Blk w g 35 old) :
    Calls Tryd.prog 13 #[.iface 35 (.agg #[.int .i64 r, .string s, .bool d]), .iface 40 (.pointer (some ⟨g, 0, none⟩))] w fun e w' => e = .returned (.bool true) ∧ Blk w' g 35 #[.int .i64 r, .string s, .bool d] ∧ Below g w w' := by
  refine (as_hit r s d g old ho w hE hg).mono ?_
  rintro e w' ⟨rfl, rfl⟩
  generalize hX : (World.alloc _ _ : World) = X
  have hb : Below w.heap.size w X := by rw [← hX]; go_grown
  clear hX
  exact ⟨rfl, (hg.after hb).row, below_setRow (hb.mono (Nat.le_of_lt hg.lt)) (Nat.le_refl _) _⟩
set_option maxRecDepth 100000 in
set_option maxHeartbeats 1000000 in
theorem failed_yes (k : Snk) (w : World) (hE : ErrT w) :
    Calls Tryd.prog 11 #[sinkPV k] w fun e w' => e = .returned (.tuple #[.agg (snkV k), .bool true]) ∧ Below w.heap.size w w' := by
  obtain ⟨r, t, d⟩ := k
  unfold sinkPV snkV
  simp only
  have hb2 : Below w.heap.size w ((w.alloc (.cells #[.int .i64 0, .string ⟨#[]⟩, .bool false] 25)).alloc (.cells #[.int .i64 0, .string ⟨#[]⟩, .bool false] 35)) := by go_grown
  have hn := Blk.new (w.alloc (.cells #[.int .i64 0, .string ⟨#[]⟩, .bool false] 25)) 35 #[.int .i64 0, .string ⟨#[]⟩, .bool false]
  rw [show (w.alloc (.cells #[.int .i64 0, .string ⟨#[]⟩, .bool false] 25)).heap.size = w.heap.size + 1 by simp] at hn
  have HA := Lib.hid (as_kept r t d (w.heap.size + 1) _ rfl ((w.alloc (.cells #[.int .i64 0, .string ⟨#[]⟩, .bool false] 25)).alloc (.cells #[.int .i64 0, .string ⟨#[]⟩, .bool false] 35)) (hE.below hb2) hn)
  clear hb2 hn
  have hta : ∀ W : World, (Instr.typeAssert (.iface 35 (.agg #[.int .i64 r, .string t, .bool d])) 20 37 true).run Tryd.prog W = .ok (.tuple #[.iface 35 (.agg #[.int .i64 r, .string t, .bool d]), .bool true]) W := fun W => by kernel_rfl
  go_enter Tryd.func11, Tryd.ntmps11
  go_wp2_with fail
  refine HA.out.mono ?_
  rintro e w1 ⟨rfl, hf1, hb1⟩
  have hN := ((Blk.new w 25 #[.int .i64 0, .string ⟨#[]⟩, .bool false]).after ((Below.refl _ _).alloc (Nat.le_refl _) (.cells #[.int .i64 0, .string ⟨#[]⟩, .bool false] 35)))
  have hN1 := hN.below hb1 (by omega)
  have B1 := Lib.hid (((by go_grown : Below w.heap.size w ((w.alloc (.cells #[.int .i64 0, .string ⟨#[]⟩, .bool false] 25)).alloc (.cells #[.int .i64 0, .string ⟨#[]⟩, .bool false] 35)))).trans (hb1.mono (by omega)))
  have c0 := hf1.cell 0
  have c1 := hf1.cell 1
  have c2 := hf1.cell 2
  simp at c0 c1 c2
  clear hb1 hN
  go_wp2_with (refine wpList_store_row rfl _ _ _ rfl w.heap.size #[.int .i64 r, .string t, .bool d] rfl rfl 25 _ hN1 size_snkT rfl (by simp [Value.oneCell']) ?_)
  have hR := hN1.row (cs' := #[.int .i64 r, .string t, .bool d])
  have d0 := hR.cell 0
  have d1 := hR.cell 1
  have d2 := hR.cell 2
  simp at d0 d1 d2
  exact bodyPost_ret (v := .tuple #[.agg #[.int .i64 r, .string t, .bool d], .bool true]) (by simp [results, Tryd.results11, go_sem, d0, d1, d2]) rfl ⟨rfl, below_setRow B1.out (Nat.le_refl _) _⟩
set_option maxRecDepth 100000 in
set_option maxHeartbeats 2000000 in
theorem catch_panicking (k : Snk) (ga go : Nat) (x : Bool) (z : Array Value) (hz : z.size = 3) (older : List PanicEntry) (w : World) (ha : Blk w ga 25 z) (ho : Blk w go 4 #[.bool x]) (hag : ga < go) (hE : ErrT w) :
    CallsD Tryd.prog 10 #[.pointer (some ⟨ga, 0, none⟩), .pointer (some ⟨go, 0, none⟩)] (.panicking ({ v := sinkPV k, recovered := false } :: older)) w fun e u' w' =>
      e = .returned (.tuple #[]) ∧ u' = .panicking ({ v := sinkPV k, recovered := true } :: older) ∧ Blk w' ga 25 (snkV k) ∧ Blk w' go 4 #[.bool false] ∧ Below ga w w' := by
  have HF := Lib.hid (failed_yes k w hE)
  obtain ⟨r, t, d⟩ := k
  unfold sinkPV snkV at *
  simp only at *
  refine callsD_of_wpS Tryd.func10 rfl fun c₀ cs hu => ?_
  apply wpS_seq
  apply wpS_region
  simp [wpOpsS, go_sem, recoverD, hu, Tryd.ntmps10, Exit.thenS]
  refine HF.out.mono ?_
  rintro e w1 ⟨rfl, hb1⟩
  have ha1 := ha.after hb1
  have ho1 := ho.after hb1
  clear HF
  simp [go_sem, Oper.upon, wpOpsS, Exit.thenS]
  refine wpS_of_wp ?_
  rw [show (Array.replicate 9 undef : Array Value) = #[undef, undef, undef, undef, undef, undef, undef, undef, undef] from rfl]
  simp only [List.setIfInBounds_toArray, List.set_cons_zero, List.set_cons_succ, List.append_toArray, List.cons_append, List.nil_append]
  obtain ⟨z0, z1, z2, rfl⟩ : ∃ z0 z1 z2, z = #[z0, z1, z2] := by
    obtain ⟨l⟩ := z
    match l, hz with
    | [z0, z1, z2], _ => exact ⟨z0, z1, z2, rfl⟩
  have hD : Below w1.heap.size w1 (w1.alloc (.cells #[.int .i64 r, .string t, .bool d] 25)) := (Below.refl _ _).alloc (Nat.le_refl _) _
  have hN := Blk.new w1 25 #[.int .i64 r, .string t, .bool d]
  have ha2 := ha1.after hD
  have ho2 := ho1.after hD
  have hB2 : Below ga w (w1.alloc (.cells #[.int .i64 r, .string t, .bool d] 25)) := (hb1.trans (hD.mono hb1.size)).mono (Nat.le_of_lt ha.lt)
  clear hD hN ha1 ho1 hb1
  have ho3 : Blk ((w1.alloc (.cells #[.int .i64 r, .string t, .bool d] 25)).setRow ga #[.int .i64 r, .string t, .bool d]) go 4 #[.bool x] := by
    unfold Blk at ho2 ⊢
    rw [setRow_other _ _ _ _ (by omega)]
    exact ho2
  have o0 := ho3.cell 0
  have of := ho3.free 0
  simp at o0
  go_wp2_with (refine wpList_store_row rfl _ _ _ rfl ga #[.int .i64 r, .string t, .bool d] rfl rfl 25 _ ha2 size_snkT rfl (by simp [Value.oneCell']) ?_)
  have hof := ho3.set 0 (.bool false)
  have hag2 := (ha2.row (cs' := #[.int .i64 r, .string t, .bool d])).other (g' := go) (j := 0) (u := .bool false) (by omega)
  have hbw := ((below_setRow hB2 (Nat.le_refl _) #[.int .i64 r, .string t, .bool d]).setCell (p := ⟨go, 0, none⟩) (Nat.le_of_lt hag) (.bool false))
  exact ⟨rfl, _, rfl, .tuple #[], by simp [results, Tryd.results10, go_sem], rfl, rfl, hag2, hof, hbw⟩
set_option maxRecDepth 100000 in
set_option maxHeartbeats 2000000 in
theorem catch_idle (p q : Value) (w : World) :
    CallsD Tryd.prog 10 #[p, q] .returning w fun e u' w' => e = .returned (.tuple #[]) ∧ u' = .returning ∧ Below w.heap.size w w' := by
  have HF := Lib.hid (failed_no w)
  refine callsD_of_wpS Tryd.func10 rfl fun c₀ cs hu => ?_
  apply wpS_seq
  apply wpS_region
  simp [wpOpsS, go_sem, recoverD, hu, Tryd.ntmps10, Exit.thenS]
  refine HF.out.mono ?_
  rintro e w1 ⟨rfl, hb1⟩
  clear HF
  simp [go_sem, Oper.upon, wpOpsS, Exit.thenS]
  refine wpS_of_wp ?_
  rw [show (Array.replicate 9 undef : Array Value) = #[undef, undef, undef, undef, undef, undef, undef, undef, undef] from rfl]
  simp only [List.setIfInBounds_toArray, List.set_cons_zero, List.set_cons_succ, List.append_toArray, List.cons_append, List.nil_append]
  have hD : Below w.heap.size w (w1.alloc (.cells #[.int .i64 0, .string ⟨#[]⟩, .bool false] 25)) := hb1.alloc hb1.size _
  go_wp2_with fail
  cases c₀
  simp only at hu
  subst hu
  exact ⟨rfl, _, rfl, .tuple #[], by simp [results, Tryd.results10, go_sem], rfl, rfl, hD⟩
set_option maxRecDepth 100000 in
set_option maxHeartbeats 2000000 in
theorem implTakeText (k : Snk) (s : ByteArray) (w : World) (hE : ErrT w) (hr : k.room ≤ 9223372036854775807) (ht : k.taken.size ≤ 1048576) (hs : s.size ≤ 140737488355328 - 1048576) :
    Calls Tryd.prog 7 #[.agg (snkV k), .string s] w fun e w' => e = .returned (.tuple #[.agg (snkV (takeK k s)), .bool (takeOk k s)]) ∧ Below w.heap.size w w' := by
  have hmf : ∀ (fn : Fn) (first cap : Array Value) (w : World), (Instr.makeFunc fn first cap).run Tryd.prog w = .ok (.func fn first cap) w := fun _ _ _ _ => rfl
  have HN : Hid (takeOk k s = false → ∀ W, Calls Tryd.prog 12 #[.agg (snkV k), .string s] W fun e w' => e = .panicked [{ v := sinkPV (takeK k s), recovered := false }] ∧ Below W.heap.size W w') := Lib.hid fun hno W => by
    cases hd : k.dead with
    | true =>
      rw [(takeK_dead k s hd).1]
      exact take_dead k s W hd
    | false =>
      by_cases hf : (s.size : Int) ≤ k.room
      · rw [(takeK_fits k s hd hf).2] at hno; cases hno
      · exact take_over k s W hd hf ht hs
  have HY : Hid (takeOk k s = true → ∀ W, Calls Tryd.prog 12 #[.agg (snkV k), .string s] W fun e w' => e = .returned (.agg (snkV (takeK k s))) ∧ Below W.heap.size W w') := Lib.hid fun hyes W => by
    cases hd : k.dead with
    | true => rw [(takeK_dead k s hd).2] at hyes; cases hyes
    | false =>
      by_cases hf : (s.size : Int) ≤ k.room
      · exact take_fits k s W hd hf hr ht hs
      · rw [(takeK_over k s hd hf).2] at hyes; cases hyes
  generalize takeK k s = k2 at HN HY ⊢
  obtain ⟨r, t, d⟩ := k
  unfold snkV at HN HY ⊢
  simp only at HN HY ⊢
  have hW0 : Below w.heap.size w (((w.alloc (.cells #[.int .i64 r, .string t, .bool d] 25)).alloc (.cells #[.int .i64 0, .string ⟨#[]⟩, .bool false] 25)).alloc (.cells #[.bool false] 4)) := by go_grown
  have hA0 := (Blk.new (w.alloc (.cells #[.int .i64 r, .string t, .bool d] 25)) 25 #[.int .i64 0, .string ⟨#[]⟩, .bool false]).after ((Below.refl _ _).alloc (Nat.le_refl _) (.cells #[.bool false] 4))
  rw [show (w.alloc (.cells #[.int .i64 r, .string t, .bool d] 25)).heap.size = w.heap.size + 1 by simp] at hA0
  have hO0 := Blk.new ((w.alloc (.cells #[.int .i64 r, .string t, .bool d] 25)).alloc (.cells #[.int .i64 0, .string ⟨#[]⟩, .bool false] 25)) 4 #[.bool false]
  rw [show ((w.alloc (.cells #[.int .i64 r, .string t, .bool d] 25)).alloc (.cells #[.int .i64 0, .string ⟨#[]⟩, .bool false] 25)).heap.size = w.heap.size + 1 + 1 by simp] at hO0
  have HA := Lib.hid hA0
  have HO := Lib.hid hO0
  have HW := Lib.hid hW0
  clear hA0 hO0 hW0
  cases hok : takeOk ⟨r, t, d⟩ s with
  | false =>
    have HN2 := Lib.hid (HN.out hok)
    clear HN HY hok
    go_enter_defers Tryd.func7, Tryd.ntmps7
    go_wp2_with fail
    refine (HN2.out _).mono ?_
    rintro e w1 ⟨rfl, hb1⟩
    have HA1 := Lib.hid (HA.out.after hb1)
    have HO1 := Lib.hid (HO.out.after hb1)
    have HW1 := Lib.hid (HW.out.trans (hb1.mono HW.out.size))
    clear hb1
    go_wp2_with fail
    refine leaves_cons (f := 10) (args := #[.pointer (some ⟨w.heap.size + 1, 0, none⟩), .pointer (some ⟨w.heap.size + 1 + 1, 0, none⟩)]) (by simp) (by simp [go_sem]) ?_
    refine (catch_panicking k2 (w.heap.size + 1) (w.heap.size + 1 + 1) false _ rfl [] _ HA1.out HO1.out (by omega) (hE.below HW1.out)).mono ?_
    rintro e u' w2 ⟨rfl, rfl, hA, hO, hB⟩
    have hBB := HW1.out.trans (hB.mono (by omega))
    obtain ⟨r2, t2, d2⟩ := k2
    unfold snkV at hA
    have a0 := hA.cell 0
    have a1 := hA.cell 1
    have a2 := hA.cell 2
    have o0 := hO.cell 0
    simp at a0 a1 a2 o0
    simp [Leaves, settle, results, Tryd.results7, go_sem, a0, a1, a2, o0]
    exact hBB
  | true =>
    have HY2 := Lib.hid (HY.out hok)
    clear HN HY hok
    go_enter_defers Tryd.func7, Tryd.ntmps7
    go_wp2_with fail
    refine (HY2.out _).mono ?_
    rintro e w1 ⟨rfl, hb1⟩
    have hA1 := HA.out.after hb1
    have hO1 := HO.out.after hb1
    have HW1 := Lib.hid (HW.out.trans (hb1.mono HW.out.size))
    clear hb1
    obtain ⟨r2, t2, d2⟩ := k2
    simp only
    have hO2 : Blk (w1.setRow (w.heap.size + 1) #[.int .i64 r2, .string t2, .bool d2]) (w.heap.size + 1 + 1) 4 #[.bool false] := by
      unfold Blk at hO1 ⊢
      rw [setRow_other _ _ _ _ (by omega)]
      exact hO1
    have o0 := hO2.cell 0
    have of := hO2.free 0
    simp at o0
    go_wp2_with (refine wpList_store_row rfl _ _ _ rfl (w.heap.size + 1) #[.int .i64 r2, .string t2, .bool d2] rfl rfl 25 _ hA1 size_snkT rfl (by simp [Value.oneCell']) ?_)
    refine leaves_cons (f := 10) (args := #[.pointer (some ⟨w.heap.size + 1, 0, none⟩), .pointer (some ⟨w.heap.size + 1 + 1, 0, none⟩)]) (by simp) (by simp [go_sem]) ?_
    have hX := (hA1.row (cs' := #[.int .i64 r2, .string t2, .bool d2])).other (g' := w.heap.size + 1 + 1) (j := 0) (u := .bool true) (by omega)
    have hY := hO2.set 0 (.bool true)
    have hZ := (below_setRow HW1.out (by omega : w.heap.size ≤ w.heap.size + 1) #[.int .i64 r2, .string t2, .bool d2]).setCell (p := ⟨w.heap.size + 1 + 1, 0, none⟩) (by show w.heap.size ≤ w.heap.size + 1 + 1; omega) (.bool true)
    refine (catch_idle _ _ _).mono ?_
    rintro e u' w2 ⟨rfl, rfl, hB⟩
    have hA := hX.after hB
    have hO := hY.after hB
    have hBB := hZ.trans (hB.mono hZ.size)
    have a0 := hA.cell 0
    have a1 := hA.cell 1
    have a2 := hA.cell 2
    have o0 := hO.cell 0
    simp at a0 a1 a2 o0
    simp [Leaves, settle, results, Tryd.results7, go_sem, a0, a1, a2, o0]
    exact hBB
end Go.Proofs.YtooanejiadbngaaDoor
