/- The program's WriteAll: chunks that together are short enough to be held. -/
import Derived.Test.YtdplcbfiidnfcaaDoorImplWrite
import Derived.Test.YtdplcbfiidnfcaaDoorBG
namespace Go.Proofs.YtdplcbfiidnfcaaDoor
open Go.RowKit
set_option linter.unusedVariables false
set_option linter.unusedSimpArgs false

theorem OnlyAt.built {g B b : Nat} {l : List UInt8} {w w' : World} {T : TypeId} {cs : Array Value} (h : OnlyAt g w w') (hb : BuiltF B b l w) (hg : Blk w g T cs) (hT : T ≠ 51) (hU : T ≠ 5) : BuiltF B b l w' := by
  have one : ∀ p, Lib.BuilderAtF 51 5 B b p (u8s l) w → Lib.BuilderAtF 51 5 B b p (u8s l) w' := by
    intro p k
    have hlt := k.lt
    obtain ⟨hB, v, hv, hown, hne⟩ := k
    have hbg : b ≠ g := fun e => by
      subst e
      have := hv.symm.trans hg
      simp at this
      exact hT this.2.symm
    refine ⟨hB, v, (h.block b hlt hbg).trans hv, ⟨hown.1, ?_⟩, hne⟩
    rcases hown.2 with hn | ⟨q, cap, cur, fz, rfl, hbq, hgg, rest⟩
    · exact .inl hn
    · refine .inr ⟨q, cap, cur, fz, rfl, hbq, (h.block q (Array.getElem?_eq_some_iff.1 hgg).1 fun e => ?_).trans hgg, rest⟩
      subst e
      have := hgg.symm.trans hg
      simp at this
      exact hU this.2.1.symm
  rcases hb with hb | hb
  · exact .inl (one _ hb)
  · exact .inr (one _ hb)
/-- What WriteAll goes through. -/
theorem all_pack (c : Cfg) (l : List ByteArray) (hv : validC c = true) (hcat : (catB l).size ≤ 400) : ∃ H P X : Nat → ByteArray, H 0 = ⟨#[]⟩ ∧ P 0 = ⟨#[]⟩ ∧ H l.length = heldB c (catB l) ∧ P l.length = toldB c (catB l) ∧
    ∀ k (h : k < l.length), heldB c (H k ++ l[k]) = H (k + 1) ∧ toldB c (H k ++ l[k]) = X k ∧ P (k + 1) = P k ++ X k ∧ (H k).size + l[k].size ≤ 50000 ∧ (H (k + 1)).size ≤ 400 ∧ (P k).size + (X k).size ≤ 2000000000000 := by
  have hT : ∀ k, (catB (l.take k)).size ≤ 400 := by
    intro k
    have h1 : catB l = catB (l.take k) ++ catB (l.drop k) := by rw [← catB_append, List.take_append_drop]
    have h2 := congrArg ByteArray.size h1
    rw [ByteArray.size_append] at h2
    omega
  refine ⟨fun k => heldB c (catB (l.take k)), fun k => toldB c (catB (l.take k)), fun k => toldB c (heldB c (catB (l.take k)) ++ (l[k]?.getD ⟨#[]⟩)), ?_, ?_, by simp, by simp, ?_⟩
  · show heldB c (catB []) = _
    exact held_zero c
  · show toldB c (catB []) = _
    exact told_zero c
  intro k h
  have hk := catB_take l k h
  have hk1 := hT (k + 1)
  have hk0 := hT k
  have hlk : (catB (l.take k)).size + l[k].size ≤ 400 := by
    rw [hk, ByteArray.size_append] at hk1
    exact hk1
  have hh := heldB_size c (catB (l.take k))
  have hh1 := heldB_size c (catB (l.take (k + 1)))
  have ht := told_step c (catB (l.take k)) l[k]
  rw [← hk] at ht
  have hg : (l[k]?.getD ⟨#[]⟩) = l[k] := by rw [List.getElem?_eq_getElem h]; rfl
  have hb := layB_size c (catB (l.take (k + 1))) hv (by omega)
  have he := congrArg ByteArray.size (told_end c (catB (l.take (k + 1))) hv)
  rw [ByteArray.size_append] at he
  have hp := congrArg ByteArray.size ht
  rw [ByteArray.size_append] at hp
  refine ⟨?_, ?_, ?_, ?_, ?_, ?_⟩
  · show heldB c (heldB c (catB (l.take k)) ++ l[k]) = heldB c (catB (l.take (k + 1)))
    rw [held_step, ← hk]
  · show _ = toldB c (heldB c (catB (l.take k)) ++ (l[k]?.getD ⟨#[]⟩))
    rw [hg]
  · show toldB c (catB (l.take (k + 1))) = toldB c (catB (l.take k)) ++ toldB c (heldB c (catB (l.take k)) ++ (l[k]?.getD ⟨#[]⟩))
    rw [hg]
    exact ht
  · show (heldB c (catB (l.take k))).size + l[k].size ≤ 50000
    omega
  · show (heldB c (catB (l.take (k + 1)))).size ≤ 400
    omega
  · show (toldB c (catB (l.take k))).size + (toldB c (heldB c (catB (l.take k)) ++ (l[k]?.getD ⟨#[]⟩))).size ≤ 2000000000000
    rw [hg]
    omega
theorem _root_.Go.RowKit.Below.drewL {B : Nat} {a w : World} (h : Below B a.drew w) : Below B a w := ⟨h.os, h.tape, h.output, h.size, h.block⟩
theorem waS_start {X : World} {g b : Nat} {T : TypeId} {m t p d : Int} {fr fd fl fe fm : Bool} {h : ByteArray} (hb : Blk X g T #[.int .i64 m, .int .i64 t, .int .i64 p, .int .i64 d, .bool fr, .bool fd, .bool fl, .bool fe, .bool fm, .string h]) (hgb : g < b) :
    X.drew.cell? ⟨g, 0, none⟩ = some (.int .i64 m) ∧ X.drew.cell? ⟨g, 1, none⟩ = some (.int .i64 t) ∧ X.drew.cell? ⟨g, 2, none⟩ = some (.int .i64 p) ∧ X.drew.cell? ⟨g, 3, none⟩ = some (.int .i64 d) ∧ X.drew.cell? ⟨g, 4, none⟩ = some (.bool fr) ∧ X.drew.cell? ⟨g, 5, none⟩ = some (.bool fd) ∧ X.drew.cell? ⟨g, 6, none⟩ = some (.bool fl) ∧ X.drew.cell? ⟨g, 7, none⟩ = some (.bool fe) ∧ X.drew.cell? ⟨g, 8, none⟩ = some (.bool fm) ∧ X.drew.cell? ⟨g, 9, none⟩ = some (.string h) ∧ g < b ∧ Below g X X.drew :=
  ⟨hb.cell 0, hb.cell 1, hb.cell 2, hb.cell 3, hb.cell 4, hb.cell 5, hb.cell 6, hb.cell 7, hb.cell 8, hb.cell 9, hgb, (Below.refl _ _).drew⟩
theorem waS_step {X W W' : World} {g b : Nat} {v0 v1 v2 v3 v4 v5 v6 v7 v8 v9 : Value} (hb : Below b W W') (h : W.cell? ⟨g, 0, none⟩ = some v0 ∧ W.cell? ⟨g, 1, none⟩ = some v1 ∧ W.cell? ⟨g, 2, none⟩ = some v2 ∧ W.cell? ⟨g, 3, none⟩ = some v3 ∧ W.cell? ⟨g, 4, none⟩ = some v4 ∧ W.cell? ⟨g, 5, none⟩ = some v5 ∧ W.cell? ⟨g, 6, none⟩ = some v6 ∧ W.cell? ⟨g, 7, none⟩ = some v7 ∧ W.cell? ⟨g, 8, none⟩ = some v8 ∧ W.cell? ⟨g, 9, none⟩ = some v9 ∧ g < b ∧ Below g X W) :
    W'.cell? ⟨g, 0, none⟩ = some v0 ∧ W'.cell? ⟨g, 1, none⟩ = some v1 ∧ W'.cell? ⟨g, 2, none⟩ = some v2 ∧ W'.cell? ⟨g, 3, none⟩ = some v3 ∧ W'.cell? ⟨g, 4, none⟩ = some v4 ∧ W'.cell? ⟨g, 5, none⟩ = some v5 ∧ W'.cell? ⟨g, 6, none⟩ = some v6 ∧ W'.cell? ⟨g, 7, none⟩ = some v7 ∧ W'.cell? ⟨g, 8, none⟩ = some v8 ∧ W'.cell? ⟨g, 9, none⟩ = some v9 ∧ g < b ∧ Below g X W' := by
  obtain ⟨h0, h1, h2, h3, h4, h5, h6, h7, h8, h9, h10, h11⟩ := h
  have k : ∀ j v, W.cell? ⟨g, j, none⟩ = some v → W'.cell? ⟨g, j, none⟩ = some v := fun j v hv => (hb.cell (p := ⟨g, j, none⟩) h10).trans hv
  exact ⟨k _ _ h0, k _ _ h1, k _ _ h2, k _ _ h3, k _ _ h4, k _ _ h5, k _ _ h6, k _ _ h7, k _ _ h8, k _ _ h9, h10, h11.trans (hb.mono (by omega))⟩
theorem waS_row {X W : World} {g b q : Nat} {cs : Array Value} {v0 v1 v2 v3 v4 v5 v6 v7 v8 v9 : Value} (hq : g < q) (h : W.cell? ⟨g, 0, none⟩ = some v0 ∧ W.cell? ⟨g, 1, none⟩ = some v1 ∧ W.cell? ⟨g, 2, none⟩ = some v2 ∧ W.cell? ⟨g, 3, none⟩ = some v3 ∧ W.cell? ⟨g, 4, none⟩ = some v4 ∧ W.cell? ⟨g, 5, none⟩ = some v5 ∧ W.cell? ⟨g, 6, none⟩ = some v6 ∧ W.cell? ⟨g, 7, none⟩ = some v7 ∧ W.cell? ⟨g, 8, none⟩ = some v8 ∧ W.cell? ⟨g, 9, none⟩ = some v9 ∧ g < b ∧ Below g X W) :
    (W.setRow q cs).cell? ⟨g, 0, none⟩ = some v0 ∧ (W.setRow q cs).cell? ⟨g, 1, none⟩ = some v1 ∧ (W.setRow q cs).cell? ⟨g, 2, none⟩ = some v2 ∧ (W.setRow q cs).cell? ⟨g, 3, none⟩ = some v3 ∧ (W.setRow q cs).cell? ⟨g, 4, none⟩ = some v4 ∧ (W.setRow q cs).cell? ⟨g, 5, none⟩ = some v5 ∧ (W.setRow q cs).cell? ⟨g, 6, none⟩ = some v6 ∧ (W.setRow q cs).cell? ⟨g, 7, none⟩ = some v7 ∧ (W.setRow q cs).cell? ⟨g, 8, none⟩ = some v8 ∧ (W.setRow q cs).cell? ⟨g, 9, none⟩ = some v9 ∧ g < b ∧ Below g X (W.setRow q cs) := by
  obtain ⟨h0, h1, h2, h3, h4, h5, h6, h7, h8, h9, h10, h11⟩ := h
  have e : Below q W (W.setRow q cs) := below_setRow (Below.refl _ _) (Nat.le_refl _) cs
  have k : ∀ i v, W.cell? ⟨g, i, none⟩ = some v → (W.setRow q cs).cell? ⟨g, i, none⟩ = some v := fun i v hv => (e.cell (p := ⟨g, i, none⟩) hq).trans hv
  exact ⟨k _ _ h0, k _ _ h1, k _ _ h2, k _ _ h3, k _ _ h4, k _ _ h5, k _ _ h6, k _ _ h7, k _ _ h8, k _ _ h9, h10, h11.trans (e.mono (by omega))⟩
theorem waS_old {X W : World} {g b : Nat} {v0 v1 v2 v3 v4 v5 v6 v7 v8 v9 : Value} (h : W.cell? ⟨g, 0, none⟩ = some v0 ∧ W.cell? ⟨g, 1, none⟩ = some v1 ∧ W.cell? ⟨g, 2, none⟩ = some v2 ∧ W.cell? ⟨g, 3, none⟩ = some v3 ∧ W.cell? ⟨g, 4, none⟩ = some v4 ∧ W.cell? ⟨g, 5, none⟩ = some v5 ∧ W.cell? ⟨g, 6, none⟩ = some v6 ∧ W.cell? ⟨g, 7, none⟩ = some v7 ∧ W.cell? ⟨g, 8, none⟩ = some v8 ∧ W.cell? ⟨g, 9, none⟩ = some v9 ∧ g < b ∧ Below g X W) : Below g X W := h.2.2.2.2.2.2.2.2.2.2.2
set_option maxRecDepth 100000 in
set_option maxHeartbeats 2000000 in
theorem implWriteAll (c : Cfg) (l : List ByteArray) (v : Value) (w0 w : World) (hv : validC c = true) (hcat : (catB l).size ≤ 400) (hl : l.length ≤ 1048576) (hb0 : Below w0.heap.size w0 w) (hr : Rd w v (strs l))
    (hC0 : ∀ (T : ByteArray) (W : World), T.size ≤ 50000 → Below w0.heap.size w0 W → Calls Tryd.prog 14 #[.agg (cfgV c), .string T] W fun e w' => e = .returned (.int .i64 (closedB c T)) ∧ Below W.heap.size W w')
    (hL0 : ∀ (Q : ByteArray) (W : World), Q.size ≤ 50000 → Below w0.heap.size w0 W → Calls Tryd.prog 11 #[.agg (cfgV c), .string Q] W fun e w' => e = .returned (.string (layB c Q)) ∧ Below W.heap.size W w') :
    Calls Tryd.prog 9 #[.agg (wrV c ⟨#[]⟩), v] w fun e w' => e = .returned (.tuple #[.agg (wrV c (heldB c (catB l))), .string (toldB c (catB l)), .int .i64 (l.length : Int)]) ∧ Below w.heap.size w w' := by
  obtain ⟨H, P, X, hH0, hP0, hHn, hPn, hst⟩ := all_pack c l hv hcat
  rw [← hHn, ← hPn]
  have HWR := Lib.hid (fun k (hk : k < l.length) g W (hb : Below w0.heap.size w0 W) (hg0 : w0.heap.size ≤ g) (hg : Blk W g 28 (wrV c (H k))) => (by
    obtain ⟨e1, e2, e3, e4, e5, e6⟩ := hst k hk
    have h := implWrite c (H k) l[k] g w0 W hv e4 (by rw [e1]; exact e5) hb hg0 hg hC0 hL0
    rw [e1, e2] at h
    exact h : Calls Tryd.prog 22 #[.pointer (some ⟨g, 0, none⟩), .string l[k]] W fun e w' => e = .returned (.tuple #[.string (X k), .int .i64 0]) ∧ (Blk w' g 28 (wrV c (H (k + 1))) ∧ OnlyAt g W w')))
  have HPX := Lib.hid (fun k (hk : k < l.length) => (hst k hk).2.2.1)
  have HSZ := Lib.hid (fun k (hk : k < l.length) => (hst k hk).2.2.2.2.2)
  have HB0 := Lib.hid hb0
  have hb0s := hb0.size
  obtain ⟨n, hn⟩ : ∃ n, n = l.length := ⟨_, rfl⟩
  obtain ⟨A, cap, rfl, hA⟩ := hr
  rw [strs_length] at hA ⊢
  have HA := Lib.hid hA
  have HN := Lib.hid hn
  rw [← hn] at hl HA ⊢
  have hR := Blk.new (w.alloc (.cells (wrV c ⟨#[]⟩) 28)) 28 #[.int .i64 0, .int .i64 0, .int .i64 0, .int .i64 0, .bool false, .bool false, .bool false, .bool false, .bool false, .string ⟨#[]⟩]
  rw [show (w.alloc (.cells (wrV c ⟨#[]⟩) 28)).heap.size = w.heap.size + 1 by simp] at hR
  have hC1 := (Blk.new w 28 (wrV c ⟨#[]⟩)).after ((Below.refl _ _).alloc (Nat.le_refl _) (.cells #[.int .i64 0, .int .i64 0, .int .i64 0, .int .i64 0, .bool false, .bool false, .bool false, .bool false, .bool false, .string ⟨#[]⟩] 28))
  have B0 : Below w.heap.size w ((w.alloc (.cells (wrV c ⟨#[]⟩) 28)).alloc (.cells #[.int .i64 0, .int .i64 0, .int .i64 0, .int .i64 0, .bool false, .bool false, .bool false, .bool false, .bool false, .string ⟨#[]⟩] 28)) := by go_grown
  have hs2 : ((w.alloc (.cells (wrV c ⟨#[]⟩) 28)).alloc (.cells #[.int .i64 0, .int .i64 0, .int .i64 0, .int .i64 0, .bool false, .bool false, .bool false, .bool false, .bool false, .string ⟨#[]⟩] 28)).heap.size = w.heap.size + 2 := by simp
  have hBN := bldNew ((w.alloc (.cells (wrV c ⟨#[]⟩) 28)).alloc (.cells #[.int .i64 0, .int .i64 0, .int .i64 0, .int .i64 0, .bool false, .bool false, .bool false, .bool false, .bool false, .string ⟨#[]⟩] 28))
  have hal := (Below.refl ((w.alloc (.cells (wrV c ⟨#[]⟩) 28)).alloc (.cells #[.int .i64 0, .int .i64 0, .int .i64 0, .int .i64 0, .bool false, .bool false, .bool false, .bool false, .bool false, .string ⟨#[]⟩] 28)).heap.size ((w.alloc (.cells (wrV c ⟨#[]⟩) 28)).alloc (.cells #[.int .i64 0, .int .i64 0, .int .i64 0, .int .i64 0, .bool false, .bool false, .bool false, .bool false, .bool false, .string ⟨#[]⟩] 28))).alloc (Nat.le_refl _) (.cells #[.pointer none, .slice none 0 0] 51)
  have HR3 := Lib.hid (hR.after hal)
  have HC3 := Lib.hid (hC1.after hal)
  have HB3 := Lib.hid (B0.trans (hal.mono B0.size))
  have HLT : Hid (w.heap.size + 2 < (((w.alloc (.cells (wrV c ⟨#[]⟩) 28)).alloc (.cells #[.int .i64 0, .int .i64 0, .int .i64 0, .int .i64 0, .bool false, .bool false, .bool false, .bool false, .bool false, .string ⟨#[]⟩] 28)).alloc (.cells #[.pointer none, .slice none 0 0] 51)).heap.size) := Lib.hid (by simp)
  rw [hs2] at hBN
  have HO3 := Lib.hid hBN
  have HH0 := Lib.hid hH0
  have HP0 : Hid ((P 0).data.toList = []) := Lib.hid (by rw [hP0])
  obtain ⟨b, hb⟩ : ∃ b, b = w.heap.size + 1 + 1 := ⟨_, rfl⟩
  rw [show w.heap.size + 2 = b by omega] at HO3 HLT
  have HBE : Hid (b = w.heap.size + 1 + 1) := Lib.hid hb
  clear hst hR hC1 B0 hs2 hBN hal hv hcat hC0 hL0 hb0 hA hHn hPn hn hH0 hP0 hb
  obtain ⟨m, t, p, d, fr, fd, fl, fe, fm⟩ := c
  unfold wrV at HWR HR3 HC3 HB3 HO3 HLT ⊢
  simp only at HWR HR3 HC3 HB3 HO3 HLT ⊢
  go_enter Tryd.func9, Tryd.ntmps9
  go_wp2_with fail
  rw [← HBE.out]
  go_loopw [8, 10, 11, 12, 15] (fun a _ _ _ i wr => ∃ (k : Nat), k ≤ n ∧ i = .int .i64 (k : Int) ∧ a = .int .i64 (k : Int) ∧ Hid (Blk wr w.heap.size 28 #[.int .i64 m, .int .i64 t, .int .i64 p, .int .i64 d, .bool fr, .bool fd, .bool fl, .bool fe, .bool fm, .string (H k)]) ∧ Hid (Blk wr (w.heap.size + 1) 28 #[.int .i64 0, .int .i64 0, .int .i64 0, .int .i64 0, .bool false, .bool false, .bool false, .bool false, .bool false, .string ⟨#[]⟩]) ∧ Hid (BuiltF b b (P k).data.toList wr) ∧ Hid (Below w.heap.size w wr) ∧ Hid (b < wr.heap.size)) (fun _ _ _ _ i _ => n - (intOf i).toNat)
  case atStart => exact ⟨0, Nat.zero_le _, rfl, rfl, Lib.hid (by rw [HH0.out]; exact HC3.out), HR3, Lib.hid (by rw [HP0.out]; exact HO3.out), HB3, HLT⟩
  case round =>
    obtain ⟨k, hk, rfl, rfl, HG, HZ, HO, HE, HL⟩ := hrel
    have HBW := Lib.hid (HB0.out.trans (HE.out.mono hb0s))
    by_cases hlt : k < n
    · obtain ⟨ga, oa, rfl, hga, hca⟩ := HA.out (by omega)
      have hkl : k < l.length := by rw [← HN.out]; exact hlt
      have a0 := (HE.out.cell (p := ⟨ga, oa + k, none⟩) hga).trans (hca k _ (strs_get l k hkl))
      have HWK := Lib.hid (HWR.out k hkl w.heap.size wr HBW.out hb0s HG.out)
      have HPK := Lib.hid (HPX.out k hkl)
      have hsz := HSZ.out k hkl
      generalize l[k] = r at a0 HWK
      clear hca
      have HNX : Hid ((P (k + 1)).data.toList = (P k).data.toList ++ (X k).data.toList) := Lib.hid (by rw [HPK.out, app_list])
      have hps : (P k).data.toList.length + (X k).size ≤ 140737488355328 := by
        have : (P k).data.toList.length = (P k).size := rfl
        omega
      go_wp2_with fail
      refine HWK.out.mono ?_
      rintro e w3 ⟨rfl, hg3, ho3⟩
      have HG3 := Lib.hid hg3
      have HZ3 := Lib.hid (ho3.blk HZ.out (by omega))
      have HO3' := Lib.hid (ho3.built HO.out HG.out (by decide) (by decide))
      have HE3 := Lib.hid (HE.out.trans (ho3.below (Nat.le_refl _) HE.out.size))
      have HL3 := Lib.hid (Nat.lt_of_lt_of_le HL.out ho3.size)
      have HWS := Lib.hid (bldString b b _ (X k) w3 HO3'.out hps (Nat.le_of_lt HL3.out))
      rw [← HNX.out] at HWS
      generalize X k = x at HWS HPK HNX hsz hps ⊢
      clear hg3 ho3
      go_wp2_with fail
      refine HWS.out.mono ?_
      rintro e w4 ⟨rfl, hb4, hw4, hk4⟩
      have HG4 := Lib.hid (HG3.out.below hw4 (by have := HBE.out; omega))
      have HZ4 := Lib.hid (HZ3.out.below hw4 (by have := HBE.out; omega))
      have HO4 := Lib.hid hb4
      have HE4 := Lib.hid (HE3.out.trans (hw4.mono (by have := HBE.out; omega)))
      have HL4 := Lib.hid (Nat.lt_of_lt_of_le HL3.out hw4.size)
      clear hb4 hw4 hk4
      go_wp2_with fail
      go_roundw
      case rel => exact ⟨k + 1, by omega, by go_num, by go_num, HG4, HZ4, HO4, HE4, HL4⟩
      case measure => simp [intOf]; omega
    · obtain rfl : k = n := by omega
      have hgb : w.heap.size < b := by have := HBE.out; omega
      have hzb : w.heap.size + 1 < b := by have := HBE.out; omega
      have HBT := Lib.hid (bldText b b _ wr.drew HO.out (Nat.le_of_lt HL.out))
      rw [show (⟨(P k).data.toList.toArray⟩ : ByteArray) = P k from bytes_ofC _] at HBT
      go_wp2_with fail
      refine wp_region_noPanic ?_
      refine wp_region_held_drew (S := (fun W => W.cell? ⟨w.heap.size, 0, none⟩ = some (.int .i64 m) ∧ W.cell? ⟨w.heap.size, 1, none⟩ = some (.int .i64 t) ∧ W.cell? ⟨w.heap.size, 2, none⟩ = some (.int .i64 p) ∧ W.cell? ⟨w.heap.size, 3, none⟩ = some (.int .i64 d) ∧ W.cell? ⟨w.heap.size, 4, none⟩ = some (.bool fr) ∧ W.cell? ⟨w.heap.size, 5, none⟩ = some (.bool fd) ∧ W.cell? ⟨w.heap.size, 6, none⟩ = some (.bool fl) ∧ W.cell? ⟨w.heap.size, 7, none⟩ = some (.bool fe) ∧ W.cell? ⟨w.heap.size, 8, none⟩ = some (.bool fm) ∧ W.cell? ⟨w.heap.size, 9, none⟩ = some (.string (H k)) ∧ w.heap.size < b ∧ Below w.heap.size wr W)) (by kernel_rfl) (waS_start HG.out hgb) (fun hHeld => ?_)
      refine wpAnyH_take (i := 0) (oi := _) (v := .agg #[.int .i64 m, .int .i64 t, .int .i64 p, .int .i64 d, .bool fr, .bool fd, .bool fl, .bool fe, .bool fm, .string (H k)]) rfl (by kernel_rfl) (by kernel_rfl) (by kernel_rfl) (fun _ _ _ h => h) (Or.inl ⟨by rfl, ?_⟩) (by assumption) ?_
      · intro W hSw
        try dsimp only at hSw
        go_simp
      try simp only [Act.put, List.setIfInBounds_toArray, List.set_cons_zero, List.set_cons_succ]
      refine wpAnyH_take (i := 2) (oi := _) (v := .int .i64 (k : Int)) rfl (by kernel_rfl) (by kernel_rfl) (by kernel_rfl) (fun _ _ _ h => h) (Or.inl ⟨by rfl, ?_⟩) (by assumption) ?_
      · intro W hSw
        try dsimp only at hSw
        go_simp
      try simp only [Act.put, List.setIfInBounds_toArray, List.set_cons_zero, List.set_cons_succ]
      refine wpAnyH_ready (rs := [1]) (by kernel_rfl) (by simp) ?_
      refine AllReadyH.cons (o := _) rfl (fun K hK => ?_) AllReadyH.nil
      go_simp
      go_at_call 24
      refine HBT.out.mono ?_
      rintro e w5 ⟨rfl, hb5⟩
      have HZ5 := Lib.hid (HZ.out.below hb5.drewL hzb)
      have HB5 := Lib.hid (HE.out.trans ((by exact hb5.drewL : Below b wr w5).mono (by omega)))
      refine hK.out _ _ (waS_step hb5 hHeld) (fun hHeld2 => ?_)
      clear hK K hHeld hb5
      try simp only [Act.put, List.setIfInBounds_toArray, List.set_cons_zero, List.set_cons_succ]
      refine wpAnyH_ready (rs := [3]) (by kernel_rfl) (by simp) ?_
      refine AllReadyH.cons (o := _) rfl (fun K hK => ?_) AllReadyH.nil
      rw [if_pos (by rfl)]
      refine wp_store_row _ _ _ rfl (w.heap.size + 1) #[.int .i64 m, .int .i64 t, .int .i64 p, .int .i64 d, .bool fr, .bool fd, .bool fl, .bool fe, .bool fm, .string (H k)] rfl rfl 28 _ HZ5.out size_wr rfl (one_wr _ _ _ _ _ _ _ _ _ _) ?_
      refine hK.out _ _ (waS_row (by omega) hHeld2) (fun hHeld3 => ?_)
      clear hK K hHeld2
      try simp only [Act.put, List.setIfInBounds_toArray, List.set_cons_zero, List.set_cons_succ]
      refine wpAnyH_ready (rs := [4]) (by kernel_rfl) (by simp) ?_
      refine AllReadyH.cons (o := _) rfl (fun K hK => ?_) AllReadyH.nil
      go_simp
      refine hK.out _ _ hHeld3 (fun _ => ?_)
      clear hK K
      try simp only [Act.put, List.setIfInBounds_toArray, List.set_cons_zero, List.set_cons_succ]
      refine wpAnyH_ready (rs := [5]) (by kernel_rfl) (by simp) ?_
      refine AllReadyH.cons (o := _) rfl (fun K hK => ?_) AllReadyH.nil
      go_simp
      refine hK.out _ _ hHeld3 (fun _ => ?_)
      clear hK K
      try simp only [Act.put, List.setIfInBounds_toArray, List.set_cons_zero, List.set_cons_succ]
      refine wpAnyH_done (by kernel_rfl) ?_ _
      refine NoPanic.normal ?_
      obtain ⟨c0, c1, c2, c3, c4, c5, c6, c7, c8, c9⟩ := ((HZ5.out.row (cs' := #[.int .i64 m, .int .i64 t, .int .i64 p, .int .i64 d, .bool fr, .bool fd, .bool fl, .bool fe, .bool fm, .string (H k)])).ten)
      clear hHeld3
      go_wp2_with fail
      exact bodyPost_ret (v := .tuple #[.agg #[.int .i64 m, .int .i64 t, .int .i64 p, .int .i64 d, .bool fr, .bool fd, .bool fl, .bool fe, .bool fm, .string (H k)], .string (P k), .int .i64 (k : Int)]) (by simp [results, Tryd.results9, go_sem, c0, c1, c2, c3, c4, c5, c6, c7, c8, c9]) rfl ⟨rfl, below_row HB5.out (by omega)⟩
end Go.Proofs.YtdplcbfiidnfcaaDoor
