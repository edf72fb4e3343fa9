/- SplitText: the model's. -/
import Derived.Test.YtjdbkpckhgncbaaDoorBD
import Derived.Test.YtjdbkpckhgncbaaDoorBB
import Derived.Deep.RegionHeld3
namespace Go.Proofs.YtjdbkpckhgncbaaDoor
open Go.RowKit
set_option linter.unusedVariables false

/-- What a region of l05Cell keeps: the bytes of the cell, the result's block, all that was there. -/
def CelS (w W : World) (v : Value) (l : List UInt8) : Prop :=
  Rd W v (u8s l) ∧ (∃ cs, Blk W (w.heap.size + 1) 44 cs ∧ cs.size = 2) ∧ Below w.heap.size w W
theorem CelS.below {w W W' : World} {v : Value} {l : List UInt8} (h : CelS w W v l) (hb : Below W.heap.size W W') : CelS w W' v l := by
  obtain ⟨h1, ⟨cs, h2, h3⟩, h4⟩ := h
  exact ⟨h1.below hb, ⟨cs, h2.after hb, h3⟩, h4.trans (hb.mono h4.size)⟩
theorem CelS.put {w W : World} {v : Value} {l : List UInt8} (h : CelS w W v l) (hv : Rd w v (u8s l)) (u u' : Value) : CelS w ((W.setCell ⟨w.heap.size + 1, 0, none⟩ u).setCell ⟨w.heap.size + 1, 1, none⟩ u') v l := by
  obtain ⟨h1, ⟨cs, h2, h3⟩, h4⟩ := h
  have hb : Below w.heap.size w ((W.setCell ⟨w.heap.size + 1, 0, none⟩ u).setCell ⟨w.heap.size + 1, 1, none⟩ u') := (h4.setCell (by show _ ≤ w.heap.size + 1; omega) u).setCell (by show _ ≤ w.heap.size + 1; omega) u'
  exact ⟨hv.below hb, ⟨_, (h2.set 0 u).set 1 u', by simp [h3]⟩, hb⟩
theorem two_cells {W : World} {g : Nat} {T : TypeId} {cs : Array Value} (h : Blk W g T cs) (hc : cs.size = 2) (a b : Value) : Blk ((W.setCell ⟨g, 0, none⟩ a).setCell ⟨g, 1, none⟩ b) g T #[a, b] := by
  have h2 := (h.set 0 a).set 1 b
  obtain ⟨l⟩ := cs
  match l, hc with
  | [u, v], _ => exact h2
theorem last11 {p0 p1 p2 p3 p4 p5 p6 p7 p8 p9 q : Prop} (h : p0 ∧ p1 ∧ p2 ∧ p3 ∧ p4 ∧ p5 ∧ p6 ∧ p7 ∧ p8 ∧ p9 ∧ Hid q) : q := h.2.2.2.2.2.2.2.2.2.2
set_option maxRecDepth 100000 in
set_option maxHeartbeats 4000000 in
theorem specCell (c : Cfg) (v : Value) (l : List UInt8) (w : World) (hv : Rd w v (u8s l)) (hs : l.length ≤ 1048576) :
    Calls Tryd.prog 82 #[.agg (cfgV c), v] w fun e w' => e = .returned (.agg #[.string ⟨l.toArray⟩, .int .i64 (celW c.fm ⟨l.toArray⟩ 0 : Int)]) ∧ Below w.heap.size w w' := by
  have hsz : (⟨l.toArray⟩ : ByteArray).size ≤ 1048576 := by show l.toArray.size ≤ _; simpa using hs
  have HCW := Lib.hid (fun W => specCelW c ⟨l.toArray⟩ W hsz)
  have HCV := Lib.hid (fun W (h : Rd W v (u8s l)) => conv_rd l h)
  obtain ⟨x, hx⟩ : ∃ x : ByteArray, x = ⟨l.toArray⟩ := ⟨_, rfl⟩
  rw [← hx] at HCW HCV ⊢
  obtain ⟨z, hz⟩ : ∃ z : Int, z = (celW c.fm x 0 : Int) := ⟨_, rfl⟩
  rw [← hz] at HCW ⊢
  have B0 := Lib.hid (by go_grown : Below w.heap.size w ((w.alloc (.cells (cfgV c) 24)).alloc (.cells #[.string ⟨#[]⟩, .int .i64 0] 44)))
  have H1 := Lib.hid ((Blk.new w 24 (cfgV c)).after ((Below.refl _ _).alloc (Nat.le_refl _) (.cells #[.string ⟨#[]⟩, .int .i64 0] 44)))
  have h2 := Blk.new (w.alloc (.cells (cfgV c) 24)) 44 #[.string ⟨#[]⟩, .int .i64 0]
  rw [show (w.alloc (.cells (cfgV c) 24)).heap.size = w.heap.size + 1 by simp] at h2
  have HS0 := Lib.hid (show CelS w _ v l from ⟨hv.below B0.out, ⟨_, h2, rfl⟩, B0.out⟩)
  have hcv0 := HCV.out _ (hv.below B0.out)
  clear hx hz h2 hsz
  obtain ⟨m, t, p, d, fr, fd, fl, fe, fm⟩ := c
  unfold cfgV at HCW B0 H1 HS0 hcv0 ⊢
  simp only at HCW B0 H1 HS0 hcv0 ⊢
  obtain ⟨w0, hw0⟩ : ∃ w0, w0 = (w.alloc (.cells #[.int .i64 m, .int .i64 t, .int .i64 p, .int .i64 d, .bool fr, .bool fd, .bool fl, .bool fe, .bool fm] 24)).alloc (.cells #[.string ⟨#[]⟩, .int .i64 0] 44) := ⟨_, rfl⟩
  have hsz0 : w0.heap.size = w.heap.size + 2 := by rw [hw0]; simp
  rw [← hw0] at B0 H1 HS0 hcv0
  have HW0 := Lib.hid hw0
  clear hw0
  have HRV := Lib.hid hv
  obtain ⟨A, cp, rfl, _⟩ := hv
  rw [u8s_len] at *
  obtain ⟨c0, c1, c2, c3, c4, c5, c6, c7, c8⟩ := (show Boxed w0 w.heap.size m t p d fr fd fl fe fm from ⟨H1.out.cell 0, H1.out.cell 1, H1.out.cell 2, H1.out.cell 3, H1.out.cell 4, H1.out.cell 5, H1.out.cell 6, H1.out.cell 7, H1.out.cell 8⟩)
  have HCV2 := Lib.hid (fun (W : World) (h : CelS w W (.slice A l.length cp) l) => HCV.out W (by have := h.1; exact this))
  have hst : ∀ W W' : World, ((convert 22 9 (.slice A l.length cp)).run Tryd.prog W = .ok (.string x) W ∧ W.cell? ⟨w.heap.size, 0, none⟩ = some (.int .i64 m) ∧ W.cell? ⟨w.heap.size, 1, none⟩ = some (.int .i64 t) ∧ W.cell? ⟨w.heap.size, 2, none⟩ = some (.int .i64 p) ∧ W.cell? ⟨w.heap.size, 3, none⟩ = some (.int .i64 d) ∧ W.cell? ⟨w.heap.size, 4, none⟩ = some (.bool fr) ∧ W.cell? ⟨w.heap.size, 5, none⟩ = some (.bool fd) ∧ W.cell? ⟨w.heap.size, 6, none⟩ = some (.bool fl) ∧ W.cell? ⟨w.heap.size, 7, none⟩ = some (.bool fe) ∧ W.cell? ⟨w.heap.size, 8, none⟩ = some (.bool fm) ∧ Hid (CelS w W (.slice A l.length cp) l)) → Below W.heap.size W W' → ((convert 22 9 (.slice A l.length cp)).run Tryd.prog W' = .ok (.string x) W' ∧ W'.cell? ⟨w.heap.size, 0, none⟩ = some (.int .i64 m) ∧ W'.cell? ⟨w.heap.size, 1, none⟩ = some (.int .i64 t) ∧ W'.cell? ⟨w.heap.size, 2, none⟩ = some (.int .i64 p) ∧ W'.cell? ⟨w.heap.size, 3, none⟩ = some (.int .i64 d) ∧ W'.cell? ⟨w.heap.size, 4, none⟩ = some (.bool fr) ∧ W'.cell? ⟨w.heap.size, 5, none⟩ = some (.bool fd) ∧ W'.cell? ⟨w.heap.size, 6, none⟩ = some (.bool fl) ∧ W'.cell? ⟨w.heap.size, 7, none⟩ = some (.bool fe) ∧ W'.cell? ⟨w.heap.size, 8, none⟩ = some (.bool fm) ∧ Hid (CelS w W' (.slice A l.length cp) l)) := fun W W' h hb => by
    obtain ⟨_, h0, h1, h2, h3, h4, h5, h6, h7, h8, h9⟩ := h
    have h10 := h9.out.below hb
    have hlt : w.heap.size < W.heap.size := by obtain ⟨cs, k1, _⟩ := h9.out.2.1; have := k1.lt; omega
    exact ⟨HCV2.out W' h10, (hb.cell (p := ⟨w.heap.size, 0, none⟩) hlt).trans h0, (hb.cell (p := ⟨w.heap.size, 1, none⟩) hlt).trans h1, (hb.cell (p := ⟨w.heap.size, 2, none⟩) hlt).trans h2, (hb.cell (p := ⟨w.heap.size, 3, none⟩) hlt).trans h3, (hb.cell (p := ⟨w.heap.size, 4, none⟩) hlt).trans h4, (hb.cell (p := ⟨w.heap.size, 5, none⟩) hlt).trans h5, (hb.cell (p := ⟨w.heap.size, 6, none⟩) hlt).trans h6, (hb.cell (p := ⟨w.heap.size, 7, none⟩) hlt).trans h7, (hb.cell (p := ⟨w.heap.size, 8, none⟩) hlt).trans h8, Lib.hid h10⟩
  have HST := Lib.hid hst
  clear hst
  have hss : ∀ (W : World) (u u' : Value), ((convert 22 9 (.slice A l.length cp)).run Tryd.prog W = .ok (.string x) W ∧ W.cell? ⟨w.heap.size, 0, none⟩ = some (.int .i64 m) ∧ W.cell? ⟨w.heap.size, 1, none⟩ = some (.int .i64 t) ∧ W.cell? ⟨w.heap.size, 2, none⟩ = some (.int .i64 p) ∧ W.cell? ⟨w.heap.size, 3, none⟩ = some (.int .i64 d) ∧ W.cell? ⟨w.heap.size, 4, none⟩ = some (.bool fr) ∧ W.cell? ⟨w.heap.size, 5, none⟩ = some (.bool fd) ∧ W.cell? ⟨w.heap.size, 6, none⟩ = some (.bool fl) ∧ W.cell? ⟨w.heap.size, 7, none⟩ = some (.bool fe) ∧ W.cell? ⟨w.heap.size, 8, none⟩ = some (.bool fm) ∧ Hid (CelS w W (.slice A l.length cp) l)) → ((convert 22 9 (.slice A l.length cp)).run Tryd.prog ((W.setCell ⟨w.heap.size + 1, 0, none⟩ u).setCell ⟨w.heap.size + 1, 1, none⟩ u') = .ok (.string x) ((W.setCell ⟨w.heap.size + 1, 0, none⟩ u).setCell ⟨w.heap.size + 1, 1, none⟩ u') ∧ ((W.setCell ⟨w.heap.size + 1, 0, none⟩ u).setCell ⟨w.heap.size + 1, 1, none⟩ u').cell? ⟨w.heap.size, 0, none⟩ = some (.int .i64 m) ∧ ((W.setCell ⟨w.heap.size + 1, 0, none⟩ u).setCell ⟨w.heap.size + 1, 1, none⟩ u').cell? ⟨w.heap.size, 1, none⟩ = some (.int .i64 t) ∧ ((W.setCell ⟨w.heap.size + 1, 0, none⟩ u).setCell ⟨w.heap.size + 1, 1, none⟩ u').cell? ⟨w.heap.size, 2, none⟩ = some (.int .i64 p) ∧ ((W.setCell ⟨w.heap.size + 1, 0, none⟩ u).setCell ⟨w.heap.size + 1, 1, none⟩ u').cell? ⟨w.heap.size, 3, none⟩ = some (.int .i64 d) ∧ ((W.setCell ⟨w.heap.size + 1, 0, none⟩ u).setCell ⟨w.heap.size + 1, 1, none⟩ u').cell? ⟨w.heap.size, 4, none⟩ = some (.bool fr) ∧ ((W.setCell ⟨w.heap.size + 1, 0, none⟩ u).setCell ⟨w.heap.size + 1, 1, none⟩ u').cell? ⟨w.heap.size, 5, none⟩ = some (.bool fd) ∧ ((W.setCell ⟨w.heap.size + 1, 0, none⟩ u).setCell ⟨w.heap.size + 1, 1, none⟩ u').cell? ⟨w.heap.size, 6, none⟩ = some (.bool fl) ∧ ((W.setCell ⟨w.heap.size + 1, 0, none⟩ u).setCell ⟨w.heap.size + 1, 1, none⟩ u').cell? ⟨w.heap.size, 7, none⟩ = some (.bool fe) ∧ ((W.setCell ⟨w.heap.size + 1, 0, none⟩ u).setCell ⟨w.heap.size + 1, 1, none⟩ u').cell? ⟨w.heap.size, 8, none⟩ = some (.bool fm) ∧ Hid (CelS w ((W.setCell ⟨w.heap.size + 1, 0, none⟩ u).setCell ⟨w.heap.size + 1, 1, none⟩ u') (.slice A l.length cp) l)) := fun W u u' h => by
    obtain ⟨_, h0, h1, h2, h3, h4, h5, h6, h7, h8, h9⟩ := h
    have h10 := CelS.put h9.out HRV.out u u'
    have hb : Below (w.heap.size + 1) W ((W.setCell ⟨w.heap.size + 1, 0, none⟩ u).setCell ⟨w.heap.size + 1, 1, none⟩ u') := ((Below.refl _ _).setCell (by show _ ≤ w.heap.size + 1; omega) u).setCell (by show _ ≤ w.heap.size + 1; omega) u'
    have hlt : w.heap.size < w.heap.size + 1 := by omega
    exact ⟨HCV2.out _ h10, (hb.cell (p := ⟨w.heap.size, 0, none⟩) hlt).trans h0, (hb.cell (p := ⟨w.heap.size, 1, none⟩) hlt).trans h1, (hb.cell (p := ⟨w.heap.size, 2, none⟩) hlt).trans h2, (hb.cell (p := ⟨w.heap.size, 3, none⟩) hlt).trans h3, (hb.cell (p := ⟨w.heap.size, 4, none⟩) hlt).trans h4, (hb.cell (p := ⟨w.heap.size, 5, none⟩) hlt).trans h5, (hb.cell (p := ⟨w.heap.size, 6, none⟩) hlt).trans h6, (hb.cell (p := ⟨w.heap.size, 7, none⟩) hlt).trans h7, (hb.cell (p := ⟨w.heap.size, 8, none⟩) hlt).trans h8, Lib.hid h10⟩
  have HSS := Lib.hid hss
  clear hss
  go_enter Tryd.func82, Tryd.ntmps82
  go_wp2_with fail
  rw [← HW0.out]
  go_region_held3 (fun W => (convert 22 9 (.slice A l.length cp)).run Tryd.prog W = .ok (.string x) W ∧ W.cell? ⟨w.heap.size, 0, none⟩ = some (.int .i64 m) ∧ W.cell? ⟨w.heap.size, 1, none⟩ = some (.int .i64 t) ∧ W.cell? ⟨w.heap.size, 2, none⟩ = some (.int .i64 p) ∧ W.cell? ⟨w.heap.size, 3, none⟩ = some (.int .i64 d) ∧ W.cell? ⟨w.heap.size, 4, none⟩ = some (.bool fr) ∧ W.cell? ⟨w.heap.size, 5, none⟩ = some (.bool fd) ∧ W.cell? ⟨w.heap.size, 6, none⟩ = some (.bool fl) ∧ W.cell? ⟨w.heap.size, 7, none⟩ = some (.bool fe) ∧ W.cell? ⟨w.heap.size, 8, none⟩ = some (.bool fm) ∧ Hid (CelS w W (.slice A l.length cp) l))
    (first | exact HST.out _ _ (by assumption) (by assumption) | (refine HST.out _ _ ⟨hcv0, c0, c1, c2, c3, c4, c5, c6, c7, c8, HS0⟩ ?_; exact Below.drew (Below.refl _ _)) | exact HSS.out _ _ _ (by assumption) | exact HSS.out _ _ _ (HST.out _ _ (by assumption) (by assumption)))
    (first | (go_at_call 100; refine (HCW.out _).mono ?_; rintro e w1 ⟨rfl, hb1⟩; obtain ⟨hr1, ⟨cs1, hk1, hc1⟩, hw1⟩ := CelS.below (last11 (by assumption)) hb1; obtain ⟨u0, hu0⟩ : ∃ u, cs1[0]? = some u := ⟨_, Array.getElem?_eq_getElem (show 0 < cs1.size by omega)⟩; obtain ⟨u1, hu1⟩ : ∃ u, cs1[1]? = some u := ⟨_, Array.getElem?_eq_getElem (show 1 < cs1.size by omega)⟩; have q0 : w1.cell? ⟨w.heap.size + 1, 0, none⟩ = some u0 := (hk1.cell 0).trans hu0; have q1 : w1.cell? ⟨w.heap.size + 1, 1, none⟩ = some u1 := (hk1.cell 1).trans hu1; have g0 := hk1.free 0; have g1 := hk1.free 1; have k2 := Lib.hid (two_cells hk1 hc1 (.string x) (.int .i64 z)); clear hu0 hu1 hc1))
  all_goals
    have hbz := Lib.hid (last11 (q := CelS w ((w1.setCell ⟨w.heap.size + 1, 0, none⟩ (.string x)).setCell ⟨w.heap.size + 1, 1, none⟩ (.int .i64 z)) (.slice A l.length cp) l) (by assumption)).2.2
    have d0 := k2.out.cell 0
    have d1 := k2.out.cell 1
    go_wp2_with fail
    go_wp2_with fail
    exact bodyPost_ret (v := .agg #[.string x, .int .i64 z]) (by simp [results, Tryd.results82, go_sem, d0, d1]) rfl ⟨rfl, hbz.out⟩
theorem spm_start (w : World) (c : Cfg) : SpM w ((((w.alloc (.cells (cfgV c) 24)).alloc (.cells #[] 46)).alloc (.cells #[.slice none 0 0, .string ⟨#[]⟩, .int .i64 0, .int .i64 0] 46)).alloc (.cells #[] 5)) c (w.heap.size + 1 + 1) (.slice (some ⟨w.heap.size + 1, 0, none⟩) 0 0) (.slice none 0 0) (.slice (some ⟨w.heap.size + 1 + 1 + 1, 0, none⟩) 0 0) sp0 := by
  have hb : ∀ (W : World) (o : Obj), Below W.heap.size W (W.alloc o) := fun W o => (Below.refl _ _).alloc (Nat.le_refl _) o
  have a1 := ((Blk.new w 24 (cfgV c)).after (hb _ (.cells #[] 46))).after (hb _ (.cells #[.slice none 0 0, .string ⟨#[]⟩, .int .i64 0, .int .i64 0] 46)) |>.after (hb _ (.cells #[] 5))
  obtain ⟨w1, hw1⟩ : ∃ w1, w1 = w.alloc (.cells (cfgV c) 24) := ⟨_, rfl⟩
  have z1 : w1.heap.size = w.heap.size + 1 := by rw [hw1]; simp
  have b1 : Below w.heap.size w w1 := by rw [hw1]; exact hb _ _
  rw [← hw1] at a1 ⊢
  have o1 := World.ownsRow_lit (base := w.heap.size) (e := 46) (size := 4) w1 #[] 0 (by omega) (by unfold maxLen; omega) rfl
  obtain ⟨w2, hw2⟩ : ∃ w2, w2 = w1.alloc (.cells #[] 46) := ⟨_, rfl⟩
  have z2 : w2.heap.size = w.heap.size + 1 + 1 := by rw [hw2]; simp [z1]
  have b2 : Below w.heap.size w w2 := b1.trans ((by rw [hw2]; exact hb _ _ : Below w1.heap.size w1 w2).mono (by omega))
  rw [← hw2] at a1 o1 ⊢
  have c2 := (Blk.new w2 46 #[.slice none 0 0, .string ⟨#[]⟩, .int .i64 0, .int .i64 0]).after (hb _ (.cells #[] 5))
  have o2 := (own_below o1 (hb w2 (.cells #[.slice none 0 0, .string ⟨#[]⟩, .int .i64 0, .int .i64 0] 46)))
  obtain ⟨w3, hw3⟩ : ∃ w3, w3 = w2.alloc (.cells #[.slice none 0 0, .string ⟨#[]⟩, .int .i64 0, .int .i64 0] 46) := ⟨_, rfl⟩
  have z3 : w3.heap.size = w.heap.size + 1 + 1 + 1 := by rw [hw3]; simp [z2]
  have b3 : Below w.heap.size w w3 := b2.trans ((by rw [hw3]; exact hb _ _ : Below w2.heap.size w2 w3).mono (by omega))
  rw [← hw3] at a1 c2 o2 ⊢
  have o3 := own_below o2 (hb w3 (.cells #[] 5))
  have u3 := World.ownsRow_lit (base := w.heap.size) (e := 5) (size := 1) w3 #[] 0 (by omega) (by unfold maxLen; omega) rfl
  rw [z2] at c2
  rw [z1] at o3
  rw [z3] at u3
  refine ⟨b3.trans ((hb w3 _).mono (by omega)), a1, c2, World.ownsRow_nil _ _ _ _, u3, OwnL.nilAt _ _ _ _ o3, ?_, by omega⟩
  intro h
  simp only [Value.ownBlock, Option.some.injEq] at h
  omega
end Go.Proofs.YtjdbkpckhgncbaaDoor
