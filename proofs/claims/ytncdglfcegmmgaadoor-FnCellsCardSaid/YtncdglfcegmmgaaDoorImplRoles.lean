/- The program's rolesOf: the roles of all bytes, in a slice of its own. -/
import Derived.Test.YtncdglfcegmmgaaDoorRoles
namespace Go.Proofs.YtncdglfcegmmgaaDoor
open Go.RowKit
set_option linter.unusedVariables false

/-- The first k of n roles have been filled in. -/
def MadeR (esc : Bool) (s : ByteArray) (cs : Array Value) (k : Nat) : Prop := cs.size = s.size ∧ ∀ j, j < k → cs[j]? = some (.int .i8 (roleAt esc s j))
theorem MadeR.step {esc : Bool} {s : ByteArray} {cs : Array Value} {k : Nat} (h : MadeR esc s cs k) (hk : k < s.size) : MadeR esc s (cs.setIfInBounds k (.int .i8 (roleAt esc s k))) (k + 1) := by
  refine ⟨by simpa using h.1, fun j hj => ?_⟩
  simp only [Array.getElem?_setIfInBounds]
  by_cases e : k = j
  · subst e
    rw [if_pos rfl, if_pos (by rw [h.1]; exact hk)]
  · rw [if_neg e]; exact h.2 j (by omega)
/-- A slice that holds the roles of a text. -/
def RolesAt (B : Nat) (w : World) (v : Value) (esc : Bool) (s : ByteArray) : Prop :=
  ∃ (g cap : Nat) (cs : Array Value), v = .slice (some ⟨g, 0, none⟩) s.size cap ∧ B ≤ g ∧ Blk w g 52 cs ∧ MadeR esc s cs s.size
theorem Tryd.infoRole : (Tryd.prog.info? 52).map (fun i => (i.zero, i.size, i.bytes)) = some (some (.int .i8 0), 1, 1) := by kernel_rfl
theorem box_set {w W : World} {B g j : Nat} {u v0 v1 v2 v3 v4 v5 v6 v7 v8 : Value} (hne : B < g) (hwg : w.heap.size ≤ g)
    (h : W.cell? ⟨B, 0, none⟩ = some v0 ∧ W.cell? ⟨B, 1, none⟩ = some v1 ∧ W.cell? ⟨B, 2, none⟩ = some v2 ∧ W.cell? ⟨B, 3, none⟩ = some v3 ∧ W.cell? ⟨B, 4, none⟩ = some v4 ∧ W.cell? ⟨B, 5, none⟩ = some v5 ∧ W.cell? ⟨B, 6, none⟩ = some v6 ∧ W.cell? ⟨B, 7, none⟩ = some v7 ∧ W.cell? ⟨B, 8, none⟩ = some v8 ∧ Below w.heap.size w W ∧ B + 1 ≤ W.heap.size) :
    (W.setCell ⟨g, j, none⟩ u).cell? ⟨B, 0, none⟩ = some v0 ∧ (W.setCell ⟨g, j, none⟩ u).cell? ⟨B, 1, none⟩ = some v1 ∧ (W.setCell ⟨g, j, none⟩ u).cell? ⟨B, 2, none⟩ = some v2 ∧ (W.setCell ⟨g, j, none⟩ u).cell? ⟨B, 3, none⟩ = some v3 ∧ (W.setCell ⟨g, j, none⟩ u).cell? ⟨B, 4, none⟩ = some v4 ∧ (W.setCell ⟨g, j, none⟩ u).cell? ⟨B, 5, none⟩ = some v5 ∧ (W.setCell ⟨g, j, none⟩ u).cell? ⟨B, 6, none⟩ = some v6 ∧ (W.setCell ⟨g, j, none⟩ u).cell? ⟨B, 7, none⟩ = some v7 ∧ (W.setCell ⟨g, j, none⟩ u).cell? ⟨B, 8, none⟩ = some v8 ∧ Below w.heap.size w (W.setCell ⟨g, j, none⟩ u) ∧ B + 1 ≤ (W.setCell ⟨g, j, none⟩ u).heap.size := by
  obtain ⟨h0, h1, h2, h3, h4, h5, h6, h7, h8, h9, h10⟩ := h
  have k : ∀ i v, W.cell? ⟨B, i, none⟩ = some v → (W.setCell ⟨g, j, none⟩ u).cell? ⟨B, i, none⟩ = some v := fun i v hv =>
    (((Below.refl (B + 1) W).setCell (p := ⟨g, j, none⟩) (by show B + 1 ≤ g; omega) u).cell (p := ⟨B, i, none⟩) (by show B < B + 1; omega)).trans hv
  exact ⟨k _ _ h0, k _ _ h1, k _ _ h2, k _ _ h3, k _ _ h4, k _ _ h5, k _ _ h6, k _ _ h7, k _ _ h8, h9.setCell (p := ⟨g, j, none⟩) hwg u, by simpa using h10⟩
set_option maxRecDepth 100000 in
set_option maxHeartbeats 4000000 in
theorem implRolesOf (c : Cfg) (s : ByteArray) (w : World) (hs : s.size ≤ 1048576) :
    Calls Tryd.prog 23 #[.agg (cfgV c), .string s] w fun e w' => (∃ v, e = .returned v ∧ RolesAt w.heap.size w' v c.fe s) ∧ Below w.heap.size w w' := by
  obtain ⟨i0, hi0, hz0, hz1, hz2⟩ := info_parts Tryd.infoRole
  have HRO := Lib.hid (fun x W => readOrdinary_any c x W)
  have HRE := Lib.hid (fun x W h => readEscaped_any c x W h)
  obtain ⟨m, t, p, d, fr, fd, fl, fe, fm⟩ := c
  unfold cfgV at HRO HRE ⊢
  simp only at HRO HRE ⊢
  go_enter Tryd.func23, Tryd.ntmps23
  go_wp2_with (at_make; refine wpList_make_full _ rfl _ _ 49 rfl (w.heap.size + 1) 52 i0 _ 1 Tryd.underlying49 hi0 hz0 hz1 _ _ _ _ s.size rfl rfl rfl rfl (by rw [hz2]; omega) (by unfold maxLen; omega) (by simp) ?_; intro w1 hown1 hgr1; have HO1 := Lib.hid hown1; have HG1 := Lib.hid hgr1; clear hown1 hgr1)
  obtain ⟨cs0, hblk, hcs0, _⟩ := own_blk HO1.out rfl
  rw [show ∀ o, (w.alloc o).heap.size = w.heap.size + 1 from fun o => by simp] at hblk
  have hsz0 : cs0.size = s.size := by rw [← Array.length_toList, hcs0]; have := HO1.out.1; simpa using this
  have hwb : Below (w.heap.size + 1) (w.alloc (.cells #[.int .i64 m, .int .i64 t, .int .i64 p, .int .i64 d, .bool fr, .bool fd, .bool fl, .bool fe, .bool fm] 24)) w1 := (Below.refl _ _).grown HG1.out (by simp) (fun k hk => by cases hk)
  have HB0 := Lib.hid hblk
  have HM0 : Hid (MadeR fe s cs0 0) := Lib.hid ⟨hsz0, fun j hj => absurd hj (by omega)⟩
  have hlt0 : w.heap.size + 1 < w1.heap.size := hblk.lt
  have hbx := (Boxed.new w 24 m t p d fr fd fl fe fm).below hwb (by omega)
  have HX0 : Hid (Boxed w1 w.heap.size m t p d fr fd fl fe fm ∧ Below w.heap.size w w1) := Lib.hid ⟨hbx, (by go_grown : Below w.heap.size w (w.alloc _)).trans (hwb.mono (by omega))⟩
  clear hblk hcs0 hsz0 HO1 HG1 hbx hwb
  go_loopw [6, 7, 13] (fun st _ i wr => ∃ (k : Nat) (cs : Array Value), k ≤ s.size ∧ i = .int .i64 (k : Int) ∧ st = stateV (rawAt fe s k) ∧ Hid (Blk wr (w.heap.size + 1) 52 cs) ∧ Hid (MadeR fe s cs k) ∧ Hid (Boxed wr w.heap.size m t p d fr fd fl fe fm ∧ Below w.heap.size w wr)) (fun _ _ i _ => s.size - (intOf i).toNat)
  case atStart => exact ⟨0, cs0, Nat.zero_le _, rfl, rfl, HB0, HM0, HX0⟩
  case round =>
    obtain ⟨k, cs, hk, rfl, rfl, HB, HM, HX⟩ := hrel
    by_cases hlt : k < s.size
    · have HST := Lib.hid (HM.out.step hlt)
      have HRS := Lib.hid (rawAt_succ fe s k hlt)
      have HRA := Lib.hid (roleAt_lt fe s k hlt)
      obtain ⟨⟨c0, c1, c2, c3, c4, c5, c6, c7, c8⟩, hbw⟩ := HX.out
      have HBW := Lib.hid hbw
      have hszr : w.heap.size + 1 < wr.heap.size := HB.out.lt
      have hs0 := HM.out.1
      obtain ⟨u0, hu0⟩ : ∃ u, cs[k]? = some u := ⟨_, Array.getElem?_eq_getElem (show k < cs.size by omega)⟩
      have HU : Hid (∀ W, Below (w.heap.size + 2) wr W → W.cell? ⟨w.heap.size + 1, k, none⟩ = some u0 ∧ W.frozen? ⟨w.heap.size + 1, k, none⟩ = false) := Lib.hid (fun W hb => ⟨((HB.out.below hb (by omega)).cell _).trans hu0, (HB.out.below hb (by omega)).free _⟩)
      have i0 : (0 : Int) ≤ (k : Int) := by omega
      have i1 : (k : Int) < (s.size : Int) := by omega
      clear hs0 hu0 hbw
      have HF : Hid (rawAt fe s k = true → fe = true) := Lib.hid (fun h => by cases fe with | true => rfl | false => rw [rawAt_no] at h; exact h)
      cases hraw : rawAt fe s k with
      | false =>
        rw [hraw] at HRS HRA
        clear hraw HF
        rw [stateV_f]
        go_wp2_with fail
        go_region_held3 (fun W => W.cell? ⟨w.heap.size, 0, none⟩ = some (.int .i64 m) ∧ W.cell? ⟨w.heap.size, 1, none⟩ = some (.int .i64 t) ∧ W.cell? ⟨w.heap.size, 2, none⟩ = some (.int .i64 p) ∧ W.cell? ⟨w.heap.size, 3, none⟩ = some (.int .i64 d) ∧ W.cell? ⟨w.heap.size, 4, none⟩ = some (.bool fr) ∧ W.cell? ⟨w.heap.size, 5, none⟩ = some (.bool fd) ∧ W.cell? ⟨w.heap.size, 6, none⟩ = some (.bool fl) ∧ W.cell? ⟨w.heap.size, 7, none⟩ = some (.bool fe) ∧ W.cell? ⟨w.heap.size, 8, none⟩ = some (.bool fm) ∧ Below w.heap.size w W ∧ w.heap.size + 1 ≤ W.heap.size)
          (first | exact ⟨c0, c1, c2, c3, c4, c5, c6, c7, c8, HBW.out.drew, by simp; omega⟩ | exact box_step (by assumption) (by assumption) | exact box_set (by omega) (by omega) (by assumption))
          (first | (go_at_call 43; refine (HRO.out _ _).mono ?_; rintro e w2 ⟨rfl, hb2⟩; obtain ⟨q0, q1⟩ := HU.out w2 (((Below.refl _ wr).drew).trans (hb2.mono (by simp; omega)))))
        have HB2w := Lib.hid (HB.out.below ((Below.refl _ wr).drew.trans (hb2.mono (by simp; omega)) : Below (w.heap.size + 2) wr w2) (by omega))
        have HW2w := Lib.hid (HBW.out.drew.trans (hb2.mono HBW.out.drew.size))
        have HX2 : Hid (Boxed w2 w.heap.size m t p d fr fd fl fe fm) := Lib.hid (Boxed.below (W := wr) ⟨c0, c1, c2, c3, c4, c5, c6, c7, c8⟩ ((Below.refl _ wr).drew.trans (hb2.mono (by simp; omega)) : Below (w.heap.size + 2) wr w2) (by omega))
        clear hb2 q0 q1 c0 c1 c2 c3 c4 c5 c6 c7 c8
        go_wp2_with fail
        go_roundw
        case rel => exact ⟨k + 1, _, by omega, by go_num, by rw [HRS.out], Lib.hid (HB2w.out.set k _), Lib.hid (by have := HST.out; rw [HRA.out] at this; exact this), Lib.hid ⟨HX2.out.below ((Below.refl (w.heap.size + 1) w2).setCell (p := ⟨w.heap.size + 1, k, none⟩) (Nat.le_refl _) _) (by omega), HW2w.out.setCell (p := ⟨w.heap.size + 1, k, none⟩) (by show w.heap.size ≤ w.heap.size + 1; omega) _⟩⟩
        case measure => simp [intOf]; omega
      | true =>
        rw [hraw] at HRS HRA
        have HFE := Lib.hid (HF.out hraw)
        clear hraw HF
        rw [stateV_t]
        go_wp2_with fail
        go_region_held3 (fun W => W.cell? ⟨w.heap.size, 0, none⟩ = some (.int .i64 m) ∧ W.cell? ⟨w.heap.size, 1, none⟩ = some (.int .i64 t) ∧ W.cell? ⟨w.heap.size, 2, none⟩ = some (.int .i64 p) ∧ W.cell? ⟨w.heap.size, 3, none⟩ = some (.int .i64 d) ∧ W.cell? ⟨w.heap.size, 4, none⟩ = some (.bool fr) ∧ W.cell? ⟨w.heap.size, 5, none⟩ = some (.bool fd) ∧ W.cell? ⟨w.heap.size, 6, none⟩ = some (.bool fl) ∧ W.cell? ⟨w.heap.size, 7, none⟩ = some (.bool fe) ∧ W.cell? ⟨w.heap.size, 8, none⟩ = some (.bool fm) ∧ Below w.heap.size w W ∧ w.heap.size + 1 ≤ W.heap.size)
          (first | exact ⟨c0, c1, c2, c3, c4, c5, c6, c7, c8, HBW.out.drew, by simp; omega⟩ | exact box_step (by assumption) (by assumption) | exact box_set (by omega) (by omega) (by assumption))
          (first | (go_at_call 56; refine (HRE.out _ _ HFE.out).mono ?_; rintro e w2 ⟨rfl, hb2⟩; obtain ⟨q0, q1⟩ := HU.out w2 (((Below.refl _ wr).drew).trans (hb2.mono (by simp; omega)))))
        have HB2w := Lib.hid (HB.out.below ((Below.refl _ wr).drew.trans (hb2.mono (by simp; omega)) : Below (w.heap.size + 2) wr w2) (by omega))
        have HW2w := Lib.hid (HBW.out.drew.trans (hb2.mono HBW.out.drew.size))
        have HX2 : Hid (Boxed w2 w.heap.size m t p d fr fd fl fe fm) := Lib.hid (Boxed.below (W := wr) ⟨c0, c1, c2, c3, c4, c5, c6, c7, c8⟩ ((Below.refl _ wr).drew.trans (hb2.mono (by simp; omega)) : Below (w.heap.size + 2) wr w2) (by omega))
        clear hb2 q0 q1 c0 c1 c2 c3 c4 c5 c6 c7 c8
        go_wp2_with fail
        go_roundw
        case rel => exact ⟨k + 1, _, by omega, by go_num, by rw [HRS.out], Lib.hid (HB2w.out.set k _), Lib.hid (by have := HST.out; rw [HRA.out] at this; exact this), Lib.hid ⟨HX2.out.below ((Below.refl (w.heap.size + 1) w2).setCell (p := ⟨w.heap.size + 1, k, none⟩) (Nat.le_refl _) _) (by omega), HW2w.out.setCell (p := ⟨w.heap.size + 1, k, none⟩) (by show w.heap.size ≤ w.heap.size + 1; omega) _⟩⟩
        case measure => simp [intOf]; omega
    · obtain rfl : k = s.size := by omega
      go_wp2
      go_ret
      exact ⟨⟨_, rfl, _, _, cs, rfl, by omega, HB.out, HM.out⟩, HX.out.2⟩
end Go.Proofs.YtncdglfcegmmgaaDoor
