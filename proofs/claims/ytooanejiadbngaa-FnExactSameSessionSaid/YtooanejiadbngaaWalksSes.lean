/- The exact law on SameSession. -/
import Derived.Test.YtooanejiadbngaaSes
import Derived.Test.YtooanejiadbngaaOpenSes
import Derived.Deep.RegionHeld3
namespace Go.Proofs.Ytooanejiadbngaa
open Go.RowKit
set_option linter.unusedVariables false

theorem ssS_below {X W W' : World} {A B : Nat} {a0 a1 a2 a3 a4 a5 a6 a7 a8 a9 a10 a11 a12 b0 b1 b2 b3 b4 b5 b6 b7 b8 b9 b10 b11 b12 : Value} (hb : Below W.heap.size W W') (h : W.cell? ⟨A, 0, none⟩ = some a0 ∧ W.cell? ⟨A, 1, none⟩ = some a1 ∧ W.cell? ⟨A, 2, none⟩ = some a2 ∧ W.cell? ⟨A, 3, none⟩ = some a3 ∧ W.cell? ⟨A, 4, none⟩ = some a4 ∧ W.cell? ⟨A, 5, none⟩ = some a5 ∧ W.cell? ⟨A, 6, none⟩ = some a6 ∧ W.cell? ⟨A, 7, none⟩ = some a7 ∧ W.cell? ⟨A, 8, none⟩ = some a8 ∧ W.cell? ⟨A, 9, none⟩ = some a9 ∧ W.cell? ⟨A, 10, none⟩ = some a10 ∧ W.cell? ⟨A, 11, none⟩ = some a11 ∧ W.cell? ⟨A, 12, none⟩ = some a12 ∧ W.cell? ⟨B, 0, none⟩ = some b0 ∧ W.cell? ⟨B, 1, none⟩ = some b1 ∧ W.cell? ⟨B, 2, none⟩ = some b2 ∧ W.cell? ⟨B, 3, none⟩ = some b3 ∧ W.cell? ⟨B, 4, none⟩ = some b4 ∧ W.cell? ⟨B, 5, none⟩ = some b5 ∧ W.cell? ⟨B, 6, none⟩ = some b6 ∧ W.cell? ⟨B, 7, none⟩ = some b7 ∧ W.cell? ⟨B, 8, none⟩ = some b8 ∧ W.cell? ⟨B, 9, none⟩ = some b9 ∧ W.cell? ⟨B, 10, none⟩ = some b10 ∧ W.cell? ⟨B, 11, none⟩ = some b11 ∧ W.cell? ⟨B, 12, none⟩ = some b12 ∧ A < W.heap.size ∧ B < W.heap.size ∧ Below X.heap.size X W) : W'.cell? ⟨A, 0, none⟩ = some a0 ∧ W'.cell? ⟨A, 1, none⟩ = some a1 ∧ W'.cell? ⟨A, 2, none⟩ = some a2 ∧ W'.cell? ⟨A, 3, none⟩ = some a3 ∧ W'.cell? ⟨A, 4, none⟩ = some a4 ∧ W'.cell? ⟨A, 5, none⟩ = some a5 ∧ W'.cell? ⟨A, 6, none⟩ = some a6 ∧ W'.cell? ⟨A, 7, none⟩ = some a7 ∧ W'.cell? ⟨A, 8, none⟩ = some a8 ∧ W'.cell? ⟨A, 9, none⟩ = some a9 ∧ W'.cell? ⟨A, 10, none⟩ = some a10 ∧ W'.cell? ⟨A, 11, none⟩ = some a11 ∧ W'.cell? ⟨A, 12, none⟩ = some a12 ∧ W'.cell? ⟨B, 0, none⟩ = some b0 ∧ W'.cell? ⟨B, 1, none⟩ = some b1 ∧ W'.cell? ⟨B, 2, none⟩ = some b2 ∧ W'.cell? ⟨B, 3, none⟩ = some b3 ∧ W'.cell? ⟨B, 4, none⟩ = some b4 ∧ W'.cell? ⟨B, 5, none⟩ = some b5 ∧ W'.cell? ⟨B, 6, none⟩ = some b6 ∧ W'.cell? ⟨B, 7, none⟩ = some b7 ∧ W'.cell? ⟨B, 8, none⟩ = some b8 ∧ W'.cell? ⟨B, 9, none⟩ = some b9 ∧ W'.cell? ⟨B, 10, none⟩ = some b10 ∧ W'.cell? ⟨B, 11, none⟩ = some b11 ∧ W'.cell? ⟨B, 12, none⟩ = some b12 ∧ A < W'.heap.size ∧ B < W'.heap.size ∧ Below X.heap.size X W' := by
  obtain ⟨a0, a1, a2, a3, a4, a5, a6, a7, a8, a9, a10, a11, a12, b0, b1, b2, b3, b4, b5, b6, b7, b8, b9, b10, b11, b12, s1, s2, hx⟩ := h
  have hs := hb.size
  exact ⟨(hb.cell (p := ⟨A, 0, none⟩) s1).trans a0, (hb.cell (p := ⟨A, 1, none⟩) s1).trans a1, (hb.cell (p := ⟨A, 2, none⟩) s1).trans a2, (hb.cell (p := ⟨A, 3, none⟩) s1).trans a3, (hb.cell (p := ⟨A, 4, none⟩) s1).trans a4, (hb.cell (p := ⟨A, 5, none⟩) s1).trans a5, (hb.cell (p := ⟨A, 6, none⟩) s1).trans a6, (hb.cell (p := ⟨A, 7, none⟩) s1).trans a7, (hb.cell (p := ⟨A, 8, none⟩) s1).trans a8, (hb.cell (p := ⟨A, 9, none⟩) s1).trans a9, (hb.cell (p := ⟨A, 10, none⟩) s1).trans a10, (hb.cell (p := ⟨A, 11, none⟩) s1).trans a11, (hb.cell (p := ⟨A, 12, none⟩) s1).trans a12, (hb.cell (p := ⟨B, 0, none⟩) s2).trans b0, (hb.cell (p := ⟨B, 1, none⟩) s2).trans b1, (hb.cell (p := ⟨B, 2, none⟩) s2).trans b2, (hb.cell (p := ⟨B, 3, none⟩) s2).trans b3, (hb.cell (p := ⟨B, 4, none⟩) s2).trans b4, (hb.cell (p := ⟨B, 5, none⟩) s2).trans b5, (hb.cell (p := ⟨B, 6, none⟩) s2).trans b6, (hb.cell (p := ⟨B, 7, none⟩) s2).trans b7, (hb.cell (p := ⟨B, 8, none⟩) s2).trans b8, (hb.cell (p := ⟨B, 9, none⟩) s2).trans b9, (hb.cell (p := ⟨B, 10, none⟩) s2).trans b10, (hb.cell (p := ⟨B, 11, none⟩) s2).trans b11, (hb.cell (p := ⟨B, 12, none⟩) s2).trans b12, by omega, by omega, hx.trans (hb.mono hx.size)⟩
theorem ssS_new {X W : World} {A B : Nat} {a0 a1 a2 a3 a4 a5 a6 a7 a8 a9 a10 a11 a12 b0 b1 b2 b3 b4 b5 b6 b7 b8 b9 b10 b11 b12 : Value} (h : W.cell? ⟨A, 0, none⟩ = some a0 ∧ W.cell? ⟨A, 1, none⟩ = some a1 ∧ W.cell? ⟨A, 2, none⟩ = some a2 ∧ W.cell? ⟨A, 3, none⟩ = some a3 ∧ W.cell? ⟨A, 4, none⟩ = some a4 ∧ W.cell? ⟨A, 5, none⟩ = some a5 ∧ W.cell? ⟨A, 6, none⟩ = some a6 ∧ W.cell? ⟨A, 7, none⟩ = some a7 ∧ W.cell? ⟨A, 8, none⟩ = some a8 ∧ W.cell? ⟨A, 9, none⟩ = some a9 ∧ W.cell? ⟨A, 10, none⟩ = some a10 ∧ W.cell? ⟨A, 11, none⟩ = some a11 ∧ W.cell? ⟨A, 12, none⟩ = some a12 ∧ W.cell? ⟨B, 0, none⟩ = some b0 ∧ W.cell? ⟨B, 1, none⟩ = some b1 ∧ W.cell? ⟨B, 2, none⟩ = some b2 ∧ W.cell? ⟨B, 3, none⟩ = some b3 ∧ W.cell? ⟨B, 4, none⟩ = some b4 ∧ W.cell? ⟨B, 5, none⟩ = some b5 ∧ W.cell? ⟨B, 6, none⟩ = some b6 ∧ W.cell? ⟨B, 7, none⟩ = some b7 ∧ W.cell? ⟨B, 8, none⟩ = some b8 ∧ W.cell? ⟨B, 9, none⟩ = some b9 ∧ W.cell? ⟨B, 10, none⟩ = some b10 ∧ W.cell? ⟨B, 11, none⟩ = some b11 ∧ W.cell? ⟨B, 12, none⟩ = some b12 ∧ A < W.heap.size ∧ B < W.heap.size ∧ Below X.heap.size X W) : Below X.heap.size X W := by
  obtain ⟨_, _, _, _, _, _, _, _, _, _, _, _, _, _, _, _, _, _, _, _, _, _, _, _, _, _, _, _, hx⟩ := h
  exact hx
theorem ssS_start {X : World} {A B : Nat} {TA TB : TypeId} {m t p d : Int} {fr fd fl fe fm : Bool} {h : ByteArray} {r : Int} {tk : ByteArray} {dd : Bool} {m2 t2 p2 d2 : Int} {fr2 fd2 fl2 fe2 fm2 : Bool} {h2 : ByteArray} {r2 : Int} {tk2 : ByteArray} {dd2 : Bool} (ha : Blk X A TA #[.int .i64 m, .int .i64 t, .int .i64 p, .int .i64 d, .bool fr, .bool fd, .bool fl, .bool fe, .bool fm, .string h, .int .i64 r, .string tk, .bool dd]) (hb : Blk X B TB #[.int .i64 m2, .int .i64 t2, .int .i64 p2, .int .i64 d2, .bool fr2, .bool fd2, .bool fl2, .bool fe2, .bool fm2, .string h2, .int .i64 r2, .string tk2, .bool dd2]) :
    X.drew.cell? ⟨A, 0, none⟩ = some (.int .i64 m) ∧ X.drew.cell? ⟨A, 1, none⟩ = some (.int .i64 t) ∧ X.drew.cell? ⟨A, 2, none⟩ = some (.int .i64 p) ∧ X.drew.cell? ⟨A, 3, none⟩ = some (.int .i64 d) ∧ X.drew.cell? ⟨A, 4, none⟩ = some (.bool fr) ∧ X.drew.cell? ⟨A, 5, none⟩ = some (.bool fd) ∧ X.drew.cell? ⟨A, 6, none⟩ = some (.bool fl) ∧ X.drew.cell? ⟨A, 7, none⟩ = some (.bool fe) ∧ X.drew.cell? ⟨A, 8, none⟩ = some (.bool fm) ∧ X.drew.cell? ⟨A, 9, none⟩ = some (.string h) ∧ X.drew.cell? ⟨A, 10, none⟩ = some (.int .i64 r) ∧ X.drew.cell? ⟨A, 11, none⟩ = some (.string tk) ∧ X.drew.cell? ⟨A, 12, none⟩ = some (.bool dd) ∧ X.drew.cell? ⟨B, 0, none⟩ = some (.int .i64 m2) ∧ X.drew.cell? ⟨B, 1, none⟩ = some (.int .i64 t2) ∧ X.drew.cell? ⟨B, 2, none⟩ = some (.int .i64 p2) ∧ X.drew.cell? ⟨B, 3, none⟩ = some (.int .i64 d2) ∧ X.drew.cell? ⟨B, 4, none⟩ = some (.bool fr2) ∧ X.drew.cell? ⟨B, 5, none⟩ = some (.bool fd2) ∧ X.drew.cell? ⟨B, 6, none⟩ = some (.bool fl2) ∧ X.drew.cell? ⟨B, 7, none⟩ = some (.bool fe2) ∧ X.drew.cell? ⟨B, 8, none⟩ = some (.bool fm2) ∧ X.drew.cell? ⟨B, 9, none⟩ = some (.string h2) ∧ X.drew.cell? ⟨B, 10, none⟩ = some (.int .i64 r2) ∧ X.drew.cell? ⟨B, 11, none⟩ = some (.string tk2) ∧ X.drew.cell? ⟨B, 12, none⟩ = some (.bool dd2) ∧ A < X.drew.heap.size ∧ B < X.drew.heap.size ∧ Below X.heap.size X X.drew :=
  ⟨ha.cell 0, ha.cell 1, ha.cell 2, ha.cell 3, ha.cell 4, ha.cell 5, ha.cell 6, ha.cell 7, ha.cell 8, ha.cell 9, ha.cell 10, ha.cell 11, ha.cell 12, hb.cell 0, hb.cell 1, hb.cell 2, hb.cell 3, hb.cell 4, hb.cell 5, hb.cell 6, hb.cell 7, hb.cell 8, hb.cell 9, hb.cell 10, hb.cell 11, hb.cell 12, ha.lt, hb.lt, (Below.refl _ _).drew⟩
set_option maxRecDepth 100000 in
set_option maxHeartbeats 8000000 in
theorem sameSession_law (w : World) (c : Cfg) (h : ByteArray) (k : Snk) (hs : SesFits c h k) (c' : Cfg) (h' : ByteArray) (k' : Snk) (hs' : SesFits c' h' k')
    (hI : ∀ W, Below w.heap.size w W → Calls Try.prog 18 #[.agg (sesV c h k), .agg (sesV c' h' k')] W fun e w' => e = .returned (.bool (sameS c h k c' h' k')) ∧ Below W.heap.size W w') :
    Calls Try.prog 4 #[.agg (sesV c h k), .agg (sesV c' h' k')] w fun e w' => e = .returned (.bool true) ∧ Below w.heap.size w w' := by
  obtain ⟨_, hh, hk⟩ := hs
  obtain ⟨_, hh', hk'⟩ := hs'
  have HZ1 := Lib.hid (fun W => szSession_any c h k 1048576 W (by omega) (by omega) hh hk.2.2)
  have HZ2 := Lib.hid (fun (n : Int) W (h0 : 0 ≤ n) (h1 : n ≤ 1048576) => szSession_any c' h' k' n W h0 h1 hh' hk'.2.2)
  have HT := Lib.hid (fun m t p d fr fd fl fe fm h r tk dd W => toSession_any ⟨m, t, p, d, fr, fd, fl, fe, fm⟩ h ⟨r, tk, dd⟩ W)
  have HSP := Lib.hid (fun W => specSameSession c h k c' h' k' W)
  have HIM := Lib.hid hI
  have hbd := (leftS_bd h k.taken 1048576 (by omega)).1
  obtain ⟨n, hn⟩ : ∃ n, n = leftS h k.taken 1048576 := ⟨_, rfl⟩
  have hnm : n = -1 ∨ 0 ≤ n := by rw [hn]; unfold leftS; split; exact .inl rfl; split; exact .inl rfl; right; omega
  rw [← hn] at HZ1 hbd
  have HN := Lib.hid hnm
  obtain ⟨n2, hn2⟩ : ∃ x, x = leftS h' k'.taken n := ⟨_, rfl⟩
  have hnm2 : n2 = -1 ∨ 0 ≤ n2 := by rw [hn2]; unfold leftS; split; exact .inl rfl; split; exact .inl rfl; right; omega
  have HN2 := Lib.hid hnm2
  have HZ2' := Lib.hid (fun W (h0 : 0 ≤ n) => HZ2.out n W h0 hbd)
  rw [← hn2] at HZ2'
  generalize sameS c h k c' h' k' = q at HSP HIM
  have hqq : (q != q) = false := by cases q <;> rfl
  have hA := Blk.new w 40 (sesV c h k)
  have hB := Blk.new (w.alloc (.cells (sesV c h k) 40)) 40 (sesV c' h' k')
  rw [show (w.alloc (.cells (sesV c h k) 40)).heap.size = w.heap.size + 1 by simp] at hB
  have HA0 := Lib.hid (hA.after ((Below.refl _ _).alloc (Nat.le_refl _) (.cells (sesV c' h' k') 40)))
  have HB0 := Lib.hid hB
  have B0 := Lib.hid (by go_grown : Below w.heap.size w ((w.alloc (.cells (sesV c h k) 40)).alloc (.cells (sesV c' h' k') 40)))
  clear hA hB hI hk hk' hh hh' hn hn2 hnm hnm2 HZ2 hbd
  obtain ⟨m, t, p, d, fr, fd, fl, fe, fm⟩ := c
  obtain ⟨r, tk, dd⟩ := k
  obtain ⟨m2, t2, p2, d2, fr2, fd2, fl2, fe2, fm2⟩ := c'
  obtain ⟨r2, tk2, dd2⟩ := k'
  unfold sesV at HZ1 HZ2' HT HSP HIM HA0 HB0 B0 ⊢
  simp only at HZ1 HZ2' HT HSP HIM HA0 HB0 B0 ⊢
  have hcA := HA0.out.thirteen
  go_enter Try.func4, Try.ntmps4
  obtain ⟨a0, a1, a2, a3, a4, a5, a6, a7, a8, a9, a10, a11, a12⟩ := hcA
  go_wp2_with fail
  refine (HZ1.out _).mono ?_
  rintro e w1 ⟨rfl, hb1⟩
  have B1 := Lib.hid (B0.out.trans (hb1.mono B0.out.size))
  have HA1 := Lib.hid (HA0.out.after hb1)
  have HB1 := Lib.hid (HB0.out.after hb1)
  clear hb1 a0 a1 a2 a3 a4 a5 a6 a7 a8 a9 a10 a11 a12
  obtain ⟨a0, a1, a2, a3, a4, a5, a6, a7, a8, a9, a10, a11, a12⟩ := HB1.out.thirteen
  rcases HN.out with rfl | hn0
  · go_wp2_with fail
    go_ret
    exact ⟨rfl, B1.out⟩
  · have hn1 : ¬ n < 0 := by omega
    go_wp2_with fail
    refine (HZ2'.out _ hn0).mono ?_
    rintro e w2 ⟨rfl, hb2⟩
    have B2 := Lib.hid (B1.out.trans (hb2.mono B1.out.size))
    have HA2 := Lib.hid (HA1.out.after hb2)
    have HB2 := Lib.hid (HB1.out.after hb2)
    clear hb2 a0 a1 a2 a3 a4 a5 a6 a7 a8 a9 a10 a11 a12
    rcases HN2.out with rfl | hn20
    · go_wp2_with fail
      go_ret
      exact ⟨rfl, B2.out⟩
    · have hn21 : ¬ n2 < 0 := by omega
      go_wp2_with fail
      go_region_held3 (fun W => W.cell? ⟨w.heap.size, 0, none⟩ = some (.int .i64 m) ∧ W.cell? ⟨w.heap.size, 1, none⟩ = some (.int .i64 t) ∧ W.cell? ⟨w.heap.size, 2, none⟩ = some (.int .i64 p) ∧ W.cell? ⟨w.heap.size, 3, none⟩ = some (.int .i64 d) ∧ W.cell? ⟨w.heap.size, 4, none⟩ = some (.bool fr) ∧ W.cell? ⟨w.heap.size, 5, none⟩ = some (.bool fd) ∧ W.cell? ⟨w.heap.size, 6, none⟩ = some (.bool fl) ∧ W.cell? ⟨w.heap.size, 7, none⟩ = some (.bool fe) ∧ W.cell? ⟨w.heap.size, 8, none⟩ = some (.bool fm) ∧ W.cell? ⟨w.heap.size, 9, none⟩ = some (.string h) ∧ W.cell? ⟨w.heap.size, 10, none⟩ = some (.int .i64 r) ∧ W.cell? ⟨w.heap.size, 11, none⟩ = some (.string tk) ∧ W.cell? ⟨w.heap.size, 12, none⟩ = some (.bool dd) ∧ W.cell? ⟨w.heap.size + 1, 0, none⟩ = some (.int .i64 m2) ∧ W.cell? ⟨w.heap.size + 1, 1, none⟩ = some (.int .i64 t2) ∧ W.cell? ⟨w.heap.size + 1, 2, none⟩ = some (.int .i64 p2) ∧ W.cell? ⟨w.heap.size + 1, 3, none⟩ = some (.int .i64 d2) ∧ W.cell? ⟨w.heap.size + 1, 4, none⟩ = some (.bool fr2) ∧ W.cell? ⟨w.heap.size + 1, 5, none⟩ = some (.bool fd2) ∧ W.cell? ⟨w.heap.size + 1, 6, none⟩ = some (.bool fl2) ∧ W.cell? ⟨w.heap.size + 1, 7, none⟩ = some (.bool fe2) ∧ W.cell? ⟨w.heap.size + 1, 8, none⟩ = some (.bool fm2) ∧ W.cell? ⟨w.heap.size + 1, 9, none⟩ = some (.string h') ∧ W.cell? ⟨w.heap.size + 1, 10, none⟩ = some (.int .i64 r2) ∧ W.cell? ⟨w.heap.size + 1, 11, none⟩ = some (.string tk2) ∧ W.cell? ⟨w.heap.size + 1, 12, none⟩ = some (.bool dd2) ∧ w.heap.size < W.heap.size ∧ w.heap.size + 1 < W.heap.size ∧ Below w2.heap.size w2 W)
        (first | exact ssS_start HA2.out HB2.out | exact ssS_below (by assumption) (by assumption))
        (first
          | (go_at_call 17; refine (HT.out _ _ _ _ _ _ _ _ _ _ _ _ _ _).mono ?_; rintro e w3 ⟨rfl, hb3⟩)
          | (go_at_call 16; refine (HSP.out _).mono ?_; rintro e w5 ⟨rfl, hb5⟩))
      all_goals
        have hx5 := ssS_new (X := w2) (W := w5) (by assumption)
        have B5 := Lib.hid (B2.out.trans (hx5.mono B2.out.size))
        have HA5 := Lib.hid (HA2.out.after hx5)
        have HB5 := Lib.hid (HB2.out.after hx5)
        clear hx5
        go_wp2_with fail
        go_region_held3 (fun W => W.cell? ⟨w.heap.size, 0, none⟩ = some (.int .i64 m) ∧ W.cell? ⟨w.heap.size, 1, none⟩ = some (.int .i64 t) ∧ W.cell? ⟨w.heap.size, 2, none⟩ = some (.int .i64 p) ∧ W.cell? ⟨w.heap.size, 3, none⟩ = some (.int .i64 d) ∧ W.cell? ⟨w.heap.size, 4, none⟩ = some (.bool fr) ∧ W.cell? ⟨w.heap.size, 5, none⟩ = some (.bool fd) ∧ W.cell? ⟨w.heap.size, 6, none⟩ = some (.bool fl) ∧ W.cell? ⟨w.heap.size, 7, none⟩ = some (.bool fe) ∧ W.cell? ⟨w.heap.size, 8, none⟩ = some (.bool fm) ∧ W.cell? ⟨w.heap.size, 9, none⟩ = some (.string h) ∧ W.cell? ⟨w.heap.size, 10, none⟩ = some (.int .i64 r) ∧ W.cell? ⟨w.heap.size, 11, none⟩ = some (.string tk) ∧ W.cell? ⟨w.heap.size, 12, none⟩ = some (.bool dd) ∧ W.cell? ⟨w.heap.size + 1, 0, none⟩ = some (.int .i64 m2) ∧ W.cell? ⟨w.heap.size + 1, 1, none⟩ = some (.int .i64 t2) ∧ W.cell? ⟨w.heap.size + 1, 2, none⟩ = some (.int .i64 p2) ∧ W.cell? ⟨w.heap.size + 1, 3, none⟩ = some (.int .i64 d2) ∧ W.cell? ⟨w.heap.size + 1, 4, none⟩ = some (.bool fr2) ∧ W.cell? ⟨w.heap.size + 1, 5, none⟩ = some (.bool fd2) ∧ W.cell? ⟨w.heap.size + 1, 6, none⟩ = some (.bool fl2) ∧ W.cell? ⟨w.heap.size + 1, 7, none⟩ = some (.bool fe2) ∧ W.cell? ⟨w.heap.size + 1, 8, none⟩ = some (.bool fm2) ∧ W.cell? ⟨w.heap.size + 1, 9, none⟩ = some (.string h') ∧ W.cell? ⟨w.heap.size + 1, 10, none⟩ = some (.int .i64 r2) ∧ W.cell? ⟨w.heap.size + 1, 11, none⟩ = some (.string tk2) ∧ W.cell? ⟨w.heap.size + 1, 12, none⟩ = some (.bool dd2) ∧ w.heap.size < W.heap.size ∧ w.heap.size + 1 < W.heap.size ∧ Below w5.heap.size w5 W)
          (first | exact ssS_start HA5.out HB5.out | exact ssS_below (by assumption) (by assumption))
          (first
            | (go_at_call 17; refine (HT.out _ _ _ _ _ _ _ _ _ _ _ _ _ _).mono ?_; rintro e w6 ⟨rfl, hb6⟩)
            | (go_at_call 18; refine (HIM.out _ (B5.out.trans ((ssS_new (X := w5) (by assumption)).mono B5.out.size))).mono ?_; rintro e w8 ⟨rfl, hb8⟩))
        all_goals
          have B9 := Lib.hid (B5.out.trans ((ssS_new (X := w5) (W := w8) (by assumption)).mono B5.out.size))
          go_wp2_with fail
          go_ret
          exact ⟨rfl, B9.out⟩
end Go.Proofs.Ytooanejiadbngaa
