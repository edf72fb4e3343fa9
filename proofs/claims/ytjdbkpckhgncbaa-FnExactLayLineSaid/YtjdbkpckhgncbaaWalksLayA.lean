/- LayLine: the law, over a contract of the program's function. -/
import Derived.Test.YtjdbkpckhgncbaaSpecLayA
import Derived.Test.YtjdbkpckhgncbaaBB
import Derived.Test.YtjdbkpckhgncbaaOpenLn
import Derived.Test.YtjdbkpckhgncbaaToInts
import Derived.Deep.RegionHeld3
namespace Go.Proofs.Ytjdbkpckhgncbaa
open Go.RowKit
set_option linter.unusedVariables false

theorem lawS_below {w W W' : World} {H G : Nat} {va : Value} {x : ByteArray} {m t p d m' f : Int} {fr fd fl fe fm : Bool} (hb : Below W.heap.size W W') (h : W.cell? ⟨H, 0, none⟩ = some (.int .i64 m) ∧ W.cell? ⟨H, 1, none⟩ = some (.int .i64 t) ∧ W.cell? ⟨H, 2, none⟩ = some (.int .i64 p) ∧ W.cell? ⟨H, 3, none⟩ = some (.int .i64 d) ∧ W.cell? ⟨H, 4, none⟩ = some (.bool fr) ∧ W.cell? ⟨H, 5, none⟩ = some (.bool fd) ∧ W.cell? ⟨H, 6, none⟩ = some (.bool fl) ∧ W.cell? ⟨H, 7, none⟩ = some (.bool fe) ∧ W.cell? ⟨H, 8, none⟩ = some (.bool fm) ∧ W.cell? ⟨G, 0, none⟩ = some (va) ∧ W.cell? ⟨G, 1, none⟩ = some (.string x) ∧ W.cell? ⟨G, 2, none⟩ = some (.int .i64 m') ∧ W.cell? ⟨G, 3, none⟩ = some (.int .i64 f) ∧ H < W.heap.size ∧ G < W.heap.size ∧ Below w.heap.size w W) : W'.cell? ⟨H, 0, none⟩ = some (.int .i64 m) ∧ W'.cell? ⟨H, 1, none⟩ = some (.int .i64 t) ∧ W'.cell? ⟨H, 2, none⟩ = some (.int .i64 p) ∧ W'.cell? ⟨H, 3, none⟩ = some (.int .i64 d) ∧ W'.cell? ⟨H, 4, none⟩ = some (.bool fr) ∧ W'.cell? ⟨H, 5, none⟩ = some (.bool fd) ∧ W'.cell? ⟨H, 6, none⟩ = some (.bool fl) ∧ W'.cell? ⟨H, 7, none⟩ = some (.bool fe) ∧ W'.cell? ⟨H, 8, none⟩ = some (.bool fm) ∧ W'.cell? ⟨G, 0, none⟩ = some (va) ∧ W'.cell? ⟨G, 1, none⟩ = some (.string x) ∧ W'.cell? ⟨G, 2, none⟩ = some (.int .i64 m') ∧ W'.cell? ⟨G, 3, none⟩ = some (.int .i64 f) ∧ H < W'.heap.size ∧ G < W'.heap.size ∧ Below w.heap.size w W' := by
  obtain ⟨c0, c1, c2, c3, c4, c5, c6, c7, c8, q0, q1, q2, q3, s0, s1, BB⟩ := h
  have hs := hb.size
  exact ⟨(hb.cell (p := ⟨H, 0, none⟩) s0).trans c0, (hb.cell (p := ⟨H, 1, none⟩) s0).trans c1, (hb.cell (p := ⟨H, 2, none⟩) s0).trans c2, (hb.cell (p := ⟨H, 3, none⟩) s0).trans c3, (hb.cell (p := ⟨H, 4, none⟩) s0).trans c4, (hb.cell (p := ⟨H, 5, none⟩) s0).trans c5, (hb.cell (p := ⟨H, 6, none⟩) s0).trans c6, (hb.cell (p := ⟨H, 7, none⟩) s0).trans c7, (hb.cell (p := ⟨H, 8, none⟩) s0).trans c8, (hb.cell (p := ⟨G, 0, none⟩) s1).trans q0, (hb.cell (p := ⟨G, 1, none⟩) s1).trans q1, (hb.cell (p := ⟨G, 2, none⟩) s1).trans q2, (hb.cell (p := ⟨G, 3, none⟩) s1).trans q3, by omega, by omega, BB.trans (hb.mono BB.size)⟩
theorem lawS_new {w W : World} {H G : Nat} {va : Value} {x : ByteArray} {m t p d m' f : Int} {fr fd fl fe fm : Bool} (h : W.cell? ⟨H, 0, none⟩ = some (.int .i64 m) ∧ W.cell? ⟨H, 1, none⟩ = some (.int .i64 t) ∧ W.cell? ⟨H, 2, none⟩ = some (.int .i64 p) ∧ W.cell? ⟨H, 3, none⟩ = some (.int .i64 d) ∧ W.cell? ⟨H, 4, none⟩ = some (.bool fr) ∧ W.cell? ⟨H, 5, none⟩ = some (.bool fd) ∧ W.cell? ⟨H, 6, none⟩ = some (.bool fl) ∧ W.cell? ⟨H, 7, none⟩ = some (.bool fe) ∧ W.cell? ⟨H, 8, none⟩ = some (.bool fm) ∧ W.cell? ⟨G, 0, none⟩ = some (va) ∧ W.cell? ⟨G, 1, none⟩ = some (.string x) ∧ W.cell? ⟨G, 2, none⟩ = some (.int .i64 m') ∧ W.cell? ⟨G, 3, none⟩ = some (.int .i64 f) ∧ H < W.heap.size ∧ G < W.heap.size ∧ Below w.heap.size w W) : Below w.heap.size w W := by
  obtain ⟨c0, c1, c2, c3, c4, c5, c6, c7, c8, q0, q1, q2, q3, s0, s1, BB⟩ := h
  exact BB

theorem lawT_below {w W W' : World} {H G X : Nat} {va vx : Value} {x : ByteArray} {m t p d m' f : Int} {fr fd fl fe fm : Bool} (hb : Below W.heap.size W W') (h : W.cell? ⟨H, 0, none⟩ = some (.int .i64 m) ∧ W.cell? ⟨H, 1, none⟩ = some (.int .i64 t) ∧ W.cell? ⟨H, 2, none⟩ = some (.int .i64 p) ∧ W.cell? ⟨H, 3, none⟩ = some (.int .i64 d) ∧ W.cell? ⟨H, 4, none⟩ = some (.bool fr) ∧ W.cell? ⟨H, 5, none⟩ = some (.bool fd) ∧ W.cell? ⟨H, 6, none⟩ = some (.bool fl) ∧ W.cell? ⟨H, 7, none⟩ = some (.bool fe) ∧ W.cell? ⟨H, 8, none⟩ = some (.bool fm) ∧ W.cell? ⟨G, 0, none⟩ = some (va) ∧ W.cell? ⟨G, 1, none⟩ = some (.string x) ∧ W.cell? ⟨G, 2, none⟩ = some (.int .i64 m') ∧ W.cell? ⟨G, 3, none⟩ = some (.int .i64 f) ∧ W.cell? ⟨X, 0, none⟩ = some (vx) ∧ W.cell? ⟨X, 1, none⟩ = some (.string x) ∧ W.cell? ⟨X, 2, none⟩ = some (.int .i64 m') ∧ W.cell? ⟨X, 3, none⟩ = some (.int .i64 f) ∧ H < W.heap.size ∧ G < W.heap.size ∧ X < W.heap.size ∧ Below w.heap.size w W) : W'.cell? ⟨H, 0, none⟩ = some (.int .i64 m) ∧ W'.cell? ⟨H, 1, none⟩ = some (.int .i64 t) ∧ W'.cell? ⟨H, 2, none⟩ = some (.int .i64 p) ∧ W'.cell? ⟨H, 3, none⟩ = some (.int .i64 d) ∧ W'.cell? ⟨H, 4, none⟩ = some (.bool fr) ∧ W'.cell? ⟨H, 5, none⟩ = some (.bool fd) ∧ W'.cell? ⟨H, 6, none⟩ = some (.bool fl) ∧ W'.cell? ⟨H, 7, none⟩ = some (.bool fe) ∧ W'.cell? ⟨H, 8, none⟩ = some (.bool fm) ∧ W'.cell? ⟨G, 0, none⟩ = some (va) ∧ W'.cell? ⟨G, 1, none⟩ = some (.string x) ∧ W'.cell? ⟨G, 2, none⟩ = some (.int .i64 m') ∧ W'.cell? ⟨G, 3, none⟩ = some (.int .i64 f) ∧ W'.cell? ⟨X, 0, none⟩ = some (vx) ∧ W'.cell? ⟨X, 1, none⟩ = some (.string x) ∧ W'.cell? ⟨X, 2, none⟩ = some (.int .i64 m') ∧ W'.cell? ⟨X, 3, none⟩ = some (.int .i64 f) ∧ H < W'.heap.size ∧ G < W'.heap.size ∧ X < W'.heap.size ∧ Below w.heap.size w W' := by
  obtain ⟨c0, c1, c2, c3, c4, c5, c6, c7, c8, q0, q1, q2, q3, r0, r1, r2, r3, s0, s1, s2, BB⟩ := h
  have hs := hb.size
  exact ⟨(hb.cell (p := ⟨H, 0, none⟩) s0).trans c0, (hb.cell (p := ⟨H, 1, none⟩) s0).trans c1, (hb.cell (p := ⟨H, 2, none⟩) s0).trans c2, (hb.cell (p := ⟨H, 3, none⟩) s0).trans c3, (hb.cell (p := ⟨H, 4, none⟩) s0).trans c4, (hb.cell (p := ⟨H, 5, none⟩) s0).trans c5, (hb.cell (p := ⟨H, 6, none⟩) s0).trans c6, (hb.cell (p := ⟨H, 7, none⟩) s0).trans c7, (hb.cell (p := ⟨H, 8, none⟩) s0).trans c8, (hb.cell (p := ⟨G, 0, none⟩) s1).trans q0, (hb.cell (p := ⟨G, 1, none⟩) s1).trans q1, (hb.cell (p := ⟨G, 2, none⟩) s1).trans q2, (hb.cell (p := ⟨G, 3, none⟩) s1).trans q3, (hb.cell (p := ⟨X, 0, none⟩) s2).trans r0, (hb.cell (p := ⟨X, 1, none⟩) s2).trans r1, (hb.cell (p := ⟨X, 2, none⟩) s2).trans r2, (hb.cell (p := ⟨X, 3, none⟩) s2).trans r3, by omega, by omega, by omega, BB.trans (hb.mono BB.size)⟩
theorem lawT_new {w W : World} {H G X : Nat} {va vx : Value} {x : ByteArray} {m t p d m' f : Int} {fr fd fl fe fm : Bool} (h : W.cell? ⟨H, 0, none⟩ = some (.int .i64 m) ∧ W.cell? ⟨H, 1, none⟩ = some (.int .i64 t) ∧ W.cell? ⟨H, 2, none⟩ = some (.int .i64 p) ∧ W.cell? ⟨H, 3, none⟩ = some (.int .i64 d) ∧ W.cell? ⟨H, 4, none⟩ = some (.bool fr) ∧ W.cell? ⟨H, 5, none⟩ = some (.bool fd) ∧ W.cell? ⟨H, 6, none⟩ = some (.bool fl) ∧ W.cell? ⟨H, 7, none⟩ = some (.bool fe) ∧ W.cell? ⟨H, 8, none⟩ = some (.bool fm) ∧ W.cell? ⟨G, 0, none⟩ = some (va) ∧ W.cell? ⟨G, 1, none⟩ = some (.string x) ∧ W.cell? ⟨G, 2, none⟩ = some (.int .i64 m') ∧ W.cell? ⟨G, 3, none⟩ = some (.int .i64 f) ∧ W.cell? ⟨X, 0, none⟩ = some (vx) ∧ W.cell? ⟨X, 1, none⟩ = some (.string x) ∧ W.cell? ⟨X, 2, none⟩ = some (.int .i64 m') ∧ W.cell? ⟨X, 3, none⟩ = some (.int .i64 f) ∧ H < W.heap.size ∧ G < W.heap.size ∧ X < W.heap.size ∧ Below w.heap.size w W) : Below w.heap.size w W := by
  obtain ⟨c0, c1, c2, c3, c4, c5, c6, c7, c8, q0, q1, q2, q3, r0, r1, r2, r3, s0, s1, s2, BB⟩ := h
  exact BB

set_option maxRecDepth 100000 in
set_option maxHeartbeats 8000000 in
theorem layLine_law (w : World) (c : Cfg) (l : List Cel) (va : Value) (x : ByteArray) (m' f : Int) (hra : RdC w va l) (hl : l.length ≤ maxLen) (hcs : ∀ c ∈ l, c.txt.size ≤ maxLen ∧ c.wid ≤ 9223372036854775807) (hxs : x.size ≤ maxLen)
    (A : Option Addr) (len cap : Nat) (ws : List Int) (hwl : ws.length = len) (hrw : Rd w (.slice A len cap) (ints ws)) (hlm : len ≤ maxLen)
    (hI : ∀ vb vw W, Below w.heap.size w W → RdC W vb l → Rd W vw (ints ws) → l.length + totC l + x.size ≤ 1048576 → ws.length ≤ 1048576 → (∀ c ∈ l, c.wid ≤ 9223372036854775807) → Calls Try.prog 13 #[.agg (cfgV c), .agg #[vb, .string x, .int .i64 m', .int .i64 f], vw] W fun e w' => e = .returned (.string (layLineB c ⟨l, ⟨x, m'⟩, f⟩ ws)) ∧ Below W.heap.size W w') :
    Calls Try.prog 4 #[.agg (cfgV c), .agg #[va, .string x, .int .i64 m', .int .i64 f], .slice A len cap] w fun e w' => e = .returned (.bool true) ∧ Below w.heap.size w w' := by
  have hyw : ∀ c ∈ l, c.wid ≤ 9223372036854775807 := fun c h => (hcs c h).2
  have hct : ∀ c ∈ l, c.txt.size ≤ maxLen := fun c h => (hcs c h).1
  by_cases hbig : (1048576 : Int) < (len : Int)
  · obtain ⟨m, t, p, d, fr, fd, fl, fe, fm⟩ := c
    unfold cfgV
    simp only
    clear hra hrw hI hcs hyw hct
    unfold maxLen at hlm
    go_enter Try.func4, Try.ntmps4
    go_wp2
    go_ret
    exact ⟨rfl, by go_grown⟩
  · have HSZ := Lib.hid (fun W (hW : Below w.heap.size w W) => szLine_any l va x m' f 1048576 W (hra.below hW) (by omega) (by omega) hl hct hxs)
    have HTC := Lib.hid (fun W => toConfig_any c W)
    have HTL0 := Lib.hid (fun W (hW : Below w.heap.size w W) h => toLine_any l va x m' f W (hra.below hW) h)
    have HTI := Lib.hid (fun W (hW : Below w.heap.size w W) => toIntS_any ws _ W (hrw.below hW) (by omega))
    have HSP0 := Lib.hid (fun vb vw W (hb : RdC W vb l) (hw : Rd W vw (ints ws)) h1 h2 h3 => specLayLine c l vb vw ws x m' f W hb hw h1 (by omega) h2 h3 hyw)
    have HIM0 := Lib.hid (fun vb vw W hW (hb : RdC W vb l) (hw : Rd W vw (ints ws)) h1 => hI vb vw W hW hb hw h1 (by omega) hyw)
    have HEL0 := Lib.hid (fun va vb W (ha : RdC W va l) (hb : RdC W vb l) h => eqLine_same l va vb x m' f W ha hb h)
    have HEI := Lib.hid (fun va vb W (ha : Rd W va (ints ws)) (hb : Rd W vb (ints ws)) => eqIntS_selfN ws va vb W ha hb (by omega))
    generalize layLineB c ⟨l, ⟨x, m'⟩, f⟩ ws = z at HSP0 HIM0
    have hC0 := Blk.new w 23 (cfgV c)
    have hL0 := Blk.new (w.alloc (.cells (cfgV c) 23)) 32 #[va, .string x, .int .i64 m', .int .i64 f]
    rw [show (w.alloc (.cells (cfgV c) 23)).heap.size = w.heap.size + 1 by simp] at hL0
    have HC0 := Lib.hid (hC0.after ((Below.refl (w.alloc (.cells (cfgV c) 23)).heap.size (w.alloc (.cells (cfgV c) 23))).alloc (Nat.le_refl _) (.cells #[va, .string x, .int .i64 m', .int .i64 f] 32)))
    have HL0 := Lib.hid hL0
    have B0 := Lib.hid (by go_grown : Below w.heap.size w ((w.alloc (.cells (cfgV c) 23)).alloc (.cells #[va, .string x, .int .i64 m', .int .i64 f] 32)))
    have hln : (len : Int) ≤ 1048576 := by omega
    obtain ⟨m, t, p, d, fr, fd, fl, fe, fm⟩ := c
    unfold cfgV at HTC HSP0 HIM0 HC0 HL0 B0 ⊢
    simp only at HTC HSP0 HIM0 HC0 HL0 B0 ⊢
    obtain ⟨Ac, lc, cc, hva⟩ : ∃ Ac lc cc, va = .slice Ac lc cc := by
      obtain ⟨a, b, h, _⟩ := hra
      exact ⟨a, _, b, h⟩
    subst hva
    clear hra hrw hI hcs hyw hct hC0 hL0 hwl hbig
    go_enter Try.func4, Try.ntmps4
    have q0 := HL0.out.cell 0
    have q1 := HL0.out.cell 1
    have q2 := HL0.out.cell 2
    have q3 := HL0.out.cell 3
    simp at q0 q1 q2 q3
    go_wp2_with fail
    refine (HSZ.out _ B0.out).mono ?_
    rintro e w1 ⟨⟨r, rfl, hsz⟩, hb1⟩
    have B1 := Lib.hid (B0.out.trans (hb1.mono B0.out.size))
    have HC1 := Lib.hid (HC0.out.after hb1)
    have HL1 := Lib.hid (HL0.out.after hb1)
    clear hb1 q0 q1 q2 q3
    rcases hsz with rfl | ⟨h0, h1⟩
    · go_wp2_with fail
      go_ret
      exact ⟨rfl, B1.out⟩
    · have hfit : l.length + totC l + x.size ≤ 1048576 := by omega
      have HTL := Lib.hid (fun W hW => HTL0.out W hW (by omega))
      have HSP := Lib.hid (fun vb vw W hb hw => HSP0.out vb vw W hb hw (by omega) (by omega) (by omega))
      have HIM := Lib.hid (fun vb vw W hW hb hw => HIM0.out vb vw W hW hb hw hfit)
      have HEL := Lib.hid (fun va vb W ha hb => HEL0.out va vb W ha hb (by omega))
      obtain ⟨c0, c1, c2, c3, c4, c5, c6, c7, c8⟩ := HC1.out.boxed
      have q0 := HL1.out.cell 0
      have q1 := HL1.out.cell 1
      have q2 := HL1.out.cell 2
      have q3 := HL1.out.cell 3
      simp at q0 q1 q2 q3
      have s0 := HC1.out.lt
      have s1 := HL1.out.lt
      have BD1 := Lib.hid B1.out.drew
      clear h1 hfit hl hxs hlm
      go_wp2_with fail
      go_region_held3 (fun W => W.cell? ⟨w.heap.size, 0, none⟩ = some (.int .i64 m) ∧ W.cell? ⟨w.heap.size, 1, none⟩ = some (.int .i64 t) ∧ W.cell? ⟨w.heap.size, 2, none⟩ = some (.int .i64 p) ∧ W.cell? ⟨w.heap.size, 3, none⟩ = some (.int .i64 d) ∧ W.cell? ⟨w.heap.size, 4, none⟩ = some (.bool fr) ∧ W.cell? ⟨w.heap.size, 5, none⟩ = some (.bool fd) ∧ W.cell? ⟨w.heap.size, 6, none⟩ = some (.bool fl) ∧ W.cell? ⟨w.heap.size, 7, none⟩ = some (.bool fe) ∧ W.cell? ⟨w.heap.size, 8, none⟩ = some (.bool fm) ∧ W.cell? ⟨w.heap.size + 1, 0, none⟩ = some (.slice Ac lc cc) ∧ W.cell? ⟨w.heap.size + 1, 1, none⟩ = some (.string x) ∧ W.cell? ⟨w.heap.size + 1, 2, none⟩ = some (.int .i64 m') ∧ W.cell? ⟨w.heap.size + 1, 3, none⟩ = some (.int .i64 f) ∧ w.heap.size < W.heap.size ∧ (w.heap.size + 1) < W.heap.size ∧ Below w.heap.size w W)
        (first | exact ⟨c0, c1, c2, c3, c4, c5, c6, c7, c8, q0, q1, q2, q3, s0, s1, BD1.out⟩ | exact lawS_below (by assumption) (by assumption))
        (first
          | (go_at_call 7; refine (HTC.out _).mono ?_; rintro e wA ⟨rfl, hbA⟩)
          | (go_at_call 11; refine (HTL.out _ (lawS_new (by assumption))).mono ?_; rintro e wB ⟨⟨vB, rfl, hvB⟩, hbB⟩; have hlB := hvB.rd.rd)
          | (go_at_call 12; refine (HTI.out _ (lawS_new (by assumption))).mono ?_; rintro e wC ⟨⟨vC, rfl, hvC⟩, hbC⟩; have hiC := Rd.of_own hvC)
          | (go_at_call 10; refine (HSP.out vB vC _ (by first | exact hlB | exact hlB.below (by assumption) | exact (hlB.below (by assumption)).below (by assumption)) (by first | exact hiC | exact hiC.below (by assumption) | exact (hiC.below (by assumption)).below (by assumption))).mono ?_; rintro e wD ⟨rfl, hbD⟩))
      all_goals
        have hSD : wD.cell? ⟨w.heap.size, 0, none⟩ = some (.int .i64 m) ∧ wD.cell? ⟨w.heap.size, 1, none⟩ = some (.int .i64 t) ∧ wD.cell? ⟨w.heap.size, 2, none⟩ = some (.int .i64 p) ∧ wD.cell? ⟨w.heap.size, 3, none⟩ = some (.int .i64 d) ∧ wD.cell? ⟨w.heap.size, 4, none⟩ = some (.bool fr) ∧ wD.cell? ⟨w.heap.size, 5, none⟩ = some (.bool fd) ∧ wD.cell? ⟨w.heap.size, 6, none⟩ = some (.bool fl) ∧ wD.cell? ⟨w.heap.size, 7, none⟩ = some (.bool fe) ∧ wD.cell? ⟨w.heap.size, 8, none⟩ = some (.bool fm) ∧ wD.cell? ⟨w.heap.size + 1, 0, none⟩ = some (.slice Ac lc cc) ∧ wD.cell? ⟨w.heap.size + 1, 1, none⟩ = some (.string x) ∧ wD.cell? ⟨w.heap.size + 1, 2, none⟩ = some (.int .i64 m') ∧ wD.cell? ⟨w.heap.size + 1, 3, none⟩ = some (.int .i64 f) ∧ w.heap.size < wD.heap.size ∧ (w.heap.size + 1) < wD.heap.size ∧ Below w.heap.size w wD := by assumption
        have HSD := Lib.hid hSD
        clear hSD c0 c1 c2 c3 c4 c5 c6 c7 c8 q0 q1 q2 q3 s0 s1 hlB hvB hiC hvC hbA hbB hbC hbD
        obtain ⟨c0, c1, c2, c3, c4, c5, c6, c7, c8, q0, q1, q2, q3, s0, s1, hBD⟩ := HSD.out
        have BD := Lib.hid hBD
        clear hBD
        go_wp2_with fail
        refine (HTL.out _ BD.out).mono ?_
        rintro e w3 ⟨⟨v3, rfl, hv3⟩, hb3⟩
        have HS3 := Lib.hid (lawS_below hb3 HSD.out)
        have HR3 := Lib.hid hv3.rd.rd
        obtain ⟨A3, k3', rfl⟩ := hv3.slc
        clear hb3 hv3 c0 c1 c2 c3 c4 c5 c6 c7 c8 q0 q1 q2 q3 s0 s1
        obtain ⟨k3, hc3⟩ : ∃ c, c = k3' := ⟨_, rfl⟩
        rw [← hc3] at HR3 ⊢
        clear hc3
        have D4 := Lib.hid ((Below.refl w3.heap.size w3).alloc (Nat.le_refl _) (.cells #[.slice A3 l.length k3, .string x, .int .i64 m', .int .i64 f] 39))
        obtain ⟨HX, hHX⟩ : ∃ H, H = w3.heap.size := ⟨_, rfl⟩
        have HK4 : Hid (Blk (w3.alloc (.cells #[.slice A3 l.length k3, .string x, .int .i64 m', .int .i64 f] 39)) HX 39 #[.slice A3 l.length k3, .string x, .int .i64 m', .int .i64 f]) := Lib.hid (by rw [hHX]; exact Blk.new _ _ _)
        have HS4 := Lib.hid (lawS_below D4.out HS3.out)
        have HR4 := Lib.hid (HR3.out.below D4.out)
        have B4 := Lib.hid (lawS_new HS4.out)
        have HHX := Lib.hid hHX
        clear hHX
        go_wp2_with fail
        rw [← HHX.out]
        refine (HTI.out _ B4.out).mono ?_
        rintro e w5 ⟨⟨v5, rfl, hv5⟩, hb5⟩
        have HS5 := Lib.hid (lawS_below hb5 HS4.out)
        have HK5 := Lib.hid (HK4.out.after hb5)
        have hl5 := (HR4.out.below hb5).below (Below.drew (Below.refl _ w5))
        have hi5 := (Rd.of_own hv5).below (Below.drew (Below.refl _ w5))
        have HL5 := Lib.hid hl5
        have HI5 := Lib.hid hi5
        obtain ⟨c0, c1, c2, c3, c4, c5, c6, c7, c8, q0, q1, q2, q3, s0, s1, hB5⟩ := HS5.out
        have r0 := HK5.out.cell 0
        have r1 := HK5.out.cell 1
        have r2 := HK5.out.cell 2
        have r3 := HK5.out.cell 3
        simp at r0 r1 r2 r3
        have s2 := HK5.out.lt
        have B5 := Lib.hid hB5.drew
        clear hb5 hv5 hl5 hi5 hB5
        go_wp2_with fail
        go_region_held3 (fun W => W.cell? ⟨w.heap.size, 0, none⟩ = some (.int .i64 m) ∧ W.cell? ⟨w.heap.size, 1, none⟩ = some (.int .i64 t) ∧ W.cell? ⟨w.heap.size, 2, none⟩ = some (.int .i64 p) ∧ W.cell? ⟨w.heap.size, 3, none⟩ = some (.int .i64 d) ∧ W.cell? ⟨w.heap.size, 4, none⟩ = some (.bool fr) ∧ W.cell? ⟨w.heap.size, 5, none⟩ = some (.bool fd) ∧ W.cell? ⟨w.heap.size, 6, none⟩ = some (.bool fl) ∧ W.cell? ⟨w.heap.size, 7, none⟩ = some (.bool fe) ∧ W.cell? ⟨w.heap.size, 8, none⟩ = some (.bool fm) ∧ W.cell? ⟨w.heap.size + 1, 0, none⟩ = some (.slice Ac lc cc) ∧ W.cell? ⟨w.heap.size + 1, 1, none⟩ = some (.string x) ∧ W.cell? ⟨w.heap.size + 1, 2, none⟩ = some (.int .i64 m') ∧ W.cell? ⟨w.heap.size + 1, 3, none⟩ = some (.int .i64 f) ∧ W.cell? ⟨HX, 0, none⟩ = some (.slice A3 l.length k3) ∧ W.cell? ⟨HX, 1, none⟩ = some (.string x) ∧ W.cell? ⟨HX, 2, none⟩ = some (.int .i64 m') ∧ W.cell? ⟨HX, 3, none⟩ = some (.int .i64 f) ∧ w.heap.size < W.heap.size ∧ (w.heap.size + 1) < W.heap.size ∧ HX < W.heap.size ∧ Below w.heap.size w W)
          (first | exact ⟨c0, c1, c2, c3, c4, c5, c6, c7, c8, q0, q1, q2, q3, r0, r1, r2, r3, s0, s1, s2, B5.out⟩ | exact lawT_below (by assumption) (by assumption))
          (first
            | (go_at_call 7; refine (HTC.out _).mono ?_; rintro e wE ⟨rfl, hbE⟩)
            | (go_at_call 13; refine (HIM.out _ v5 _ (lawT_new (by assumption)) (by first | exact HL5.out | exact HL5.out.below (by assumption)) (by first | exact HI5.out | exact HI5.out.below (by assumption))).mono ?_; rintro e wF ⟨rfl, hbF⟩; have hlF := (by first | exact (HL5.out.below (by assumption)).below hbF | exact HL5.out.below hbF : RdC wF (.slice A3 l.length k3) l); have hiF := (by first | exact (HI5.out.below (by assumption)).below hbF | exact HI5.out.below hbF : Rd wF v5 (ints ws))))
        all_goals
          have hSF : wF.cell? ⟨w.heap.size, 0, none⟩ = some (.int .i64 m) ∧ wF.cell? ⟨w.heap.size, 1, none⟩ = some (.int .i64 t) ∧ wF.cell? ⟨w.heap.size, 2, none⟩ = some (.int .i64 p) ∧ wF.cell? ⟨w.heap.size, 3, none⟩ = some (.int .i64 d) ∧ wF.cell? ⟨w.heap.size, 4, none⟩ = some (.bool fr) ∧ wF.cell? ⟨w.heap.size, 5, none⟩ = some (.bool fd) ∧ wF.cell? ⟨w.heap.size, 6, none⟩ = some (.bool fl) ∧ wF.cell? ⟨w.heap.size, 7, none⟩ = some (.bool fe) ∧ wF.cell? ⟨w.heap.size, 8, none⟩ = some (.bool fm) ∧ wF.cell? ⟨w.heap.size + 1, 0, none⟩ = some (.slice Ac lc cc) ∧ wF.cell? ⟨w.heap.size + 1, 1, none⟩ = some (.string x) ∧ wF.cell? ⟨w.heap.size + 1, 2, none⟩ = some (.int .i64 m') ∧ wF.cell? ⟨w.heap.size + 1, 3, none⟩ = some (.int .i64 f) ∧ wF.cell? ⟨HX, 0, none⟩ = some (.slice A3 l.length k3) ∧ wF.cell? ⟨HX, 1, none⟩ = some (.string x) ∧ wF.cell? ⟨HX, 2, none⟩ = some (.int .i64 m') ∧ wF.cell? ⟨HX, 3, none⟩ = some (.int .i64 f) ∧ w.heap.size < wF.heap.size ∧ (w.heap.size + 1) < wF.heap.size ∧ HX < wF.heap.size ∧ Below w.heap.size w wF := by assumption
          have HSF := Lib.hid hSF
          have HLF := Lib.hid (hlF.below (Below.drew (Below.refl _ wF)))
          have HIF := Lib.hid hiF
          clear hSF c0 c1 c2 c3 c4 c5 c6 c7 c8 q0 q1 q2 q3 r0 r1 r2 r3 s0 s1 s2 hlF hiF hbF
          obtain ⟨c0, c1, c2, c3, c4, c5, c6, c7, c8, q0, q1, q2, q3, r0, r1, r2, r3, s0, s1, s2, hBF⟩ := HSF.out
          have BF := Lib.hid hBF.drew
          clear hBF
          go_wp2_with fail
          go_region_held3 (fun W => W.cell? ⟨w.heap.size, 0, none⟩ = some (.int .i64 m) ∧ W.cell? ⟨w.heap.size, 1, none⟩ = some (.int .i64 t) ∧ W.cell? ⟨w.heap.size, 2, none⟩ = some (.int .i64 p) ∧ W.cell? ⟨w.heap.size, 3, none⟩ = some (.int .i64 d) ∧ W.cell? ⟨w.heap.size, 4, none⟩ = some (.bool fr) ∧ W.cell? ⟨w.heap.size, 5, none⟩ = some (.bool fd) ∧ W.cell? ⟨w.heap.size, 6, none⟩ = some (.bool fl) ∧ W.cell? ⟨w.heap.size, 7, none⟩ = some (.bool fe) ∧ W.cell? ⟨w.heap.size, 8, none⟩ = some (.bool fm) ∧ W.cell? ⟨w.heap.size + 1, 0, none⟩ = some (.slice Ac lc cc) ∧ W.cell? ⟨w.heap.size + 1, 1, none⟩ = some (.string x) ∧ W.cell? ⟨w.heap.size + 1, 2, none⟩ = some (.int .i64 m') ∧ W.cell? ⟨w.heap.size + 1, 3, none⟩ = some (.int .i64 f) ∧ W.cell? ⟨HX, 0, none⟩ = some (.slice A3 l.length k3) ∧ W.cell? ⟨HX, 1, none⟩ = some (.string x) ∧ W.cell? ⟨HX, 2, none⟩ = some (.int .i64 m') ∧ W.cell? ⟨HX, 3, none⟩ = some (.int .i64 f) ∧ w.heap.size < W.heap.size ∧ (w.heap.size + 1) < W.heap.size ∧ HX < W.heap.size ∧ Below w.heap.size w W)
            (first | exact ⟨c0, c1, c2, c3, c4, c5, c6, c7, c8, q0, q1, q2, q3, r0, r1, r2, r3, s0, s1, s2, BF.out⟩ | exact lawT_below (by assumption) (by assumption))
            (first
              | (go_at_call 11; refine (HTL.out _ (lawT_new (by assumption))).mono ?_; rintro e wG ⟨⟨vG, rfl, hvG⟩, hbG⟩; have hlG := hvG.rd.rd; have hxG := HLF.out.below hbG; have hiG := (HIF.out.below (Below.drew (Below.refl _ wF))).below hbG)
              | (go_at_call 14; refine (HEL.out _ vG _ hxG hlG).mono ?_; rintro e wH ⟨rfl, hbH⟩; have hiH := hiG.below hbH))
          all_goals
            have BH := Lib.hid (lawT_new (w := w) (W := wH) (by assumption))
            have HIH := Lib.hid hiH
            clear c0 c1 c2 c3 c4 c5 c6 c7 c8 q0 q1 q2 q3 r0 r1 r2 r3 s0 s1 s2 hiH hiG hxG hlG hvG hbG hbH
            go_wp2_with fail
            refine (HTI.out _ BH.out).mono ?_
            rintro e w9 ⟨⟨v9, rfl, hv9⟩, hb9⟩
            have B9 := Lib.hid (BH.out.trans (hb9.mono BH.out.size))
            have HI9 := Lib.hid (HIH.out.below hb9)
            have HV9 := Lib.hid (Rd.of_own hv9)
            clear hb9 hv9
            go_wp2_with fail
            refine (HEI.out _ _ _ HI9.out HV9.out).mono ?_
            rintro e w10 ⟨rfl, hb10⟩
            have B10 := Lib.hid (B9.out.trans (hb10.mono B9.out.size))
            clear hb10
            go_wp2_with fail
            go_ret
            exact ⟨rfl, B10.out⟩
end Go.Proofs.Ytjdbkpckhgncbaa
