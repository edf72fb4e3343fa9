/- The program's slots: those of a line, those of a text. -/
import Derived.Test.YtjdbkpckhgncbaaDoorImplLays
import Derived.Test.YtjdbkpckhgncbaaDoorImplSlL
import Derived.Test.YtjdbkpckhgncbaaDoorAliMath
import Derived.Test.YtjdbkpckhgncbaaDoorBD
import Derived.Test.YtjdbkpckhgncbaaDoorLaidW
import Derived.Deep.RegionHeld3
namespace Go.Proofs.YtjdbkpckhgncbaaDoor
open Go.RowKit
set_option linter.unusedVariables false

theorem slots_pack2 (c : Cfg) (ls : List Ln) : ∃ n, n = widN c ls ∧ n ≤ ls.length ∧ ∀ k, k < n → okWs (widF c ls k) = true := by
  refine ⟨_, rfl, widN_len c ls, fun k hk => ?_⟩
  cases hok : fitsB ls && validC c with
  | false =>
    have hn : widN c ls = 0 := by unfold widN; rw [hok]; rfl
    omega
  | true =>
    simp only [Bool.and_eq_true] at hok
    exact widF_laid c hok.2 hok.1 k
theorem box_rd {w W : World} {B : Nat} {m t p d : Int} {fr fd fl fe fm : Bool}
    (h : W.cell? ⟨B, 0, none⟩ = some (.int .i64 m) ∧ W.cell? ⟨B, 1, none⟩ = some (.int .i64 t) ∧ W.cell? ⟨B, 2, none⟩ = some (.int .i64 p) ∧ W.cell? ⟨B, 3, none⟩ = some (.int .i64 d) ∧ W.cell? ⟨B, 4, none⟩ = some (.bool fr) ∧ W.cell? ⟨B, 5, none⟩ = some (.bool fd) ∧ W.cell? ⟨B, 6, none⟩ = some (.bool fl) ∧ W.cell? ⟨B, 7, none⟩ = some (.bool fe) ∧ W.cell? ⟨B, 8, none⟩ = some (.bool fm) ∧ Below w.heap.size w W ∧ B + 1 ≤ W.heap.size) : Boxed W B m t p d fr fd fl fe fm ∧ Below w.heap.size w W ∧ B < W.heap.size := by
  obtain ⟨h0, h1, h2, h3, h4, h5, h6, h7, h8, h9, h10⟩ := h
  exact ⟨⟨h0, h1, h2, h3, h4, h5, h6, h7, h8⟩, h9, h10⟩
set_option maxRecDepth 100000 in
set_option maxHeartbeats 4000000 in
theorem implSlotsOf (c : Cfg) (s : ByteArray) (w : World) (hs : s.size ≤ 1048576) (hT : WT w) :
    Calls Tryd.prog 17 #[.agg (cfgV c), .string s] w fun e w' => ∃ u, e = .returned u ∧ OwnF w' w.heap.size w'.heap.size u (widN c (splitL c s)) (slotF c (splitL c s)) ∧ Below w.heap.size w w' := by
  have hsz := splitL_size c s
  have HSP := Lib.hid (fun W (hb : Below w.heap.size w W) => implSplitText c s W hs (hT.below hb))
  have HWO := Lib.hid (fun v W (h : RdL W v (splitL c s)) => implWidthsOf c (splitL c s) v W h ⟨by omega, by omega⟩)
  obtain ⟨n, hn, hnl, hok⟩ := slots_pack2 c (splitL c s)
  have HSL := Lib.hid (fun k (hk : k < n) v W (hv : Rd W v (ints (widF c (splitL c s) k))) => implSlotsOfLine c (widF c (splitL c s) k) v W hv (by rw [widF_size]; exact cells_bd _ _ (by omega) k) (okWs_all (hok k hk)))
  have HSF : Hid (∀ k, slotF c (splitL c s) k = slotL c.fl (widF c (splitL c s) k)) := Lib.hid (fun k => rfl)
  rw [← hn] at HWO ⊢
  have hnm : n ≤ 1048577 := by omega
  obtain ⟨F, hF⟩ : ∃ F, F = slotF c (splitL c s) := ⟨_, rfl⟩
  rw [← hF] at HSF ⊢
  have HFL : Hid (∀ k, (F k).length ≤ 1048577) := Lib.hid (fun k => by rw [hF, slotF_len]; have := cells_bd (splitL c s) 1048576 (by omega) k; omega)
  generalize widF c (splitL c s) = G at HWO HSL HSF
  have HSL2 := Lib.hid (fun k hk v W hv => (by have h := HSL.out k hk v W hv; rw [← HSF.out k] at h; exact h : Calls Tryd.prog 43 #[.agg (cfgV c), v] W fun e w' => ∃ u, e = .returned u ∧ w'.ownsRow W.heap.size 3 1 u (F k).length (ints (F k)) ∧ Below W.heap.size W w'))
  generalize splitL c s = ls at HSP HWO
  obtain ⟨iR, hiR, hzR0, hzR1, hzR2⟩ := info_parts Tryd.infoRowW
  obtain ⟨m, t, p, d, fr, fd, fl, fe, fm⟩ := c
  unfold cfgV at HSP HWO HSL2 ⊢
  simp only at HSP HWO HSL2 ⊢
  clear hs hsz hT hn hnl hok HSL HSF hF
  go_enter Tryd.func17, Tryd.ntmps17
  go_wp2_with fail
  go_region_held3 (fun W => W.cell? ⟨w.heap.size, 0, none⟩ = some (.int .i64 m) ∧ W.cell? ⟨w.heap.size, 1, none⟩ = some (.int .i64 t) ∧ W.cell? ⟨w.heap.size, 2, none⟩ = some (.int .i64 p) ∧ W.cell? ⟨w.heap.size, 3, none⟩ = some (.int .i64 d) ∧ W.cell? ⟨w.heap.size, 4, none⟩ = some (.bool fr) ∧ W.cell? ⟨w.heap.size, 5, none⟩ = some (.bool fd) ∧ W.cell? ⟨w.heap.size, 6, none⟩ = some (.bool fl) ∧ W.cell? ⟨w.heap.size, 7, none⟩ = some (.bool fe) ∧ W.cell? ⟨w.heap.size, 8, none⟩ = some (.bool fm) ∧ Below w.heap.size w W ∧ w.heap.size + 1 ≤ W.heap.size)
    (first | exact box_start _ _ _ _ _ _ _ _ _ _ | exact box_step (by assumption) (by assumption))
    (first | (go_at_call 18; refine (HSP.out _ (box_old (w := w) (by assumption))).mono ?_; rintro e w1 ⟨v1, rfl, ho1, hb1⟩; have hr1 := ho1.rd) | (go_at_call 20; refine (HWO.out _ _ (by assumption)).mono ?_; rintro e w2 ⟨v2, rfl, ho2, hb2⟩; have ho2' := ho2.retop; obtain ⟨A2, c2, he2⟩ := ho2.len; subst he2))
  all_goals
    have HBX := Lib.hid (box_rd (w := w) (W := w2) (by assumption))
    have HO2 := Lib.hid ho2'
    have hlt0 : w.heap.size < w2.heap.size := HBX.out.2.2
    clear ho1 hb1 hr1 ho2 ho2' hb2
    go_wp2_with fail
    go_loopw [5, 7, 14] (fun o _ i wr => ∃ (k : Nat) (vo : Value), k ≤ n ∧ vo = o ∧ i = .int .i64 (k : Int) ∧ Hid (OwnF wr w2.heap.size wr.heap.size vo k F) ∧ Hid (Below w2.heap.size w2 wr)) (fun _ _ i _ => n - (intOf i).toNat)
    case atStart => exact ⟨0, _, Nat.zero_le _, rfl, rfl, Lib.hid (OwnF.nil _ _ _ _ _ (World.ownsRow_nil _ _ _ _) (fun k hk => by cases hk)), Lib.hid (Below.refl _ _)⟩
    case round =>
      obtain ⟨k, vo, hk, rfl, rfl, HO, HE⟩ := hrel
      by_cases hlt : k < n
      · obtain ⟨go, co, uk, hgo, hg1, hg2, hg3⟩ := HO2.out.row k hlt
        injection hgo with e1 e2 e3
        subst e1 e3
        have HRW := Lib.hid hg3
        obtain ⟨Aw, cw, huk, _⟩ := hg3
        rw [ints_length] at huk
        subst huk
        have r0 := (HE.out.cell (p := ⟨go, k, none⟩) hg2).trans hg1
        have hcal := HSL2.out k hlt _ wr (HRW.out.below HE.out)
        obtain ⟨c0, c1, c2, c3, c4, c5, c6, c7, c8⟩ := HBX.out.1.below HE.out hlt0
        obtain ⟨vs, o1, _, o3, o4⟩ := HO.out
        have HO1 := Lib.hid o1
        have HO3 := Lib.hid (fun i x hx => (o3 i x hx).1)
        have HO4 := Lib.hid o4
        have hbw := HE.out.size
        generalize (G k).length = gl at r0 hcal
        have HCA := Lib.hid hcal
        clear hg1 o1 o3 o4 hcal
        go_wp2_with fail
        refine HCA.out.mono ?_
        rintro e w3 ⟨u3, rfl, ho3, hb3⟩
        have HU3 := Lib.hid ho3
        obtain ⟨Au, cu, hu3, _⟩ := Rd.of_own ho3
        rw [ints_length] at hu3
        subst hu3
        have HP1 := Lib.hid (own_below HO1.out hb3)
        have HB3 := Lib.hid hb3
        have hbw3 := hb3.size
        have hfl : (F k).length ≤ 1048577 := HFL.out k
        go_wp2_with (at_builtin; refine append_el rfl _ _ 36 rfl w2.heap.size 41 iR _ 1 24 Tryd.underlying36 hiR hzR0 hzR1 hzR2 rfl (by decide) vo _ vs rfl w3 #[.slice Au (F k).length cu] rfl rfl (row_one _ _ _) HP1.out (by omega) (by omega) (by omega) ?_; intro v1 w4 ho1 hg1 _; have HO5 := Lib.hid ho1; have HG5 := Lib.hid hg1; clear ho1 hg1)
        have HOK := Lib.hid (OwnF.snoc HO1.out HO3.out HO4.out HB3.out hbw HU3.out HO5.out HG5.out)
        have HB5 := Lib.hid (grown_below (HE.out.trans (HB3.out.mono hbw)) HG5.out (fun k hk => (World.ownsRow.lt HP1.out k hk).1))
        go_roundw
        case rel => exact ⟨k + 1, v1, by omega, rfl, by go_num, HOK, HB5⟩
        case measure => simp [intOf]; omega
      · obtain rfl : k = n := by omega
        have HFIN := Lib.hid (HO.out.rebase (base' := w.heap.size) (by omega))
        have HBF := Lib.hid (HBX.out.2.1.trans (HE.out.mono (by omega)))
        go_wp2_with fail
        go_ret
        exact ⟨_, rfl, HFIN.out, HBF.out⟩
end Go.Proofs.YtjdbkpckhgncbaaDoor
