/- SplitText: the program's. -/
import Derived.Test.YtncdglfcegmmgaaDoorSplitR
import Derived.Test.YtncdglfcegmmgaaDoorImplRoles
import Derived.Test.YtncdglfcegmmgaaDoorImplCelW
import Derived.Deep.RegionLaw
namespace Go.Proofs.YtncdglfcegmmgaaDoor
open Go.RowKit
set_option linter.unusedVariables false

theorem cel_two {W : World} {g : Nat} {T : TypeId} {cs : Array Value} (h : Blk W g T cs) (hc : cs.size = 2) (a b : Value) : Blk ((W.setCell ⟨g, 0, none⟩ a).setCell ⟨g, 1, none⟩ b) g T #[a, b] := by
  have h2 := (h.set 0 a).set 1 b
  obtain ⟨l⟩ := cs
  match l, hc with
  | [u, v], _ => exact h2
set_option maxRecDepth 100000 in
set_option maxHeartbeats 2000000 in
theorem implCellOf (c : Cfg) (v : Value) (l : List UInt8) (w : World) (hv : Rd w v (u8s l)) (hs : l.length ≤ 1048576) (hok : validC c = true) (hT : WT w) :
    Calls Tryd.prog 24 #[.agg (cfgV c), v] w fun e w' => e = .returned (.agg #[.string ⟨l.toArray⟩, .int .i64 (celW c.fm ⟨l.toArray⟩ 0 : Int)]) ∧ Below w.heap.size w w' := by
  have hsz : (⟨l.toArray⟩ : ByteArray).size ≤ 1048576 := by show l.toArray.size ≤ _; simpa using hs
  have HCW := Lib.hid (fun W (h : WT W) => implCellWidth c ⟨l.toArray⟩ W hsz h)
  rw [cellWB_yes _ hok] at HCW
  have B0 := Lib.hid (by go_grown : Below w.heap.size w ((w.alloc (.cells (cfgV c) 24)).alloc (.cells #[.string ⟨#[]⟩, .int .i64 0] 32)))
  have hcv0 := conv_rd l (hv.below B0.out)
  have h2 := Blk.new (w.alloc (.cells (cfgV c) 24)) 32 #[.string ⟨#[]⟩, .int .i64 0]
  rw [show (w.alloc (.cells (cfgV c) 24)).heap.size = w.heap.size + 1 by simp] at h2
  have H2 := Lib.hid h2
  have HT := Lib.hid hT
  obtain ⟨x, hx⟩ : ∃ x : ByteArray, x = ⟨l.toArray⟩ := ⟨_, rfl⟩
  rw [← hx] at HCW hcv0 ⊢
  obtain ⟨z, hz⟩ : ∃ z : Int, z = (celW c.fm x 0 : Int) := ⟨_, rfl⟩
  rw [← hz] at HCW ⊢
  obtain ⟨A, cp, rfl, _⟩ := hv
  obtain ⟨n, hn⟩ : ∃ n, n = (u8s l).length := ⟨_, rfl⟩
  rw [← hn] at hcv0 ⊢
  clear hx hz h2 hsz hok hT hn
  obtain ⟨m, t, p, d, fr, fd, fl, fe, fm⟩ := c
  unfold cfgV at HCW B0 H2 hcv0 ⊢
  simp only at HCW B0 H2 hcv0 ⊢
  go_enter Tryd.func24, Tryd.ntmps24
  go_wp2_with fail
  refine (HCW.out _ (HT.out.below B0.out)).mono ?_
  rintro e w1 ⟨rfl, hb1⟩
  have B1 := Lib.hid (B0.out.trans (hb1.mono B0.out.size))
  have hk1 := H2.out.after hb1
  have q0 : w1.cell? ⟨w.heap.size + 1, 0, none⟩ = some (.string ⟨#[]⟩) := hk1.cell 0
  have q1 : w1.cell? ⟨w.heap.size + 1, 1, none⟩ = some (.int .i64 0) := hk1.cell 1
  have g0 := hk1.free 0
  have g1 := hk1.free 1
  have K2 := Lib.hid (cel_two hk1 rfl (.string x) (.int .i64 z))
  have B2 := Lib.hid ((B1.out.setCell (p := ⟨w.heap.size + 1, 0, none⟩) (by show _ ≤ w.heap.size + 1; omega) (.string x)).setCell (p := ⟨w.heap.size + 1, 1, none⟩) (by show _ ≤ w.heap.size + 1; omega) (.int .i64 z))
  have d0 := K2.out.cell 0
  have d1 := K2.out.cell 1
  clear hb1 hk1
  go_wp2_with fail
  exact bodyPost_ret (v := .agg #[.string x, .int .i64 z]) (by simp [results, Tryd.results24, go_sem, d0, d1]) rfl ⟨rfl, B2.out⟩
set_option maxRecDepth 100000 in
set_option maxHeartbeats 16000000 in
theorem implSplitText (c : Cfg) (s : ByteArray) (w : World) (hs : s.size ≤ 1048576) (hT : WT w) :
    Calls Tryd.prog 8 #[.agg (cfgV c), .string s] w fun e w' => ∃ v, e = .returned v ∧ OwnL w' w.heap.size none v (splitL c s) ∧ Below w.heap.size w w' := by
  have hS := fun W => implIsConfig c W
  cases hv : validC c with
  | false =>
    rw [splitL_no s hv]
    rw [hv] at hS
    have HS := Lib.hid hS
    clear hS hv hT
    obtain ⟨m, tt, p, d, fr, fd, fl, fe, fm⟩ := c
    unfold cfgV at HS ⊢
    simp only at HS ⊢
    go_enter Tryd.func8, Tryd.ntmps8
    go_wp2_with fail
    refine (HS.out _).mono ?_
    rintro e w1 ⟨rfl, hb1⟩
    have B1 := Lib.hid ((by go_grown : Below w.heap.size w (w.alloc _)).trans (hb1.mono (by simp)))
    clear hb1
    go_wp2_with fail
    go_ret
    exact ⟨_, rfl, OwnL.nilAt _ _ _ _ (World.ownsRow_nil _ _ _ _), B1.out⟩
  | true =>
    rw [splitL_yes s hv]
    rw [hv] at hS
    have HS := Lib.hid hS
    obtain ⟨iC, hc0, hc1, hc2, hc3⟩ := info_parts Tryd.infoCelS
    obtain ⟨iL, hl0, hl1, hl2, hl3⟩ := info_parts Tryd.infoLnS
    obtain ⟨iB, hb0, hb1, hb2, hb3⟩ := info_parts Tryd.infoBytS
    have HC := Lib.hid (fun (v : Value) (l : List UInt8) (W : World) (hv' : Rd W v (u8s l)) (hl : l.length ≤ 1048576) (h : WT W) => implCellOf c v l W hv' hl hv h)
    have HRO := Lib.hid (fun W => implRolesOf c s W hs)
    have HT := Lib.hid hT
    have hfin : ∀ st : Sp, st = spRun c.fe (fun b => (celW c.fm b 0 : Int)) sp0 s.data.toList → st.outs ++ [⟨st.cells, celOf (fun b => (celW c.fm b 0 : Int)) st.buf, 0⟩] = linesOf c.fe (fun b => (celW c.fm b 0 : Int)) s.data.toList := fun st h => by rw [h]; rfl
    obtain ⟨Wf, hWf⟩ : ∃ Wf : ByteArray → Int, Wf = fun b => (celW c.fm b 0 : Int) := ⟨_, rfl⟩
    obtain ⟨R, hR⟩ : ∃ R, R = linesOf c.fe (fun b => (celW c.fm b 0 : Int)) s.data.toList := ⟨_, rfl⟩
    rw [← hR, ← hWf] at hfin
    rw [← hR]
    have HFIN := Lib.hid hfin
    have hcw : ∀ l : List UInt8, (celW c.fm ⟨l.toArray⟩ 0 : Int) = Wf ⟨l.toArray⟩ := fun l => by rw [hWf]
    have HCW := Lib.hid hcw
    have HBEG := Lib.hid (fun w1 => spm_begin w w1 c)
    have HNEW := Lib.hid (Blk.new w 24 (cfgV c))
    clear hR hfin hWf hcw hS hv hT
    obtain ⟨m, tt, p, d, fr, fd, fl, fe, fm⟩ := c
    unfold cfgV at HS HC HRO HNEW ⊢
    simp only at HS HC HRO HFIN HCW HNEW ⊢
    go_enter Tryd.func8, Tryd.ntmps8
    go_wp2_with fail
    refine (HS.out _).mono ?_
    rintro e w1 ⟨rfl, hb1⟩
    have B1 := Lib.hid ((by go_grown : Below w.heap.size w (w.alloc _)).trans (hb1.mono (by simp)))
    have hB1 := HNEW.out.after hb1
    have HM0 := Lib.hid (HBEG.out w1 B1.out hB1)
    obtain ⟨c0, c1, c2, c3, c4, c5, c6, c7, c8⟩ := (show Boxed w1 w.heap.size m tt p d fr fd fl fe fm from ⟨hB1.cell 0, hB1.cell 1, hB1.cell 2, hB1.cell 3, hB1.cell 4, hB1.cell 5, hB1.cell 6, hB1.cell 7, hB1.cell 8⟩)
    have hltg : w.heap.size < w1.heap.size := hB1.lt
    clear hb1 hB1
    go_wp2_with fail
    refine (HRO.out _).mono ?_
    rintro e w2 ⟨⟨vr, rfl, gr, capr, csr, rfl, hgr, hblkr, hmader⟩, hb2⟩
    obtain ⟨gl, hgl⟩ : ∃ gl, gl = w1.heap.size := ⟨_, rfl⟩
    rw [← hgl] at HM0 ⊢
    have HM2 := Lib.hid (SpM.below HM0.out hb2)
    have HBR := Lib.hid hblkr
    have HMR := Lib.hid hmader
    clear hb2 hgr hblkr hmader hgl c0 c1 c2 c3 c4 c5 c6 c7 c8 hltg
    go_wp2_with fail
    go_loopw [5, 7, 8, 9, 17] (fun o b _ _ i wr => ∃ (k : Nat) (outs : List Ln) (raw : Bool) (cells : List Cel) (buf : List UInt8) (vo vc vb : Value), k ≤ s.size ∧ vo = o ∧ vb = b ∧ i = .int .i64 (k : Int) ∧ Hid (SpM w wr (⟨m, tt, p, d, fr, fd, fl, fe, fm⟩ : Cfg) gl vo vc vb ⟨outs, raw, cells, buf⟩) ∧ Hid ((⟨outs, raw, cells, buf⟩ : Sp) = spRun fe Wf sp0 (s.data.toList.take k)) ∧ Hid (Blk wr gr 52 csr) ∧ outs.length ≤ k ∧ cells.length ≤ k ∧ buf.length ≤ k) (fun _ _ _ _ i _ => s.size - (intOf i).toNat)
    case atStart => exact ⟨0, [], false, [], [], _, _, _, Nat.zero_le _, rfl, rfl, rfl, HM2, Lib.hid rfl, HBR, Nat.zero_le _, Nat.zero_le _, Nat.zero_le _⟩
    case round =>
      obtain ⟨k, outs, raw, cells, buf, vo, vc, vb, hk, rfl, rfl, rfl, HM, HR, HBR, hlo, hlc, hlb⟩ := hrel
      have hB := HM.out.2.1
      obtain ⟨c0, c1, c2, c3, c4, c5, c6, c7, c8⟩ := (show Boxed wr w.heap.size m tt p d fr fd fl fe fm from ⟨hB.cell 0, hB.cell 1, hB.cell 2, hB.cell 3, hB.cell 4, hB.cell 5, hB.cell 6, hB.cell 7, hB.cell 8⟩)
      clear hB
      have hbase : w.heap.size ≤ wr.heap.size := HM.out.1.size
      have HTW := Lib.hid (HT.out.below HM.out.1)
      by_cases hlt : k < s.size
      · have hcell := (HBR.out.cell k).trans (HMR.out.2 k hlt)
        have i0 : (0 : Int) ≤ (k : Int) := by omega
        have i1 : (k : Int) < (s.size : Int) := by omega
        obtain ⟨nr, hrole⟩ := sp_role fe Wf s k hlt outs raw cells buf HR.out
        rcases hrole with (⟨h, H⟩ | ⟨h, H⟩) | (⟨h, H⟩ | ⟨h, H⟩)
        · rw [h] at hcell
          have HR2 := Lib.hid H
          clear h H
          have h5 : wr.ownsRow w.heap.size 5 1 vb buf.length (u8s buf) := HM.out.2.2.2.2.1
          go_wp2_with (at_builtin; refine append_el rfl _ _ 22 rfl w.heap.size 5 iB _ 1 1 Tryd.underlying22 hb0 hb1 hb2 hb3 rfl (by decide) vb _ _ rfl wr #[.int .u8 s[k].toNat] rfl rfl (by simp [Value.oneCell']) h5 (by omega) (by omega) hbase ?_; intro v1 w3 ho1 hg1 _; have HM1 := Lib.hid (SpM.byte (x := s[k]) HM.out ho1 hg1); have HBR1 := Lib.hid (HBR.out.keeps (SpM.byte_keeps HM.out hg1 (by decide))); clear ho1 hg1)
          go_roundw
          case rel => first | exact ⟨k + 1, outs, nr, cells, buf ++ [s[k]], vo, vc, v1, by omega, rfl, rfl, by go_num, Lib.hid HM1.out, HR2, HBR1, by omega, by omega, by simp; omega⟩ | ((repeat apply Exists.intro); exact ⟨⟨k + 1, outs, nr, cells, buf ++ [s[k]], vo, vc, v1, by omega, rfl, rfl, by go_num, Lib.hid HM1.out, HR2, HBR1, by omega, by omega, by simp; omega⟩, rfl⟩)
          case measure => simp [intOf]; omega
        · rw [h] at hcell
          have HR2 := Lib.hid H
          clear h H
          go_wp2_with fail
          go_roundw
          case rel => exact ⟨k + 1, outs, nr, cells, buf, vo, vc, vb, by omega, rfl, rfl, by go_num, Lib.hid HM.out, HR2, HBR, by omega, by omega, by omega⟩
          case measure => simp [intOf]; omega
        · rw [h] at hcell
          obtain ⟨X, hX⟩ : ∃ X : ByteArray, X = ⟨buf.toArray⟩ := ⟨_, rfl⟩
          obtain ⟨Z, hZ⟩ : ∃ Z : Int, Z = Wf X := ⟨_, rfl⟩
          have hxz : celOf Wf buf = ⟨X, Z⟩ := by rw [hZ, hX]; rfl
          rw [hxz] at H
          have HR2 := Lib.hid H
          have HCL := Lib.hid (fun (W : World) (hv : Rd W vb (u8s buf)) (h : WT W) => HC.out vb buf W hv (by omega) h)
          rw [HCW.out, ← hX, ← hZ] at HCL
          clear hX hZ hxz h H
          have h5 : wr.ownsRow w.heap.size 5 1 vb buf.length (u8s buf) := HM.out.2.2.2.2.1
          have hsl := fun w => run_emptied h5 w
          have HEM := Lib.hid (emptied_own h5)
          have RdB := Lib.hid (Rd.of_own h5)
          clear h5
          have q0 : wr.cell? ⟨gl, 0, none⟩ = some vc := HM.out.2.2.1.cell 0
          go_wp2_with fail
          go_region_law
            (first
              | (go_simp; go_at_call 24; refine (HCL.out wr.drew (RdB.out.below (Below.drew (Below.refl _ wr))) (HTW.out.below (Below.drew (Below.refl _ wr)))).mono ?_; rintro e w3 ⟨rfl, hb1⟩; have HBL : Hid (Below wr.heap.size wr w3) := Lib.hid ((Below.drew (Below.refl _ wr)).trans hb1); have HM1 := Lib.hid (SpM.below HM.out HBL.out); have q1 : w3.cell? ⟨gl, 0, none⟩ = some vc := HM1.out.2.2.1.cell 0; have p1 : w3.frozen? ⟨gl, 0, none⟩ = false := HM1.out.2.2.1.free 0; have h4 : w3.ownsRow w.heap.size 32 2 vc cells.length (celVals cells) := HM1.out.2.2.2.1; have q1a : ∀ o, (w3.alloc o).cell? ⟨gl, 0, none⟩ = some vc := fun o => (((Below.refl w3.heap.size w3).alloc (Nat.le_refl _) o).cell (p := ⟨gl, 0, none⟩) HM1.out.2.2.1.lt).trans q1; have hbase1 : w.heap.size ≤ w3.heap.size := HM1.out.1.size; clear hb1; (try dsimp only))
              | (refine step_append_el rfl _ _ 30 rfl w.heap.size 32 iC _ 2 24 Tryd.underlying30 hc0 hc1 hc2 hc3 rfl (by decide) vc _ _ rfl w3 #[.string X, .int .i64 Z] rfl rfl (by simp [Value.oneCell']) h4 (by omega) (by omega) hbase1 ?_; intro g2 cap2 w4 ho2 hg2 hat2; have q2 : w4.cell? ⟨gl, 0, none⟩ = some vc := (HM1.out.2.2.1.keeps (.grown h4 (by decide) hg2)).cell 0; have p2 : w4.frozen? ⟨gl, 0, none⟩ = false := (HM1.out.2.2.1.keeps (.grown h4 (by decide) hg2)).free 0; have HM2 := Lib.hid (SpM.cell (x := ⟨X, Z⟩) HM1.out ho2 hg2 hat2); have HKB := Lib.hid ((Keeps.below 52 HBL.out).trans (SpM.cell_keeps (vc' := .slice (some ⟨g2, 0, none⟩) (cells.length + 1) cap2) HM1.out hg2 (by decide) (by decide))); have HKU := Lib.hid ((Keeps.below 5 HBL.out).trans (SpM.cell_keeps (vc' := .slice (some ⟨g2, 0, none⟩) (cells.length + 1) cap2) HM1.out hg2 (by decide) (by decide))); clear ho2 hg2 hat2))
          all_goals
            go_wp2_with fail
            go_roundw
            case rel => first | exact ⟨k + 1, outs, nr, cells ++ [⟨X, Z⟩], [], vo, _, emptied vb, by omega, rfl, rfl, by go_num, Lib.hid (SpM.rebuf (b := []) HM2.out (own_keeps HEM.out HKU.out)), HR2, Lib.hid (HBR.out.keeps HKB.out), by omega, by simp; omega, by simp⟩ | ((repeat apply Exists.intro); exact ⟨⟨k + 1, outs, nr, cells ++ [⟨X, Z⟩], [], vo, _, emptied vb, by omega, rfl, rfl, by go_num, Lib.hid (SpM.rebuf (b := []) HM2.out (own_keeps HEM.out HKU.out)), HR2, Lib.hid (HBR.out.keeps HKB.out), by omega, by simp; omega, by simp⟩, rfl⟩)
            case measure => simp [intOf]; omega
        · rw [h] at hcell
          obtain ⟨X, hX⟩ : ∃ X : ByteArray, X = ⟨buf.toArray⟩ := ⟨_, rfl⟩
          obtain ⟨Z, hZ⟩ : ∃ Z : Int, Z = Wf X := ⟨_, rfl⟩
          have hxz : celOf Wf buf = ⟨X, Z⟩ := by rw [hZ, hX]; rfl
          rw [hxz] at H
          have HR2 := Lib.hid H
          clear h H
          have HCL := Lib.hid (fun (W : World) (hv : Rd W vb (u8s buf)) (h : WT W) => HC.out vb buf W hv (by omega) h)
          rw [HCW.out, ← hX, ← hZ] at HCL
          clear hX hZ hxz
          have h5 : wr.ownsRow w.heap.size 5 1 vb buf.length (u8s buf) := HM.out.2.2.2.2.1
          have RdB := Lib.hid (Rd.of_own h5)
          have hsl := fun w => run_emptied h5 w
          have HEM := Lib.hid (emptied_own h5)
          have HONE := Lib.hid (OwnC.one HM.out.2.2.2.1)
          have hx255 : (s[k].toNat : Int) ≤ 255 := by have := UInt8.toNat_lt s[k]; omega
          clear h5
          go_wp2_with fail
          refine (HCL.out wr RdB.out HTW.out).mono ?_
          rintro e w3 ⟨rfl, hb1⟩
          have HBL := Lib.hid hb1
          have HM1 := Lib.hid (SpM.below HM.out hb1)
          have hB1 := HM1.out.2.2.1
          have q0 : w3.cell? ⟨gl, 0, none⟩ = some vc := hB1.cell 0
          have q1 : w3.cell? ⟨gl, 1, none⟩ = some (.string ⟨#[]⟩) := hB1.cell 1
          have q2 : w3.cell? ⟨gl, 2, none⟩ = some (.int .i64 0) := hB1.cell 2
          have q3 : w3.cell? ⟨gl, 3, none⟩ = some (.int .i64 0) := hB1.cell 3
          have p0 := hB1.free 0
          have p1 := hB1.free 1
          have p2 := hB1.free 2
          have p3 := hB1.free 3
          have HF := Lib.hid (HM1.out.fill ⟨X, Z⟩ (s[k].toNat : Int))
          obtain ⟨vs, hvl, how, hin⟩ := (HM1.out.stored HF.out.2.2).2.2.2
          have hbase2 : w.heap.size ≤ (((w3.setCell ⟨gl, 1, none⟩ (.string X)).setCell ⟨gl, 2, none⟩ (.int .i64 Z)).setCell ⟨gl, 3, none⟩ (.int .i64 (s[k].toNat : Int))).heap.size := HF.out.1.size
          have HVL := Lib.hid hvl
          have HOW := Lib.hid how
          have HIN := Lib.hid hin
          clear hb1 hB1 hvl how hin c0 c1 c2 c3 c4 c5 c6 c7 c8
          go_wp2_with (at_builtin; refine append_elH rfl _ _ 27 rfl w.heap.size 34 iL _ 4 56 Tryd.underlying27 hl0 hl1 hl2 hl3 rfl (by decide) vo _ _ rfl (((w3.setCell ⟨gl, 1, none⟩ (.string X)).setCell ⟨gl, 2, none⟩ (.int .i64 Z)).setCell ⟨gl, 3, none⟩ (.int .i64 (s[k].toNat : Int))) #[vc, .string X, .int .i64 Z, .int .i64 (s[k].toNat : Int)] w3.heap.size (by simp) rfl rfl (line_ones X Z _ HONE.out) HOW.out (by omega) (by omega) hbase2 ?_; intro v3 w4 ho3 hg3 hat3; have HEM4 := Lib.hid (own_keeps HEM.out ((Keeps.below 5 HBL.out).trans (SpM.line_keeps HM1.out HF.out.2.2 HF.out.2.1 HOW.out hg3 (by decide)).1)); have HKB := Lib.hid ((Keeps.below 52 HBL.out).trans (SpM.line_keeps HM1.out HF.out.2.2 HF.out.2.1 HOW.out hg3 (by decide)).2); have HM3 := Lib.hid (SpM.line (x := ⟨X, Z⟩) HM1.out HF.out.2.2 HF.out.2.1 HVL.out HOW.out HIN.out ho3 hg3 hat3 (emptied vb) HEM4.out); have hB3 := SpM.line_blk HM1.out HF.out.2.1 hg3; have r0 : w4.cell? ⟨gl, 0, none⟩ = some vc := hB3.cell 0; have r1 : w4.cell? ⟨gl, 1, none⟩ = some (.string X) := hB3.cell 1; have r2 : w4.cell? ⟨gl, 2, none⟩ = some (.int .i64 Z) := hB3.cell 2; have r3 : w4.cell? ⟨gl, 3, none⟩ = some (.int .i64 (s[k].toNat : Int)) := hB3.cell 3; have t0 := hB3.free 0; have t1 := hB3.free 1; have t2 := hB3.free 2; have t3 := hB3.free 3; clear hB3 ho3 hg3 hat3)
          go_roundw
          case rel => first | exact ⟨k + 1, outs ++ [⟨cells, ⟨X, Z⟩, (s[k].toNat : Int)⟩], nr, [], [], v3, _, emptied vb, by omega, rfl, rfl, by go_num, Lib.hid (SpM.rebuf (b := []) HM3.out HM3.out.2.2.2.2.1), HR2, Lib.hid (HBR.out.keeps HKB.out), by simp; omega, by simp, by simp⟩ | ((repeat apply Exists.intro); exact ⟨⟨k + 1, outs ++ [⟨cells, ⟨X, Z⟩, (s[k].toNat : Int)⟩], nr, [], [], v3, _, emptied vb, by omega, rfl, rfl, by go_num, Lib.hid (SpM.rebuf (b := []) HM3.out HM3.out.2.2.2.2.1), HR2, Lib.hid (HBR.out.keeps HKB.out), by simp; omega, by simp, by simp⟩, rfl⟩)
          case measure => simp [intOf]; omega
      · skip
        obtain ⟨X, hX⟩ : ∃ X : ByteArray, X = ⟨buf.toArray⟩ := ⟨_, rfl⟩
        obtain ⟨Z, hZ⟩ : ∃ Z : Int, Z = Wf X := ⟨_, rfl⟩
        have hxz : celOf Wf buf = ⟨X, Z⟩ := by rw [hZ, hX]; rfl
        have HR2 := Lib.hid (HFIN.out ⟨outs, raw, cells, buf⟩ (by rw [HR.out, List.take_of_length_le (by rw [bytes_length]; omega)]))
        simp only at HR2
        rw [hxz] at HR2
        have HCL := Lib.hid (fun (W : World) (hv : Rd W vb (u8s buf)) (h : WT W) => HC.out vb buf W hv (by omega) h)
        rw [HCW.out, ← hX, ← hZ] at HCL
        clear hX hZ hxz
        have h5 : wr.ownsRow w.heap.size 5 1 vb buf.length (u8s buf) := HM.out.2.2.2.2.1
        have RdB := Lib.hid (Rd.of_own h5)
        have HONE := Lib.hid (OwnC.one HM.out.2.2.2.1)
        clear h5
        go_wp2_with fail
        refine (HCL.out wr RdB.out HTW.out).mono ?_
        rintro e w3 ⟨rfl, hb1⟩
        have HBL := Lib.hid hb1
        have HM1 := Lib.hid (SpM.below HM.out hb1)
        have hB1 := HM1.out.2.2.1
        have q0 : w3.cell? ⟨gl, 0, none⟩ = some vc := hB1.cell 0
        have q1 : w3.cell? ⟨gl, 1, none⟩ = some (.string ⟨#[]⟩) := hB1.cell 1
        have q2 : w3.cell? ⟨gl, 2, none⟩ = some (.int .i64 0) := hB1.cell 2
        have q3 : w3.cell? ⟨gl, 3, none⟩ = some (.int .i64 0) := hB1.cell 3
        have p0 := hB1.free 0
        have p1 := hB1.free 1
        have p2 := hB1.free 2
        have p3 := hB1.free 3
        have HF := Lib.hid (HM1.out.fill2 ⟨X, Z⟩)
        obtain ⟨vs, hvl, how, hin⟩ := (HM1.out.stored HF.out.2.2).2.2.2
        have hbase2 : w.heap.size ≤ ((w3.setCell ⟨gl, 1, none⟩ (.string X)).setCell ⟨gl, 2, none⟩ (.int .i64 Z)).heap.size := HF.out.1.size
        have HVL := Lib.hid hvl
        have HOW := Lib.hid how
        have HIN := Lib.hid hin
        clear hb1 hB1 hvl how hin c0 c1 c2 c3 c4 c5 c6 c7 c8
        go_wp2_with (at_builtin; refine append_elH rfl _ _ 27 rfl w.heap.size 34 iL _ 4 56 Tryd.underlying27 hl0 hl1 hl2 hl3 rfl (by decide) vo _ _ rfl ((w3.setCell ⟨gl, 1, none⟩ (.string X)).setCell ⟨gl, 2, none⟩ (.int .i64 Z)) #[vc, .string X, .int .i64 Z, .int .i64 0] w3.heap.size (by simp) rfl rfl (line_ones X Z _ HONE.out) HOW.out (by omega) (by omega) hbase2 ?_; intro v3 w4 ho3 hg3 hat3; have HM3 := Lib.hid (SpM.line_own (x := ⟨X, Z⟩) HM1.out HF.out.2.2 HVL.out HOW.out HIN.out ho3 hg3); clear ho3 hg3 hat3)
        go_ret
        exact ⟨_, rfl, by rw [← HR2.out]; exact HM3.out.1, HM3.out.2⟩
end Go.Proofs.YtncdglfcegmmgaaDoor
