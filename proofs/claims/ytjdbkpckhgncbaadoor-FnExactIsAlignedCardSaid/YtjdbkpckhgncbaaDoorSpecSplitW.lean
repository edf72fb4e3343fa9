/- SplitText: the walk of the model's l05Split. -/
import Derived.Test.YtjdbkpckhgncbaaDoorSpecSplitT
import Derived.Deep.RegionLaw
namespace Go.Proofs.YtjdbkpckhgncbaaDoor
open Go.RowKit
set_option linter.unusedVariables false
set_option maxRecDepth 100000 in
set_option maxHeartbeats 16000000 in
theorem specSplit (c : Cfg) (s : ByteArray) (w : World) (hs : s.size ≤ 1048576) :
    Calls Tryd.prog 57 #[.agg (cfgV c), .string s] w fun e w' => ∃ v, e = .returned v ∧ OwnL w' w.heap.size none v (linesOf c.fe (fun b => (celW c.fm b 0 : Int)) s.data.toList) ∧ Below w.heap.size w w' := by
  obtain ⟨iC, hc0, hc1, hc2, hc3⟩ := info_parts Tryd.infoCelS
  obtain ⟨iL, hl0, hl1, hl2, hl3⟩ := info_parts Tryd.infoLnS
  obtain ⟨iB, hb0, hb1, hb2, hb3⟩ := info_parts Tryd.infoBytS
  have HC := Lib.hid (fun (v : Value) (l : List UInt8) (W : World) (hv : Rd W v (u8s l)) (hl : l.length ≤ 1048576) => specCell c v l W hv hl)
  have HW0 := Lib.hid (spm_start w c)
  have hfin : ∀ st : Sp, st = spRun c.fe (fun b => (celW c.fm b 0 : Int)) sp0 s.data.toList → st.outs ++ [⟨st.cells, celOf (fun b => (celW c.fm b 0 : Int)) st.buf, 0⟩] = linesOf c.fe (fun b => (celW c.fm b 0 : Int)) s.data.toList := fun st h => by rw [h]; rfl
  obtain ⟨Wf, hWf⟩ : ∃ Wf : ByteArray → Int, Wf = fun b => (celW c.fm b 0 : Int) := ⟨_, rfl⟩
  obtain ⟨R, hR⟩ : ∃ R, R = linesOf c.fe (fun b => (celW c.fm b 0 : Int)) s.data.toList := ⟨_, rfl⟩
  rw [← hR, ← hWf] at hfin
  rw [← hR]
  have HFIN := Lib.hid hfin
  have hcw : ∀ l : List UInt8, (celW c.fm ⟨l.toArray⟩ 0 : Int) = Wf ⟨l.toArray⟩ := fun l => by rw [hWf]
  have HCW := Lib.hid hcw
  clear hR hfin hWf hcw
  obtain ⟨m, tt, p, d, fr, fd, fl, fe, fm⟩ := c
  unfold cfgV at HC HW0 ⊢
  simp only at HC HW0 HFIN HCW ⊢
  go_enter Tryd.func57, Tryd.ntmps57
  go_wp2
  obtain ⟨gl, hgl⟩ : ∃ gl, gl = w.heap.size + 1 + 1 := ⟨_, rfl⟩
  rw [← hgl] at HW0 ⊢
  clear hgl
  obtain ⟨w0, hw0⟩ : ∃ w0, w0 = ((((w.alloc (.cells #[.int .i64 m, .int .i64 tt, .int .i64 p, .int .i64 d, .bool fr, .bool fd, .bool fl, .bool fe, .bool fm] 24)).alloc (.cells #[] 46)).alloc (.cells #[.slice none 0 0, .string ⟨#[]⟩, .int .i64 0, .int .i64 0] 46)).alloc (.cells #[] 5)) := ⟨_, rfl⟩
  rw [← hw0] at HW0 ⊢
  clear hw0
  go_loopw [5, 7, 8, 9] (fun o b r i wr => ∃ (k : Nat) (outs : List Ln) (raw : Bool) (cells : List Cel) (buf : List UInt8) (vo vc vb : Value), k ≤ s.size ∧ vo = o ∧ vb = b ∧ i = .int .i64 (k : Int) ∧ r = .bool raw ∧ Hid (SpM w wr (⟨m, tt, p, d, fr, fd, fl, fe, fm⟩ : Cfg) gl vo vc vb ⟨outs, raw, cells, buf⟩) ∧ Hid ((⟨outs, raw, cells, buf⟩ : Sp) = spRun fe Wf sp0 (s.data.toList.take k)) ∧ outs.length ≤ k ∧ cells.length ≤ k ∧ buf.length ≤ k) (fun _ _ _ i _ => s.size - (intOf i).toNat)
  case atStart => exact ⟨0, [], false, [], [], _, _, _, Nat.zero_le _, rfl, rfl, rfl, rfl, HW0, Lib.hid rfl, Nat.zero_le _, Nat.zero_le _, Nat.zero_le _⟩
  case round =>
    obtain ⟨k, outs, raw, cells, buf, vo, vc, vb, hk, rfl, rfl, rfl, rfl, HM, HR, hlo, hlc, hlb⟩ := hrel
    have hB := HM.out.2.1
    obtain ⟨c0, c1, c2, c3, c4, c5, c6, c7, c8⟩ := (show Boxed wr w.heap.size m tt p d fr fd fl fe fm from ⟨hB.cell 0, hB.cell 1, hB.cell 2, hB.cell 3, hB.cell 4, hB.cell 5, hB.cell 6, hB.cell 7, hB.cell 8⟩)
    clear hB
    have hbase : w.heap.size ≤ wr.heap.size := HM.out.1.size
    by_cases hlt : k < s.size
    · cases hfe : fe with
      | true =>
        rw [hfe] at c7 HR
        by_cases hx : s[k] = 255
        · have e255 : ((s[k].toNat : Int) == 255) = true := sp_yes (n := 255) (by omega) hx
          have HX := Lib.hid hx
          clear hx
          subst hfe
          have HR2 := Lib.hid (sp_esc Wf s k hlt outs raw cells buf HR.out HX.out)
          skip
          go_wp2
          go_roundw
          case rel => exact ⟨k + 1, outs, !raw, cells, buf, vo, vc, vb, by omega, rfl, rfl, by go_num, rfl, Lib.hid HM.out, HR2, by omega, by omega, by omega⟩
          case measure => simp [intOf]; omega
        · have e255 : ((s[k].toNat : Int) == 255) = false := sp_no (n := 255) (by omega) hx
          have HX := Lib.hid hx
          clear hx
          subst hfe
          cases raw with
          | true =>
            have HR2 := Lib.hid (sp_raw _ Wf s k hlt outs cells buf HR.out (.inr HX.out))
            have h5 : wr.ownsRow w.heap.size 5 1 vb buf.length (u8s buf) := HM.out.2.2.2.2.1
            go_wp2_with (at_builtin; refine append_el rfl _ _ 22 rfl w.heap.size 5 iB _ 1 1 Tryd.underlying22 hb0 hb1 hb2 hb3 rfl (by decide) vb _ _ rfl wr #[.int .u8 s[k].toNat] rfl rfl (by simp [Value.oneCell']) h5 (by omega) (by omega) hbase ?_; intro v1 w1 ho1 hg1 _; have HM1 := Lib.hid (SpM.byte (x := s[k]) HM.out ho1 hg1); clear ho1 hg1)
            go_roundw
            case rel => first | exact ⟨k + 1, outs, true, cells, buf ++ [s[k]], vo, vc, v1, by omega, rfl, rfl, by go_num, rfl, HM1, HR2, by omega, by omega, by simp; omega⟩ | ((repeat apply Exists.intro); exact ⟨⟨k + 1, outs, true, cells, buf ++ [s[k]], vo, vc, v1, by omega, rfl, rfl, by go_num, rfl, HM1, HR2, by omega, by omega, by simp; omega⟩, rfl⟩)
            case measure => simp [intOf]; omega
          | false =>
            by_cases h9 : s[k] = 9
            · have e9 : ((s[k].toNat : Int) == 9) = true := sp_yes (n := 9) (by omega) h9
              have H9 := Lib.hid h9
              clear h9
              obtain ⟨X, hX⟩ : ∃ X : ByteArray, X = ⟨buf.toArray⟩ := ⟨_, rfl⟩
              obtain ⟨Z, hZ⟩ : ∃ Z : Int, Z = Wf X := ⟨_, rfl⟩
              have hxz : celOf Wf buf = ⟨X, Z⟩ := by rw [hZ, hX]; rfl
              have HR2 := Lib.hid (sp_tab _ Wf s k hlt outs cells buf HR.out H9.out)
              rw [hxz] at HR2
              have HCL := Lib.hid (fun (W : World) (hv : Rd W vb (u8s buf)) => HC.out vb buf W hv (by omega))
              rw [HCW.out, ← hX, ← hZ] at HCL
              clear hX hZ hxz
              have h5 : wr.ownsRow w.heap.size 5 1 vb buf.length (u8s buf) := HM.out.2.2.2.2.1
              have RdB := Lib.hid (Rd.of_own h5)
              clear h5
              have q0 : wr.cell? ⟨gl, 0, none⟩ = some vc := HM.out.2.2.1.cell 0
              go_wp2_with fail
              go_region_law
                (first
                  | (go_simp; go_at_call 82; refine (HCL.out wr.drew (RdB.out.below (Below.drew (Below.refl _ wr)))).mono ?_; rintro e w1 ⟨rfl, hb1⟩; have HM1 := Lib.hid (SpM.below HM.out ((Below.drew (Below.refl _ wr)).trans hb1)); have q1 : w1.cell? ⟨gl, 0, none⟩ = some vc := HM1.out.2.2.1.cell 0; have p1 : w1.frozen? ⟨gl, 0, none⟩ = false := HM1.out.2.2.1.free 0; have h4 : w1.ownsRow w.heap.size 44 2 vc cells.length (celVals cells) := HM1.out.2.2.2.1; have q1a : ∀ o, (w1.alloc o).cell? ⟨gl, 0, none⟩ = some vc := fun o => (((Below.refl w1.heap.size w1).alloc (Nat.le_refl _) o).cell (p := ⟨gl, 0, none⟩) HM1.out.2.2.1.lt).trans q1; have hbase1 : w.heap.size ≤ w1.heap.size := HM1.out.1.size; clear hb1; (try dsimp only))
                  | (refine step_append_el rfl _ _ 42 rfl w.heap.size 44 iC _ 2 24 Tryd.underlying42 hc0 hc1 hc2 hc3 rfl (by decide) vc _ _ rfl w1 #[.string X, .int .i64 Z] rfl rfl (by simp [Value.oneCell']) h4 (by omega) (by omega) hbase1 ?_; intro g2 cap2 w2 ho2 hg2 hat2; have q2 : w2.cell? ⟨gl, 0, none⟩ = some vc := (HM1.out.2.2.1.keeps (.grown h4 (by decide) hg2)).cell 0; have p2 : w2.frozen? ⟨gl, 0, none⟩ = false := (HM1.out.2.2.1.keeps (.grown h4 (by decide) hg2)).free 0; have HM2 := Lib.hid (SpM.cell (x := ⟨X, Z⟩) HM1.out ho2 hg2 hat2); clear ho2 hg2 hat2))
              all_goals
                go_wp2
                go_roundw
                case rel => first | exact ⟨k + 1, outs, false, cells ++ [⟨X, Z⟩], [], vo, _, _, by omega, rfl, rfl, by go_num, rfl, HM2, HR2, by omega, by simp; omega, by simp⟩ | ((repeat apply Exists.intro); exact ⟨⟨k + 1, outs, false, cells ++ [⟨X, Z⟩], [], vo, _, _, by omega, rfl, rfl, by go_num, rfl, HM2, HR2, by omega, by simp; omega, by simp⟩, rfl⟩)
                case measure => simp [intOf]; omega
            · have e9 : ((s[k].toNat : Int) == 9) = false := sp_no (n := 9) (by omega) h9
              by_cases h10 : s[k] = 10
              · have e10 : ((s[k].toNat : Int) == 10) = true := sp_yes (n := 10) (by omega) h10
                obtain ⟨X, hX⟩ : ∃ X : ByteArray, X = ⟨buf.toArray⟩ := ⟨_, rfl⟩
                obtain ⟨Z, hZ⟩ : ∃ Z : Int, Z = Wf X := ⟨_, rfl⟩
                have hxz : celOf Wf buf = ⟨X, Z⟩ := by rw [hZ, hX]; rfl
                have HR2 := Lib.hid (sp_end _ Wf s k hlt outs cells buf HR.out (.inl h10))
                clear h9 h10
                rw [hxz] at HR2
                have HCL := Lib.hid (fun (W : World) (hv : Rd W vb (u8s buf)) => HC.out vb buf W hv (by omega))
                rw [HCW.out, ← hX, ← hZ] at HCL
                clear hX hZ hxz
                have h5 : wr.ownsRow w.heap.size 5 1 vb buf.length (u8s buf) := HM.out.2.2.2.2.1
                have RdB := Lib.hid (Rd.of_own h5)
                have HONE := Lib.hid (OwnC.one HM.out.2.2.2.1)
                have hx255 : (s[k].toNat : Int) ≤ 255 := by have := UInt8.toNat_lt s[k]; omega
                clear h5
                go_wp2_with fail
                refine (HCL.out wr RdB.out).mono ?_
                rintro e w1 ⟨rfl, hb1⟩
                have HM1 := Lib.hid (SpM.below HM.out hb1)
                have hB1 := HM1.out.2.2.1
                have q0 : w1.cell? ⟨gl, 0, none⟩ = some vc := hB1.cell 0
                have q1 : w1.cell? ⟨gl, 1, none⟩ = some (.string ⟨#[]⟩) := hB1.cell 1
                have q2 : w1.cell? ⟨gl, 2, none⟩ = some (.int .i64 0) := hB1.cell 2
                have q3 : w1.cell? ⟨gl, 3, none⟩ = some (.int .i64 0) := hB1.cell 3
                have p0 := hB1.free 0
                have p1 := hB1.free 1
                have p2 := hB1.free 2
                have p3 := hB1.free 3
                have HF := Lib.hid (HM1.out.fill ⟨X, Z⟩ (s[k].toNat : Int))
                obtain ⟨vs, hvl, how, hin⟩ := (HM1.out.stored HF.out.2.2).2.2.2
                have hbase2 : w.heap.size ≤ (((w1.setCell ⟨gl, 1, none⟩ (.string X)).setCell ⟨gl, 2, none⟩ (.int .i64 Z)).setCell ⟨gl, 3, none⟩ (.int .i64 (s[k].toNat : Int))).heap.size := HF.out.1.size
                have HVL := Lib.hid hvl
                have HOW := Lib.hid how
                have HIN := Lib.hid hin
                clear hb1 hB1 hvl how hin c0 c1 c2 c3 c4 c5 c6 c7 c8
                go_wp2_with (at_builtin; refine append_elH rfl _ _ 38 rfl w.heap.size 46 iL _ 4 56 Tryd.underlying38 hl0 hl1 hl2 hl3 rfl (by decide) vo _ _ rfl (((w1.setCell ⟨gl, 1, none⟩ (.string X)).setCell ⟨gl, 2, none⟩ (.int .i64 Z)).setCell ⟨gl, 3, none⟩ (.int .i64 (s[k].toNat : Int))) #[vc, .string X, .int .i64 Z, .int .i64 (s[k].toNat : Int)] w1.heap.size (by simp) rfl rfl (line_ones X Z _ HONE.out) HOW.out (by omega) (by omega) hbase2 ?_; intro v3 w3 ho3 hg3 hat3; have HM3 := Lib.hid (SpM.line (x := ⟨X, Z⟩) HM1.out HF.out.2.2 HF.out.2.1 HVL.out HOW.out HIN.out ho3 hg3 hat3 (.slice none 0 0) (World.ownsRow_nil _ _ _ _)); have hB3 := SpM.line_blk HM1.out HF.out.2.1 hg3; have r0 : w3.cell? ⟨gl, 0, none⟩ = some vc := hB3.cell 0; have r1 : w3.cell? ⟨gl, 1, none⟩ = some (.string X) := hB3.cell 1; have r2 : w3.cell? ⟨gl, 2, none⟩ = some (.int .i64 Z) := hB3.cell 2; have r3 : w3.cell? ⟨gl, 3, none⟩ = some (.int .i64 (s[k].toNat : Int)) := hB3.cell 3; have t0 := hB3.free 0; have t1 := hB3.free 1; have t2 := hB3.free 2; have t3 := hB3.free 3; clear hB3 ho3 hg3 hat3)
                go_roundw
                case rel => first | exact ⟨k + 1, outs ++ [⟨cells, ⟨X, Z⟩, (s[k].toNat : Int)⟩], false, [], [], v3, _, _, by omega, rfl, rfl, by go_num, rfl, HM3, HR2, by simp; omega, by simp, by simp⟩ | ((repeat apply Exists.intro); exact ⟨⟨k + 1, outs ++ [⟨cells, ⟨X, Z⟩, (s[k].toNat : Int)⟩], false, [], [], v3, _, _, by omega, rfl, rfl, by go_num, rfl, HM3, HR2, by simp; omega, by simp, by simp⟩, rfl⟩)
                case measure => simp [intOf]; omega
              · have e10 : ((s[k].toNat : Int) == 10) = false := sp_no (n := 10) (by omega) h10
                by_cases h12 : s[k] = 12
                · have e12 : ((s[k].toNat : Int) == 12) = true := sp_yes (n := 12) (by omega) h12
                  obtain ⟨X, hX⟩ : ∃ X : ByteArray, X = ⟨buf.toArray⟩ := ⟨_, rfl⟩
                  obtain ⟨Z, hZ⟩ : ∃ Z : Int, Z = Wf X := ⟨_, rfl⟩
                  have hxz : celOf Wf buf = ⟨X, Z⟩ := by rw [hZ, hX]; rfl
                  have HR2 := Lib.hid (sp_end _ Wf s k hlt outs cells buf HR.out (.inr h12))
                  clear h9 h10 h12
                  rw [hxz] at HR2
                  have HCL := Lib.hid (fun (W : World) (hv : Rd W vb (u8s buf)) => HC.out vb buf W hv (by omega))
                  rw [HCW.out, ← hX, ← hZ] at HCL
                  clear hX hZ hxz
                  have h5 : wr.ownsRow w.heap.size 5 1 vb buf.length (u8s buf) := HM.out.2.2.2.2.1
                  have RdB := Lib.hid (Rd.of_own h5)
                  have HONE := Lib.hid (OwnC.one HM.out.2.2.2.1)
                  have hx255 : (s[k].toNat : Int) ≤ 255 := by have := UInt8.toNat_lt s[k]; omega
                  clear h5
                  go_wp2_with fail
                  refine (HCL.out wr RdB.out).mono ?_
                  rintro e w1 ⟨rfl, hb1⟩
                  have HM1 := Lib.hid (SpM.below HM.out hb1)
                  have hB1 := HM1.out.2.2.1
                  have q0 : w1.cell? ⟨gl, 0, none⟩ = some vc := hB1.cell 0
                  have q1 : w1.cell? ⟨gl, 1, none⟩ = some (.string ⟨#[]⟩) := hB1.cell 1
                  have q2 : w1.cell? ⟨gl, 2, none⟩ = some (.int .i64 0) := hB1.cell 2
                  have q3 : w1.cell? ⟨gl, 3, none⟩ = some (.int .i64 0) := hB1.cell 3
                  have p0 := hB1.free 0
                  have p1 := hB1.free 1
                  have p2 := hB1.free 2
                  have p3 := hB1.free 3
                  have HF := Lib.hid (HM1.out.fill ⟨X, Z⟩ (s[k].toNat : Int))
                  obtain ⟨vs, hvl, how, hin⟩ := (HM1.out.stored HF.out.2.2).2.2.2
                  have hbase2 : w.heap.size ≤ (((w1.setCell ⟨gl, 1, none⟩ (.string X)).setCell ⟨gl, 2, none⟩ (.int .i64 Z)).setCell ⟨gl, 3, none⟩ (.int .i64 (s[k].toNat : Int))).heap.size := HF.out.1.size
                  have HVL := Lib.hid hvl
                  have HOW := Lib.hid how
                  have HIN := Lib.hid hin
                  clear hb1 hB1 hvl how hin c0 c1 c2 c3 c4 c5 c6 c7 c8
                  go_wp2_with (at_builtin; refine append_elH rfl _ _ 38 rfl w.heap.size 46 iL _ 4 56 Tryd.underlying38 hl0 hl1 hl2 hl3 rfl (by decide) vo _ _ rfl (((w1.setCell ⟨gl, 1, none⟩ (.string X)).setCell ⟨gl, 2, none⟩ (.int .i64 Z)).setCell ⟨gl, 3, none⟩ (.int .i64 (s[k].toNat : Int))) #[vc, .string X, .int .i64 Z, .int .i64 (s[k].toNat : Int)] w1.heap.size (by simp) rfl rfl (line_ones X Z _ HONE.out) HOW.out (by omega) (by omega) hbase2 ?_; intro v3 w3 ho3 hg3 hat3; have HM3 := Lib.hid (SpM.line (x := ⟨X, Z⟩) HM1.out HF.out.2.2 HF.out.2.1 HVL.out HOW.out HIN.out ho3 hg3 hat3 (.slice none 0 0) (World.ownsRow_nil _ _ _ _)); have hB3 := SpM.line_blk HM1.out HF.out.2.1 hg3; have r0 : w3.cell? ⟨gl, 0, none⟩ = some vc := hB3.cell 0; have r1 : w3.cell? ⟨gl, 1, none⟩ = some (.string X) := hB3.cell 1; have r2 : w3.cell? ⟨gl, 2, none⟩ = some (.int .i64 Z) := hB3.cell 2; have r3 : w3.cell? ⟨gl, 3, none⟩ = some (.int .i64 (s[k].toNat : Int)) := hB3.cell 3; have t0 := hB3.free 0; have t1 := hB3.free 1; have t2 := hB3.free 2; have t3 := hB3.free 3; clear hB3 ho3 hg3 hat3)
                  go_roundw
                  case rel => first | exact ⟨k + 1, outs ++ [⟨cells, ⟨X, Z⟩, (s[k].toNat : Int)⟩], false, [], [], v3, _, _, by omega, rfl, rfl, by go_num, rfl, HM3, HR2, by simp; omega, by simp, by simp⟩ | ((repeat apply Exists.intro); exact ⟨⟨k + 1, outs ++ [⟨cells, ⟨X, Z⟩, (s[k].toNat : Int)⟩], false, [], [], v3, _, _, by omega, rfl, rfl, by go_num, rfl, HM3, HR2, by simp; omega, by simp, by simp⟩, rfl⟩)
                  case measure => simp [intOf]; omega
                · have e12 : ((s[k].toNat : Int) == 12) = false := sp_no (n := 12) (by omega) h12
                  have HR2 := Lib.hid (sp_else _ Wf s k hlt outs cells buf HR.out (.inr HX.out) h9 h10 h12)
                  clear h9 h10 h12
                  have h5 : wr.ownsRow w.heap.size 5 1 vb buf.length (u8s buf) := HM.out.2.2.2.2.1
                  go_wp2_with (at_builtin; refine append_el rfl _ _ 22 rfl w.heap.size 5 iB _ 1 1 Tryd.underlying22 hb0 hb1 hb2 hb3 rfl (by decide) vb _ _ rfl wr #[.int .u8 s[k].toNat] rfl rfl (by simp [Value.oneCell']) h5 (by omega) (by omega) hbase ?_; intro v1 w1 ho1 hg1 _; have HM1 := Lib.hid (SpM.byte (x := s[k]) HM.out ho1 hg1); clear ho1 hg1)
                  go_roundw
                  case rel => first | exact ⟨k + 1, outs, false, cells, buf ++ [s[k]], vo, vc, v1, by omega, rfl, rfl, by go_num, rfl, HM1, HR2, by omega, by omega, by simp; omega⟩ | ((repeat apply Exists.intro); exact ⟨⟨k + 1, outs, false, cells, buf ++ [s[k]], vo, vc, v1, by omega, rfl, rfl, by go_num, rfl, HM1, HR2, by omega, by omega, by simp; omega⟩, rfl⟩)
                  case measure => simp [intOf]; omega
      | false =>
        rw [hfe] at c7 HR
        subst hfe
        cases raw with
        | true =>
          have HR2 := Lib.hid (sp_raw _ Wf s k hlt outs cells buf HR.out (.inl rfl))
          have h5 : wr.ownsRow w.heap.size 5 1 vb buf.length (u8s buf) := HM.out.2.2.2.2.1
          go_wp2_with (at_builtin; refine append_el rfl _ _ 22 rfl w.heap.size 5 iB _ 1 1 Tryd.underlying22 hb0 hb1 hb2 hb3 rfl (by decide) vb _ _ rfl wr #[.int .u8 s[k].toNat] rfl rfl (by simp [Value.oneCell']) h5 (by omega) (by omega) hbase ?_; intro v1 w1 ho1 hg1 _; have HM1 := Lib.hid (SpM.byte (x := s[k]) HM.out ho1 hg1); clear ho1 hg1)
          go_roundw
          case rel => first | exact ⟨k + 1, outs, true, cells, buf ++ [s[k]], vo, vc, v1, by omega, rfl, rfl, by go_num, rfl, HM1, HR2, by omega, by omega, by simp; omega⟩ | ((repeat apply Exists.intro); exact ⟨⟨k + 1, outs, true, cells, buf ++ [s[k]], vo, vc, v1, by omega, rfl, rfl, by go_num, rfl, HM1, HR2, by omega, by omega, by simp; omega⟩, rfl⟩)
          case measure => simp [intOf]; omega
        | false =>
          by_cases h9 : s[k] = 9
          · have e9 : ((s[k].toNat : Int) == 9) = true := sp_yes (n := 9) (by omega) h9
            have H9 := Lib.hid h9
            clear h9
            obtain ⟨X, hX⟩ : ∃ X : ByteArray, X = ⟨buf.toArray⟩ := ⟨_, rfl⟩
            obtain ⟨Z, hZ⟩ : ∃ Z : Int, Z = Wf X := ⟨_, rfl⟩
            have hxz : celOf Wf buf = ⟨X, Z⟩ := by rw [hZ, hX]; rfl
            have HR2 := Lib.hid (sp_tab _ Wf s k hlt outs cells buf HR.out H9.out)
            rw [hxz] at HR2
            have HCL := Lib.hid (fun (W : World) (hv : Rd W vb (u8s buf)) => HC.out vb buf W hv (by omega))
            rw [HCW.out, ← hX, ← hZ] at HCL
            clear hX hZ hxz
            have h5 : wr.ownsRow w.heap.size 5 1 vb buf.length (u8s buf) := HM.out.2.2.2.2.1
            have RdB := Lib.hid (Rd.of_own h5)
            clear h5
            have q0 : wr.cell? ⟨gl, 0, none⟩ = some vc := HM.out.2.2.1.cell 0
            go_wp2_with fail
            go_region_law
              (first
                | (go_simp; go_at_call 82; refine (HCL.out wr.drew (RdB.out.below (Below.drew (Below.refl _ wr)))).mono ?_; rintro e w1 ⟨rfl, hb1⟩; have HM1 := Lib.hid (SpM.below HM.out ((Below.drew (Below.refl _ wr)).trans hb1)); have q1 : w1.cell? ⟨gl, 0, none⟩ = some vc := HM1.out.2.2.1.cell 0; have p1 : w1.frozen? ⟨gl, 0, none⟩ = false := HM1.out.2.2.1.free 0; have h4 : w1.ownsRow w.heap.size 44 2 vc cells.length (celVals cells) := HM1.out.2.2.2.1; have q1a : ∀ o, (w1.alloc o).cell? ⟨gl, 0, none⟩ = some vc := fun o => (((Below.refl w1.heap.size w1).alloc (Nat.le_refl _) o).cell (p := ⟨gl, 0, none⟩) HM1.out.2.2.1.lt).trans q1; have hbase1 : w.heap.size ≤ w1.heap.size := HM1.out.1.size; clear hb1; (try dsimp only))
                | (refine step_append_el rfl _ _ 42 rfl w.heap.size 44 iC _ 2 24 Tryd.underlying42 hc0 hc1 hc2 hc3 rfl (by decide) vc _ _ rfl w1 #[.string X, .int .i64 Z] rfl rfl (by simp [Value.oneCell']) h4 (by omega) (by omega) hbase1 ?_; intro g2 cap2 w2 ho2 hg2 hat2; have q2 : w2.cell? ⟨gl, 0, none⟩ = some vc := (HM1.out.2.2.1.keeps (.grown h4 (by decide) hg2)).cell 0; have p2 : w2.frozen? ⟨gl, 0, none⟩ = false := (HM1.out.2.2.1.keeps (.grown h4 (by decide) hg2)).free 0; have HM2 := Lib.hid (SpM.cell (x := ⟨X, Z⟩) HM1.out ho2 hg2 hat2); clear ho2 hg2 hat2))
            all_goals
              go_wp2
              go_roundw
              case rel => first | exact ⟨k + 1, outs, false, cells ++ [⟨X, Z⟩], [], vo, _, _, by omega, rfl, rfl, by go_num, rfl, HM2, HR2, by omega, by simp; omega, by simp⟩ | ((repeat apply Exists.intro); exact ⟨⟨k + 1, outs, false, cells ++ [⟨X, Z⟩], [], vo, _, _, by omega, rfl, rfl, by go_num, rfl, HM2, HR2, by omega, by simp; omega, by simp⟩, rfl⟩)
              case measure => simp [intOf]; omega
          · have e9 : ((s[k].toNat : Int) == 9) = false := sp_no (n := 9) (by omega) h9
            by_cases h10 : s[k] = 10
            · have e10 : ((s[k].toNat : Int) == 10) = true := sp_yes (n := 10) (by omega) h10
              obtain ⟨X, hX⟩ : ∃ X : ByteArray, X = ⟨buf.toArray⟩ := ⟨_, rfl⟩
              obtain ⟨Z, hZ⟩ : ∃ Z : Int, Z = Wf X := ⟨_, rfl⟩
              have hxz : celOf Wf buf = ⟨X, Z⟩ := by rw [hZ, hX]; rfl
              have HR2 := Lib.hid (sp_end _ Wf s k hlt outs cells buf HR.out (.inl h10))
              clear h9 h10
              rw [hxz] at HR2
              have HCL := Lib.hid (fun (W : World) (hv : Rd W vb (u8s buf)) => HC.out vb buf W hv (by omega))
              rw [HCW.out, ← hX, ← hZ] at HCL
              clear hX hZ hxz
              have h5 : wr.ownsRow w.heap.size 5 1 vb buf.length (u8s buf) := HM.out.2.2.2.2.1
              have RdB := Lib.hid (Rd.of_own h5)
              have HONE := Lib.hid (OwnC.one HM.out.2.2.2.1)
              have hx255 : (s[k].toNat : Int) ≤ 255 := by have := UInt8.toNat_lt s[k]; omega
              clear h5
              go_wp2_with fail
              refine (HCL.out wr RdB.out).mono ?_
              rintro e w1 ⟨rfl, hb1⟩
              have HM1 := Lib.hid (SpM.below HM.out hb1)
              have hB1 := HM1.out.2.2.1
              have q0 : w1.cell? ⟨gl, 0, none⟩ = some vc := hB1.cell 0
              have q1 : w1.cell? ⟨gl, 1, none⟩ = some (.string ⟨#[]⟩) := hB1.cell 1
              have q2 : w1.cell? ⟨gl, 2, none⟩ = some (.int .i64 0) := hB1.cell 2
              have q3 : w1.cell? ⟨gl, 3, none⟩ = some (.int .i64 0) := hB1.cell 3
              have p0 := hB1.free 0
              have p1 := hB1.free 1
              have p2 := hB1.free 2
              have p3 := hB1.free 3
              have HF := Lib.hid (HM1.out.fill ⟨X, Z⟩ (s[k].toNat : Int))
              obtain ⟨vs, hvl, how, hin⟩ := (HM1.out.stored HF.out.2.2).2.2.2
              have hbase2 : w.heap.size ≤ (((w1.setCell ⟨gl, 1, none⟩ (.string X)).setCell ⟨gl, 2, none⟩ (.int .i64 Z)).setCell ⟨gl, 3, none⟩ (.int .i64 (s[k].toNat : Int))).heap.size := HF.out.1.size
              have HVL := Lib.hid hvl
              have HOW := Lib.hid how
              have HIN := Lib.hid hin
              clear hb1 hB1 hvl how hin c0 c1 c2 c3 c4 c5 c6 c7 c8
              go_wp2_with (at_builtin; refine append_elH rfl _ _ 38 rfl w.heap.size 46 iL _ 4 56 Tryd.underlying38 hl0 hl1 hl2 hl3 rfl (by decide) vo _ _ rfl (((w1.setCell ⟨gl, 1, none⟩ (.string X)).setCell ⟨gl, 2, none⟩ (.int .i64 Z)).setCell ⟨gl, 3, none⟩ (.int .i64 (s[k].toNat : Int))) #[vc, .string X, .int .i64 Z, .int .i64 (s[k].toNat : Int)] w1.heap.size (by simp) rfl rfl (line_ones X Z _ HONE.out) HOW.out (by omega) (by omega) hbase2 ?_; intro v3 w3 ho3 hg3 hat3; have HM3 := Lib.hid (SpM.line (x := ⟨X, Z⟩) HM1.out HF.out.2.2 HF.out.2.1 HVL.out HOW.out HIN.out ho3 hg3 hat3 (.slice none 0 0) (World.ownsRow_nil _ _ _ _)); have hB3 := SpM.line_blk HM1.out HF.out.2.1 hg3; have r0 : w3.cell? ⟨gl, 0, none⟩ = some vc := hB3.cell 0; have r1 : w3.cell? ⟨gl, 1, none⟩ = some (.string X) := hB3.cell 1; have r2 : w3.cell? ⟨gl, 2, none⟩ = some (.int .i64 Z) := hB3.cell 2; have r3 : w3.cell? ⟨gl, 3, none⟩ = some (.int .i64 (s[k].toNat : Int)) := hB3.cell 3; have t0 := hB3.free 0; have t1 := hB3.free 1; have t2 := hB3.free 2; have t3 := hB3.free 3; clear hB3 ho3 hg3 hat3)
              go_roundw
              case rel => first | exact ⟨k + 1, outs ++ [⟨cells, ⟨X, Z⟩, (s[k].toNat : Int)⟩], false, [], [], v3, _, _, by omega, rfl, rfl, by go_num, rfl, HM3, HR2, by simp; omega, by simp, by simp⟩ | ((repeat apply Exists.intro); exact ⟨⟨k + 1, outs ++ [⟨cells, ⟨X, Z⟩, (s[k].toNat : Int)⟩], false, [], [], v3, _, _, by omega, rfl, rfl, by go_num, rfl, HM3, HR2, by simp; omega, by simp, by simp⟩, rfl⟩)
              case measure => simp [intOf]; omega
            · have e10 : ((s[k].toNat : Int) == 10) = false := sp_no (n := 10) (by omega) h10
              by_cases h12 : s[k] = 12
              · have e12 : ((s[k].toNat : Int) == 12) = true := sp_yes (n := 12) (by omega) h12
                obtain ⟨X, hX⟩ : ∃ X : ByteArray, X = ⟨buf.toArray⟩ := ⟨_, rfl⟩
                obtain ⟨Z, hZ⟩ : ∃ Z : Int, Z = Wf X := ⟨_, rfl⟩
                have hxz : celOf Wf buf = ⟨X, Z⟩ := by rw [hZ, hX]; rfl
                have HR2 := Lib.hid (sp_end _ Wf s k hlt outs cells buf HR.out (.inr h12))
                clear h9 h10 h12
                rw [hxz] at HR2
                have HCL := Lib.hid (fun (W : World) (hv : Rd W vb (u8s buf)) => HC.out vb buf W hv (by omega))
                rw [HCW.out, ← hX, ← hZ] at HCL
                clear hX hZ hxz
                have h5 : wr.ownsRow w.heap.size 5 1 vb buf.length (u8s buf) := HM.out.2.2.2.2.1
                have RdB := Lib.hid (Rd.of_own h5)
                have HONE := Lib.hid (OwnC.one HM.out.2.2.2.1)
                have hx255 : (s[k].toNat : Int) ≤ 255 := by have := UInt8.toNat_lt s[k]; omega
                clear h5
                go_wp2_with fail
                refine (HCL.out wr RdB.out).mono ?_
                rintro e w1 ⟨rfl, hb1⟩
                have HM1 := Lib.hid (SpM.below HM.out hb1)
                have hB1 := HM1.out.2.2.1
                have q0 : w1.cell? ⟨gl, 0, none⟩ = some vc := hB1.cell 0
                have q1 : w1.cell? ⟨gl, 1, none⟩ = some (.string ⟨#[]⟩) := hB1.cell 1
                have q2 : w1.cell? ⟨gl, 2, none⟩ = some (.int .i64 0) := hB1.cell 2
                have q3 : w1.cell? ⟨gl, 3, none⟩ = some (.int .i64 0) := hB1.cell 3
                have p0 := hB1.free 0
                have p1 := hB1.free 1
                have p2 := hB1.free 2
                have p3 := hB1.free 3
                have HF := Lib.hid (HM1.out.fill ⟨X, Z⟩ (s[k].toNat : Int))
                obtain ⟨vs, hvl, how, hin⟩ := (HM1.out.stored HF.out.2.2).2.2.2
                have hbase2 : w.heap.size ≤ (((w1.setCell ⟨gl, 1, none⟩ (.string X)).setCell ⟨gl, 2, none⟩ (.int .i64 Z)).setCell ⟨gl, 3, none⟩ (.int .i64 (s[k].toNat : Int))).heap.size := HF.out.1.size
                have HVL := Lib.hid hvl
                have HOW := Lib.hid how
                have HIN := Lib.hid hin
                clear hb1 hB1 hvl how hin c0 c1 c2 c3 c4 c5 c6 c7 c8
                go_wp2_with (at_builtin; refine append_elH rfl _ _ 38 rfl w.heap.size 46 iL _ 4 56 Tryd.underlying38 hl0 hl1 hl2 hl3 rfl (by decide) vo _ _ rfl (((w1.setCell ⟨gl, 1, none⟩ (.string X)).setCell ⟨gl, 2, none⟩ (.int .i64 Z)).setCell ⟨gl, 3, none⟩ (.int .i64 (s[k].toNat : Int))) #[vc, .string X, .int .i64 Z, .int .i64 (s[k].toNat : Int)] w1.heap.size (by simp) rfl rfl (line_ones X Z _ HONE.out) HOW.out (by omega) (by omega) hbase2 ?_; intro v3 w3 ho3 hg3 hat3; have HM3 := Lib.hid (SpM.line (x := ⟨X, Z⟩) HM1.out HF.out.2.2 HF.out.2.1 HVL.out HOW.out HIN.out ho3 hg3 hat3 (.slice none 0 0) (World.ownsRow_nil _ _ _ _)); have hB3 := SpM.line_blk HM1.out HF.out.2.1 hg3; have r0 : w3.cell? ⟨gl, 0, none⟩ = some vc := hB3.cell 0; have r1 : w3.cell? ⟨gl, 1, none⟩ = some (.string X) := hB3.cell 1; have r2 : w3.cell? ⟨gl, 2, none⟩ = some (.int .i64 Z) := hB3.cell 2; have r3 : w3.cell? ⟨gl, 3, none⟩ = some (.int .i64 (s[k].toNat : Int)) := hB3.cell 3; have t0 := hB3.free 0; have t1 := hB3.free 1; have t2 := hB3.free 2; have t3 := hB3.free 3; clear hB3 ho3 hg3 hat3)
                go_roundw
                case rel => first | exact ⟨k + 1, outs ++ [⟨cells, ⟨X, Z⟩, (s[k].toNat : Int)⟩], false, [], [], v3, _, _, by omega, rfl, rfl, by go_num, rfl, HM3, HR2, by simp; omega, by simp, by simp⟩ | ((repeat apply Exists.intro); exact ⟨⟨k + 1, outs ++ [⟨cells, ⟨X, Z⟩, (s[k].toNat : Int)⟩], false, [], [], v3, _, _, by omega, rfl, rfl, by go_num, rfl, HM3, HR2, by simp; omega, by simp, by simp⟩, rfl⟩)
                case measure => simp [intOf]; omega
              · have e12 : ((s[k].toNat : Int) == 12) = false := sp_no (n := 12) (by omega) h12
                have HR2 := Lib.hid (sp_else _ Wf s k hlt outs cells buf HR.out (.inl rfl) h9 h10 h12)
                clear h9 h10 h12
                have h5 : wr.ownsRow w.heap.size 5 1 vb buf.length (u8s buf) := HM.out.2.2.2.2.1
                go_wp2_with (at_builtin; refine append_el rfl _ _ 22 rfl w.heap.size 5 iB _ 1 1 Tryd.underlying22 hb0 hb1 hb2 hb3 rfl (by decide) vb _ _ rfl wr #[.int .u8 s[k].toNat] rfl rfl (by simp [Value.oneCell']) h5 (by omega) (by omega) hbase ?_; intro v1 w1 ho1 hg1 _; have HM1 := Lib.hid (SpM.byte (x := s[k]) HM.out ho1 hg1); clear ho1 hg1)
                go_roundw
                case rel => first | exact ⟨k + 1, outs, false, cells, buf ++ [s[k]], vo, vc, v1, by omega, rfl, rfl, by go_num, rfl, HM1, HR2, by omega, by omega, by simp; omega⟩ | ((repeat apply Exists.intro); exact ⟨⟨k + 1, outs, false, cells, buf ++ [s[k]], vo, vc, v1, by omega, rfl, rfl, by go_num, rfl, HM1, HR2, by omega, by omega, by simp; omega⟩, rfl⟩)
                case measure => simp [intOf]; omega
    · skip
      obtain ⟨X, hX⟩ : ∃ X : ByteArray, X = ⟨buf.toArray⟩ := ⟨_, rfl⟩
      obtain ⟨Z, hZ⟩ : ∃ Z : Int, Z = Wf X := ⟨_, rfl⟩
      have hxz : celOf Wf buf = ⟨X, Z⟩ := by rw [hZ, hX]; rfl
      have HR2 := Lib.hid (HFIN.out ⟨outs, raw, cells, buf⟩ (by rw [HR.out, List.take_of_length_le (by rw [bytes_length]; omega)]))
      simp only at HR2
      rw [hxz] at HR2
      have HCL := Lib.hid (fun (W : World) (hv : Rd W vb (u8s buf)) => HC.out vb buf W hv (by omega))
      rw [HCW.out, ← hX, ← hZ] at HCL
      clear hX hZ hxz
      have h5 : wr.ownsRow w.heap.size 5 1 vb buf.length (u8s buf) := HM.out.2.2.2.2.1
      have RdB := Lib.hid (Rd.of_own h5)
      have HONE := Lib.hid (OwnC.one HM.out.2.2.2.1)
      clear h5
      go_wp2_with fail
      refine (HCL.out wr RdB.out).mono ?_
      rintro e w1 ⟨rfl, hb1⟩
      have HM1 := Lib.hid (SpM.below HM.out hb1)
      have hB1 := HM1.out.2.2.1
      have q0 : w1.cell? ⟨gl, 0, none⟩ = some vc := hB1.cell 0
      have q1 : w1.cell? ⟨gl, 1, none⟩ = some (.string ⟨#[]⟩) := hB1.cell 1
      have q2 : w1.cell? ⟨gl, 2, none⟩ = some (.int .i64 0) := hB1.cell 2
      have q3 : w1.cell? ⟨gl, 3, none⟩ = some (.int .i64 0) := hB1.cell 3
      have p0 := hB1.free 0
      have p1 := hB1.free 1
      have p2 := hB1.free 2
      have p3 := hB1.free 3
      have HF := Lib.hid (HM1.out.fill2 ⟨X, Z⟩)
      obtain ⟨vs, hvl, how, hin⟩ := (HM1.out.stored HF.out.2.2).2.2.2
      have hbase2 : w.heap.size ≤ ((w1.setCell ⟨gl, 1, none⟩ (.string X)).setCell ⟨gl, 2, none⟩ (.int .i64 Z)).heap.size := HF.out.1.size
      have HVL := Lib.hid hvl
      have HOW := Lib.hid how
      have HIN := Lib.hid hin
      clear hb1 hB1 hvl how hin c0 c1 c2 c3 c4 c5 c6 c7 c8
      go_wp2_with (at_builtin; refine append_elH rfl _ _ 38 rfl w.heap.size 46 iL _ 4 56 Tryd.underlying38 hl0 hl1 hl2 hl3 rfl (by decide) vo _ _ rfl ((w1.setCell ⟨gl, 1, none⟩ (.string X)).setCell ⟨gl, 2, none⟩ (.int .i64 Z)) #[vc, .string X, .int .i64 Z, .int .i64 0] w1.heap.size (by simp) rfl rfl (line_ones X Z _ HONE.out) HOW.out (by omega) (by omega) hbase2 ?_; intro v3 w3 ho3 hg3 hat3; have HM3 := Lib.hid (SpM.line_own (x := ⟨X, Z⟩) HM1.out HF.out.2.2 HVL.out HOW.out HIN.out ho3 hg3); clear ho3 hg3 hat3)
      go_ret
      exact ⟨_, rfl, by rw [← HR2.out]; exact HM3.out.1, HM3.out.2⟩
end Go.Proofs.YtjdbkpckhgncbaaDoor
