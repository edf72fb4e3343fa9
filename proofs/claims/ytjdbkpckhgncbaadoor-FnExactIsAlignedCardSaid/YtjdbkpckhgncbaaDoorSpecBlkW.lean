/- Column blocks: the walks of the model's l06Block, l06Blocks, BlocksOf. -/
import Derived.Test.YtjdbkpckhgncbaaDoorSpecBlk
import Derived.IntWalk
namespace Go.Proofs.YtjdbkpckhgncbaaDoor
open Go.RowKit
set_option linter.unusedVariables false

theorem max_step (mo x r : Int) : max mo (max x r) = max (max mo x) r := by omega
theorem blkCells_one (a b c d : Int) : ∀ u ∈ (#[.int .i64 a, .int .i64 b, .int .i64 c, .int .i64 d] : Array Value).toList, u.oneCell' = true := by
  intro u hu
  simp only [List.mem_cons, List.not_mem_nil, or_false] at hu
  rcases hu with rfl | rfl | rfl | rfl <;> rfl
theorem blk_out {W : World} {g : Nat} {T : TypeId} {u0 u1 u2 u3 : Int} (h : Blk W g T #[.int .i64 0, .int .i64 0, .int .i64 0, .int .i64 0]) : Blk ((((W.setCell ⟨g, 0, none⟩ (.int .i64 u0)).setCell ⟨g, 1, none⟩ (.int .i64 u1)).setCell ⟨g, 2, none⟩ (.int .i64 u2)).setCell ⟨g, 3, none⟩ (.int .i64 u3)) g T #[.int .i64 u0, .int .i64 u1, .int .i64 u2, .int .i64 u3] := (((h.set 0 _).set 1 _).set 2 _).set 3 _
theorem blk_out_below {w W : World} {u0 u1 u2 u3 : Value} (h : Below w.heap.size w W) : Below w.heap.size w ((((W.setCell ⟨w.heap.size + 1, 0, none⟩ u0).setCell ⟨w.heap.size + 1, 1, none⟩ u1).setCell ⟨w.heap.size + 1, 2, none⟩ u2).setCell ⟨w.heap.size + 1, 3, none⟩ u3) :=
  (((h.setCell (by show w.heap.size ≤ w.heap.size + 1; omega) _).setCell (by show w.heap.size ≤ w.heap.size + 1; omega) _).setCell (by show w.heap.size ≤ w.heap.size + 1; omega) _).setCell (by show w.heap.size ≤ w.heap.size + 1; omega) _
/-- What l06Block keeps beside its own block. -/
def BlkM (w W : World) (c : Cfg) (k i t x : Int) : Prop := Below w.heap.size w W ∧ Blk W w.heap.size 24 (cfgV c) ∧ Blk W (w.heap.size + 1) 77 #[.int .i64 0, .int .i64 0, .int .i64 0, .int .i64 0] ∧ Blk W (w.heap.size + 2) 77 #[.int .i64 k, .int .i64 i, .int .i64 t, .int .i64 x]
theorem BlkM.below {w W W' : World} {c : Cfg} {k i t x : Int} (h : BlkM w W c k i t x) (hb : Below W.heap.size W W') : BlkM w W' c k i t x :=
  ⟨h.1.trans (hb.mono h.1.size), h.2.1.after hb, h.2.2.1.after hb, h.2.2.2.after hb⟩
theorem BlkM.to {w W : World} {c : Cfg} {k i t x : Int} (h : BlkM w W c k i t x) (u : Int) : BlkM w (W.setCell ⟨w.heap.size + 2, 2, none⟩ (.int .i64 u)) c k i u x :=
  ⟨h.1.setCell (p := ⟨w.heap.size + 2, 2, none⟩) (by show _ ≤ w.heap.size + 2; omega) _, h.2.1.other (by omega), h.2.2.1.other (by omega), h.2.2.2.set 2 _⟩
theorem BlkM.wid {w W : World} {c : Cfg} {k i t x : Int} (h : BlkM w W c k i t x) (u : Int) : BlkM w (W.setCell ⟨w.heap.size + 2, 3, none⟩ (.int .i64 u)) c k i t u :=
  ⟨h.1.setCell (p := ⟨w.heap.size + 2, 3, none⟩) (by show _ ≤ w.heap.size + 2; omega) _, h.2.1.other (by omega), h.2.2.1.other (by omega), h.2.2.2.set 3 _⟩
theorem blkM_start (w : World) (c : Cfg) (k i : Int) : BlkM w (((w.alloc (.cells (cfgV c) 24)).alloc (.cells #[.int .i64 0, .int .i64 0, .int .i64 0, .int .i64 0] 77)).alloc (.cells #[.int .i64 k, .int .i64 i, .int .i64 i, .int .i64 0] 77)) c k i i 0 := by
  have hb : ∀ (W : World) (o : Obj), Below W.heap.size W (W.alloc o) := fun W o => (Below.refl _ _).alloc (Nat.le_refl _) o
  have h1 := Blk.new w 24 (cfgV c)
  have h2 := Blk.new (w.alloc (.cells (cfgV c) 24)) 77 #[.int .i64 0, .int .i64 0, .int .i64 0, .int .i64 0]
  have h3 := Blk.new ((w.alloc (.cells (cfgV c) 24)).alloc (.cells #[.int .i64 0, .int .i64 0, .int .i64 0, .int .i64 0] 77)) 77 #[.int .i64 k, .int .i64 i, .int .i64 i, .int .i64 0]
  rw [show (w.alloc (.cells (cfgV c) 24)).heap.size = w.heap.size + 1 by simp] at h2
  rw [show ((w.alloc (.cells (cfgV c) 24)).alloc (.cells #[.int .i64 0, .int .i64 0, .int .i64 0, .int .i64 0] 77)).heap.size = w.heap.size + 2 by simp] at h3
  exact ⟨by go_grown, (h1.after (hb _ _)).after (hb _ _), h2.after (hb _ _), h3⟩
set_option maxRecDepth 100000 in
set_option maxHeartbeats 4000000 in
theorem specBlock (c : Cfg) (ls : List Ln) (i k : Nat) (v : Value) (w : World) (hv : RdL w v ls) (hm : FitW ls) (hok : validC c = true) (hf : wideB ls) (hi : i < ls.length) (hk : k ≤ 1000000000) :
    Calls Tryd.prog 85 #[.agg (cfgV c), v, .int .i64 (i : Int), .int .i64 (k : Int)] w fun e w' => e = .returned (.agg #[.int .i64 (blkOf c ls i k).col, .int .i64 (blkOf c ls i k).frm, .int .i64 (blkOf c ls i k).to, .int .i64 (blkOf c ls i k).wid]) ∧ Below w.heap.size w w' := by
  have HMX := Lib.hid (fun a b W => specMax a b W)
  have HRI := Lib.hid (fun n W h0 h1 => specRoundI c n W hok h0 h1)
  have hvc := (validC_iff c).1 hok
  have HM0 := Lib.hid (blkM_start w c (k : Int) (i : Int))
  have HBD := Lib.hid (rmax_bdL hf k i)
  have HW := Lib.hid (fun T hT q hq => hf T hT q hq)
  have HTM := Lib.hid (fun l (h : l ∈ ls) => totL_mem ls l h)
  have hlen := hm.1
  have HTOT : Hid (totL ls ≤ 100000000) := Lib.hid hm.2
  have HRV := Lib.hid hv
  obtain ⟨A, ca, rfl, hA⟩ := hv
  obtain ⟨g, o, rfl, hgl, hcc⟩ := hA (by omega)
  have HCC := Lib.hid hcc
  have HST := Lib.hid (fun j h hg hk => rest_step ls i k j h hg hk)
  have HSP := Lib.hid (fun j h => rest_stop ls i k j h)
  have HGO := Lib.hid (fun j h => goOn_succ ls i j h)
  have HCN := Lib.hid (fun T h => cellsN_lt ls T h)
  obtain ⟨RL, hRL⟩ : ∃ x, x = rlen k (ls.drop i) := ⟨_, rfl⟩
  obtain ⟨RM, hRM⟩ : ∃ x, x = rmax k (ls.drop i) := ⟨_, rfl⟩
  have HR0 : Hid (RL = 0 + runRest ls i k 0 ∧ RM = max 0 (maxRest ls i k 0)) := Lib.hid ⟨by rw [hRL, runRest_zero]; omega, by rw [maxRest_zero, ← hRM]; have := HBD.out; rw [← hRM] at this; omega⟩
  have HRM : Hid (0 ≤ RM ∧ RM ≤ 3000000) := Lib.hid (by rw [hRM]; exact HBD.out)
  obtain ⟨bw, hbw⟩ : ∃ x, x = blockW c RM := ⟨_, rfl⟩
  have HBW := Lib.hid hbw
  rw [show blkOf c ls i k = ⟨(k : Int), (i : Int), ((i + RL : Nat) : Int), bw⟩ by rw [hbw, hRL, hRM]; rfl]
  obtain ⟨n, hnn⟩ : ∃ n, n = ls.length := ⟨_, rfl⟩
  have HN := Lib.hid hnn
  rw [← hnn] at hlen hi ⊢
  obtain ⟨m, t, p, d, fr, fd, fl, fe, fm⟩ := c
  simp only at hvc
  have hm0 : 0 ≤ m := by omega
  have hm1 : m ≤ 200 := by omega
  have hp0 : 0 ≤ p := by omega
  have hp1 : p ≤ 32 := by omega
  unfold cfgV at HRI HM0 ⊢
  simp only at HRI HM0 ⊢
  clear hA hcc hnn hRL hRM hbw hvc hok hf hm
  go_enter Tryd.func85, Tryd.ntmps85
  go_wp2_with fail
  obtain ⟨w0, hw0⟩ : ∃ w0, w0 = ((w.alloc (.cells #[.int .i64 m, .int .i64 t, .int .i64 p, .int .i64 d, .bool fr, .bool fd, .bool fl, .bool fe, .bool fm] 24)).alloc (.cells #[.int .i64 0, .int .i64 0, .int .i64 0, .int .i64 0] 77)).alloc (.cells #[.int .i64 k, .int .i64 i, .int .i64 i, .int .i64 0] 77) := ⟨_, rfl⟩
  rw [← hw0] at HM0 ⊢
  clear hw0
  obtain ⟨gb, hgb⟩ : ∃ x, x = w.heap.size + 1 + 1 := ⟨_, rfl⟩
  have HGB : Hid (gb = w.heap.size + 2) := Lib.hid hgb
  rw [← hgb]
  clear hgb
  go_loopw [10] (fun ms wr => ∃ (j T : Nat) (mo : Int), T = i + j ∧ T ≤ n ∧ 0 ≤ mo ∧ mo ≤ 3000000 ∧ ms = .int .i64 mo ∧ Hid (RL = j + runRest ls i k j) ∧ Hid (RM = max mo (maxRest ls i k j)) ∧ Hid (BlkM w wr ⟨m, t, p, d, fr, fd, fl, fe, fm⟩ (k : Int) (i : Int) (T : Int) 0)) (fun _ wr => n - (intOf ((wr.cell? ⟨gb, 2, none⟩).getD undef)).toNat)
  case atStart => exact ⟨0, i, 0, rfl, Nat.le_of_lt hi, Int.le_refl _, by omega, rfl, Lib.hid HR0.out.1, Lib.hid HR0.out.2, HM0⟩
  case round =>
    obtain ⟨j, T, mo, hT, hTn, hmo0, hmo1, rfl, HL, HX, HM⟩ := hrel
    have HTJ := Lib.hid hT
    have hiT : i ≤ T := by omega
    have hB := HM.out.2.2.2
    rw [← HGB.out] at hB
    have t2 : wr.cell? ⟨gb, 2, none⟩ = some (.int .i64 (T : Int)) := hB.cell 2
    have f2 : wr.frozen? ⟨gb, 2, none⟩ = false := hB.free 2
    have M1 := Lib.hid t2
    clear hB hT
    have hz1 := cellsN_lt
    clear hz1
    have hstop : (T < n ∧ k < cellsN ls T ∧ goOn ls i j = true) ∨ ((¬ T < n ∨ ¬ k < cellsN ls T) ∨ (T < n ∧ k < cellsN ls T ∧ goOn ls i j = false)) := by
      by_cases h1 : T < n
      · by_cases h2 : k < cellsN ls T
        · cases h3 : goOn ls i j with
          | true => exact .inl ⟨h1, h2, rfl⟩
          | false => exact .inr (.inr ⟨h1, h2, rfl⟩)
        · exact .inr (.inl (.inr h2))
      · exact .inr (.inl (.inl h1))
    have HCELL : Hid (T < n → ∃ (Ac : Option Addr) (cc : Nat), wr.cell? ⟨g, o + T * 4, none⟩ = some (.slice Ac (cellsN ls T) cc) ∧ cellsN ls T ≤ 100000000 ∧ (∀ q, q < cellsN ls T → ∃ (gi oi : Nat) (x : Int), Ac = some ⟨gi, oi, none⟩ ∧ wr.cell? ⟨gi, oi + q * 2 + 1, none⟩ = some (.int .i64 x) ∧ 0 ≤ x ∧ x ≤ 3000000 ∧ (q = k → goOn ls i j = true → runRest ls i k j = 1 + runRest ls i k (j + 1) ∧ maxRest ls i k j = max x (maxRest ls i k (j + 1))))) := Lib.hid (fun hlt => by
      have hTl : T < ls.length := by rw [← HN.out]; exact hlt
      have hjl : i + j < ls.length := by rw [← HTJ.out]; exact hTl
      obtain ⟨⟨va, p0, hra⟩, _⟩ := HCC.out T _ (List.getElem?_eq_getElem hTl)
      have hcn := HCN.out T hTl
      have hmem := HTM.out _ (List.getElem_mem hTl)
      have hwd := HW.out T hTl
      have hsj : goOn ls i j = true → ∀ hq : k < ls[T].cells.length, runRest ls i k j = 1 + runRest ls i k (j + 1) ∧ maxRest ls i k j = max ls[T].cells[k].wid (maxRest ls i k (j + 1)) := fun hg hq => by
        have e : ls[i + j] = ls[T] := by congr 1; have := HTJ.out; omega
        have h := HST.out j hjl hg (by rw [e]; exact hq)
        simp only [e] at h
        exact h
      obtain ⟨Ac, cc, rfl, hin⟩ := hra
      rw [hcn]
      refine ⟨Ac, cc, (HM.out.1.cell (p := ⟨g, o + T * 4, none⟩) hgl).trans p0, by have := HTOT.out; omega, fun q hq => ?_⟩
      obtain ⟨gi, oi, rfl, hgi, hci⟩ := hin (by omega)
      obtain ⟨_, b1⟩ := (hci q _ (List.getElem?_eq_getElem hq)).keep (fun p hp => HM.out.1.cell hp) hgi
      obtain ⟨w0, w1⟩ := hwd q hq
      exact ⟨gi, oi, _, rfl, b1, w0, w1, fun e hg => by subst e; exact hsj hg hq⟩)
    have HGOE : Hid ((goOn ls i j = true ∧ ((T : Int) == (i : Int)) = true) ∨ (∃ T' : Nat, (T : Int) - 1 = (T' : Int) ∧ T' < T ∧ ((T : Int) == (i : Int)) = false ∧ ∃ f : Int, goOn ls i j = decide (f ≠ 12) ∧ (T' < n → wr.cell? ⟨g, o + T' * 4 + 3, none⟩ = some (.int .i64 f)))) := Lib.hid (by
      by_cases hj : j = 0
      · left
        have hTi : T = i := by have := HTJ.out; omega
        exact ⟨by unfold goOn; simp [hj], by simp [hTi]⟩
      · right
        have hTi := HTJ.out
        refine ⟨T - 1, by omega, by omega, by simp; omega, finN ls (T - 1), ?_, fun hl => ?_⟩
        · unfold goOn
          rw [show i + j - 1 = T - 1 by have := HTJ.out; omega]
          simp [hj]
        · have hl' : T - 1 < ls.length := by rw [← HN.out]; exact hl
          obtain ⟨_, _, _, q3⟩ := HCC.out (T - 1) _ (List.getElem?_eq_getElem hl')
          rw [finN_lt ls _ hl']
          exact (HM.out.1.cell (p := ⟨g, o + (T - 1) * 4 + 3, none⟩) hgl).trans q3)
    obtain ⟨cn, hcn⟩ : ∃ x, x = cellsN ls T := ⟨_, rfl⟩
    rw [← hcn] at hstop HCELL
    have HCNE := Lib.hid hcn
    clear hcn
    rcases hstop with ⟨hlt, hkc, hgo⟩ | hstop
    · obtain ⟨Ac, cc, a0, hcb, hq⟩ := HCELL.out hlt
      obtain ⟨gi, oi, x, rfl, b1, hx0, hx1, hst⟩ := hq k hkc
      have HSTP := Lib.hid (hst rfl hgo)
      have HMXX := Lib.hid (fun W => HMX.out mo x W)
      have HM1 := Lib.hid (HM.out.to ((T : Int) + 1))
      rw [← HGB.out] at HM1
      have m2 : (wr.setCell ⟨gb, 2, none⟩ (.int .i64 ((T : Int) + 1))).cell? ⟨gb, 2, none⟩ = some (.int .i64 ((T : Int) + 1)) := by have h := HM1.out.2.2.2; rw [← HGB.out] at h; exact h.cell 2
      have HM2 := Lib.hid m2
      have s0 : (0 : Int) ≤ (T : Int) := by omega
      have s1 : (T : Int) < (n : Int) := by omega
      have k0 : (0 : Int) ≤ (k : Int) := by omega
      have k1 : (k : Int) < (cn : Int) := by omega
      clear hq hst m2
      rcases HGOE.out with ⟨_, eti⟩ | ⟨T', hT1, hTT, eti, f, hgf, hfc⟩
      · go_wp2_with fail
        refine (HMXX.out _).mono ?_
        rintro e w5 ⟨rfl, rfl⟩
        go_wp2_with fail
        go_roundw
        case rel => exact ⟨j + 1, T + 1, max mo x, by have := HTJ.out; omega, by omega, by omega, by omega, rfl, Lib.hid (by have := HL.out; rw [HSTP.out.1] at this; omega), Lib.hid (by have := HX.out; rw [HSTP.out.2, max_step] at this; exact this), HM1⟩
        case measure => rw [HM2.out, M1.out]; simp [intOf]; omega
      · have f12 : ((f : Int) != 12) = true := by rw [hgo] at hgf; simpa using hgf.symm
        have a3 := hfc (by omega)
        have t0 : (0 : Int) ≤ (T' : Int) := by omega
        have t1 : (T' : Int) < (n : Int) := by omega
        clear hgf hfc
        go_wp2_with fail
        refine (HMXX.out _).mono ?_
        rintro e w5 ⟨rfl, rfl⟩
        go_wp2_with fail
        go_roundw
        case rel => exact ⟨j + 1, T + 1, max mo x, by have := HTJ.out; omega, by omega, by omega, by omega, rfl, Lib.hid (by have := HL.out; rw [HSTP.out.1] at this; omega), Lib.hid (by have := HX.out; rw [HSTP.out.2, max_step] at this; exact this), HM1⟩
        case measure => rw [HM2.out, M1.out]; simp [intOf]; omega
    · have HEND := Lib.hid (HSP.out j (by
        have hN := HN.out
        have hTT := HTJ.out
        rcases hstop with (h | h) | ⟨_, _, h⟩
        · exact .inl (by omega)
        · exact .inr (.inr (by rw [← hTT, ← HCNE.out]; exact h))
        · exact .inr (.inl h)))
      have HRLE : Hid ((T : Int) = ((i + RL : Nat) : Int)) := Lib.hid (by have h1 := HL.out; have h2 := HTJ.out; rw [HEND.out.1] at h1; omega)
      have HRME : Hid (mo = RM) := Lib.hid (by have h1 := HX.out; rw [HEND.out.2] at h1; omega)
      have hstop2 : (¬ (T : Int) < (n : Int)) ∨ ((∃ (Ac : Option Addr) (cc : Nat), (T : Int) < (n : Int) ∧ wr.cell? ⟨g, o + T * 4, none⟩ = some (.slice Ac cn cc) ∧ cn ≤ 100000000 ∧ ¬ (k : Int) < (cn : Int)) ∨ (∃ (Ac : Option Addr) (cc T' : Nat), (T : Int) < (n : Int) ∧ wr.cell? ⟨g, o + T * 4, none⟩ = some (.slice Ac cn cc) ∧ cn ≤ 100000000 ∧ (k : Int) < (cn : Int) ∧ (T : Int) - 1 = (T' : Int) ∧ (T' : Int) < (n : Int) ∧ ((T : Int) == (i : Int)) = false ∧ wr.cell? ⟨g, o + T' * 4 + 3, none⟩ = some (.int .i64 12))) := by
        by_cases h1 : T < n
        · obtain ⟨Ac, cc, a0, hcb, _⟩ := HCELL.out h1
          by_cases h2 : k < cn
          · right; right
            have hg : goOn ls i j = false := by
              rcases hstop with (h | h) | ⟨_, _, h⟩
              · exact absurd h1 h
              · exact absurd h2 h
              · exact h
            rcases HGOE.out with ⟨h, _⟩ | ⟨T', hT1, hTT, eti, f, hgf, hfc⟩
            · rw [hg] at h; cases h
            · have hf12 : f = 12 := by rw [hg] at hgf; simpa using hgf.symm
              subst hf12
              exact ⟨Ac, cc, T', by omega, a0, hcb, by omega, hT1, by omega, eti, hfc (by omega)⟩
          · exact .inr (.inl ⟨Ac, cc, by omega, a0, hcb, by omega⟩)
        · exact .inl (by omega)
      have s0 : (0 : Int) ≤ (T : Int) := by omega
      have k0 : (0 : Int) ≤ (k : Int) := by omega
      have hsel : ((0 < mo ∨ fd = false) ∧ bw = roundI ⟨m, t, p, d, fr, fd, fl, fe, fm⟩ (max m (mo + p))) ∨ (¬ 0 < mo ∧ fd = true ∧ bw = 0) := by
        rw [HBW.out, HRME.out]
        unfold blockW
        by_cases h : 0 < RM ∨ fd = false
        · rw [if_pos h]; exact .inl ⟨h, rfl⟩
        · rw [if_neg h]
          refine .inr ⟨fun h1 => h (.inl h1), ?_, rfl⟩
          cases fd with
          | true => rfl
          | false => exact absurd (.inr rfl) h
      clear hstop
      have hC := HM.out.2.1
      have hE := HM.out.2.2.1
      have hB := HM.out.2.2.2
      rw [← HGB.out] at hB
      have b0 : wr.cell? ⟨gb, 0, none⟩ = some (.int .i64 (k : Int)) := hB.cell 0
      have b1 : wr.cell? ⟨gb, 1, none⟩ = some (.int .i64 (i : Int)) := hB.cell 1
      have b3 : wr.cell? ⟨gb, 3, none⟩ = some (.int .i64 0) := hB.cell 3
      obtain ⟨c0, c1, c2, c3, c4, c5, c6, c7, c8⟩ := (show Boxed wr w.heap.size m t p d fr fd fl fe fm from ⟨hC.cell 0, hC.cell 1, hC.cell 2, hC.cell 3, hC.cell 4, hC.cell 5, hC.cell 6, hC.cell 7, hC.cell 8⟩)
      have e0 : wr.cell? ⟨w.heap.size + 1, 0, none⟩ = some (.int .i64 0) := hE.cell 0
      have e1 : wr.cell? ⟨w.heap.size + 1, 1, none⟩ = some (.int .i64 0) := hE.cell 1
      have e2 : wr.cell? ⟨w.heap.size + 1, 2, none⟩ = some (.int .i64 0) := hE.cell 2
      have e3 : wr.cell? ⟨w.heap.size + 1, 3, none⟩ = some (.int .i64 0) := hE.cell 3
      have g0 := hE.free 0
      have g1 := hE.free 1
      have g2 := hE.free 2
      have g3 := hE.free 3
      have hlt0 : w.heap.size < wr.heap.size := hC.lt
      have hgb0 : w.heap.size < gb := by rw [HGB.out]; omega
      have hgbb : w.heap.size ≤ gb := by omega
      have hgbr : gb < wr.heap.size := hB.lt
      clear hC hE hB
      rcases hsel with ⟨hsel, hbw2⟩ | ⟨hmo, rfl, hbw2⟩
      · have HMP := Lib.hid (fun W => HMX.out m (mo + p) W)
        have hmx0 : 0 ≤ max m (mo + p) := by omega
        have hmx1 : max m (mo + p) ≤ 4000000 := by omega
        have HRP := Lib.hid (fun W => HRI.out (max m (mo + p)) W hmx0 hmx1)
        rw [← hbw2] at HRP
        have HHM := Lib.hid (fun W (hb : Below wr.heap.size wr W) => ((HM.out.below hb).wid bw))
        have hmp0 : 0 ≤ mo + p := by omega
        have hmp1 : mo + p ≤ 4000000 := by omega
        have HBR := Lib.hid (HM.out.1)
        have hsel2 : (0 < mo) ∨ (¬ 0 < mo ∧ fd = false) := by
          by_cases h : 0 < mo
          · exact .inl h
          · exact .inr ⟨h, hsel.resolve_left h⟩
        obtain ⟨mx, hmx⟩ : ∃ mx, mx = max m (mo + p) := ⟨_, rfl⟩
        have HMXE := Lib.hid hmx
        rw [← hmx] at HMP HRP hmx0 hmx1
        have hwr : IntKind.i64.wrap (mo + p) = mo + p := IntWalk.i64_in _ (by omega)
        clear hbw2 hsel hmx e0 e1 e2 e3 g0 g1 g2 g3
        rcases hsel2 with hsel2 | ⟨hsel2, rfl⟩
        · rcases hstop2 with h1 | ⟨Ac, cc, h1, h2, h3, h4⟩ | ⟨Ac, cc, T', h1, h2, h3, h4, h5, h6, h7, h8⟩
          all_goals
            go_wp2_with fail
            go_region_held3 (fun W => W.cell? ⟨w.heap.size, 0, none⟩ = some (.int .i64 m) ∧ W.cell? ⟨w.heap.size, 1, none⟩ = some (.int .i64 t) ∧ W.cell? ⟨w.heap.size, 2, none⟩ = some (.int .i64 p) ∧ W.cell? ⟨w.heap.size, 3, none⟩ = some (.int .i64 d) ∧ W.cell? ⟨w.heap.size, 4, none⟩ = some (.bool fr) ∧ W.cell? ⟨w.heap.size, 5, none⟩ = some (.bool fd) ∧ W.cell? ⟨w.heap.size, 6, none⟩ = some (.bool fl) ∧ W.cell? ⟨w.heap.size, 7, none⟩ = some (.bool fe) ∧ W.cell? ⟨w.heap.size, 8, none⟩ = some (.bool fm) ∧ Below w.heap.size w W ∧ w.heap.size + 1 ≤ W.heap.size)
              (first | exact ⟨c0, c1, c2, c3, c4, c5, c6, c7, c8, HBR.out.drew, hlt0⟩ | assumption | exact box_step (by assumption) (by assumption) | exact box_step hb5 ⟨c0, c1, c2, c3, c4, c5, c6, c7, c8, HBR.out.drew, hlt0⟩ | exact box_set hgb0 hgbb (by assumption))
              (first | (go_at_call 101; refine (HMP.out _).mono ?_; rintro e w4 ⟨rfl, rfl⟩) | (go_at_call 102; refine (HRP.out _).mono ?_; rintro e w5 ⟨rfl, hb5⟩; have HB5 : Hid (Below wr.heap.size wr w5) := Lib.hid ((Below.refl _ wr).drew.trans hb5); have hq3 : w5.cell? ⟨gb, 3, none⟩ = some (.int .i64 0) := (HB5.out.cell (p := ⟨gb, 3, none⟩) hgbr).trans b3; have hf3 : w5.frozen? ⟨gb, 3, none⟩ = false := (HGB.out ▸ (HM.out.below HB5.out).2.2.2.free 3)))
            all_goals
              have HW5 := Lib.hid (HHM.out w5 HB5.out)
              rw [← HGB.out] at HW5
              have hB5 := HW5.out.2.2.2
              rw [← HGB.out] at hB5
              have hE5 := HW5.out.2.2.1
              have x0 := hB5.cell 0
              have x1 := hB5.cell 1
              have x2 := hB5.cell 2
              have x3 := hB5.cell 3
              have y0 := hE5.cell 0
              have y1 := hE5.cell 1
              have y2 := hE5.cell 2
              have y3 := hE5.cell 3
              have z0 := hE5.free 0
              have z1 := hE5.free 1
              have z2 := hE5.free 2
              have z3 := hE5.free 3
              have HFIN := Lib.hid (blk_out (u0 := (k : Int)) (u1 := (i : Int)) (u2 := (T : Int)) (u3 := bw) HW5.out.2.2.1)
              have HBL := Lib.hid HW5.out.1
              clear hB5 hE5 hq3 hf3
              go_wp2_with fail
              have d0 := HFIN.out.cell 0
              have d1 := HFIN.out.cell 1
              have d2 := HFIN.out.cell 2
              have d3 := HFIN.out.cell 3
              exact bodyPost_ret (v := .agg #[.int .i64 (k : Int), .int .i64 (i : Int), .int .i64 (T : Int), .int .i64 bw]) (by simp [results, Tryd.results85, go_sem, d0, d1, d2, d3]) rfl ⟨by rw [HRLE.out, Int.natCast_add], blk_out_below HBL.out⟩
        · rcases hstop2 with h1 | ⟨Ac, cc, h1, h2, h3, h4⟩ | ⟨Ac, cc, T', h1, h2, h3, h4, h5, h6, h7, h8⟩
          all_goals
            go_wp2_with fail
            go_region_held3 (fun W => W.cell? ⟨w.heap.size, 0, none⟩ = some (.int .i64 m) ∧ W.cell? ⟨w.heap.size, 1, none⟩ = some (.int .i64 t) ∧ W.cell? ⟨w.heap.size, 2, none⟩ = some (.int .i64 p) ∧ W.cell? ⟨w.heap.size, 3, none⟩ = some (.int .i64 d) ∧ W.cell? ⟨w.heap.size, 4, none⟩ = some (.bool fr) ∧ W.cell? ⟨w.heap.size, 5, none⟩ = some (.bool false) ∧ W.cell? ⟨w.heap.size, 6, none⟩ = some (.bool fl) ∧ W.cell? ⟨w.heap.size, 7, none⟩ = some (.bool fe) ∧ W.cell? ⟨w.heap.size, 8, none⟩ = some (.bool fm) ∧ Below w.heap.size w W ∧ w.heap.size + 1 ≤ W.heap.size)
              (first | exact ⟨c0, c1, c2, c3, c4, c5, c6, c7, c8, HBR.out.drew, hlt0⟩ | assumption | exact box_step (by assumption) (by assumption) | exact box_step hb5 ⟨c0, c1, c2, c3, c4, c5, c6, c7, c8, HBR.out.drew, hlt0⟩ | exact box_set hgb0 hgbb (by assumption))
              (first | (go_at_call 101; refine (HMP.out _).mono ?_; rintro e w4 ⟨rfl, rfl⟩) | (go_at_call 102; refine (HRP.out _).mono ?_; rintro e w5 ⟨rfl, hb5⟩; have HB5 : Hid (Below wr.heap.size wr w5) := Lib.hid ((Below.refl _ wr).drew.trans hb5); have hq3 : w5.cell? ⟨gb, 3, none⟩ = some (.int .i64 0) := (HB5.out.cell (p := ⟨gb, 3, none⟩) hgbr).trans b3; have hf3 : w5.frozen? ⟨gb, 3, none⟩ = false := (HGB.out ▸ (HM.out.below HB5.out).2.2.2.free 3)))
            all_goals
              have HW5 := Lib.hid (HHM.out w5 HB5.out)
              rw [← HGB.out] at HW5
              have hB5 := HW5.out.2.2.2
              rw [← HGB.out] at hB5
              have hE5 := HW5.out.2.2.1
              have x0 := hB5.cell 0
              have x1 := hB5.cell 1
              have x2 := hB5.cell 2
              have x3 := hB5.cell 3
              have y0 := hE5.cell 0
              have y1 := hE5.cell 1
              have y2 := hE5.cell 2
              have y3 := hE5.cell 3
              have z0 := hE5.free 0
              have z1 := hE5.free 1
              have z2 := hE5.free 2
              have z3 := hE5.free 3
              have HFIN := Lib.hid (blk_out (u0 := (k : Int)) (u1 := (i : Int)) (u2 := (T : Int)) (u3 := bw) HW5.out.2.2.1)
              have HBL := Lib.hid HW5.out.1
              clear hB5 hE5 hq3 hf3
              go_wp2_with fail
              have d0 := HFIN.out.cell 0
              have d1 := HFIN.out.cell 1
              have d2 := HFIN.out.cell 2
              have d3 := HFIN.out.cell 3
              exact bodyPost_ret (v := .agg #[.int .i64 (k : Int), .int .i64 (i : Int), .int .i64 (T : Int), .int .i64 bw]) (by simp [results, Tryd.results85, go_sem, d0, d1, d2, d3]) rfl ⟨by rw [HRLE.out, Int.natCast_add], blk_out_below HBL.out⟩
      · have HBW0 := Lib.hid hbw2
        have HFIN := Lib.hid (blk_out (u0 := (k : Int)) (u1 := (i : Int)) (u2 := (T : Int)) (u3 := 0) HM.out.2.2.1)
        have HBL := Lib.hid (HM.out.1)
        clear hbw2
        rcases hstop2 with h1 | ⟨Ac, cc, h1, h2, h3, h4⟩ | ⟨Ac, cc, T', h1, h2, h3, h4, h5, h6, h7, h8⟩
        all_goals
          go_wp2_with fail
          have d0 := HFIN.out.cell 0
          have d1 := HFIN.out.cell 1
          have d2 := HFIN.out.cell 2
          have d3 := HFIN.out.cell 3
          exact bodyPost_ret (v := .agg #[.int .i64 (k : Int), .int .i64 (i : Int), .int .i64 (T : Int), .int .i64 0]) (by simp [results, Tryd.results85, go_sem, d0, d1, d2, d3]) rfl ⟨by rw [HRLE.out, HBW0.out, Int.natCast_add], blk_out_below HBL.out⟩
end Go.Proofs.YtjdbkpckhgncbaaDoor
