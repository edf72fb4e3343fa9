/- Column blocks: the model's l06Blocks, BlocksOf. -/
import Derived.Test.YtjdbkpckhgncbaaDoorSpecBlkW
namespace Go.Proofs.YtjdbkpckhgncbaaDoor
open Go.RowKit
set_option linter.unusedVariables false

theorem OwnB.keeps {W W' : World} {base : Nat} {v : Value} {l : List Bk} (h : OwnB W base v l) (hk : Keeps W W' 77) : OwnB W' base v l := own_keeps h hk
theorem Tryd.infoBlk : (Tryd.prog.info? 77).map (fun i => (i.zero, i.size, i.bytes)) = some (some (.agg #[.int .i64 0, .int .i64 0, .int .i64 0, .int .i64 0]), 4, 32) := by kernel_rfl
theorem lineBks_bd (c : Cfg) (ls : List Ln) (i k : Nat) (hi : i < ls.length) (hk : k ≤ cellsN ls i) : (lineBks c ls i ++ colBks c ls i k).length ≤ totL ls := by
  have h1 := lineBks_len c ls i (by omega)
  have h2 := colBks_len c ls i k
  have h3 := totL_drop ls i hi
  have h4 : totL (ls.take i) + totL (ls.drop i) = totL ls := by
    have key : ∀ a b : List Ln, totL (a ++ b) = totL a + totL b := by
      intro a b
      induction a with
      | nil => simp [totL]
      | cons x r ih => simp only [List.cons_append, totL, ih]; omega
    rw [← key, List.take_append_drop]
  rw [cellsN_lt ls i hi] at hk
  rw [List.length_append]
  omega
set_option maxRecDepth 100000 in
set_option maxHeartbeats 4000000 in
theorem specBlocks (c : Cfg) (ls : List Ln) (v : Value) (w : World) (hv : RdL w v ls) (hm : FitW ls) (hok : validC c = true) (hf : wideB ls) :
    Calls Tryd.prog 59 #[.agg (cfgV c), v] w fun e w' => ∃ u, e = .returned u ∧ OwnB w' w.heap.size u (bksL c ls) ∧ Below w.heap.size w w' := by
  obtain ⟨i0, hi0, hz0, hz1, hz2⟩ := info_parts Tryd.infoBlk
  have HBG := Lib.hid (fun W i k (hb : Below w.heap.size w W) hi hk => specBegins ls i k v W (hv.below hb) hm hi hk)
  have HBL := Lib.hid (fun W i k (hb : Below w.heap.size w W) hi hk => specBlock c ls i k v W (hv.below hb) hm hok hf hi hk)
  have HTM := Lib.hid (fun l (h : l ∈ ls) => totL_mem ls l h)
  have HYES := Lib.hid (fun i k h => colBks_yes c ls i k h)
  have HNO := Lib.hid (fun i k h => colBks_no c ls i k h)
  have HSUC := Lib.hid (fun i => lineBks_succ c ls i)
  have HBD := Lib.hid (fun i k hi hk => lineBks_bd c ls i k hi hk)
  have HCN := Lib.hid (fun T h => cellsN_lt ls T h)
  have HNEW := Lib.hid (Blk.new w 24 (cfgV c))
  have hlen := hm.1
  have HTOT : Hid (totL ls ≤ 100000000) := Lib.hid hm.2
  obtain ⟨A, ca, rfl, hA⟩ := hv
  have HA := Lib.hid hA
  obtain ⟨n, hn⟩ : ∃ n, n = ls.length := ⟨_, rfl⟩
  have HALL : Hid (lineBks c ls n = bksL c ls) := Lib.hid (by rw [hn]; rfl)
  rw [← hn] at HA hlen HBG HBL ⊢
  have HN := Lib.hid hn
  obtain ⟨lb, hlb⟩ : ∃ f : Nat → List Bk, f = lineBks c ls := ⟨_, rfl⟩
  obtain ⟨cb, hcb⟩ : ∃ f : Nat → Nat → List Bk, f = colBks c ls := ⟨_, rfl⟩
  obtain ⟨bo, hbo⟩ : ∃ f : Nat → Nat → Bk, f = blkOf c ls := ⟨_, rfl⟩
  have HLB0 : Hid (lb 0 = []) := Lib.hid (by rw [hlb]; rfl)
  have HCB0 : Hid (∀ i, cb i 0 = []) := Lib.hid (by rw [hcb]; intro i; rfl)
  rw [← hcb, ← hbo] at HYES
  rw [← hcb] at HNO
  rw [← hlb, ← hcb] at HSUC HBD
  rw [← hlb] at HALL
  rw [← hbo] at HBL
  obtain ⟨RES, hRES⟩ : ∃ r, r = bksL c ls := ⟨_, rfl⟩
  rw [← hRES] at HALL ⊢
  have B0 := Lib.hid (by go_grown : Below w.heap.size w ((w.alloc (.cells (cfgV c) 24)).alloc (.cells #[] 77)))
  have HNEW2 := Lib.hid (HNEW.out.after ((Below.refl _ _).alloc (Nat.le_refl _) (.cells #[] 77)))
  have O0 : Hid (((w.alloc (.cells (cfgV c) 24)).alloc (.cells #[] 77)).ownsRow w.heap.size 77 4 (.slice (some ⟨w.heap.size + 1, 0, none⟩) 0 0) 0 []) := Lib.hid (by
    have h := World.ownsRow_lit (base := w.heap.size) (e := 77) (size := 4) (w.alloc (.cells (cfgV c) 24)) #[] 0 (by simp) (by unfold maxLen; omega) rfl
    rw [show (w.alloc (.cells (cfgV c) 24)).heap.size = w.heap.size + 1 by simp] at h
    exact h)
  obtain ⟨m, t, p, d, fr, fd, fl, fe, fm⟩ := c
  unfold cfgV at HBL HNEW2 B0 O0 ⊢
  simp only at HBL HNEW2 B0 O0 ⊢
  clear hA hn hm hlb hcb hbo hRES hok hf HNEW
  go_enter Tryd.func59, Tryd.ntmps59
  go_wp2_with fail
  go_loopw [5, 6, 7, 8, 12] (fun o _ _ _ i wr => ∃ (k : Nat) (vo : Value), k ≤ n ∧ vo = o ∧ i = .int .i64 (k : Int) ∧ Hid (OwnB wr w.heap.size vo (lb k)) ∧ Hid (Below w.heap.size w wr) ∧ Hid (Blk wr w.heap.size 24 #[.int .i64 m, .int .i64 t, .int .i64 p, .int .i64 d, .bool fr, .bool fd, .bool fl, .bool fe, .bool fm])) (fun _ _ _ _ i _ => n - (intOf i).toNat)
  case atStart => exact ⟨0, _, Nat.zero_le _, rfl, rfl, Lib.hid (by rw [HLB0.out]; exact O0.out), B0, HNEW2⟩
  case round =>
    obtain ⟨k, vo, hk, rfl, rfl, HO, HBE, HBC⟩ := hrel
    by_cases hlt : k < n
    · obtain ⟨ga, oa, rfl, hga, hca⟩ := HA.out (by omega)
      have hkl : k < ls.length := by rw [← HN.out]; exact hlt
      obtain ⟨⟨va, p0, hra⟩, p1, p2, p3⟩ := hca k _ (List.getElem?_eq_getElem hkl)
      have a0 := (HBE.out.cell (p := ⟨ga, oa + k * 4, none⟩) hga).trans p0
      have a1 := (HBE.out.cell (p := ⟨ga, oa + k * 4 + 1, none⟩) hga).trans p1
      have a2 := (HBE.out.cell (p := ⟨ga, oa + k * 4 + 2, none⟩) hga).trans p2
      have a3 := (HBE.out.cell (p := ⟨ga, oa + k * 4 + 3, none⟩) hga).trans p3
      have hmem := HTM.out _ (List.getElem_mem hkl)
      have HCK := Lib.hid (HCN.out k hkl)
      have HSK := Lib.hid (HSUC.out k)
      have HBK := Lib.hid (fun q hq => HBD.out k q hkl hq)
      have hkn : k < n := hlt
      generalize ls[k] = l at a1 a2 a3 hra hmem HCK
      obtain ⟨cl, ⟨x, m'⟩, f⟩ := l
      simp only at a1 a2 a3 hra hmem HCK
      obtain ⟨Ac, cc, rfl, _⟩ := hra
      obtain ⟨z, hz⟩ : ∃ z, z = cellsN ls k := ⟨_, rfl⟩
      have hzl : z ≤ 100000000 := by have := HTOT.out; have := HCK.out; omega
      rw [← HCK.out, ← hz] at a0
      rw [← hz] at HSK HBK
      obtain ⟨wo, rfl⟩ : ∃ wo : World, wo = wr := ⟨_, rfl⟩
      have HBO := Lib.hid (HBE.out.alloc HBE.out.size (.cells #[.slice Ac z cc, .string x, .int .i64 m', .int .i64 f] 46))
      have HBC2 := Lib.hid (HBC.out.after ((Below.refl _ _).alloc (Nat.le_refl _) (.cells #[.slice Ac z cc, .string x, .int .i64 m', .int .i64 f] 46)))
      have HO2 : Hid (OwnB (wo.alloc (.cells #[.slice Ac z cc, .string x, .int .i64 m', .int .i64 f] 46)) w.heap.size vo (lb k ++ cb k 0)) := Lib.hid (by rw [HCB0.out, List.append_nil]; exact own_alloc_block HO.out _)
      clear hca p0 p1 p2 p3 hz hmem
      go_wp2_with fail
      go_loopw [5, 8, 20] (fun o _ j wx => ∃ (q : Nat) (vq : Value), q ≤ z ∧ vq = o ∧ j = .int .i64 (q : Int) ∧ Hid (OwnB wx w.heap.size vq (lb k ++ cb k q)) ∧ Hid (Below w.heap.size w wx) ∧ Hid (Blk wx w.heap.size 24 #[.int .i64 m, .int .i64 t, .int .i64 p, .int .i64 d, .bool fr, .bool fd, .bool fl, .bool fe, .bool fm])) (fun _ _ j _ => z - (intOf j).toNat)
      case atStart => exact ⟨0, _, Nat.zero_le _, rfl, rfl, HO2, HBO, HBC2⟩
      case round =>
        obtain ⟨q, vq, hq, rfl, rfl, HOQ, HBX, HBCX⟩ := hrel
        by_cases hltq : q < z
        · have HBGQ := Lib.hid (HBG.out wr k q HBX.out hkn (by omega))
          have HBLQ := Lib.hid (HBL.out wr k q HBX.out hkn (by omega))
          cases hbeg : begB ls k q with
          | false =>
            rw [hbeg] at HBGQ
            have HNX := Lib.hid (HNO.out k q hbeg)
            clear hbeg
            go_wp2_with fail
            refine HBGQ.out.mono ?_
            rintro e w5 ⟨rfl, rfl⟩
            go_wp2_with fail
            go_roundw
            case rel => exact ⟨q + 1, vq, by omega, rfl, by go_num, Lib.hid (by rw [HNX.out]; exact HOQ.out), HBX, HBCX⟩
            case measure => simp [intOf]; omega
          | true =>
            rw [hbeg] at HBGQ
            have HYX := Lib.hid (HYES.out k q hbeg)
            have hlbd := HBK.out q (by omega)
            have hB := HBCX.out
            obtain ⟨c0, c1, c2, c3, c4, c5, c6, c7, c8⟩ := (show Boxed wr w.heap.size m t p d fr fd fl fe fm from ⟨hB.cell 0, hB.cell 1, hB.cell 2, hB.cell 3, hB.cell 4, hB.cell 5, hB.cell 6, hB.cell 7, hB.cell 8⟩)
            obtain ⟨bx, hbx⟩ : ∃ b, b = bo k q := ⟨_, rfl⟩
            rw [← hbx] at HYX HBLQ
            obtain ⟨L, hL⟩ : ∃ L, L = lb k ++ cb k q := ⟨_, rfl⟩
            have HYL : Hid (lb k ++ cb k (q + 1) = L ++ [bx]) := Lib.hid (by rw [HYX.out, hL, List.append_assoc])
            rw [← hL] at HOQ hlbd
            have hll : L.length ≤ 100000000 := Nat.le_trans hlbd HTOT.out
            obtain ⟨b0, b1, b2, b3⟩ := bx
            simp only at HBLQ
            clear hbeg hB hbx hL hlbd HYX
            go_wp2_with fail
            refine HBGQ.out.mono ?_
            rintro e w5 ⟨rfl, rfl⟩
            go_wp2_with fail
            refine HBLQ.out.mono ?_
            rintro e w6 ⟨rfl, hb6⟩
            have h5 : w6.ownsRow w.heap.size 77 4 vq L.length (bkVals L) := own_below HOQ.out hb6
            have HB6 := Lib.hid (HBX.out.trans (hb6.mono HBX.out.size))
            have HBC6 := Lib.hid (HBCX.out.after hb6)
            have hbase : w.heap.size ≤ w6.heap.size := HB6.out.size
            clear hb6
            go_wp2_with (at_builtin; refine append_el rfl _ _ 74 rfl w.heap.size 77 i0 _ 4 32 Tryd.underlying74 hi0 hz0 hz1 hz2 rfl (by decide) vq _ _ rfl w6 #[.int .i64 b0, .int .i64 b1, .int .i64 b2, .int .i64 b3] rfl rfl (blkCells_one b0 b1 b2 b3) h5 (by omega) (by omega) hbase ?_; intro v1 w7 ho1 hg1 _; have HO7 := Lib.hid ho1; have HG7 := Lib.hid hg1; have HP5 := Lib.hid h5; clear ho1 hg1 h5)
            have HBC7 := Lib.hid (HBC6.out.grows HP5.out (by decide) HG7.out)
            have HB7 := Lib.hid (grown_below HB6.out HG7.out (fun k hk => (World.ownsRow.lt HP5.out k hk).1))
            go_roundw
            case rel => exact ⟨q + 1, v1, by omega, rfl, by go_num, Lib.hid (by rw [HYL.out]; unfold OwnB; rw [bkVals_snoc, List.length_append]; exact HO7.out), HB7, HBC7⟩
            case measure => simp [intOf]; omega
        · obtain rfl : q = z := by omega
          go_wp2_with fail
          go_roundw
          case rel => exact ⟨k + 1, vq, by omega, rfl, by go_num, Lib.hid (by rw [HSK.out]; exact HOQ.out), HBX, HBCX⟩
          case measure => simp [intOf]; omega
    · obtain rfl : k = n := by omega
      go_wp2_with fail
      go_ret
      exact ⟨_, rfl, by rw [← HALL.out]; exact HO.out, HBE.out⟩
end Go.Proofs.YtjdbkpckhgncbaaDoor
