/- All lines of a layout: the model's l07Lines, LayLines. -/
import Derived.Test.YtjdbkpckhgncbaaSpecLayA
import Derived.Test.YtjdbkpckhgncbaaSpecWid
import Derived.Test.YtjdbkpckhgncbaaLayLen
import Derived.Test.YtjdbkpckhgncbaaRowF
import Derived.Deep.RegionLaw
namespace Go.Proofs.Ytjdbkpckhgncbaa
open Go.RowKit
set_option linter.unusedVariables false

/-- 'append(b, s...)' as a step of a region that draws its order. -/
theorem step_add_str {ops : Array Oper} {o : Oper} {a : Act} {K : Act → World → Prop} {Q : Exit → Act → World → Prop} {E : Prop} (hgd : o.guard = none) (sl x : Operand)
    (ho : o.op = .call { callee := .builtin .append, args := #[sl, x], argTypes := #[61, 9] })
    (base : Nat) (W : World) (v : Value) (l : List UInt8) (hs : a.eval sl = v) (hown : OwnU W base v l) (s : ByteArray) (hx : a.eval x = .string s) (hsz : l.length + s.size ≤ 100000000000000) (hbase : base ≤ W.heap.size)
    (h : ∀ v' w', OwnU w' base v' (l ++ s.data.toList) → W.grownBy w' v.ownBlock → K (a.put o.dst v') w') :
    if Region.wanted o (yielded ops a.tmps) = true then Oper.wp Try.prog o a W K Q else E := by
  have hw : Region.wanted o (yielded ops a.tmps) = true := by simp [Region.wanted, hgd]
  rw [if_pos hw]
  obtain ⟨i0, hi0, hz0, hz1, hz2⟩ := info_parts Try.infoByteU
  obtain ⟨v', w', hr, h2, h3, _⟩ := Lib.run_append_own_string (P := Try.prog) W base 61 9 o.type 5 i0 Try.underlying61 Try.underlying9 hi0 hz0 hz1 hz2 v l.length (u8s l) hown s (by unfold maxLen; omega) (by omega) hbase
  unfold Oper.wp execOp
  simp only [ho, resolve, invoke, builtin, Sem.run_bind, Sem.run_pure, Result.andThen_ok, List.map_toArray, List.map_cons, List.map_nil, hs, hx, hr]
  refine h v' w' ?_ h3
  have e : (l ++ s.data.toList).length = l.length + s.size := by rw [List.length_append]; rfl
  unfold OwnU
  rw [e, u8s_app, ← u8s_cells]
  exact h2
set_option maxRecDepth 100000 in
set_option maxHeartbeats 8000000 in
theorem specLines (c : Cfg) (ls : List Ln) (v : Value) (w : World) (hv0 : RdL w v ls) (hm : FitL ls) (hok : validC c = true) (hf : fitsB ls = true) :
    Calls Try.prog 39 #[.agg (cfgV c), v] w fun e w' => e = .returned (.string ⟨(layAll c ls).toArray⟩) ∧ Below w.heap.size w w' := by
  have HWD := Lib.hid (fun W (hb : Below w.heap.size w W) => specWidths c ls v W (hv0.below hb) hm.wide hok hf)
  have HTM := Lib.hid (fun l (h : l ∈ ls) => totL_mem ls l h)
  have HLS := Lib.hid (fun k h => layTo_succ c ls k h)
  have HBD := Lib.hid (fun k h => layTo_bd c hok hf hm k h)
  have HFL := Lib.hid (fun (k : Nat) => widF_size c ls k)
  have HLN := Lib.hid (fun (k : Nat) (hk : k < ls.length) (va vw : Value) (W : World) (ha : RdC W va ls[k].cells) (hw : Rd W vw (ints (widF c ls k))) =>
    specLine c ls[k].cells va vw (widF c ls k) ls[k].tail.txt ls[k].tail.wid ls[k].fin W hok ha hw (by rw [widF_size, cellsN_lt ls k hk]) (by have := totL_mem ls _ (List.getElem_mem hk); have := hm.2; omega) (by have := totL_mem ls _ (List.getElem_mem hk); have := hm.2; omega) (by have := totL_mem ls _ (List.getElem_mem hk); have := hm.2; omega) (wid_line c hok hf k hk))
  have HLEN := Lib.hid (fun (k : Nat) (hk : k < ls.length) => layLn_len c hok ls[k] (widF c ls k) (fun j y n h1 h2 => by have := wid_line c hok hf k hk j y n h1 h2; omega))
  have hlen := hm.1
  have htot := hm.2
  have hC0 := Blk.new w 25 (cfgV c)
  have HC0 := Lib.hid (hC0.after ((Below.refl (w.alloc (.cells (cfgV c) 25)).heap.size (w.alloc (.cells (cfgV c) 25))).alloc (Nat.le_refl _) (.cells #[] 5)))
  have B0 := Lib.hid (by go_grown : Below w.heap.size w ((w.alloc (.cells (cfgV c) 25)).alloc (.cells #[] 5)))
  have hO0 := OwnU.lit (w.alloc (.cells (cfgV c) 25)) w.heap.size (by simp)
  rw [show (w.alloc (.cells (cfgV c) 25)).heap.size = w.heap.size + 1 by simp] at hO0
  have HO0 := Lib.hid hO0
  have HALL : Hid (layTo c ls ls.length = layAll c ls) := Lib.hid (layTo_all c ls)
  obtain ⟨RES, hRES⟩ : ∃ r, r = layAll c ls := ⟨_, rfl⟩
  rw [← hRES] at HALL ⊢
  obtain ⟨lt, hlt0⟩ : ∃ g : Nat → List UInt8, g = layTo c ls := ⟨_, rfl⟩
  have HL0 : Hid (lt 0 = []) := Lib.hid (by rw [hlt0]; rfl)
  rw [← hlt0] at HLS HBD HALL
  obtain ⟨fw, hfw⟩ : ∃ g : Nat → List Int, g = widF c ls := ⟨_, rfl⟩
  rw [← hfw] at HWD HLS HFL HLN HLEN
  obtain ⟨ln, hln⟩ : ∃ g : Ln → List Int → List UInt8, g = layLn c := ⟨_, rfl⟩
  have HLN2 : Hid (∀ (k : Nat) (hk : k < ls.length) (va vw : Value) (W : World), RdC W va ls[k].cells → Rd W vw (ints (fw k)) → Calls Try.prog 28 #[.agg (cfgV c), .agg #[va, .string ls[k].tail.txt, .int .i64 ls[k].tail.wid, .int .i64 ls[k].fin], vw] W fun e w' => e = .returned (.string ⟨(ln ls[k] (fw k)).toArray⟩) ∧ Below W.heap.size W w') := Lib.hid (by rw [hln]; exact HLN.out)
  rw [← hln] at HLS HLEN
  obtain ⟨A, ca, rfl, hA⟩ := hv0
  have HA := Lib.hid hA
  obtain ⟨n, hn⟩ : ∃ n, n = ls.length := ⟨_, rfl⟩
  rw [← hn] at HA hlen HWD HALL ⊢
  have HN := Lib.hid hn
  obtain ⟨m, t, p, d, fr, fd, fl, fe, fm⟩ := c
  unfold cfgV at HWD HC0 B0 HO0 HLN2 ⊢
  simp only at HWD HC0 B0 HO0 HLN2 ⊢
  clear hA hn hm hok hf hC0 hO0 hRES hlt0 hfw hln HLN
  go_enter Try.func39, Try.ntmps39
  go_wp2_with fail
  refine (HWD.out _ B0.out).mono ?_
  rintro e w1 ⟨u, rfl, hof, hb1⟩
  have B1 := Lib.hid (B0.out.trans (hb1.mono B0.out.size))
  have HC1 := Lib.hid (HC0.out.after hb1)
  have HO1 := Lib.hid (HO0.out.keeps (.below _ hb1))
  have HF1 := Lib.hid hof.retop
  obtain ⟨Au, cu, rfl⟩ := hof.len
  obtain ⟨vu, hvu⟩ : ∃ x, x = Value.slice Au n cu := ⟨_, rfl⟩
  have HVU := Lib.hid hvu
  clear hb1 hof hvu
  go_wp2_with fail
  go_loopw [5, 6, 7, 13] (fun b _ _ i wr => ∃ (k : Nat) (vo : Value), k ≤ n ∧ vo = b ∧ i = .int .i64 (k : Int) ∧ Hid (OwnU wr w.heap.size vo (lt k)) ∧ Hid (∃ q, OwnF wr q wr.heap.size (.slice Au n cu) n fw) ∧ Hid (Below w.heap.size w wr) ∧ Hid (Blk wr w.heap.size 25 #[.int .i64 m, .int .i64 t, .int .i64 p, .int .i64 d, .bool fr, .bool fd, .bool fl, .bool fe, .bool fm])) (fun _ _ _ i _ => n - (intOf i).toNat)
  case atStart => exact ⟨0, _, Nat.zero_le _, rfl, rfl, Lib.hid (by rw [HL0.out]; exact HO1.out), Lib.hid ⟨_, HF1.out⟩, B1, HC1⟩
  case round =>
    obtain ⟨k, vo, hk, rfl, rfl, HO, HF, HBE, HBC⟩ := hrel
    by_cases hlt : k < n
    · obtain ⟨ga, oa, rfl, hga, hca⟩ := HA.out (by omega)
      have hkl : k < ls.length := by rw [← HN.out]; exact hlt
      obtain ⟨⟨va, p0, hra⟩, p1, p2, p3⟩ := hca k _ (List.getElem?_eq_getElem hkl)
      have a0 := (HBE.out.cell (p := ⟨ga, oa + k * 4, none⟩) hga).trans p0
      have a1 := (HBE.out.cell (p := ⟨ga, oa + k * 4 + 1, none⟩) hga).trans p1
      have a2 := (HBE.out.cell (p := ⟨ga, oa + k * 4 + 2, none⟩) hga).trans p2
      have a3 := (HBE.out.cell (p := ⟨ga, oa + k * 4 + 3, none⟩) hga).trans p3
      have hst := HLS.out k hkl
      have hll := HLEN.out k hkl
      have hmem := HTM.out _ (List.getElem_mem hkl)
      have HCALL := Lib.hid (HLN2.out k hkl)
      have hpl := HBD.out k (Nat.le_of_lt hkl)
      have HRA := Lib.hid (hra.keep (w' := wr) HBE.out.size (fun p hp => HBE.out.cell hp))
      generalize ls[k] = l at a1 a2 a3 hst hll hmem HCALL HRA
      obtain ⟨cl, ⟨x, m'⟩, f⟩ := l
      simp only at a1 a2 a3 hll hmem HCALL HRA
      obtain ⟨R, hR⟩ : ∃ R, R = ln ⟨cl, ⟨x, m'⟩, f⟩ (fw k) := ⟨_, rfl⟩
      rw [← hR] at hst hll HCALL
      have hRs : (⟨R.toArray⟩ : ByteArray).size ≤ 1000000000000 := by
        show R.toArray.size ≤ _
        rw [List.size_toArray]
        omega
      have hRd : (⟨R.toArray⟩ : ByteArray).data.toList = R := by simp
      obtain ⟨RB, hRB⟩ : ∃ b : ByteArray, b = ⟨R.toArray⟩ := ⟨_, rfl⟩
      rw [← hRB] at hRs hRd HCALL
      have HST : Hid (lt (k + 1) = lt k ++ RB.data.toList) := Lib.hid (by rw [hst, hRd])
      obtain ⟨q9, hq9⟩ := HF.out
      obtain ⟨go, co, ur, hve, hcu, hgo, hru⟩ := hq9.row k hlt
      injection hve with e1 e2 e3
      subst e1
      have HRU := Lib.hid hru
      have HQ9 := Lib.hid hq9
      obtain ⟨e0, e1', e2', e3', e4', e5', e6', e7', e8'⟩ := HBC.out.boxed
      have hbase : w.heap.size ≤ wr.heap.size := HBE.out.size
      obtain ⟨P, hP⟩ : ∃ P, P = lt k := ⟨_, rfl⟩
      rw [← hP] at HO hpl HST
      clear hca p0 p1 p2 p3 hra hst hll hmem hR hRB hRd hq9 hru e2 e3 hP
      go_wp2_with fail
      go_region_law
        (first
          | (go_simp; go_at_call 28; refine (HCALL.out va ur wr.drew (HRA.out.keep (Nat.le_refl _) (fun p hp => (Below.drew (Below.refl wr.heap.size wr)).cell hp)) (HRU.out.below (Below.drew (Below.refl _ wr)))).mono ?_; rintro e w2 ⟨rfl, hb2⟩; have B2 := Lib.hid ((Below.drew (Below.refl wr.heap.size wr)).trans hb2); have HO2 := Lib.hid (HO.out.keeps (.below _ B2.out)); have hbase2 : w.heap.size ≤ w2.heap.size := Nat.le_trans hbase B2.out.size; clear hb2; (try dsimp only))
          | (refine step_add_str rfl _ _ rfl w.heap.size w2 vo P rfl HO2.out RB rfl (by omega) hbase2 ?_; intro v3 w3 ho3 hg3; have HO3 := Lib.hid ho3; have HG3 := Lib.hid hg3; clear ho3 hg3))
      all_goals
        have N1 := Lib.hid (HBE.out.trans (B2.out.mono hbase))
        have N2 := Lib.hid (HO2.out.grown HG3.out N1.out (Nat.le_refl _) hbase2)
        have N3 := Lib.hid ((HBC.out.after B2.out).grows HO2.out (by decide) HG3.out)
        have N4 : Hid (∃ q, OwnF w3 q w3.heap.size (.slice (some ⟨go, 0, none⟩) n cu) n fw) := Lib.hid ⟨_, ((HQ9.out.keeps (.below _ B2.out) (.below _ B2.out)).keeps (.grown HO2.out (by decide) HG3.out) (.grown HO2.out (by decide) HG3.out)).retop⟩
        clear a0 a1 a2 a3 hcu e0 e1' e2' e3' e4' e5' e6' e7' e8'
        go_wp2_with fail
        go_roundw
        case rel => exact ⟨k + 1, v3, by omega, rfl, by go_num, Lib.hid (by rw [HST.out]; exact HO3.out), N4, N2, N3⟩
        case measure => simp [intOf]; omega
    · obtain rfl : k = n := by omega
      have hcv := HO.out.conv
      rw [HALL.out] at hcv
      go_wp2_with fail
      go_ret
      exact ⟨rfl, HBE.out⟩
set_option maxRecDepth 100000 in
set_option maxHeartbeats 1000000 in
theorem specLayLines (c : Cfg) (ls : List Ln) (v : Value) (w : World) (hv : RdL w v ls) (hm : FitL ls) :
    Calls Try.prog 17 #[.agg (cfgV c), v] w fun e w' => e = .returned (.string (layLinesB c ls)) ∧ Below w.heap.size w w' := by
  have HF := Lib.hid (fun W (hb : Below w.heap.size w W) => specFits c ls v W (hv.below hb) hm.wide)
  have HG := Lib.hid (fun W (hb : Below w.heap.size w W) h1 h2 => specLines c ls v W (hv.below hb) hm h1 h2)
  have HNEW := Lib.hid (Blk.new w 25 (cfgV c))
  have B0 := Lib.hid (by go_grown : Below w.heap.size w (w.alloc (.cells (cfgV c) 25)))
  obtain ⟨A, ca, rfl, _⟩ := hv
  obtain ⟨n, hn⟩ : ∃ n, n = ls.length := ⟨_, rfl⟩
  cases hok : fitsB ls && validC c with
  | false =>
    rw [hok] at HF
    have HE : Hid (layLinesB c ls = ⟨#[]⟩) := Lib.hid (by unfold layLinesB; rw [hok]; rfl)
    rw [HE.out]
    rw [← hn] at HF ⊢
    obtain ⟨m, t, p, d, fr, fd, fl, fe, fm⟩ := c
    unfold cfgV at HF B0 ⊢
    simp only at HF B0 ⊢
    clear hok hn HG HE
    go_enter Try.func17, Try.ntmps17
    go_wp2_with fail
    refine (HF.out _ B0.out).mono ?_
    rintro e w1 ⟨rfl, hb1⟩
    have B1 := Lib.hid (B0.out.trans (hb1.mono B0.out.size))
    clear hb1
    go_wp2_with fail
    go_ret
    exact ⟨rfl, B1.out⟩
  | true =>
    rw [hok] at HF
    simp only [Bool.and_eq_true] at hok
    have HE : Hid (layLinesB c ls = ⟨(layAll c ls).toArray⟩) := Lib.hid (by unfold layLinesB; rw [hok.1, hok.2]; rfl)
    rw [HE.out]
    have HGG := Lib.hid (fun W hb => HG.out W hb hok.2 hok.1)
    obtain ⟨RES, hRES⟩ : ∃ r : ByteArray, r = ⟨(layAll c ls).toArray⟩ := ⟨_, rfl⟩
    rw [← hRES] at HGG ⊢
    rw [← hn] at HF HGG ⊢
    obtain ⟨m, t, p, d, fr, fd, fl, fe, fm⟩ := c
    unfold cfgV at HF HGG HNEW B0 ⊢
    simp only at HF HGG HNEW B0 ⊢
    clear hok hn HG HE hRES
    go_enter Try.func17, Try.ntmps17
    go_wp2_with fail
    refine (HF.out _ B0.out).mono ?_
    rintro e w1 ⟨rfl, hb1⟩
    have B1 := Lib.hid (B0.out.trans (hb1.mono B0.out.size))
    have hB := HNEW.out.after hb1
    obtain ⟨c0, c1, c2, c3, c4, c5, c6, c7, c8⟩ := hB.boxed
    clear hb1 hB
    go_wp2_with fail
    refine (HGG.out _ B1.out).mono ?_
    rintro e w2 ⟨rfl, hb2⟩
    have B2 := Lib.hid (B1.out.trans (hb2.mono B1.out.size))
    clear hb2
    go_wp2_with fail
    go_ret
    exact ⟨rfl, B2.out⟩
end Go.Proofs.Ytjdbkpckhgncbaa
