/- Merged texts: SpecOps ImplOps ImplRuns ImplRunOp LawSnk. -/
import Derived.Test.YtooanejiadbngaaGreatDoorOpMem
import Derived.Test.YtooanejiadbngaaGreatDoorBB
import Derived.Test.YtooanejiadbngaaGreatDoorBA
import Derived.Test.YtooanejiadbngaaGreatDoorBT
import Derived.Test.YtooanejiadbngaaGreatDoorBRI
import Derived.Test.YtooanejiadbngaaGreatDoorBRW
import Derived.Test.YtooanejiadbngaaGreatDoorBRF
import Derived.Test.YtooanejiadbngaaGreatDoorBW
import Derived.Test.YtooanejiadbngaaGreatDoorImplClosed
import Derived.Test.YtooanejiadbngaaGreatDoorImplLytO
import Derived.Test.YtooanejiadbngaaGreatDoorWalksSnk
import Derived.Test.YtooanejiadbngaaGreatDoorBLS
/- OpsOf: the model's. -/
namespace Go.Proofs.YtooanejiadbngaaGreatDoor
open Go.RowKit
set_option linter.unusedVariables false

theorem opnCells_one (x0 x1 x2 x3 x4 : Int) (x5 x6 x7 x8 x9 : Bool) (x10 : ByteArray) : ∀ u ∈ (#[.int .i64 x0, .int .i64 x1, .int .i64 x2, .int .i64 x3, .int .i64 x4, .bool x5, .bool x6, .bool x7, .bool x8, .bool x9, .string x10] : Array Value).toList, u.oneCell' = true := by
  intro u hu
  simp only [List.mem_cons, List.not_mem_nil, or_false] at hu
  rcases hu with rfl | rfl | rfl | rfl | rfl | rfl | rfl | rfl | rfl | rfl | rfl <;> rfl
/-- The operations behind k chunks. -/
def opsP (c : Cfg) (l : List ByteArray) (k : Nat) : List Opn := ⟨1, c, ⟨#[]⟩⟩ :: (l.take k).map opW
theorem opsP_len (c : Cfg) (l : List ByteArray) (k : Nat) : (opsP c l k).length = min k l.length + 1 := by simp [opsP]
theorem opsP_succ (c : Cfg) (l : List ByteArray) (k : Nat) (h : k < l.length) : opsP c l (k + 1) = opsP c l k ++ [⟨2, zeroC, l[k]⟩] := by
  unfold opsP
  rw [List.take_succ_eq_append_getElem h, List.map_append]
  rfl
theorem opsP_all (c : Cfg) (l : List ByteArray) : opsP c l l.length ++ [⟨3, zeroC, ⟨#[]⟩⟩] = opsL c l := by
  unfold opsP opsL
  rw [List.take_length]
  rfl
end Go.Proofs.YtooanejiadbngaaGreatDoor

/- OpsOf: the program's. -/
namespace Go.Proofs.YtooanejiadbngaaGreatDoor
open Go.RowKit
set_option linter.unusedVariables false

set_option maxRecDepth 100000 in
set_option maxHeartbeats 4000000 in
theorem implOpsOf (c : Cfg) (l : List ByteArray) (v : Value) (w : World) (hv : Rd w v (strs l)) (hl : l.length ≤ 1048576) :
    Calls Tryz.prog 8 #[.agg (cfgV c), v] w fun e w' => ∃ u, e = .returned u ∧ OwnO w' w.heap.size u (opsL c l) ∧ Below w.heap.size w w' := by
  obtain ⟨i0, hi0, hz0, hz1, hz2⟩ := info_parts Tryz.infoOp
  obtain ⟨A, ca, rfl, hA⟩ := hv
  rw [strs_length] at hA ⊢
  have HA := Lib.hid hA
  obtain ⟨n, hn⟩ : ∃ n, n = l.length := ⟨_, rfl⟩
  rw [← hn] at HA hl ⊢
  have HN := Lib.hid hn
  have hK := Blk.new w 24 (cfgV c)
  have HLS := Lib.hid (fun k => opsP_len c l k)
  have HL0 : Hid (opsP c l 0 = [⟨1, c, ⟨#[]⟩⟩]) := Lib.hid rfl
  have HLN : Hid (opsP c l n ++ [⟨3, zeroC, ⟨#[]⟩⟩] = opsL c l) := Lib.hid (by rw [hn]; exact opsP_all c l)
  have HLK := Lib.hid (fun k (h : k < l.length) => opsP_succ c l k h)
  have O0 : Hid (((w.alloc (.cells (cfgV c) 24)).alloc (.cells (opnV ⟨1, c, ⟨#[]⟩⟩) 51)).ownsRow w.heap.size 51 11 (.slice (some ⟨w.heap.size + 1, 0, none⟩) 1 1) 1 (opnVals [⟨1, c, ⟨#[]⟩⟩])) := Lib.hid (by
    have h := World.ownsRow_lit (base := w.heap.size) (e := 51) (size := 11) (w.alloc (.cells (cfgV c) 24)) (opnV ⟨1, c, ⟨#[]⟩⟩) 1 (by simp) (by unfold maxLen; omega) rfl
    rw [show (w.alloc (.cells (cfgV c) 24)).heap.size = w.heap.size + 1 by simp] at h
    exact h)
  have B0 := Lib.hid (by go_grown : Below w.heap.size w ((w.alloc (.cells (cfgV c) 24)).alloc (.cells (opnV ⟨1, c, ⟨#[]⟩⟩) 51)))
  obtain ⟨P, hP⟩ : ∃ P, P = opsP c l := ⟨_, rfl⟩
  obtain ⟨RES, hRES⟩ : ∃ R, R = opsL c l := ⟨_, rfl⟩
  rw [← hP] at HLS HL0 HLN HLK
  rw [← hRES] at HLN ⊢
  rw [← HL0.out] at O0
  obtain ⟨m, t, p, d, fr, fd, fl, fe, fm⟩ := c
  unfold cfgV at O0 B0 hK ⊢
  unfold opnV at O0 B0
  simp only at O0 B0 hK ⊢
  have hKb := hK.boxed
  clear hA hn hP hRES hK
  obtain ⟨c0, c1, c2, c3, c4, c5, c6, c7, c8⟩ := hKb
  go_enter Tryz.func8, Tryz.ntmps8
  go_wp2_with fail
  clear c0 c1 c2 c3 c4 c5 c6 c7 c8
  go_loopw [5, 7, 13] (fun o _ i wr => ∃ (k : Nat) (vo : Value), k ≤ n ∧ vo = o ∧ i = .int .i64 (k : Int) ∧ Hid (wr.ownsRow w.heap.size 51 11 vo (k + 1) (opnVals (P k))) ∧ Hid (Below w.heap.size w wr)) (fun _ _ i _ => n - (intOf i).toNat)
  case atStart => exact ⟨0, _, Nat.zero_le _, rfl, rfl, O0, B0⟩
  case round =>
    obtain ⟨k, vo, hk, rfl, rfl, HO, HBE⟩ := hrel
    have hbase : w.heap.size ≤ wr.heap.size := HBE.out.size
    have h5 := HO.out
    by_cases hlt : k < n
    · obtain ⟨ga, oa, rfl, hga, hca⟩ := HA.out (by omega)
      have hkl : k < l.length := by rw [← HN.out]; exact hlt
      have a0 := (HBE.out.cell (p := ⟨ga, oa + k, none⟩) hga).trans (hca k _ (strs_get l k hkl))
      have HX := Lib.hid (HLK.out k hkl)
      generalize l[k] = x at a0 HX
      clear hca
      go_wp2_with (at_builtin; refine append_el rfl _ _ 28 rfl w.heap.size 51 i0 _ 11 64 Tryz.underlying28 hi0 hz0 hz1 hz2 rfl (by decide) vo _ _ rfl wr #[.int .i64 2, .int .i64 0, .int .i64 0, .int .i64 0, .int .i64 0, .bool false, .bool false, .bool false, .bool false, .bool false, .string x] rfl rfl (opnCells_one _ _ _ _ _ _ _ _ _ _ _) h5 (by omega) (by omega) hbase ?_; intro v1 w7 ho1 hg1 _; have HO7 := Lib.hid ho1; have HG7 := Lib.hid hg1; have HP5 := Lib.hid h5; clear ho1 hg1 h5)
      have HB7 := Lib.hid (HBE.out.grown HG7.out hbase (fun k hk => (World.ownsRow.lt HP5.out k hk).1))
      go_roundw
      case rel => exact ⟨k + 1, v1, by omega, rfl, by go_num, Lib.hid (by rw [HX.out, opnVals_snoc]; exact HO7.out), HB7⟩
      case measure => simp [intOf]; omega
    · obtain rfl : k = n := by omega
      go_wp2_with (at_builtin; refine append_el rfl _ _ 28 rfl w.heap.size 51 i0 _ 11 64 Tryz.underlying28 hi0 hz0 hz1 hz2 rfl (by decide) vo _ _ rfl wr #[.int .i64 3, .int .i64 0, .int .i64 0, .int .i64 0, .int .i64 0, .bool false, .bool false, .bool false, .bool false, .bool false, .string ⟨#[]⟩] rfl rfl (opnCells_one _ _ _ _ _ _ _ _ _ _ _) h5 (by omega) (by omega) hbase ?_; intro v1 w7 ho1 hg1 _; have HO7 := Lib.hid ho1; have HG7 := Lib.hid hg1; have HP5 := Lib.hid h5; clear ho1 hg1 h5)
      have HB7 := Lib.hid (HBE.out.grown HG7.out hbase (fun k hk => (World.ownsRow.lt HP5.out k hk).1))
      have HR := Lib.hid (show OwnO w7 w.heap.size v1 RES from by
        unfold OwnO
        rw [← HLN.out, opnVals_snoc, List.length_append, HLS.out k, ← HN.out, Nat.min_self]
        exact HO7.out)
      go_wp2_with fail
      go_ret
      exact ⟨_, rfl, HR.out, HB7.out⟩
end Go.Proofs.YtooanejiadbngaaGreatDoor

/- The program's RunOps: one operation after another. -/
namespace Go.Proofs.YtooanejiadbngaaGreatDoor
open Go.RowKit
set_option linter.unusedVariables false
set_option linter.unusedSimpArgs false

theorem codesS_get (s : Ses) (l : List Opn) (k : Nat) (h : k < l.length) : (codesS s l)[k]? = some (stepS (runS s (l.take k)) l[k]).2 := by
  have e : l = l.take k ++ (l[k] :: l.drop (k + 1)) := by rw [← List.drop_eq_getElem_cons h, List.take_append_drop]
  have hl : (l.take k).length = k := by rw [List.length_take]; omega
  have h2 : codesS s l = codesS s (l.take k) ++ codesS (runS s (l.take k)) (l[k] :: l.drop (k + 1)) := by rw [← codesS_append, ← e]
  rw [h2, List.getElem?_append_right (by rw [codesS_len, hl]; exact Nat.le_refl _), codesS_len, hl, Nat.sub_self]
  rfl
theorem infoIntR : (Tryz.prog.info? 3).map (fun i => (i.zero, i.size, i.bytes)) = some (some (.int .i64 0), 1, 8) := by kernel_rfl
set_option maxRecDepth 100000 in
set_option maxHeartbeats 8000000 in
theorem implRunOps (s : Ses) (ops : List Opn) (v : Value) (w : World) (hok : okR s ops) (hl : ops.length ≤ 1048576) (hv : RdO w v ops)
    (hR : ∀ (s : Ses) (o : Opn) (W : World), okS s o → Below w.heap.size w W → Calls Tryz.prog 19 #[.agg (sesV s.c s.h s.k), .agg (opnV o)] W fun e w' => e = .returned (.tuple #[.agg (sesV (stepS s o).1.c (stepS s o).1.h (stepS s o).1.k), .int .i64 (stepS s o).2]) ∧ Below W.heap.size W w') :
    Calls Tryz.prog 10 #[.agg (sesV s.c s.h s.k), v] w fun e w' => ∃ u, e = .returned (.tuple #[.agg (sesV (runS s ops).c (runS s ops).h (runS s ops).k), u]) ∧ Rd w' u (ints (codesS s ops)) ∧ Below w.heap.size w w' := by
  obtain ⟨i0, hi0, hz0, hz1, hz2⟩ := info_parts infoIntR
  obtain ⟨A, ca, rfl, hA⟩ := hv
  have HR := Lib.hid hR
  clear hR
  obtain ⟨n, hn⟩ : ∃ n, n = ops.length := ⟨_, rfl⟩
  obtain ⟨F, hF⟩ : ∃ F : Nat → Ses, F = fun k => runS s (ops.take k) := ⟨_, rfl⟩
  obtain ⟨CS, hCS⟩ : ∃ CS, CS = ints (codesS s ops) := ⟨_, rfl⟩
  have HCL : Hid (CS.length = n) := Lib.hid (by rw [hCS, ints_length, codesS_len, hn])
  have HS : Hid (∀ k (h : k < ops.length), (stepS (F k) ops[k]).1 = F (k + 1)) := Lib.hid fun k h => by rw [hF]; exact (runS_take s ops k h).symm
  have HC : Hid (∀ k (h : k < ops.length), CS[k]? = some (.int .i64 (stepS (F k) ops[k]).2)) := Lib.hid fun k h => by
    rw [hCS, hF]; unfold ints; rw [List.getElem?_map, codesS_get s ops k h]; rfl
  have HK : Hid (∀ k (h : k < ops.length), okS (F k) ops[k]) := Lib.hid fun k h => by rw [hF]; exact okR_at s ops k h hok
  have HF0 : s = F 0 := by rw [hF]; rfl
  have HFN : Hid (runS s ops = F n) := Lib.hid (by rw [hF, hn]; show _ = runS s (ops.take ops.length); rw [List.take_length])
  rw [← hCS]
  rw [HFN.out]
  rw [← hn] at hl hA ⊢
  have HN := Lib.hid hn
  have HA := Lib.hid hA
  rw [HF0]
  clear hok hF hCS hn hA HF0 HFN
  obtain ⟨Z, hZ⟩ : ∃ Z, Z = (madeCells (Value.int .i64 0).cells (n * 1)).toList := ⟨_, rfl⟩
  have HZ : Hid (Z.length = n) := Lib.hid (by rw [hZ]; simp [madeCells])
  have HE := Lib.hid hZ
  clear hZ
  obtain ⟨f0, hf0⟩ : ∃ f, f = F 0 := ⟨_, rfl⟩
  have b0 := Blk.new w 37 (sesV f0.c f0.h f0.k)
  have b1 := Blk.new (w.alloc (.cells (sesV f0.c f0.h f0.k) 37)) 37 #[.int .i64 0, .int .i64 0, .int .i64 0, .int .i64 0, .bool false, .bool false, .bool false, .bool false, .bool false, .string ⟨#[]⟩, .int .i64 0, .string ⟨#[]⟩, .bool false]
  have s0 : (w.alloc (.cells (sesV f0.c f0.h f0.k) 37)).heap.size = w.heap.size + 1 := by simp
  have s1 : ((w.alloc (.cells (sesV f0.c f0.h f0.k) 37)).alloc (.cells #[.int .i64 0, .int .i64 0, .int .i64 0, .int .i64 0, .bool false, .bool false, .bool false, .bool false, .bool false, .string ⟨#[]⟩, .int .i64 0, .string ⟨#[]⟩, .bool false] 37)).heap.size = w.heap.size + 1 + 1 := by simp
  have b0 := b0.after ((Below.refl _ _).alloc (Nat.le_refl _) (.cells #[.int .i64 0, .int .i64 0, .int .i64 0, .int .i64 0, .bool false, .bool false, .bool false, .bool false, .bool false, .string ⟨#[]⟩, .int .i64 0, .string ⟨#[]⟩, .bool false] 37))
  rw [s0] at b1
  have B0 : Below w.heap.size w ((w.alloc (.cells (sesV f0.c f0.h f0.k) 37)).alloc (.cells #[.int .i64 0, .int .i64 0, .int .i64 0, .int .i64 0, .bool false, .bool false, .bool false, .bool false, .bool false, .string ⟨#[]⟩, .int .i64 0, .string ⟨#[]⟩, .bool false] 37)) := by go_grown
  rw [← hf0]
  have HF0 := Lib.hid hf0
  clear hf0 s0
  obtain ⟨⟨m, t, p, d, fr, fd, fl, fe, fm⟩, h, ⟨r, tk, dd⟩⟩ := f0
  unfold sesV at b0 b1 B0 s1
  rw [show sesV (Ses.mk ⟨m, t, p, d, fr, fd, fl, fe, fm⟩ h ⟨r, tk, dd⟩).c (Ses.mk ⟨m, t, p, d, fr, fd, fl, fe, fm⟩ h ⟨r, tk, dd⟩).h (Ses.mk ⟨m, t, p, d, fr, fd, fl, fe, fm⟩ h ⟨r, tk, dd⟩).k = #[.int .i64 m, .int .i64 t, .int .i64 p, .int .i64 d, .bool fr, .bool fd, .bool fl, .bool fe, .bool fm, .string h, .int .i64 r, .string tk, .bool dd] from rfl]
  simp only at b0 b1 B0 s1
  go_enter Tryz.func10, Tryz.ntmps10
  generalize hX : ((w.alloc (.cells #[.int .i64 m, .int .i64 t, .int .i64 p, .int .i64 d, .bool fr, .bool fd, .bool fl, .bool fe, .bool fm, .string h, .int .i64 r, .string tk, .bool dd] 37)).alloc (.cells #[.int .i64 0, .int .i64 0, .int .i64 0, .int .i64 0, .bool false, .bool false, .bool false, .bool false, .bool false, .string ⟨#[]⟩, .int .i64 0, .string ⟨#[]⟩, .bool false] 37)) = X at b0 b1 B0 s1
  go_wp2_with (at_make; refine wpList_make_full _ rfl _ _ 38 rfl X.heap.size 3 i0 _ 1 Tryz.underlying38 hi0 hz0 hz1 _ _ _ _ n rfl rfl rfl rfl (by rw [hz2]; omega) (by unfold maxLen; omega) (Nat.le_refl _) ?_; intro w1 hown1 hgr1; have HO1 := Lib.hid hown1; have HD1 := Lib.hid ((Below.refl X.heap.size X).grown hgr1 (Nat.le_refl _) (fun k hk => by cases hk)); clear hown1 hgr1)
  obtain ⟨cs, hbk, hcs, _⟩ := own_blk HO1.out rfl
  rw [← HE.out] at hcs
  have hcz : cs = Z.toArray := by rw [← hcs]
  rw [hcz, s1] at hbk
  have P0 := b0.after HD1.out
  have P1 := b1.after HD1.out
  have PB := B0.trans (HD1.out.mono (by omega))
  have HX0 := Lib.hid s1
  clear hX HO1 HD1 hcs hcz b0 b1 B0 s1 hz0 hz1 hz2 hi0
  have P2 := hbk
  clear hbk HE
  have PF : Hid (Blk w1 w.heap.size 37 (sesV (F 0).c (F 0).h (F 0).k)) := Lib.hid (by rw [← HF0.out]; exact P0)
  have HP1 := Lib.hid P1
  have HP2 : Hid (Blk w1 (w.heap.size + 1 + 1) 3 (copied 0 CS Z).toArray) := Lib.hid (by rw [copied_zero]; exact P2)
  have HPB := Lib.hid PB
  clear P0 P1 P2 PB HF0
  go_loopw [7, 8, 14] (fun _ _ i wr => ∃ (k : Nat), k ≤ n ∧ i = .int .i64 (k : Int) ∧ Hid (Blk wr w.heap.size 37 (sesV (F k).c (F k).h (F k).k)) ∧ Hid (Blk wr (w.heap.size + 1) 37 #[.int .i64 0, .int .i64 0, .int .i64 0, .int .i64 0, .bool false, .bool false, .bool false, .bool false, .bool false, .string ⟨#[]⟩, .int .i64 0, .string ⟨#[]⟩, .bool false]) ∧ Hid (Blk wr (w.heap.size + 1 + 1) 3 (copied k CS Z).toArray) ∧ Hid (Below w.heap.size w wr)) (fun _ _ i _ => n - (intOf i).toNat)
  case atStart => exact ⟨0, Nat.zero_le _, rfl, PF, HP1, HP2, HPB⟩
  case round =>
    obtain ⟨k, hk, rfl, HA0, HA1, HA2, HAB⟩ := hrel
    by_cases hlt : k < n
    · obtain ⟨ga, oa, rfl, hga, hca⟩ := HA.out (by omega)
      have hkl : k < ops.length := by rw [← HN.out]; exact hlt
      have hop := ((hca k _ (List.getElem?_eq_getElem hkl)).keep (fun p hp => HAB.out.cell hp) hga).cells
      have hRUN := fun W hb => HR.out (F k) ops[k] W (HK.out k hkl) hb
      rw [HS.out k hkl] at hRUN
      have hCk := HC.out k hkl
      generalize (stepS (F k) ops[k]).2 = cd at hRUN hCk
      generalize ops[k] = x at hop hRUN
      obtain ⟨fk, hfk⟩ : ∃ f, f = F k := ⟨_, rfl⟩
      obtain ⟨fn, hfn⟩ : ∃ f, f = F (k + 1) := ⟨_, rfl⟩
      have HA0 := HA0.out
      rw [← hfk] at hRUN HA0
      rw [← hfn] at hRUN
      have HFN := Lib.hid hfn
      clear hfk hfn hca
      obtain ⟨⟨m, t, p, d, fr, fd, fl, fe, fm⟩, h, ⟨r, tk, dd⟩⟩ := fk
      obtain ⟨⟨m2, t2, p2, d2, fr2, fd2, fl2, fe2, fm2⟩, h2, ⟨r2, tk2, dd2⟩⟩ := fn
      obtain ⟨kd, ⟨m4, t4, p4, d4, fr4, fd4, fl4, fe4, fm4⟩, tx⟩ := x
      unfold sesV opnV at hRUN
      unfold sesV at HA0
      simp only at hRUN HA0 hop
      have e0 : Below wr.heap.size wr (wr.alloc (.cells #[.int .i64 kd, .int .i64 m4, .int .i64 t4, .int .i64 p4, .int .i64 d4, .bool fr4, .bool fd4, .bool fl4, .bool fe4, .bool fm4, .string tx] 51)) := (Below.refl _ _).alloc (Nat.le_refl _) _
      have HE0 := Lib.hid e0
      have y0 := HA0.after e0
      obtain ⟨c0, c1, c2, c3, c4, c5, c6, c7, c8, c9, c10, c11, c12⟩ := y0.thirteen
      obtain ⟨a0, a1, a2, a3, a4, a5, a6, a7, a8, a9, a10⟩ := hop
      have HY0 := Lib.hid y0
      have HRU := Lib.hid (hRUN _ (HAB.out.trans (e0.mono HAB.out.size)))
      clear e0 y0 hRUN HA0
      go_wp2_with fail
      refine HRU.out.mono ?_
      rintro e w2 ⟨rfl, hb2⟩
      have z0 := HY0.out.after hb2
      have z1 := (HA1.out.after HE0.out).after hb2
      have z2 := (HA2.out.after HE0.out).after hb2
      have ZB := (HAB.out.trans (HE0.out.mono HAB.out.size)).trans (hb2.mono (HAB.out.trans (HE0.out.mono HAB.out.size)).size)
      clear hb2 a0 a1 a2 a3 a4 a5 a6 a7 a8 a9 a10 c0 c1 c2 c3 c4 c5 c6 c7 c8 c9 c10 c11 c12
      have z2r := z2.rowElse (q := w.heap.size) (ds := #[.int .i64 m2, .int .i64 t2, .int .i64 p2, .int .i64 d2, .bool fr2, .bool fd2, .bool fl2, .bool fe2, .bool fm2, .string h2, .int .i64 r2, .string tk2, .bool dd2]) (by omega)
      have hlen : (copied k CS Z).length = n := by
        unfold copied
        rw [List.length_append, List.length_take, List.length_drop, HCL.out, HZ.out]
        omega
      obtain ⟨u, hu⟩ : ∃ u, (w2.setRow w.heap.size #[.int .i64 m2, .int .i64 t2, .int .i64 p2, .int .i64 d2, .bool fr2, .bool fd2, .bool fl2, .bool fe2, .bool fm2, .string h2, .int .i64 r2, .string tk2, .bool dd2]).cell? ⟨w.heap.size + 1 + 1, k, none⟩ = some u := ⟨_, (z2r.cell k).trans (by rw [List.getElem?_toArray]; exact List.getElem?_eq_getElem (by rw [hlen]; exact hlt))⟩
      have hf := z2r.free k
      have hcs := copied_step k CS Z (by rw [HCL.out, HZ.out]) (by rw [HCL.out]; exact hlt)
      have hgk : CS[k]'(by rw [HCL.out]; exact hlt) = .int .i64 cd := by
        have := (List.getElem?_eq_some_iff.1 hCk).2
        exact this
      rw [hgk] at hcs
      have HV0 := Lib.hid ((z0.row (cs' := #[.int .i64 m2, .int .i64 t2, .int .i64 p2, .int .i64 d2, .bool fr2, .bool fd2, .bool fl2, .bool fe2, .bool fm2, .string h2, .int .i64 r2, .string tk2, .bool dd2])).other (g' := w.heap.size + 1 + 1) (j := k) (u := .int .i64 cd) (by omega))
      have HV1 := Lib.hid ((z1.rowElse (q := w.heap.size) (ds := #[.int .i64 m2, .int .i64 t2, .int .i64 p2, .int .i64 d2, .bool fr2, .bool fd2, .bool fl2, .bool fe2, .bool fm2, .string h2, .int .i64 r2, .string tk2, .bool dd2]) (by omega)).other (g' := w.heap.size + 1 + 1) (j := k) (u := .int .i64 cd) (by omega))
      have hv2 := z2r.set k (.int .i64 cd)
      rw [List.setIfInBounds_toArray, hcs] at hv2
      have HV2 := Lib.hid hv2
      have HVB := Lib.hid ((below_setRow ZB (Nat.le_refl _) #[.int .i64 m2, .int .i64 t2, .int .i64 p2, .int .i64 d2, .bool fr2, .bool fd2, .bool fl2, .bool fe2, .bool fm2, .string h2, .int .i64 r2, .string tk2, .bool dd2]).setCell (p := ⟨w.heap.size + 1 + 1, k, none⟩) (by show w.heap.size ≤ w.heap.size + 1 + 1; omega) (.int .i64 cd))
      have HZ0 := Lib.hid z0
      clear z0 z1 z2 ZB z2r hlen hcs hgk hv2 hCk
      go_wp2_with (refine wpList_store_row rfl _ _ _ rfl w.heap.size #[.int .i64 m2, .int .i64 t2, .int .i64 p2, .int .i64 d2, .bool fr2, .bool fd2, .bool fl2, .bool fe2, .bool fm2, .string h2, .int .i64 r2, .string tk2, .bool dd2] rfl rfl 37 _ HZ0.out size_sesR rfl (one_ses _ _ _ _ _ _ _ _ _ _ _ _ _) ?_)
      go_roundw
      case rel => exact ⟨k + 1, by omega, by go_num, Lib.hid (by rw [← HFN.out]; exact HV0.out), HV1, HV2, HVB⟩
      case measure => simp [intOf]; omega
    · obtain rfl : k = n := by omega
      obtain ⟨fk, hfk⟩ : ∃ f, f = F k := ⟨_, rfl⟩
      have h0 := HA0.out
      have h2 := HA2.out
      rw [← hfk] at h0
      have HFK := Lib.hid hfk
      have hall : copied k CS Z = CS := by
        have hc := HCL.out
        have := copied_all CS Z (by rw [HZ.out, hc])
        rw [hc] at this
        exact this
      rw [hall] at h2
      clear hfk hall
      obtain ⟨⟨m, t, p, d, fr, fd, fl, fe, fm⟩, h, ⟨r, tk, dd⟩⟩ := fk
      unfold sesV at h0
      simp only at h0
      have hA1 := HA1.out
      obtain ⟨c0, c1, c2, c3, c4, c5, c6, c7, c8, c9, c10, c11, c12⟩ := h0.thirteen
      have hR := hA1.row (cs' := #[.int .i64 m, .int .i64 t, .int .i64 p, .int .i64 d, .bool fr, .bool fd, .bool fl, .bool fe, .bool fm, .string h, .int .i64 r, .string tk, .bool dd])
      have hC2 := h2.rowElse (q := w.heap.size + 1) (ds := #[.int .i64 m, .int .i64 t, .int .i64 p, .int .i64 d, .bool fr, .bool fd, .bool fl, .bool fe, .bool fm, .string h, .int .i64 r, .string tk, .bool dd]) (by omega)
      have HC2 := Lib.hid hC2
      have HRR := Lib.hid hR
      clear h0 h2 hR hC2
      go_wp2_with (refine wpList_store_row rfl _ _ _ rfl (w.heap.size + 1) #[.int .i64 m, .int .i64 t, .int .i64 p, .int .i64 d, .bool fr, .bool fd, .bool fl, .bool fe, .bool fm, .string h, .int .i64 r, .string tk, .bool dd] rfl rfl 37 _ hA1 size_sesR rfl (one_ses _ _ _ _ _ _ _ _ _ _ _ _ _) ?_)
      obtain ⟨d0, d1, d2, d3, d4, d5, d6, d7, d8, d9, d10, d11, d12⟩ := HRR.out.thirteen
      refine bodyPost_ret (v := .tuple #[.agg #[.int .i64 m, .int .i64 t, .int .i64 p, .int .i64 d, .bool fr, .bool fd, .bool fl, .bool fe, .bool fm, .string h, .int .i64 r, .string tk, .bool dd], .slice (some ⟨w.heap.size + 1 + 1, 0, none⟩) k k]) (by simp [results, Tryz.results10, go_sem, d0, d1, d2, d3, d4, d5, d6, d7, d8, d9, d10, d11, d12]) rfl ?_
      refine ⟨.slice (some ⟨w.heap.size + 1 + 1, 0, none⟩) k k, by rw [← HFK.out]; rfl, ?_, below_setRow HAB.out (by omega) _⟩
      refine ⟨_, _, by rw [HCL.out], fun _ => ⟨_, _, rfl, HC2.out.lt, fun j x hj => ?_⟩⟩
      rw [Nat.zero_add, HC2.out.cell j, List.getElem?_toArray]
      exact hj
end Go.Proofs.YtooanejiadbngaaGreatDoor

/- The program's RunOp, whatever the operation: out of its six walks. -/
namespace Go.Proofs.YtooanejiadbngaaGreatDoor
open Go.RowKit
set_option linter.unusedVariables false

theorem toldB_size (c : Cfg) (T : ByteArray) (hv : validC c = true) (hs : T.size ≤ 50000) : (toldB c T).size ≤ 2000000000000 := by
  rw [told_cut c T hv]
  exact layB_size c _ hv (by simp; omega)
theorem implRunOp (s : Ses) (o : Opn) (w : World) (hok : okS s o) (hT : WT w) (hE : ErrT w) :
    Calls Tryz.prog 19 #[.agg (sesV s.c s.h s.k), .agg (opnV o)] w fun e w' => e = .returned (.tuple #[.agg (sesV (stepS s o).1.c (stepS s o).1.h (stepS s o).1.k), .int .i64 (stepS s o).2]) ∧ Below w.heap.size w w' := by
  obtain ⟨h1, h2, h3, h4, h5, hk⟩ := hok
  have hC : ∀ (c : Cfg) (T : ByteArray) (W : World), T.size ≤ 50000 → Calls Tryz.prog 54 #[.agg (cfgV c), .string T] W fun e w' => e = .returned (.int .i64 (closedB c T)) ∧ Below W.heap.size W w' := fun c T W hs => implClosedLength c T W (by omega)
  have hL : ∀ (c : Cfg) (Q : ByteArray) (W : World), validC c = true → Q.size ≤ 50000 → Below w.heap.size w W → Calls Tryz.prog 11 #[.agg (cfgV c), .string Q] W fun e w' => e = .returned (.string (layB c Q)) ∧ Below W.heap.size W w' := fun c Q W hv hs hb => implLayout c Q W hv hs (hT.below hb)
  obtain ⟨c, h, k⟩ := s
  obtain ⟨kd, oc, tx⟩ := o
  simp only at h1 h2 h3 h4 h5 hk
  rcases hk with ⟨rfl, hv⟩ | ⟨rfl, hv, hh⟩ | ⟨rfl, hv⟩
  · rw [stepS_init _ _ rfl]
    have e1 : newC oc = oc := if_pos hv
    have e2 : newI oc = 0 := if_pos hv
    have HW : ∀ W, Below w.heap.size w W → Calls Tryz.prog 27 #[.agg (cfgV oc)] W fun e w' => e = .returned (.tuple #[.agg (wrV oc ⟨#[]⟩), .int .i64 0]) ∧ Below W.heap.size W w' := fun W _ => by
      have := implNewWriter oc W
      rw [e1, e2] at this
      exact this
    simp only [e1, e2]
    have et : tellK k ⟨#[]⟩ = k := if_pos rfl
    cases hd : k.dead with
    | false =>
      have hP := fun W => implPassed k ⟨#[]⟩ W (by rw [et]; exact hd) (by omega) (by omega) (by show 0 ≤ _; omega)
      rw [et] at hP
      rw [show codeS 0 false = 0 from rfl]
      exact run_init_lives c oc oc h tx ⟨#[]⟩ ⟨#[]⟩ k k w hE HW hP
    | true =>
      have hP := fun W => implPassedDies k ⟨#[]⟩ W (by rw [et]; exact hd) (by omega) (by show 0 ≤ _; omega)
      rw [et] at hP
      rw [show codeS 0 true = 3 from rfl]
      exact run_init_dies c oc oc h tx ⟨#[]⟩ ⟨#[]⟩ k k w hE HW hP
  · rw [stepS_write _ _ rfl hv hh]
    simp only
    have hts := toldB_size c (h ++ tx) hv (by rw [ByteArray.size_append]; omega)
    have HW : ∀ W, Below w.heap.size w W → Calls Tryz.prog 28 #[.agg (wrV c h), .string tx] W fun e w' => e = .returned (.tuple #[.agg (wrV c (heldB c (h ++ tx))), .string (toldB c (h ++ tx)), .int .i64 0]) ∧ Below W.heap.size W w' := fun W hb =>
      writeText_of c h tx _ _ 0 W (fun W2 hb2 hg => implWrite c h tx W.heap.size w W2 hv (by omega) hh (hb.trans (hb2.mono hb.size)) hb.size hg (fun T W3 hs _ => hC c T W3 hs) (fun Q W3 hs hb3 => hL c Q W3 hv hs hb3))
    generalize toldB c (h ++ tx) = T at hts HW ⊢
    cases hd : (tellK k T).dead with
    | false =>
      rw [show codeS 0 false = 0 from rfl]
      exact run_write_lives c oc c h tx _ T k (tellK k T) w hE HW (fun W => implPassed k T W hd (by omega) (by omega) (by omega))
    | true =>
      rw [show codeS 0 true = 3 from rfl]
      exact run_write_dies c oc c h tx _ T k (tellK k T) w hE HW (fun W => implPassedDies k T W hd (by omega) (by omega))
  · rw [stepS_flush _ _ rfl hv]
    simp only
    have hts := layB_size c h hv (by omega)
    have HW : ∀ W, Below w.heap.size w W → Calls Tryz.prog 29 #[.agg (wrV c h)] W fun e w' => e = .returned (.tuple #[.agg (wrV c ⟨#[]⟩), .string (layB c h), .int .i64 0]) ∧ Below W.heap.size W w' := fun W hb =>
      flushText_of c h _ _ 0 W (fun W2 hb2 hg => implFlush c h W.heap.size w W2 hv (by omega) (hb.trans (hb2.mono hb.size)) hg (fun Q W3 hs hb3 => hL c Q W3 hv hs hb3))
    generalize layB c h = T at hts HW ⊢
    cases hd : (tellK k T).dead with
    | false =>
      rw [show codeS 0 false = 0 from rfl]
      exact run_flush_lives c oc c h tx _ T k (tellK k T) w hE HW (fun W => implPassed k T W hd (by omega) (by omega) (by omega))
    | true =>
      rw [show codeS 0 true = 3 from rfl]
      exact run_flush_dies c oc c h tx _ T k (tellK k T) w hE HW (fun W => implPassedDies k T W hd (by omega) (by omega))
end Go.Proofs.YtooanejiadbngaaGreatDoor

/- The laws on sinks and on divided sessions. -/
namespace Go.Proofs.YtooanejiadbngaaGreatDoor
open Go.RowKit
set_option linter.unusedVariables false

theorem runOps_all (w : World) (hT : WT w ∧ ErrT w) (s : Ses) (ops : List Opn) (v : Value) (W : World) (hok : okR s ops) (hl : ops.length ≤ 1048576) (hb : Below w.heap.size w W) (hv : RdO W v ops) :
    Calls Tryz.prog 10 #[.agg (sesV s.c s.h s.k), v] W fun e w' => ∃ u, e = .returned (.tuple #[.agg (sesV (runS s ops).c (runS s ops).h (runS s ops).k), u]) ∧ Rd w' u (ints (codesS s ops)) ∧ Below W.heap.size W w' :=
  implRunOps s ops v W hok hl hv fun s o X ho hx => implRunOp s o X ho ((hT.1.below hb).below hx) ((hT.2.below hb).below hx)
theorem law_FnSink (w : World) (A : Option Addr) (len cap : Nat) (zs : List Int) (hz : IsBytes w A len cap zs) (hT : WT w ∧ ErrT w) :
    Calls Tryz.prog 3 #[.slice A len cap] w fun e w' => e = .returned (.bool true) ∧ Below w.heap.size w w' :=
  sink_law w A len cap zs hz (fun c l v W hl hb hr => (implOpsOf c l v W hr hl).mono fun e w' ⟨u, he, ho, hbb⟩ => ⟨u, he, ho.rd, hbb⟩)
    (fun s ops v W hok hl hb hv => runOps_all w hT s ops v W hok hl hb hv)
    (fun c s W hv hs hb => implLayout c s W hv hs (hT.1.below hb))
theorem law_FnSessions (w : World) (A : Option Addr) (len cap : Nat) (zs : List Int) (hz : IsBytes w A len cap zs) (hT : WT w ∧ ErrT w) :
    Calls Tryz.prog 4 #[.slice A len cap] w fun e w' => e = .returned (.bool true) ∧ Below w.heap.size w w' :=
  sessions_law w A len cap zs hz (fun c l v W hl hb hr => implOpsOf c l v W hr hl)
    (fun s ops v W hok hl hb hv => runOps_all w hT s ops v W hok hl hb hv)
    (fun c h k W hb => (implSameSession c h k c h k W).mono fun e w' ⟨he, hbb⟩ => ⟨by rw [he]; unfold sameS; simp, hbb⟩)
end Go.Proofs.YtooanejiadbngaaGreatDoor
