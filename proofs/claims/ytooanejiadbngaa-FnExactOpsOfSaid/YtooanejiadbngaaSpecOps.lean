/- OpsOf: the model's. -/
import Derived.Test.YtooanejiadbngaaOpMem
import Derived.Test.YtooanejiadbngaaCfgCells
import Derived.Test.YtooanejiadbngaaTextIn
namespace Go.Proofs.Ytooanejiadbngaa
open Go.RowKit
set_option linter.unusedVariables false

theorem opnCells_one (x0 x1 x2 x3 x4 : Int) (x5 x6 x7 x8 x9 : Bool) (x10 : ByteArray) : ∀ u ∈ (#[.int .i64 x0, .int .i64 x1, .int .i64 x2, .int .i64 x3, .int .i64 x4, .bool x5, .bool x6, .bool x7, .bool x8, .bool x9, .string x10] : Array Value).toList, u.oneCell' = true := by
  intro u hu
  simp only [List.mem_cons, List.not_mem_nil, or_false] at hu
  rcases hu with rfl | rfl | rfl | rfl | rfl | rfl | rfl | rfl | rfl | rfl | rfl <;> rfl
/-- The operations behind k chunks. -/
def opsP (c : Cfg) (l : List ByteArray) (k : Nat) : List Opn := ⟨1, c, ⟨#[]⟩⟩ :: (l.take k).map opW
theorem opsP_len (c : Cfg) (l : List ByteArray) (k : Nat) : (opsP c l k).length = min k l.length + 1 := by simp [opsP]
theorem opsP_succ (c : Cfg) (l : List ByteArray) (k : Nat) (h : k < l.length) : opsP c l (k + 1) = opsP c l k ++ [⟨2, zeroC, l[k]⟩] := by
  unfold opsP
  rw [List.take_succ_eq_append_getElem h, List.map_append]
  rfl
theorem opsP_all (c : Cfg) (l : List ByteArray) : opsP c l l.length ++ [⟨3, zeroC, ⟨#[]⟩⟩] = opsL c l := by
  unfold opsP opsL
  rw [List.take_length]
  rfl
set_option maxRecDepth 100000 in
set_option maxHeartbeats 4000000 in
theorem specOpsOf (c : Cfg) (l : List ByteArray) (v : Value) (w : World) (hv : Rd w v (strs l)) (hl : l.length ≤ 1048576) :
    Calls Try.prog 6 #[.agg (cfgV c), v] w fun e w' => ∃ u, e = .returned u ∧ OwnO w' w.heap.size u (opsL c l) ∧ Below w.heap.size w w' := by
  obtain ⟨i0, hi0, hz0, hz1, hz2⟩ := info_parts Try.infoOp
  obtain ⟨A, ca, rfl, hA⟩ := hv
  rw [strs_length] at hA ⊢
  have HA := Lib.hid hA
  obtain ⟨n, hn⟩ : ∃ n, n = l.length := ⟨_, rfl⟩
  rw [← hn] at HA hl ⊢
  have HN := Lib.hid hn
  have hK := Blk.new w 28 (cfgV c)
  have HLS := Lib.hid (fun k => opsP_len c l k)
  have HL0 : Hid (opsP c l 0 = [⟨1, c, ⟨#[]⟩⟩]) := Lib.hid rfl
  have HLN : Hid (opsP c l n ++ [⟨3, zeroC, ⟨#[]⟩⟩] = opsL c l) := Lib.hid (by rw [hn]; exact opsP_all c l)
  have HLK := Lib.hid (fun k (h : k < l.length) => opsP_succ c l k h)
  have O0 : Hid (((w.alloc (.cells (cfgV c) 28)).alloc (.cells (opnV ⟨1, c, ⟨#[]⟩⟩) 51)).ownsRow w.heap.size 51 11 (.slice (some ⟨w.heap.size + 1, 0, none⟩) 1 1) 1 (opnVals [⟨1, c, ⟨#[]⟩⟩])) := Lib.hid (by
    have h := World.ownsRow_lit (base := w.heap.size) (e := 51) (size := 11) (w.alloc (.cells (cfgV c) 28)) (opnV ⟨1, c, ⟨#[]⟩⟩) 1 (by simp) (by unfold maxLen; omega) rfl
    rw [show (w.alloc (.cells (cfgV c) 28)).heap.size = w.heap.size + 1 by simp] at h
    exact h)
  have B0 := Lib.hid (by go_grown : Below w.heap.size w ((w.alloc (.cells (cfgV c) 28)).alloc (.cells (opnV ⟨1, c, ⟨#[]⟩⟩) 51)))
  obtain ⟨P, hP⟩ : ∃ P, P = opsP c l := ⟨_, rfl⟩
  obtain ⟨RES, hRES⟩ : ∃ R, R = opsL c l := ⟨_, rfl⟩
  rw [← hP] at HLS HL0 HLN HLK
  rw [← hRES] at HLN ⊢
  rw [← HL0.out] at O0
  obtain ⟨m, t, p, d, fr, fd, fl, fe, fm⟩ := c
  unfold cfgV at O0 B0 hK ⊢
  unfold opnV at O0 B0
  simp only at O0 B0 hK ⊢
  have hKb := hK.boxed
  clear hA hn hP hRES hK
  obtain ⟨c0, c1, c2, c3, c4, c5, c6, c7, c8⟩ := hKb
  go_enter Try.func6, Try.ntmps6
  go_wp2_with fail
  clear c0 c1 c2 c3 c4 c5 c6 c7 c8
  go_loopw [5, 7, 13] (fun o _ i wr => ∃ (k : Nat) (vo : Value), k ≤ n ∧ vo = o ∧ i = .int .i64 (k : Int) ∧ Hid (wr.ownsRow w.heap.size 51 11 vo (k + 1) (opnVals (P k))) ∧ Hid (Below w.heap.size w wr)) (fun _ _ i _ => n - (intOf i).toNat)
  case atStart => exact ⟨0, _, Nat.zero_le _, rfl, rfl, O0, B0⟩
  case round =>
    obtain ⟨k, vo, hk, rfl, rfl, HO, HBE⟩ := hrel
    have hbase : w.heap.size ≤ wr.heap.size := HBE.out.size
    have h5 := HO.out
    by_cases hlt : k < n
    · obtain ⟨ga, oa, rfl, hga, hca⟩ := HA.out (by omega)
      have hkl : k < l.length := by rw [← HN.out]; exact hlt
      have a0 := (HBE.out.cell (p := ⟨ga, oa + k, none⟩) hga).trans (hca k _ (strs_get l k hkl))
      have HX := Lib.hid (HLK.out k hkl)
      generalize l[k] = x at a0 HX
      clear hca
      go_wp2_with (at_builtin; refine append_el rfl _ _ 26 rfl w.heap.size 51 i0 _ 11 64 Try.underlying26 hi0 hz0 hz1 hz2 rfl (by decide) vo _ _ rfl wr #[.int .i64 2, .int .i64 0, .int .i64 0, .int .i64 0, .int .i64 0, .bool false, .bool false, .bool false, .bool false, .bool false, .string x] rfl rfl (opnCells_one _ _ _ _ _ _ _ _ _ _ _) h5 (by omega) (by omega) hbase ?_; intro v1 w7 ho1 hg1 _; have HO7 := Lib.hid ho1; have HG7 := Lib.hid hg1; have HP5 := Lib.hid h5; clear ho1 hg1 h5)
      have HB7 := Lib.hid (HBE.out.grown HG7.out hbase (fun k hk => (World.ownsRow.lt HP5.out k hk).1))
      go_roundw
      case rel => exact ⟨k + 1, v1, by omega, rfl, by go_num, Lib.hid (by rw [HX.out, opnVals_snoc]; exact HO7.out), HB7⟩
      case measure => simp [intOf]; omega
    · obtain rfl : k = n := by omega
      go_wp2_with (at_builtin; refine append_el rfl _ _ 26 rfl w.heap.size 51 i0 _ 11 64 Try.underlying26 hi0 hz0 hz1 hz2 rfl (by decide) vo _ _ rfl wr #[.int .i64 3, .int .i64 0, .int .i64 0, .int .i64 0, .int .i64 0, .bool false, .bool false, .bool false, .bool false, .bool false, .string ⟨#[]⟩] rfl rfl (opnCells_one _ _ _ _ _ _ _ _ _ _ _) h5 (by omega) (by omega) hbase ?_; intro v1 w7 ho1 hg1 _; have HO7 := Lib.hid ho1; have HG7 := Lib.hid hg1; have HP5 := Lib.hid h5; clear ho1 hg1 h5)
      have HB7 := Lib.hid (HBE.out.grown HG7.out hbase (fun k hk => (World.ownsRow.lt HP5.out k hk).1))
      have HR := Lib.hid (show OwnO w7 w.heap.size v1 RES from by
        unfold OwnO
        rw [← HLN.out, opnVals_snoc, List.length_append, HLS.out k, ← HN.out, Nat.min_self]
        exact HO7.out)
      go_wp2_with fail
      go_ret
      exact ⟨_, rfl, HR.out, HB7.out⟩
end Go.Proofs.Ytooanejiadbngaa
