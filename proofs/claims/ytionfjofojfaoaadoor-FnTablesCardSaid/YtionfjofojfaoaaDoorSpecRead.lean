/- The model's RunesOf, CutRunes, IsText, DecodeAt. -/
import Derived.Test.YtionfjofojfaoaaDoorSpecChars
import Derived.Test.YtionfjofojfaoaaDoorMemI
namespace Go.Proofs.YtionfjofojfaoaaDoor
open Go.RowKit
set_option linter.unusedVariables false

theorem Tryd.infoIntS : (Tryd.prog.info? 3).map (fun i => (i.zero, i.size, i.bytes)) = some (some (.int .i64 0), 1, 8) := by kernel_rfl
theorem Tryd.infoStrS : (Tryd.prog.info? 9).map (fun i => (i.zero, i.size, i.bytes)) = some (some (.string ByteArray.empty), 1, 16) := by kernel_rfl

set_option maxRecDepth 100000 in
set_option maxHeartbeats 1000000 in
theorem specRunesOf (s : ByteArray) (w : World) (hs : s.size ≤ 100000000) :
    Calls Tryd.prog 57 #[.string s] w fun e w' => ∃ v, e = .returned v ∧ w'.ownsRow w.heap.size 3 1 v (runesB s).length (ints (runesB s)) ∧ Below w.heap.size w w' := by
  obtain ⟨i0, hi0, hz0, hz1, hz2⟩ := info_parts Tryd.infoIntS
  go_enter Tryd.func57, Tryd.ntmps57
  go_wp2
  go_loopw [3, 4] (fun o f wr => ∃ (i : Nat) (oc : List Int) (vo : Value), i ≤ s.size ∧ f = .int .i64 (i : Int) ∧ vo = o ∧ wr.ownsRow w.heap.size 3 1 vo oc.length (ints oc) ∧ Below w.heap.size w wr ∧ Hid (oc ++ runesFrom s i = runesB s)) (fun _ f _ => s.size - (intOf f).toNat)
  case atStart => exact ⟨0, [], _, Nat.zero_le _, rfl, rfl, World.ownsRow_lit w _ 0 (Nat.le_refl _) (by unfold maxLen; omega) rfl, (Below.refl _ _).alloc (Nat.le_refl _) _, Lib.hid rfl⟩
  case round =>
    obtain ⟨i, oc, vo, hi, rfl, rfl, hoc, hbel, HR⟩ := hrel
    have l1 : oc.length ≤ s.size := by have := out_length HR.out; have := runesB_length s; omega
    by_cases hlt : i < s.size
    · have hcl := ch_len s i hlt
      have hca := fun W => specDecode s i W hlt (by omega)
      have hr := runes_step s i oc hlt HR.out
      obtain ⟨c, hc⟩ : ∃ c, c = (ch s i).1 := ⟨_, rfl⟩
      obtain ⟨m, hm⟩ : ∃ m, m = (ch s i).2 := ⟨_, rfl⟩
      rw [← hc, ← hm] at hca
      rw [← hc, ← hm] at hr
      rw [← hm] at hcl
      have HR2 := Lib.hid hr
      have HCA := Lib.hid hca
      have OC := Lib.hid hoc
      have BE := Lib.hid hbel
      clear hr hca hc hm hoc hbel
      go_wp2_with fail
      refine (HCA.out _).mono ?_
      rintro e w1 ⟨rfl, hb1⟩
      have OC1 := own_below OC.out hb1
      have B1 := Lib.hid (BE.out.trans (hb1.mono BE.out.size))
      have hbase : w.heap.size ≤ w1.heap.size := B1.out.size
      clear hb1
      go_wp2_with (at_builtin; refine append_one rfl _ _ 28 rfl w.heap.size 3 i0 _ 8 Tryd.underlying28 hi0 hz0 hz1 hz2 rfl vo _ _ rfl w1 (.int .i64 c) rfl rfl OC1 (by omega) (by omega) hbase ?_; intro v1 w2 hown2 hbel2; have OC2 := Lib.hid hown2; have B2 := Lib.hid (B1.out.trans hbel2); clear hown2 hbel2 OC1)
      go_roundw
      case rel => exact ⟨i + m, oc ++ [c], v1, by omega, by go_num, rfl, by rw [ints_snoc, List.length_append]; exact OC2.out, B2.out, HR2⟩
      case measure => simp [intOf]; omega
    · have HD := Lib.hid (runes_done s i oc hlt HR.out)
      have OC := Lib.hid hoc
      have BE := Lib.hid hbel
      clear hoc hbel
      go_wp2
      go_ret
      have a := HD.out
      subst a
      exact ⟨_, rfl, OC.out, BE.out⟩

end Go.Proofs.YtionfjofojfaoaaDoor
