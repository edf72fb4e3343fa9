/- strings.Clone: a text of its own with the same bytes. -/
import Derived.Test.YtdplcbfiidnfcaaDoorBA
import Derived.Test.YtdplcbfiidnfcaaDoorBB
import Derived.Lib.UnsafeStr
import Derived.Lib.BufferWrite
import Derived.Laws.CopyOwn
namespace Go.Proofs.YtdplcbfiidnfcaaDoor
open Go.RowKit
set_option linter.unusedVariables false

theorem Blk.shp {W : World} {g : Nat} {T : TypeId} {cs : Array Value} (h : Blk W g T cs) : W.shape? g = some (T, cs.size) := by
  unfold Blk at h
  simp [World.shape?, h]
theorem bytes_ofC (s : ByteArray) : (⟨s.data.toList.toArray⟩ : ByteArray) = s := by apply ByteArray.ext; simp
theorem Tryd.infoByteC : (Tryd.prog.info? 5).map (fun i => (i.zero, i.size, i.bytes)) = some (some (.int .u8 0), 1, 1) := by kernel_rfl
set_option maxRecDepth 100000 in
set_option maxHeartbeats 2000000 in
theorem cloneLite (s : ByteArray) (w : World) (hs : s.size ≤ 140737488355328) :
    Calls Tryd.prog 40 #[.string s] w fun e w' => e = .returned (.string s) ∧ Below w.heap.size w w' := by
  by_cases h0 : s.size = 0
  · have : s = ⟨#[]⟩ := by
      apply ByteArray.ext
      exact Array.eq_empty_of_size_eq_zero h0
    subst this
    go_enter Tryd.func40, Tryd.ntmps40
    go_wp2
    go_ret
    exact ⟨rfl, Below.refl _ _⟩
  · obtain ⟨iB, hiB, hzB0, hzB1, hzB2⟩ := info_parts Tryd.infoByteC
    have h0i : ¬ (s.size : Int) = 0 := by omega
    have H0 := Lib.hid h0
    clear h0
    go_enter Tryd.func40, Tryd.ntmps40
    go_wp2_with (at_make; refine wpList_make_full _ rfl _ _ 22 rfl w.heap.size 5 iB _ 1 Tryd.underlying22 hiB hzB0 hzB1 _ _ _ _ s.size rfl rfl rfl rfl (by rw [hzB2]; omega) (by unfold maxLen; omega) (Nat.le_refl _) ?_; intro w2 hown2 hgr2; have HO2 := Lib.hid hown2; have HD2 := Lib.hid ((Below.refl w.heap.size w).grown hgr2 (Nat.le_refl _) (fun k hk => by cases hk)); clear hown2 hgr2)
    obtain ⟨cs0, hcs0, hcl0, _⟩ := own_blk HO2.out rfl
    have hcs : cs0.size = s.size := by
      rw [← Array.length_toList, hcl0]
      simp [madeCells]
    obtain ⟨nc, hnc⟩ : ∃ nc : Array Value, nc = (cs0.toList.take 0 ++ Lib.byteCells s.data.toList ++ cs0.toList.drop (0 + s.size)).toArray := ⟨_, rfl⟩
    have hnl : nc.toList = u8s s.data.toList := by
      rw [hnc, List.toList_toArray, List.drop_of_length_le (by rw [Array.length_toList]; omega)]
      simp [u8s, Lib.byteCells]
    have hcp := fun ty => Lib.run_copy_row_string (P := Tryd.prog) w2 22 9 ty 5 w.heap.size 0 s.size s.size s cs0 5 Tryd.underlying22 (by kernel_rfl) hcs0 (Nat.le_refl _) (by omega)
    rw [← hnc] at hcp
    have hK : Blk (w2.setRow w.heap.size nc) w.heap.size 5 nc := hcs0.row
    have hln : s.data.toList.length = s.size := rfl
    have hsz : nc.size = s.size := by rw [← Array.length_toList, hnl, u8s_len, hln]
    have hus := fun ty => Lib.run_unsafeString_row (P := Tryd.prog) (w := w2.setRow w.heap.size nc) 77 3 ty 5 Tryd.underlying77 (by kernel_rfl) w.heap.size nc.size hK.shp s.data.toList (by intro e; have := H0.out; rw [← hln, e] at this; exact this rfl) (by rw [hsz, hln]; exact Nat.le_refl _) (by rw [hln]; omega) (fun j x hx => by
      have : nc[j]? = some (.int .u8 x.toNat) := by
        rw [← Array.getElem?_toList, hnl]
        unfold u8s
        rw [List.getElem?_map, hx]
        rfl
      have hc := hK.cell j
      rw [this] at hc
      by_cases hj : j = 0
      · subst hj; simpa [Addr.add] using hc
      · simpa [Addr.add, hj] using hc)
    rw [bytes_ofC, hln] at hus
    have HB := Lib.hid (Lib.below_freeze (below_setRow HD2.out (Nat.le_refl _) nc) (p := ⟨w.heap.size, 0, none⟩) (Nat.le_refl _) s.size)
    have hpos : (0 : Int) < (s.size : Int) := by have := H0.out; omega
    have hpn : 0 < s.size := by have := H0.out; omega
    clear hcs0 hcl0 hnc hnl hK hln hsz hcs
    go_wp2_with fail
    rw [hcp]
    simp only [Result.andThen]
    rw [Oper.upon_value]
    clear hcp
    go_wp2_with fail
    go_ret
    exact ⟨rfl, HB.out⟩
set_option maxRecDepth 100000 in
set_option maxHeartbeats 1000000 in
theorem cloneText (s : ByteArray) (w : World) (hs : s.size ≤ 140737488355328) :
    Calls Tryd.prog 34 #[.string s] w fun e w' => e = .returned (.string s) ∧ Below w.heap.size w w' := by
  have HC := Lib.hid (cloneLite s w hs)
  clear hs
  go_enter Tryd.func34, Tryd.ntmps34
  go_wp2_with fail
  refine HC.out.mono ?_
  rintro e w1 ⟨rfl, hb1⟩
  have HB := Lib.hid hb1
  clear hb1
  go_wp2_with fail
  go_ret
  exact ⟨rfl, HB.out⟩
end Go.Proofs.YtdplcbfiidnfcaaDoor
