/- laws.toIntS: numbers copied. -/
import Derived.Test.YtionfjofojfaoaaMemI
import Derived.Test.YtionfjofojfaoaaImplTab
import Derived.RegionTactic
namespace Go.Proofs.Ytionfjofojfaoaa
open Go.RowKit
set_option linter.unusedVariables false

def mixN (xs : List Int) (k : Nat) : List Int := xs.take k ++ List.replicate (xs.length - k) 0
theorem mixN_zero (xs : List Int) : mixN xs 0 = List.replicate xs.length 0 := by unfold mixN; simp
theorem mixN_all (xs : List Int) : mixN xs xs.length = xs := by unfold mixN; simp
theorem mixN_len (xs : List Int) (k : Nat) (h : k ≤ xs.length) : (mixN xs k).length = xs.length := by unfold mixN; simp; omega
theorem mixN_step (xs : List Int) (k : Nat) (h : k < xs.length) : (mixN xs k).set k xs[k] = mixN xs (k + 1) := by
  apply List.ext_getElem?
  intro j
  unfold mixN
  rw [List.getElem?_set]
  by_cases hj : k = j
  · subst hj
    rw [if_pos rfl, if_pos (by simp; omega), List.getElem?_append_left (by simp; omega), List.getElem?_take, if_pos (by omega), List.getElem?_eq_getElem h]
  · rw [if_neg hj]
    by_cases h1 : j < k
    · rw [List.getElem?_append_left (by simp; omega), List.getElem?_append_left (by simp; omega), List.getElem?_take, List.getElem?_take, if_pos h1, if_pos (by omega)]
    · rw [List.getElem?_append_right (by simp; omega), List.getElem?_append_right (by simp; omega), List.getElem?_replicate, List.getElem?_replicate]
      have e1 : (xs.take k).length = k := by simp; omega
      have e2 : (xs.take (k + 1)).length = k + 1 := by simp; omega
      rw [e1, e2]
      by_cases h2 : j < xs.length
      · rw [if_pos (by omega), if_pos (by omega)]
      · rw [if_neg (by omega), if_neg (by omega)]
theorem Try.infoIntN : (Try.prog.info? 3).map (fun i => (i.zero, i.size, i.bytes)) = some (some (.int .i64 0), 1, 8) := by kernel_rfl
theorem nums_zero (z : Nat) : (madeCells (Value.int .i64 0).cells (z * 1)).toList = ints (List.replicate z 0) := by
  rw [Nat.mul_one, show (Value.int .i64 0).cells = #[Value.int .i64 0] from rfl, toList_madeCells_one]
  simp [ints]
set_option maxRecDepth 100000 in
set_option maxHeartbeats 2000000 in
theorem toIntS_any (xs : List Int) (v : Value) (w : World) (hv : Rd w v (ints xs)) (hm : xs.length ≤ 1048576) :
    Calls Try.prog 33 #[v] w fun e w' => (∃ u, e = .returned u ∧ w'.ownsRow w.heap.size 3 1 u xs.length (ints xs)) ∧ Below w.heap.size w w' := by
  obtain ⟨iI, hiI, hzI0, hzI1, hzI2⟩ := info_parts Try.infoIntN
  obtain ⟨A, ca, rfl, hA⟩ := hv
  rw [ints_length] at hA ⊢
  have HSTEP := Lib.hid (fun k h => mixN_step xs k h)
  have HM0 : Hid (mixN xs 0 = List.replicate xs.length 0) := Lib.hid (mixN_zero xs)
  have HMA : Hid (mixN xs xs.length = xs) := Lib.hid (mixN_all xs)
  have HML := Lib.hid (fun k h => mixN_len xs k h)
  obtain ⟨mi, hmi⟩ : ∃ g : Nat → List Int, g = mixN xs := ⟨_, rfl⟩
  rw [← hmi] at HSTEP HM0 HMA HML
  obtain ⟨n, hn⟩ : ∃ n, n = xs.length := ⟨_, rfl⟩
  rw [← hn] at hA hm HM0 HMA HML ⊢
  have HN := Lib.hid hn
  have HA := Lib.hid hA
  clear hA hn hmi
  go_enter Try.func33, Try.ntmps33
  go_wp2_with (at_make; refine wpList_make_full _ rfl _ _ 43 rfl w.heap.size 3 iI _ 1 Try.underlying43 hiI hzI0 hzI1 _ _ _ _ n rfl rfl rfl rfl (by rw [hzI2]; omega) (by unfold maxLen; omega) (Nat.le_refl _) ?_; intro w1 hown1 hgr1; have HO1 := Lib.hid hown1; have HD1 := Lib.hid ((Below.refl w.heap.size w).grown hgr1 (Nat.le_refl _) (fun k hk => by cases hk)); clear hown1 hgr1)
  obtain ⟨B, hB⟩ : ∃ b, b = w.heap.size := ⟨_, rfl⟩
  have HO2 : Hid (w1.ownsRow w.heap.size 3 1 (.slice (some ⟨B, 0, none⟩) n n) n (ints (mi 0))) := Lib.hid (by rw [hB, HM0.out, ← nums_zero]; exact HO1.out)
  have HB := Lib.hid hB
  have hbB : w.heap.size ≤ B := by omega
  clear hB HO1
  rw [← HB.out]
  go_loopw [4] (fun i wr => ∃ k : Nat, k ≤ n ∧ i = .int .i64 (k : Int) ∧ Hid (wr.ownsRow w.heap.size 3 1 (.slice (some ⟨B, 0, none⟩) n n) n (ints (mi k))) ∧ Hid (Below w.heap.size w wr)) (fun i _ => n - (intOf i).toNat)
  case atStart => exact ⟨0, Nat.zero_le _, rfl, by rw [HB.out] at HO2 ⊢; exact HO2, HD1⟩
  case round =>
    obtain ⟨k, hk, rfl, HO, HBE⟩ := hrel
    by_cases hlt : k < n
    · obtain ⟨ga, oa, rfl, hga, hca⟩ := HA.out (by omega)
      have hkl : k < xs.length := by rw [← HN.out]; exact hlt
      have a0 := (HBE.out.cell (p := ⟨ga, oa + k, none⟩) hga).trans (hca k _ (ints_get xs k hkl))
      have hst := HSTEP.out k hkl
      generalize xs[k] = z at a0 hst
      have hkm : k < (mi k).length := by rw [HML.out k (Nat.le_of_lt hlt)]; exact hlt
      obtain ⟨y0, b0⟩ : ∃ y : Int, wr.cell? ⟨B, k, none⟩ = some (.int .i64 y) := ⟨_, (HO.out.cellAt k (by omega)).trans (ints_get _ k hkm)⟩
      have bf := HO.out.frozenAt k
      have HSO := Lib.hid (HO.out.stored k (.int .i64 z))
      have HSET : Hid ((ints (mi k)).set k (.int .i64 z) = ints (mi (k + 1))) := Lib.hid (by rw [← hst]; simp [ints, List.map_set])
      clear hca hst hkm
      go_wp2_with fail
      try go_region
      all_goals
        have N1 : Hid ((wr.setCell ⟨B, k, none⟩ (.int .i64 z)).ownsRow w.heap.size 3 1 (.slice (some ⟨B, 0, none⟩) n n) n (ints (mi (k + 1)))) := Lib.hid (by rw [← HSET.out]; exact HSO.out.1)
        have N2 := Lib.hid (HBE.out.setCell (p := ⟨B, k, none⟩) hbB (.int .i64 z))
        go_wp2_with fail
        go_roundw
        case rel => exact ⟨k + 1, by omega, by go_num, N1, Lib.hid (by first | exact N2.out | exact N2.out.drew)⟩
        case measure => simp [intOf]; omega
    · obtain rfl : k = n := by omega
      have HFIN : Hid (wr.ownsRow w.heap.size 3 1 (.slice (some ⟨B, 0, none⟩) k k) k (ints xs)) := Lib.hid (by have h := HO.out; rw [HMA.out] at h; exact h)
      go_wp2_with fail
      go_ret
      exact ⟨⟨_, rfl, HFIN.out⟩, HBE.out⟩
theorem eqIntS_selfN (l : List Int) (va vb : Value) (w : World) (ha : Rd w va (ints l)) (hb : Rd w vb (ints l)) (hm : l.length ≤ 9223372036854775807) :
    Calls Try.prog 35 #[va, vb] w fun e w' => e = .returned (.bool true) ∧ Below w.heap.size w w' :=
  (eqIntS_any l l va vb w ha hb hm).mono fun _ _ ⟨h1, k, h2⟩ => ⟨by rw [h1, decide_eq_true rfl], by rw [h2]; exact below_drewN (Below.refl _ _) k⟩
end Go.Proofs.Ytionfjofojfaoaa
