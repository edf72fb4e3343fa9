/- The program's slots of a line. -/
import Derived.Test.YtjdbkpckhgncbaaDoorLayB
import Derived.Test.YtjdbkpckhgncbaaDoorBA
import Derived.Test.YtjdbkpckhgncbaaDoorBB
namespace Go.Proofs.YtjdbkpckhgncbaaDoor
open Go.RowKit
set_option linter.unusedVariables false

theorem slot_pack (fl : Bool) (ws : List Int) (hl : ws.length ≤ 1048576) (hb : ∀ n ∈ ws, 0 ≤ n ∧ n ≤ 100200) : ∃ (S : Nat → Int) (L : Nat → List Int), S 0 = 0 ∧ L 0 = [0] ∧ (∀ k (h : k < ws.length), S (k + 1) = S k + ws[k] + if fl = true then 1 else 0) ∧ (∀ k, L (k + 1) = L k ++ [S (k + 1)]) ∧ (∀ k, (L k).length = k + 1) ∧
    (∀ k, k ≤ ws.length → 0 ≤ S k ∧ S k ≤ 200000000000) ∧ L ws.length = slotL fl ws ∧ (∀ k (h : k < ws.length), 0 ≤ ws[k] ∧ ws[k] ≤ 100200) := by
  refine ⟨fun k => sumS fl (ws.take k), slotN fl ws, rfl, rfl, fun k h => sumS_take fl ws k h, fun k => slotN_succ fl ws k, fun k => slotN_len fl ws k, fun k hk => ?_, rfl, fun k h => hb _ (List.getElem_mem h)⟩
  have h := sumS_bd fl ws 100200 hb k hk
  have h2 : (k : Int) * (100200 + 1) ≤ 1048576 * (100200 + 1) := Int.mul_le_mul_of_nonneg_right (by omega) (by omega)
  show 0 ≤ sumS fl (ws.take k) ∧ sumS fl (ws.take k) ≤ 200000000000
  omega
theorem okWs_all {ws : List Int} (h : okWs ws = true) : ∀ n ∈ ws, 0 ≤ n ∧ n ≤ 100200 := by
  intro n hn
  unfold okWs at h
  rw [List.all_eq_true] at h
  simpa using h n hn
theorem Tryd.infoIntO : (Tryd.prog.info? 3).map (fun i => (i.zero, i.size, i.bytes)) = some (some (.int .i64 0), 1, 8) := by kernel_rfl
theorem int_one (x : Int) : ∀ u ∈ (#[Value.int .i64 x] : Array Value).toList, u.oneCell' = true := by
  intro u hu
  simp at hu
  subst hu
  rfl
set_option maxRecDepth 100000 in
set_option maxHeartbeats 4000000 in
theorem implSlotsOfLine (c : Cfg) (ws : List Int) (v : Value) (w : World) (hv : Rd w v (ints ws)) (hl : ws.length ≤ 1048576) (hb : ∀ n ∈ ws, 0 ≤ n ∧ n ≤ 100200) :
    Calls Tryd.prog 43 #[.agg (cfgV c), v] w fun e w' => ∃ u, e = .returned u ∧ w'.ownsRow w.heap.size 3 1 u (slotL c.fl ws).length (ints (slotL c.fl ws)) ∧ Below w.heap.size w w' := by
  obtain ⟨S, L, hS0, hL0, hSS, hLS, hLL, hSB, hLE, hWB⟩ := slot_pack c.fl ws hl hb
  obtain ⟨RES, hRES⟩ : ∃ r, r = slotL c.fl ws := ⟨_, rfl⟩
  rw [← hRES] at hLE ⊢
  obtain ⟨A, ca, rfl, hA⟩ := hv
  rw [ints_length] at hA ⊢
  obtain ⟨n, hn⟩ : ∃ n, n = ws.length := ⟨_, rfl⟩
  rw [← hn] at hA hl hSB hLE ⊢
  have HA := Lib.hid hA
  have HN := Lib.hid hn
  have HSS := Lib.hid hSS
  have HLS := Lib.hid hLS
  have HLL := Lib.hid hLL
  have HSB := Lib.hid hSB
  have HLE := Lib.hid hLE
  have HWB := Lib.hid hWB
  obtain ⟨iI, hiI, hzI0, hzI1, hzI2⟩ := info_parts Tryd.infoIntO
  have B0 := Lib.hid (by go_grown : Below w.heap.size w ((w.alloc (.cells (cfgV c) 24)).alloc (.cells #[.int .i64 0] 3)))
  have HC0 := Lib.hid ((Blk.new w 24 (cfgV c)).after ((Below.refl _ _).alloc (Nat.le_refl _) (.cells #[.int .i64 0] 3)))
  have O0 : Hid (((w.alloc (.cells (cfgV c) 24)).alloc (.cells #[.int .i64 0] 3)).ownsRow w.heap.size 3 1 (.slice (some ⟨w.heap.size + 1, 0, none⟩) 1 1) (L 0).length (ints (L 0))) := Lib.hid (by
    rw [hL0]
    have h := World.ownsRow_lit (base := w.heap.size) (e := 3) (size := 1) (w.alloc (.cells (cfgV c) 24)) #[.int .i64 0] 1 (by simp) (by unfold maxLen; omega) rfl
    rw [show (w.alloc (.cells (cfgV c) 24)).heap.size = w.heap.size + 1 by simp] at h
    exact h)
  have HS0 : Hid (S 0 = 0) := Lib.hid hS0
  obtain ⟨m, t, p, d, fr, fd, fl, fe, fm⟩ := c
  unfold cfgV at B0 HC0 O0 ⊢
  simp only at B0 HC0 O0 HSS ⊢
  clear hA hn hSS hLS hLL hSB hLE hWB hRES hL0 hS0 hb
  go_enter Tryd.func43, Tryd.ntmps43
  go_wp2_with fail
  go_loopw [5, 6, 8, 13] (fun a o _ i wr => ∃ (k : Nat) (vo : Value), k ≤ n ∧ a = .int .i64 (S k) ∧ vo = o ∧ i = .int .i64 (k : Int) ∧ Hid (wr.ownsRow w.heap.size 3 1 vo (L k).length (ints (L k))) ∧ Hid (Below w.heap.size w wr) ∧ Hid (Blk wr w.heap.size 24 #[.int .i64 m, .int .i64 t, .int .i64 p, .int .i64 d, .bool fr, .bool fd, .bool fl, .bool fe, .bool fm])) (fun _ _ _ i _ => n - (intOf i).toNat)
  case atStart => exact ⟨0, _, Nat.zero_le _, by rw [HS0.out], rfl, rfl, O0, B0, HC0⟩
  case round =>
    obtain ⟨k, vo, hk, rfl, rfl, rfl, HO, HBE, HBC⟩ := hrel
    by_cases hlt : k < n
    · obtain ⟨ga, oa, rfl, hga, hca⟩ := HA.out (by omega)
      have hkw : k < ws.length := by rw [← HN.out]; exact hlt
      have w0 := (HBE.out.cell (p := ⟨ga, oa + k, none⟩) hga).trans (hca k _ (ints_get ws k hkw))
      obtain ⟨z0, z1⟩ := HWB.out k hkw
      obtain ⟨s0, s1⟩ := HSB.out k hk
      have HSK := HSS.out k hkw
      have HLK := Lib.hid (HLS.out k)
      have hlk := HLL.out k
      generalize ws[k] = z at w0 z0 z1 HSK
      obtain ⟨c0, c1, c2, c3, c4, c5, c6, c7, c8⟩ := HBC.out.boxed
      have hbw := HBE.out.size
      have hlk2 : (L k).length ≤ 1048577 := by omega
      generalize S k = sk at HSK s0 s1 ⊢
      clear hca
      cases fl with
      | true =>
        have hsn : sk + z + 1 = S (k + 1) := by rw [HSK]; rfl
        rw [← hsn] at HLK
        have HSN := Lib.hid hsn
        clear hsn HSK
        go_wp2_with (at_builtin; refine append_el rfl _ _ 41 rfl w.heap.size 3 iI _ 1 8 Tryd.underlying41 hiI hzI0 hzI1 hzI2 rfl (by decide) vo _ (ints (L k)) rfl wr #[.int .i64 (sk + z + 1)] rfl rfl (int_one _) HO.out (by omega) (by omega) hbw ?_; intro v1 w2 ho1 hg1 _; have HO2 := Lib.hid ho1; have HG2 := Lib.hid hg1; clear ho1 hg1)
        have HON : Hid (w2.ownsRow w.heap.size 3 1 v1 (L (k + 1)).length (ints (L (k + 1)))) := Lib.hid (by
          rw [HLK.out, List.length_append]
          have h := HO2.out
          simpa [ints] using h)
        have HBC2 := Lib.hid (HBC.out.grows HO.out (by decide) HG2.out)
        have HB2 := Lib.hid (grown_below HBE.out HG2.out (fun k hk => (World.ownsRow.lt HO.out k hk).1))
        go_roundw
        case rel => exact ⟨k + 1, v1, by omega, by rw [← HSN.out], rfl, by go_num, HON, HB2, HBC2⟩
        case measure => simp [intOf]; omega
      | false =>
        have hsn : sk + z = S (k + 1) := by rw [HSK]; exact (Int.add_zero _).symm
        rw [← hsn] at HLK
        have HSN := Lib.hid hsn
        clear hsn HSK
        go_wp2_with (at_builtin; refine append_el rfl _ _ 41 rfl w.heap.size 3 iI _ 1 8 Tryd.underlying41 hiI hzI0 hzI1 hzI2 rfl (by decide) vo _ (ints (L k)) rfl wr #[.int .i64 (sk + z)] rfl rfl (int_one _) HO.out (by omega) (by omega) hbw ?_; intro v1 w2 ho1 hg1 _; have HO2 := Lib.hid ho1; have HG2 := Lib.hid hg1; clear ho1 hg1)
        have HON : Hid (w2.ownsRow w.heap.size 3 1 v1 (L (k + 1)).length (ints (L (k + 1)))) := Lib.hid (by
          rw [HLK.out, List.length_append]
          have h := HO2.out
          simpa [ints] using h)
        have HBC2 := Lib.hid (HBC.out.grows HO.out (by decide) HG2.out)
        have HB2 := Lib.hid (grown_below HBE.out HG2.out (fun k hk => (World.ownsRow.lt HO.out k hk).1))
        go_roundw
        case rel => exact ⟨k + 1, v1, by omega, by rw [← HSN.out], rfl, by go_num, HON, HB2, HBC2⟩
        case measure => simp [intOf]; omega
    · obtain rfl : k = n := by omega
      rw [HLE.out] at HO
      go_wp2_with fail
      go_ret
      exact ⟨_, rfl, HO.out, HBE.out⟩
end Go.Proofs.YtjdbkpckhgncbaaDoor
