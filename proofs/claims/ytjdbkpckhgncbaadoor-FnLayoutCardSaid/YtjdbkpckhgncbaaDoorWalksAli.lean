/- The walk of the law: in every block the cells start at the same display column; over contracts of the program's functions. -/
import Derived.Test.YtjdbkpckhgncbaaDoorBE
import Derived.Test.YtjdbkpckhgncbaaDoorBlksMath
import Derived.Test.YtjdbkpckhgncbaaDoorSlots
import Derived.Test.YtjdbkpckhgncbaaDoorOwnF
import Derived.Test.YtjdbkpckhgncbaaDoorRowF
import Derived.Deep.QuietTactic
import Derived.BigQuiet
namespace Go.Proofs.YtjdbkpckhgncbaaDoor
open Go.RowKit
set_option linter.unusedVariables false

/-- All that the walk asks of the numbers. -/
theorem slots_pack (c : Cfg) (s : ByteArray) (hv : validC c = true) (hs : s.size ≤ 108) : ∃ (ls : List Ln) (f : Nat → List Int), splitL c s = ls ∧ slotF c ls = f ∧ (ls.length ≤ 109 ∧ totL ls ≤ 108) ∧ 0 < ls.length ∧
    ∀ i, (f i).length = cellsN ls i + 1 ∧ (f i)[0]? = some 0 ∧ ∀ r, r + 1 < (f i).length → ∃ x y, (f i)[r]? = some x ∧ (f i)[r + 1]? = some y ∧ ¬ y < x := by
  have hsz := splitL_size c s
  refine ⟨splitL c s, slotF c (splitL c s), rfl, rfl, by omega, split_some c s hv, fun i => ⟨slotF_len c _ i, ?_, fun r hr => ?_⟩⟩
  · unfold slotF
    rw [slotL_get _ _ 0 (Nat.zero_le _)]
    rfl
  · rw [slotF_len] at hr
    have hr2 : r < (widF c (splitL c s) i).length := by rw [widF_size]; omega
    have hm : ∀ n ∈ widF c (splitL c s) i, 0 ≤ n ∧ n ≤ 200000 := by
      intro n hn
      have hfits := split_fits c s hv (by omega)
      have := widF_hi c (splitL c s) hv 100000 (by omega) (fun i k => (cellW_pos hfits i k).2) i n hn
      omega
    have hle := sumS_le c.fl (widF c (splitL c s) i) 200000 hm r hr2
    unfold slotF
    refine ⟨_, _, slotL_get _ _ r (by omega), slotL_get _ _ (r + 1) (by omega), by omega⟩
set_option maxRecDepth 100000 in
set_option maxHeartbeats 8000000 in
theorem aligned_law (w : World) (A : Option Addr) (len cap : Nat) (zs : List Int) (hz : IsBytes w A len cap zs)
    (hS : ∀ (c : Cfg) (s : ByteArray) (W : World), s.size ≤ 1048576 → Below w.heap.size w W → Calls Tryd.prog 18 #[.agg (cfgV c), .string s] W fun e w' => ∃ v, e = .returned v ∧ OwnL w' W.heap.size none v (splitL c s) ∧ Below W.heap.size W w')
    (hT : ∀ (c : Cfg) (s : ByteArray) (W : World), validC c = true → s.size ≤ 50000 → Below w.heap.size w W → Calls Tryd.prog 17 #[.agg (cfgV c), .string s] W fun e w' => ∃ u, e = .returned u ∧ OwnF w' W.heap.size w'.heap.size u (splitL c s).length (slotF c (splitL c s)) ∧ Below W.heap.size W w')
    (hA : ∀ (c : Cfg) (s : ByteArray) (W : World), validC c = true → s.size ≤ 50000 → Below w.heap.size w W → Calls Tryd.prog 19 #[.agg (cfgV c), .string s] W fun e w' => e = .returned (.bool true) ∧ Below W.heap.size W w') :
    Calls Tryd.prog 4 #[.slice A len cap] w fun e w' => e = .returned (.bool true) ∧ Below w.heap.size w w' := by
  have hlc := hz.1
  have hcm := hz.2.1
  have HZ := Lib.hid hz
  have HS0 := Lib.hid hS
  have HT0 := Lib.hid hT
  have HA0 := Lib.hid hA
  clear hz hS hT hA
  by_cases h : (1048576 : Int) < (len : Int)
  · go_enter Tryd.func4, Tryd.ntmps4
    go_wp2
    go_ret
    exact ⟨rfl, Below.refl _ _⟩
  · go_enter Tryd.func4, Tryd.ntmps4
    go_wp2_with fail
    refine (makeConfig_any A len cap zs w HZ.out).mono ?_
    rintro e w1 ⟨⟨c, hv, rfl⟩, hb1⟩
    have B1 := Lib.hid hb1
    have HIN := Lib.hid (fun W (hb : Below w.heap.size w W) => makeInput_any A len cap zs W (HZ.out.keep hb))
    have HSP := Lib.hid (fun s W hs hb => HS0.out c s W hs hb)
    have HSL := Lib.hid (fun s W hs hb => HT0.out c s W hv hs hb)
    have HAL := Lib.hid (fun s W hs hb => HA0.out c s W hv hs hb)
    have HPK := Lib.hid (fun s hs => slots_pack c s hv hs)
    have HC0 : Hid (∃ c', c' = c) := Lib.hid ⟨c, rfl⟩
    obtain ⟨cc, hcc⟩ := HC0.out
    obtain ⟨m, t, p, d, fr, fd, fl, fe, fm⟩ := c
    rw [← hcc] at HSP HSL HAL HPK
    have HCV : Hid (cfgV cc = #[.int .i64 m, .int .i64 t, .int .i64 p, .int .i64 d, .bool fr, .bool fd, .bool fl, .bool fe, .bool fm]) := Lib.hid (by rw [hcc]; rfl)
    rw [HCV.out] at HSP HSL HAL
    unfold cfgV
    simp only
    have hK2 := Boxed.new w1 24 m t p d fr fd fl fe fm
    have X2 := Lib.hid hK2
    have B2 := Lib.hid (B1.out.trans (((Below.refl w1.heap.size w1).alloc (Nat.le_refl _) (.cells #[.int .i64 m, .int .i64 t, .int .i64 p, .int .i64 d, .bool fr, .bool fd, .bool fl, .bool fe, .bool fm] 24)).mono B1.out.size))
    clear hb1 hv hcc hK2
    go_wp2_with fail
    refine (HIN.out _ B2.out).mono ?_
    rintro e w3 ⟨⟨s, hs, rfl⟩, hb3⟩
    have B3 := Lib.hid (B2.out.trans (hb3.mono B2.out.size))
    have X3 := Lib.hid (X2.out.below hb3 (by simp))
    have hlt3 : w1.heap.size < w3.heap.size := by have := hb3.size; simp at this; omega
    obtain ⟨ls, f, e1, e2, hfit, hl0, hrow⟩ := HPK.out s hs
    have HROW := Lib.hid hrow
    have HSL2 := Lib.hid (HSL.out s)
    have HSP2 := Lib.hid (HSP.out s)
    have HAL2 := Lib.hid (HAL.out s)
    rw [e1] at HSL2 HSP2
    rw [e2] at HSL2
    have hs1 : s.size ≤ 50000 := by omega
    have hs2 : s.size ≤ 1048576 := by omega
    obtain ⟨n, hn⟩ : ∃ n, n = ls.length := ⟨_, rfl⟩
    have HN := Lib.hid hn
    rw [← hn] at HSL2 hfit hl0
    obtain ⟨c0, c1, c2, c3, c4, c5, c6, c7, c8⟩ := X3.out
    clear hb3 hrow e1 e2 hn HSL HSP HAL HPK
    go_wp2_with fail
    refine (HSL2.out _ hs1 B3.out).mono ?_
    rintro e w4 ⟨u4, rfl, ho4, hb4⟩
    have B4 := Lib.hid (B3.out.trans (hb4.mono B3.out.size))
    have X4 := Lib.hid (X3.out.below hb4 hlt3)
    have hlt4 : w1.heap.size < w4.heap.size := Nat.lt_of_lt_of_le hlt3 hb4.size
    have HF4 := Lib.hid ho4
    obtain ⟨A4, cap4, hA4⟩ := ho4.len
    subst hA4
    clear hb4 ho4 c0 c1 c2 c3 c4 c5 c6 c7 c8
    obtain ⟨c0, c1, c2, c3, c4, c5, c6, c7, c8⟩ := X4.out
    go_wp2_with fail
    refine (HSP2.out _ hs2 B4.out).mono ?_
    rintro e w5 ⟨v5, rfl, ho5, hb5⟩
    have B5 := Lib.hid (B4.out.trans (hb5.mono B4.out.size))
    have HF5 := Lib.hid (HF4.out.keeps (.below _ hb5) (.below _ hb5))
    have X5 := Lib.hid (X4.out.below hb5 hlt4)
    have HR5 := Lib.hid ho5.rd
    obtain ⟨A5, cap5, hv5, hin5⟩ := HR5.out
    subst hv5
    have HRL := Lib.hid hin5
    rw [← HN.out] at HRL ⊢
    have hn2 : ((n : Int) != (n : Int)) = false := by simp
    clear hb5 ho5 hin5 c0 c1 c2 c3 c4 c5 c6 c7 c8
    obtain ⟨c0, c1, c2, c3, c4, c5, c6, c7, c8⟩ := X5.out
    go_wp2_with fail
    refine (HAL2.out _ hs1 B5.out).mono ?_
    rintro e w6 ⟨rfl, hb6⟩
    have B6 := Lib.hid (B5.out.trans (hb6.mono B5.out.size))
    have D6 := Lib.hid hb6
    have HF6 := Lib.hid (HF5.out.keeps (.below _ hb6) (.below _ hb6))
    clear hb6 c0 c1 c2 c3 c4 c5 c6 c7 c8 hn2
    go_wp2_with fail
    go_loopw [7, 8, 9, 36] (fun _ _ _ i wr => ∃ (k : Nat), k ≤ n ∧ i = .int .i64 (k : Int) ∧ Hid (Below w6.heap.size w6 wr)) (fun _ _ _ i _ => n - (intOf i).toNat)
    case atStart => exact ⟨0, Nat.zero_le _, rfl, Lib.hid (Below.refl _ _)⟩
    case round =>
      obtain ⟨k, hk, rfl, HBE⟩ := hrel
      by_cases hlt : k < n
      · obtain ⟨ga, oa, rfl, hga, hca⟩ := HRL.out (by omega)
        have hkl : k < ls.length := by rw [← HN.out]; exact hlt
        obtain ⟨⟨va, p0, hra⟩, _⟩ := hca k _ (List.getElem?_eq_getElem hkl)
        have a0 := (HBE.out.cell (p := ⟨ga, oa + k * 4, none⟩) (Nat.lt_of_lt_of_le hga D6.out.size)).trans ((D6.out.cell (p := ⟨ga, oa + k * 4, none⟩) hga).trans p0)
        obtain ⟨Ac, cc2, hve, _⟩ := hra
        subst hve
        obtain ⟨z, hz⟩ : ∃ z, z = ls[k].cells.length := ⟨_, rfl⟩
        have hzl : z ≤ 1000 := by have := totL_mem ls _ (List.getElem_mem hkl); omega
        rw [← hz] at a0
        obtain ⟨hR0, hR1, hR2⟩ := HROW.out k
        rw [cellsN_lt ls k hkl, ← hz] at hR0
        obtain ⟨go4, co4, ur, hve4, hcu, hgo, hru⟩ := HF6.out.row k hlt
        injection hve4 with e1 e2 e3
        subst e1
        have b0 := (HBE.out.cell (p := ⟨go4, k, none⟩) hgo).trans hcu
        have hru2 := hru.below HBE.out
        obtain ⟨R, hR⟩ : ∃ R, R = f k := ⟨_, rfl⟩
        rw [← hR] at hR0 hR1 hR2 hru2
        obtain ⟨Ar, cr, hvr, hrc⟩ := hru2
        subst hvr
        rw [ints_length, hR0] at hrc b0
        obtain ⟨gr, gor, hAr, hgr, hrcc⟩ := hrc (by omega)
        subst hAr
        have r0 : wr.cell? ⟨gr, gor, none⟩ = some (.int .i64 0) := by
          have := hrcc 0 (.int .i64 0) (by rw [ints_get R 0 (by omega)]; rw [List.getElem?_eq_getElem (by omega)] at hR1; simpa using hR1)
          simpa using this
        have HRC := Lib.hid (fun j x (h : R[j]? = some x) => hrcc j (.int .i64 x) (by have hj := (List.getElem?_eq_some_iff.1 h).1; rw [ints_get R j hj]; rw [List.getElem?_eq_getElem hj] at h; simpa using h))
        have HR2 := Lib.hid hR2
        have HRLN := Lib.hid hR0
        have hne : ((z : Int) + 1 != (z : Int) + 1) = false := by simp
        obtain ⟨wo, rfl⟩ : ∃ wo : World, wo = wr := ⟨_, rfl⟩
        clear hca p0 hz hR0 hR1 hR2 hcu hru hrcc hrc hR e2 e3
        go_wp2_with fail
        go_loopw [9] (fun j wx => ∃ r : Nat, r ≤ z ∧ j = .int .i64 ((r : Int) + 1) ∧ Hid (Below w6.heap.size w6 wx) ∧ Hid (Below wo.heap.size wo wx)) (fun j _ => z + 1 - (intOf j).toNat)
        case atStart => exact ⟨0, Nat.zero_le _, by go_num, HBE, Lib.hid (Below.refl _ _)⟩
        case round =>
          obtain ⟨r, hr, rfl, HBX, HBO⟩ := hrel
          by_cases hlr : r < z
          · obtain ⟨x, y, h1, h2, h3⟩ := HR2.out r (by have := HRLN.out; omega)
            have y0 := (HBO.out.cell (p := ⟨gr, gor + r, none⟩) hgr).trans (HRC.out r x h1)
            have y1 := (HBO.out.cell (p := ⟨gr, gor + (r + 1), none⟩) hgr).trans (HRC.out (r + 1) y h2)
            have hw1 : IntKind.i64.wrap ((r : Int) + 1 - 1) = (r : Int) := by rw [Int.add_sub_cancel]; exact IntWalk.i64_in _ (by omega)
            have hw2 : IntKind.i64.wrap (r : Int) = (r : Int) := IntWalk.i64_in _ (by omega)
            have hw3 : ((r : Int) + 1).toNat = r + 1 := by omega
            have hw4 : (0 : Int) ≤ (r : Int) + 1 := by omega
            clear h1 h2
            go_wp2_with fail
            go_quiet (fail)
            clear hw1 hw2 hw3 hw4
            go_wp2_with fail
            go_roundw
            case rel => exact ⟨r + 1, by omega, by go_num, Lib.hid (below_drewN HBX.out _), Lib.hid (below_drewN HBO.out _)⟩
            case measure => simp [intOf]; omega
          · obtain rfl : r = z := by omega
            go_wp2_with fail
            go_roundw
            case rel => exact ⟨k + 1, by omega, by go_num, HBX⟩
            case measure => simp [intOf]; omega
      · obtain rfl : k = n := by omega
        have B9 := Lib.hid (B6.out.trans (HBE.out.mono B6.out.size))
        have h0 : decide (0 < (k : Int)) = true := by simp; omega
        go_wp2_with fail
        go_ret
        exact ⟨rfl, B9.out⟩
end Go.Proofs.YtjdbkpckhgncbaaDoor
