/- The model's slots and its IsAligned, whatever the widths of the cells of a text. -/
import Derived.Test.YtjdbkpckhgncbaaDoorAliMath
import Derived.Test.YtjdbkpckhgncbaaDoorRowF
import Derived.Test.YtjdbkpckhgncbaaDoorSpecWid
import Derived.Test.YtjdbkpckhgncbaaDoorSpecSplitW
import Derived.Deep.QuietTactic
import Derived.BigQuiet
namespace Go.Proofs.YtjdbkpckhgncbaaDoor
open Go.RowKit
set_option linter.unusedVariables false

/-- A row of a table, and where it lies. -/
theorem OwnF.rowB {W : World} {base top : Nat} {v : Value} {n : Nat} {f : Nat → List Int} (h : OwnF W base top v n f) (i : Nat) (hi : i < n) :
    ∃ go co u, v = .slice (some ⟨go, 0, none⟩) n co ∧ W.cell? ⟨go, i, none⟩ = some u ∧ base ≤ go ∧ go < W.heap.size ∧ W.ownsRow base 3 1 u (f i).length (ints (f i)) := by
  obtain ⟨vs, a, b, c, d⟩ := h
  have hvl : vs.length = n := own_len a
  obtain ⟨u, hu⟩ : ∃ u, vs[i]? = some u := ⟨_, List.getElem?_eq_getElem (by omega)⟩
  have ha := a
  rcases a.2 with ⟨_, hn⟩ | ⟨go, co, cur, rfl, hb0, hh0, _⟩
  · omega
  exact ⟨go, co, u, rfl, (ha.cellAt i (by omega)).trans hu, hb0, (Array.getElem?_eq_some_iff.1 hh0).1, (c i u hu).1⟩
theorem own_from {W W' : World} {base : Nat} {e : TypeId} {size : Nat} {v : Value} {n : Nat} {xs : List Value} (h : W.ownsRow base e size v n xs) (hk : ∀ g, base ≤ g → g < W.heap.size → W'.heap[g]? = W.heap[g]?) : W'.ownsRow base e size v n xs :=
  ⟨h.1, h.2.imp id fun ⟨g, cap, cur, h1, h2, h3, h4⟩ => ⟨g, cap, cur, h1, h2, (hk g h2 (Array.getElem?_eq_some_iff.1 h3).1).trans h3, h4⟩⟩
theorem cell_heap {W W' : World} {g : Nat} (h : W'.heap[g]? = W.heap[g]?) (j : Nat) : W'.cell? ⟨g, j, none⟩ = W.cell? ⟨g, j, none⟩ := by
  simp only [World.cell?, h]
theorem Tryd.infoRowV : (Tryd.prog.info? 41).map (fun i => (i.zero, i.size, i.bytes)) = some (some (.slice none 0 0), 1, 24) := by kernel_rfl
theorem Tryd.infoIntV : (Tryd.prog.info? 3).map (fun i => (i.zero, i.size, i.bytes)) = some (some (.int .i64 0), 1, 8) := by kernel_rfl
theorem int_oneV (x : Int) : ∀ u ∈ (#[Value.int .i64 x] : Array Value).toList, u.oneCell' = true := by
  intro u hu
  simp at hu
  subst hu
  rfl
set_option maxRecDepth 100000 in
set_option maxHeartbeats 4000000 in
theorem specSlots (c : Cfg) (ls : List Ln) (v : Value) (w : World) (hv : RdL w v ls) (hm : FitW ls) (hok : validC c = true) (hf : wideB ls) :
    Calls Tryd.prog 58 #[.agg (cfgV c), v] w fun e w' => ∃ u, e = .returned u ∧ OwnF w' w.heap.size w'.heap.size u ls.length (slotF c ls) ∧ Below w.heap.size w w' := by
  have HWD := Lib.hid (fun W (hb : Below w.heap.size w W) => specWidths c ls v W (hv.below hb) hm hok hf)
  have HSP := Lib.hid (fun k => slot_packW c.fl (widF c ls k) (by rw [widF_size]; exact cells_bd ls _ hm.2 k) (widF_hi c ls hok 3000000 (by omega) (cellW_wide hf) k))
  have HSF : Hid (∀ k, slotF c ls k = slotL c.fl (widF c ls k)) := Lib.hid (fun k => rfl)
  have HFL : Hid (∀ k, (slotF c ls k).length ≤ 100000001 ∧ (widF c ls k).length ≤ 100000000) := Lib.hid (fun k => by rw [slotF_len, widF_size]; have := cells_bd ls _ hm.2 k; omega)
  obtain ⟨F, hF⟩ : ∃ F, F = slotF c ls := ⟨_, rfl⟩
  rw [← hF] at HSF HFL ⊢
  generalize widF c ls = G at HWD HSP HSF HFL
  have hlen := hm.1
  have hnl := hv
  obtain ⟨A, ca, rfl, _⟩ := hnl
  obtain ⟨n, hn⟩ : ∃ n, n = ls.length := ⟨_, rfl⟩
  rw [← hn] at HWD hlen ⊢
  obtain ⟨iR, hiR, hzR0, hzR1, hzR2⟩ := info_parts Tryd.infoRowV
  obtain ⟨iI, hiI, hzI0, hzI1, hzI2⟩ := info_parts Tryd.infoIntV
  have HNEW := Lib.hid (Blk.new w 24 (cfgV c))
  have B0 := Lib.hid (by go_grown : Below w.heap.size w ((w.alloc (.cells (cfgV c) 24)).alloc (.cells #[] 41)))
  have HC0 := Lib.hid (HNEW.out.after ((Below.refl _ _).alloc (Nat.le_refl _) (.cells #[] 41)))
  have O0 : Hid (((w.alloc (.cells (cfgV c) 24)).alloc (.cells #[] 41)).ownsRow w.heap.size 41 1 (.slice (some ⟨w.heap.size + 1, 0, none⟩) 0 0) 0 []) := Lib.hid (by
    have h := World.ownsRow_lit (base := w.heap.size) (e := 41) (size := 1) (w.alloc (.cells (cfgV c) 24)) #[] 0 (by simp) (by unfold maxLen; omega) rfl
    rw [show (w.alloc (.cells (cfgV c) 24)).heap.size = w.heap.size + 1 by simp] at h
    exact h)
  obtain ⟨m, t, p, d, fr, fd, fl, fe, fm⟩ := c
  unfold cfgV at HWD HC0 B0 O0 ⊢
  simp only at HWD HC0 B0 O0 HSP HSF ⊢
  clear hv hm hok hf hF hn HNEW
  go_enter Tryd.func58, Tryd.ntmps58
  go_wp2_with fail
  refine (HWD.out _ B0.out).mono ?_
  rintro e w1 ⟨u1, rfl, ho1, hb1⟩
  have B1 := Lib.hid (B0.out.trans (hb1.mono B0.out.size))
  have HC1 := Lib.hid (HC0.out.after hb1)
  have HO1 := Lib.hid ho1
  have O1 := Lib.hid (own_below O0.out hb1)
  obtain ⟨Au, cu, hu⟩ := ho1.len
  subst hu
  have hlt1 : w.heap.size + 2 ≤ w1.heap.size := by have := hb1.size; simpa using this
  have hBS : ((w.alloc (.cells #[.int .i64 m, .int .i64 t, .int .i64 p, .int .i64 d, .bool fr, .bool fd, .bool fl, .bool fe, .bool fm] 24)).alloc (.cells #[] 41)).heap.size = w.heap.size + 2 := by simp
  rw [hBS] at HO1
  clear hb1 ho1 hBS
  go_wp2_with fail
  go_loopw [5, 7, 8, 9, 11, 17] (fun o _ _ _ _ i wr => ∃ (k : Nat) (vo : Value), k ≤ n ∧ vo = o ∧ i = .int .i64 (k : Int) ∧ Hid (OwnF wr w.heap.size wr.heap.size vo k F) ∧ Hid (∀ g, vo.ownBlock = some g → g = w.heap.size + 1 ∨ w1.heap.size ≤ g) ∧ Hid (∀ g, g < w1.heap.size → g ≠ w.heap.size + 1 → wr.heap[g]? = w1.heap[g]?) ∧ Hid (Below w.heap.size w wr) ∧ Hid (w1.heap.size ≤ wr.heap.size)) (fun _ _ _ _ _ i _ => n - (intOf i).toNat)
  case atStart => exact ⟨0, _, Nat.zero_le _, rfl, rfl, Lib.hid (OwnF.nil _ _ _ _ _ O1.out (fun k hk => (World.ownsRow.lt O1.out k hk).2)), Lib.hid (fun g hg => by cases hg; exact .inl rfl), Lib.hid (fun g _ _ => rfl), B1, Lib.hid (Nat.le_refl _)⟩
  case round =>
    obtain ⟨k, vo, hk, rfl, rfl, HO, HV, HKP, HBE, HSZ⟩ := hrel
    by_cases hlt : k < n
    · obtain ⟨go, co, uk, hgo, hg1, hgb, hg2, hg3⟩ := HO1.out.rowB k hlt
      injection hgo with e1 e2 e3
      subst e1 e3
      have HRW := Lib.hid hg3
      obtain ⟨Aw, cw, huk, _⟩ := Rd.of_own hg3
      rw [ints_length] at huk
      subst huk
      have r0 := (cell_heap (HKP.out go hg2 (by omega)) k).trans hg1
      obtain ⟨S, L, hS0, hL0, hSS, hLS, hLL, hSB, hLE, hWB⟩ := HSP.out k
      rw [← HSF.out k] at hLE
      obtain ⟨hfl, hgl⟩ := HFL.out k
      have HGK : Hid (G k = G k) := Lib.hid rfl
      obtain ⟨ws, hws⟩ : ∃ ws, ws = G k := ⟨_, rfl⟩
      rw [← hws] at r0 HRW hSS hSB hLE hWB hgl
      obtain ⟨z, hz⟩ : ∃ z, z = ws.length := ⟨_, rfl⟩
      have HZ := Lib.hid hz
      rw [← hz] at r0 HRW hSB hLE hgl
      have HSS := Lib.hid hSS
      have HLS := Lib.hid hLS
      have HLL := Lib.hid hLL
      have HSB := Lib.hid hSB
      have HLE := Lib.hid hLE
      have HWB := Lib.hid hWB
      have HS0 : Hid (S 0 = 0) := Lib.hid hS0
      obtain ⟨vs, o1, _, o3, o4⟩ := HO.out
      have HOA := Lib.hid o1
      have HOB := Lib.hid (fun i x hx => (o3 i x hx).1)
      have HOD := Lib.hid o4
      obtain ⟨wo, rfl⟩ : ∃ wo : World, wo = wr := ⟨_, rfl⟩
      have hbw := HBE.out.size
      have hsz : w1.heap.size ≤ wo.heap.size := HSZ.out
      have RN : Hid ((wo.alloc (.cells #[.int .i64 0] 3)).ownsRow wo.heap.size 3 1 (.slice (some ⟨wo.heap.size, 0, none⟩) 1 1) (L 0).length (ints (L 0))) := Lib.hid (by
        rw [hL0]
        exact World.ownsRow_lit (base := wo.heap.size) (e := 3) (size := 1) wo #[.int .i64 0] 1 (Nat.le_refl _) (by unfold maxLen; omega) rfl)
      have BN := Lib.hid ((Below.refl wo.heap.size wo).alloc (Nat.le_refl _) (.cells #[.int .i64 0] 3))
      clear hg1 hg3 hws hz hSS hLS hLL hSB hLE hWB hS0 hL0 o1 o3 o4
      go_wp2_with fail
      go_loopw [8, 9, 11, 24] (fun a r _ j wx => ∃ (q : Nat) (vr : Value), q ≤ z ∧ a = .int .i64 (S q) ∧ vr = r ∧ j = .int .i64 (q : Int) ∧ Hid (wx.ownsRow wo.heap.size 3 1 vr (L q).length (ints (L q))) ∧ Hid (Below wo.heap.size wo wx)) (fun _ _ _ j _ => z - (intOf j).toNat)
      case atStart => exact ⟨0, _, Nat.zero_le _, by rw [HS0.out], rfl, rfl, RN, BN⟩
      case round =>
        obtain ⟨q, vr, hq, rfl, rfl, rfl, HR, HBX⟩ := hrel
        have hbx := HBX.out.size
        have hlq := HLL.out q
        by_cases hltq : q < z
        · have hrw := own_from HRW.out (W' := wr) (fun g h1 h2 => (HBX.out.block g (by omega)).trans (HKP.out g h2 (by omega)))
          have hqw : q < ws.length := by rw [← HZ.out]; exact hltq
          obtain ⟨A', c', he, hA'⟩ := Rd.of_own hrw
          injection he with e4 e5 e6
          subst e4 e6
          obtain ⟨gi, oi, rfl, hgi, hci⟩ := hA' (by rw [ints_length]; omega)
          have w0 := hci q _ (ints_get ws q hqw)
          obtain ⟨z0, z1⟩ := HWB.out q hqw
          obtain ⟨s0, s1⟩ := HSB.out q hq
          have HSK := HSS.out q hqw
          have HLK := Lib.hid (HLS.out q)
          generalize ws[q] = x at w0 z0 z1 HSK
          have hC : Blk wr w.heap.size 24 #[.int .i64 m, .int .i64 t, .int .i64 p, .int .i64 d, .bool fr, .bool fd, .bool fl, .bool fe, .bool fm] := ((HBX.out.block w.heap.size (by omega)).trans (HKP.out w.heap.size (by omega) (by omega))).trans HC1.out
          obtain ⟨c0, c1, c2, c3, c4, c5, c6, c7, c8⟩ := hC.boxed
          have hlk2 : (L q).length ≤ 100000001 := by omega
          generalize S q = sk at HSK s0 s1 ⊢
          clear hrw hA' hci hC e5
          cases fl with
          | true =>
            have hsn : sk + x + 1 = S (q + 1) := by rw [HSK]; rfl
            rw [← hsn] at HLK
            have HSN := Lib.hid hsn
            clear hsn HSK
            go_wp2_with (at_builtin; refine append_el rfl _ _ 41 rfl wo.heap.size 3 iI _ 1 8 Tryd.underlying41 hiI hzI0 hzI1 hzI2 rfl (by decide) vr _ (ints (L q)) rfl wr #[.int .i64 (sk + x + 1)] rfl rfl (int_oneV _) HR.out (by omega) (by omega) hbx ?_; intro v1 w2 ho1 hg1 _; have HO2 := Lib.hid ho1; have HG2 := Lib.hid hg1; clear ho1 hg1)
            have HON : Hid (w2.ownsRow wo.heap.size 3 1 v1 (L (q + 1)).length (ints (L (q + 1)))) := Lib.hid (by
              rw [HLK.out, List.length_append]
              have h := HO2.out
              simpa [ints] using h)
            have HB2 := Lib.hid (grown_below HBX.out HG2.out (fun k hk => (World.ownsRow.lt HR.out k hk).1))
            go_roundw
            case rel => exact ⟨q + 1, v1, by omega, by rw [← HSN.out], rfl, by go_num, HON, HB2⟩
            case measure => simp [intOf]; omega
          | false =>
            have hsn : sk + x = S (q + 1) := by rw [HSK]; exact (Int.add_zero _).symm
            rw [← hsn] at HLK
            have HSN := Lib.hid hsn
            clear hsn HSK
            go_wp2_with (at_builtin; refine append_el rfl _ _ 41 rfl wo.heap.size 3 iI _ 1 8 Tryd.underlying41 hiI hzI0 hzI1 hzI2 rfl (by decide) vr _ (ints (L q)) rfl wr #[.int .i64 (sk + x)] rfl rfl (int_oneV _) HR.out (by omega) (by omega) hbx ?_; intro v1 w2 ho1 hg1 _; have HO2 := Lib.hid ho1; have HG2 := Lib.hid hg1; clear ho1 hg1)
            have HON : Hid (w2.ownsRow wo.heap.size 3 1 v1 (L (q + 1)).length (ints (L (q + 1)))) := Lib.hid (by
              rw [HLK.out, List.length_append]
              have h := HO2.out
              simpa [ints] using h)
            have HB2 := Lib.hid (grown_below HBX.out HG2.out (fun k hk => (World.ownsRow.lt HR.out k hk).1))
            go_roundw
            case rel => exact ⟨q + 1, v1, by omega, by rw [← HSN.out], rfl, by go_num, HON, HB2⟩
            case measure => simp [intOf]; omega
        · obtain rfl : q = z := by omega
          rw [HLE.out] at HR
          have HU3 := Lib.hid HR.out
          obtain ⟨Ar, cr, hur, _⟩ := Rd.of_own HR.out
          rw [ints_length] at hur
          subst hur
          have HP1 := Lib.hid (own_below HOA.out HBX.out)
          go_wp2_with (at_builtin; refine append_el rfl _ _ 36 rfl w.heap.size 41 iR _ 1 24 Tryd.underlying36 hiR hzR0 hzR1 hzR2 rfl (by decide) vo _ vs rfl wr #[.slice Ar (F k).length cr] rfl rfl (row_one _ _ _) HP1.out (by omega) (by omega) (by omega) ?_; intro v1 w4 ho1 hg1 hv1; have HO5 := Lib.hid ho1; have HG5 := Lib.hid hg1; have HV5 := Lib.hid hv1; clear ho1 hg1 hv1)
          have HOK := Lib.hid (OwnF.snoc HOA.out HOB.out HOD.out HBX.out hbw HU3.out HO5.out HG5.out)
          have HB5 := Lib.hid (grown_below (HBE.out.trans (HBX.out.mono hbw)) HG5.out (fun k hk => (World.ownsRow.lt HP1.out k hk).1))
          have HVN : Hid (∀ g, v1.ownBlock = some g → g = w.heap.size + 1 ∨ w1.heap.size ≤ g) := Lib.hid (fun g hg => by
            rcases HV5.out with h | h
            · exact HV.out g (h.symm.trans hg)
            · rw [h] at hg
              injection hg with hg
              omega)
          have HKN : Hid (∀ g, g < w1.heap.size → g ≠ w.heap.size + 1 → w4.heap[g]? = w1.heap[g]?) := Lib.hid (fun g h1 h2 => by
            have a1 := HG5.out.block g (by omega) (fun he => by rcases HV.out g he.symm with h | h <;> omega)
            exact (a1.trans (HBX.out.block g (by omega))).trans (HKP.out g h1 h2))
          have HSN : Hid (w1.heap.size ≤ w4.heap.size) := Lib.hid (by have := HG5.out.size; omega)
          go_roundw
          case rel => exact ⟨k + 1, v1, by omega, rfl, by go_num, HOK, HVN, HKN, HB5, HSN⟩
          case measure => simp [intOf]; omega
    · obtain rfl : k = n := by omega
      go_wp2_with fail
      go_ret
      exact ⟨_, rfl, HO.out, HBE.out⟩
set_option maxRecDepth 100000 in
set_option maxHeartbeats 4000000 in
theorem specIsAligned (c : Cfg) (s : ByteArray) (w : World) (hs : s.size ≤ 1048576) :
    Calls Tryd.prog 28 #[.agg (cfgV c), .string s] w fun e w' => e = .returned (.bool (validC c)) ∧ Below w.heap.size w w' := by
  have hS := fun W => specIsConfig c W
  have HC0 := Lib.hid (Blk.new w 24 (cfgV c))
  have B0 := Lib.hid (by go_grown : Below w.heap.size w (w.alloc (.cells (cfgV c) 24)))
  cases hv : validC c with
  | false =>
    rw [hv] at hS
    have HS := Lib.hid hS
    clear hS hv HC0
    obtain ⟨m, t, p, d, fr, fd, fl, fe, fm⟩ := c
    unfold cfgV at HS B0 ⊢
    simp only at HS B0 ⊢
    go_enter Tryd.func28, Tryd.ntmps28
    go_wp2_with fail
    refine (HS.out _).mono ?_
    rintro e w1 ⟨rfl, hb1⟩
    have B1 := Lib.hid (B0.out.trans (hb1.mono B0.out.size))
    clear hb1
    go_wp2_with fail
    go_ret
    exact ⟨rfl, B1.out⟩
  | true =>
    rw [hv] at hS
    have HS := Lib.hid hS
    have hsz := splitL_size c s
    have hwd := text_wide c s hv hs
    have HL := Lib.hid (fun W => specSplit c s W hs)
    rw [← splitL_yes s hv] at HL
    have HSO := Lib.hid (fun v W (h : RdL W v (splitL c s)) => specSlots c (splitL c s) v W h ⟨by omega, by omega⟩ hv hwd)
    have HBK := Lib.hid (fun v W (h : RdL W v (splitL c s)) => specBlocks c (splitL c s) v W h ⟨by omega, by omega⟩ hv hwd)
    have HPK := Lib.hid (fun b hb => ali_blk c (splitL c s) b hb)
    have hql : (bksL c (splitL c s)).length ≤ 1048576 := by
      have h2 := lineBks_len c (splitL c s) (splitL c s).length (Nat.le_refl _)
      rw [List.take_length] at h2
      exact Nat.le_trans h2 (by omega)
    have hnl : (splitL c s).length ≤ 1048577 := by omega
    generalize slotF c (splitL c s) = F at HSO HPK
    generalize bksL c (splitL c s) = L at HBK HPK hql
    generalize splitL c s = ls at HL HBK HSO HPK hnl
    obtain ⟨q0, hq0⟩ : ∃ q, q = L.length := ⟨_, rfl⟩
    have HQ0 := Lib.hid hq0
    obtain ⟨n, hn⟩ : ∃ n, n = ls.length := ⟨_, rfl⟩
    have HN := Lib.hid hn
    rw [← hn] at HSO HPK hnl
    obtain ⟨m, t, p, d, fr, fd, fl, fe, fm⟩ := c
    unfold cfgV at HL HSO HBK HS HC0 B0 ⊢
    simp only at HL HSO HBK HS HC0 B0 ⊢
    clear hs hsz hwd hq0 hv hS hn
    go_enter Tryd.func28, Tryd.ntmps28
    go_wp2_with fail
    refine (HS.out _).mono ?_
    rintro e w1 ⟨rfl, hb1⟩
    have B1 := Lib.hid (B0.out.trans (hb1.mono B0.out.size))
    have hc1 := HC0.out.after hb1
    have HC1 := Lib.hid hc1
    obtain ⟨c0, c1, c2, c3, c4, c5, c6, c7, c8⟩ := hc1.boxed
    clear hb1 hc1
    go_wp2_with fail
    refine (HL.out _).mono ?_
    rintro e w2 ⟨v2, rfl, ho2, hb2⟩
    have B2 := Lib.hid (B1.out.trans (hb2.mono B1.out.size))
    have hc2 := HC1.out.after hb2
    have HC2 := Lib.hid hc2
    have HR2 := Lib.hid ho2.rd
    clear c0 c1 c2 c3 c4 c5 c6 c7 c8
    obtain ⟨c0, c1, c2, c3, c4, c5, c6, c7, c8⟩ := hc2.boxed
    clear hb2 hc2 ho2
    go_wp2_with fail
    refine (HSO.out _ _ HR2.out).mono ?_
    rintro e w3 ⟨u3, rfl, ho3, hb3⟩
    have B3 := Lib.hid (B2.out.trans (hb3.mono B2.out.size))
    have hc3 := HC2.out.after hb3
    have HC3 := Lib.hid hc3
    have HR3 := Lib.hid (HR2.out.below hb3)
    have HO3 := Lib.hid ho3
    obtain ⟨Au, cu, hu⟩ := ho3.len
    subst hu
    clear c0 c1 c2 c3 c4 c5 c6 c7 c8
    obtain ⟨c0, c1, c2, c3, c4, c5, c6, c7, c8⟩ := hc3.boxed
    clear hb3 hc3 ho3
    go_wp2_with fail
    refine (HBK.out _ _ HR3.out).mono ?_
    rintro e w4 ⟨u4, rfl, ho4, hb4⟩
    have B4 := Lib.hid (B3.out.trans (hb4.mono B3.out.size))
    have HE4 := Lib.hid hb4
    have HRB := Lib.hid ho4.rd
    obtain ⟨A4, cp4, hu4, _⟩ := ho4.rd
    subst hu4
    rw [← HQ0.out] at HRB ⊢
    clear c0 c1 c2 c3 c4 c5 c6 c7 c8 hb4 ho4
    go_wp2_with fail
    go_loopw [8, 9, 23] (fun _ _ i wr => ∃ q : Nat, q ≤ q0 ∧ i = .int .i64 (q : Int) ∧ Hid (Below w4.heap.size w4 wr)) (fun _ _ i _ => q0 - (intOf i).toNat)
    case atStart => exact ⟨0, Nat.zero_le _, rfl, Lib.hid (Below.refl _ _)⟩
    case round =>
      obtain ⟨q, hq, rfl, HE⟩ := hrel
      by_cases hltq : q < q0
      · obtain ⟨A', c', he, hA'⟩ := HRB.out
        injection he with e1 e2 e3
        subst e1 e3
        have hql2 : q < L.length := by rw [← HQ0.out]; exact hltq
        obtain ⟨gb, ob, rfl, hgb, hcb⟩ := hA' (by omega)
        obtain ⟨p0, p1, p2, p3⟩ := hcb q _ (List.getElem?_eq_getElem hql2)
        obtain ⟨bc, bi, bt, y, g1, g2, g3, h12, h3, hget⟩ := HPK.out _ (List.getElem_mem hql2)
        obtain ⟨bx, hbx⟩ : ∃ b, b = L[q] := ⟨_, rfl⟩
        rw [← hbx] at p0 p1 p2 p3 g1 g2 g3
        obtain ⟨b0, b1, b2, b3⟩ := bx
        simp only at g1 g2 g3
        subst g1 g2 g3
        simp only at p0 p1 p2 p3
        have HGET := Lib.hid hget
        have a0 := (HE.out.cell (p := ⟨gb, ob + q * 4, none⟩) hgb).trans p0
        have a1 := (HE.out.cell (p := ⟨gb, ob + q * 4 + 1, none⟩) hgb).trans p1
        have a2 := (HE.out.cell (p := ⟨gb, ob + q * 4 + 2, none⟩) hgb).trans p2
        have a3 := (HE.out.cell (p := ⟨gb, ob + q * 4 + 3, none⟩) hgb).trans p3
        obtain ⟨go, co, gr, rc, hgo, x0, x1, x2, x3⟩ := HO3.out.get bi bc y (by omega) (HGET.out bi (Nat.le_refl _) h12)
        injection hgo with e4 e5 e6
        subst e4 e6
        have hbcl : bc < (F bi).length := (List.getElem?_eq_some_iff.1 (HGET.out bi (Nat.le_refl _) h12)).1
        have HE1 : Hid (Below w3.heap.size w3 wr) := Lib.hid (HE4.out.trans (HE.out.mono HE4.out.size))
        generalize (F bi).length = zl at x0 hbcl
        obtain ⟨wo, rfl⟩ : ∃ wo : World, wo = wr := ⟨_, rfl⟩
        obtain ⟨H, hH⟩ : ∃ H, H = wo.heap.size := ⟨_, rfl⟩
        have DA := Lib.hid ((Below.refl wo.heap.size wo).alloc (Nat.le_refl _) (.cells #[.int .i64 (bc : Int), .int .i64 (bi : Int), .int .i64 (bt : Int), .int .i64 b3] 77))
        have HBB : Hid (Blk (wo.alloc (.cells #[.int .i64 (bc : Int), .int .i64 (bi : Int), .int .i64 (bt : Int), .int .i64 b3] 77)) H 77 #[.int .i64 (bc : Int), .int .i64 (bi : Int), .int .i64 (bt : Int), .int .i64 b3]) := Lib.hid (by rw [hH]; exact Blk.new _ _ _)
        have HX := Lib.hid (HE1.out.trans (DA.out.mono HE1.out.size))
        have HX4 := Lib.hid (HE.out.trans (DA.out.mono HE.out.size))
        have hbi : (bi : Int) < (n : Int) := by omega
        have hbc : (bc : Int) < (zl : Int) := by omega
        have X0 := Lib.hid x0
        have X1 := Lib.hid x1
        clear hA' hcb hbx hget p0 p1 p2 p3 e2 e5 x0 x1
        go_wp2_with fail
        rw [← hH]
        clear hH
        go_loopw [9] (fun i wy => ∃ r : Nat, bi ≤ r ∧ r ≤ bt ∧ i = .int .i64 (r : Int) ∧ Hid (Below w3.heap.size w3 wy) ∧ Hid (Below w4.heap.size w4 wy) ∧ Hid (Blk wy H 77 #[.int .i64 (bc : Int), .int .i64 (bi : Int), .int .i64 (bt : Int), .int .i64 b3])) (fun i _ => bt - (intOf i).toNat)
        case atStart => exact ⟨bi, Nat.le_refl _, Nat.le_of_lt h12, rfl, HX, HX4, HBB⟩
        case round =>
          obtain ⟨r, hr1, hr2, rfl, HXR, HX4R, HBR⟩ := hrel
          have d0 := HBR.out.cell 0
          have d1 := HBR.out.cell 1
          have d2 := HBR.out.cell 2
          have d3 := HBR.out.cell 3
          simp at d0 d1 d2 d3
          by_cases hltr : r < bt
          · obtain ⟨go2, co2, gr2, rc2, hgo2, x0, x1, x2', x3'⟩ := HO3.out.get r bc y (by omega) (HGET.out r hr1 hltr)
            injection hgo2 with e4 e5 e6
            injection e4 with e4
            injection e4 with e4
            subst e4
            have hbcl2 : bc < (F r).length := (List.getElem?_eq_some_iff.1 (HGET.out r hr1 hltr)).1
            have y0 := (HXR.out.cell (p := ⟨go, bi, none⟩) x2).trans X0.out
            have y1 := (HXR.out.cell (p := ⟨gr, bc, none⟩) x3).trans X1.out
            have y2 := (HXR.out.cell (p := ⟨go, r, none⟩) x2').trans x0
            have y3 := (HXR.out.cell (p := ⟨gr2, bc, none⟩) x3').trans x1
            generalize (F r).length = zr at y2 x0 hbcl2
            have hri : (r : Int) < (n : Int) := by omega
            have hbc2 : (bc : Int) < (zr : Int) := by omega
            have hne : ((y : Int) != y) = false := by simp
            clear x0 x1 e5 e6
            go_wp2_with fail
            go_quiet (fail)
            go_wp2_with fail
            go_roundw
            case rel => exact ⟨r + 1, by omega, by omega, by go_num, Lib.hid (below_drewN HXR.out _), Lib.hid (below_drewN HX4R.out _), HBR⟩
            case measure => simp [intOf]; omega
          · obtain rfl : r = bt := by omega
            go_wp2_with fail
            go_roundw
            case rel => exact ⟨q + 1, by omega, by go_num, HX4R⟩
            case measure => simp [intOf]; omega
      · obtain rfl : q = q0 := by omega
        have HBE := Lib.hid (B4.out.trans (HE.out.mono B4.out.size))
        go_wp2_with fail
        go_ret
        exact ⟨rfl, HBE.out⟩
end Go.Proofs.YtjdbkpckhgncbaaDoor
