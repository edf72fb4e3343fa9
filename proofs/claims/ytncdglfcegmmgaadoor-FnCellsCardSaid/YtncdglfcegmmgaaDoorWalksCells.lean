/- The walk of the law: a text is recovered from its lines. -/
import Derived.Test.YtncdglfcegmmgaaDoorMakeCfg
import Derived.Test.YtncdglfcegmmgaaDoorMakeInput
import Derived.Test.YtncdglfcegmmgaaDoorCellsMath
import Derived.Test.YtncdglfcegmmgaaDoorImplSplitT
import Derived.Test.YtncdglfcegmmgaaDoorImplJoinL
import Derived.Test.YtncdglfcegmmgaaDoorCountLn
namespace Go.Proofs.YtncdglfcegmmgaaDoor
open Go.RowKit
set_option linter.unusedVariables false

theorem keep11 {w W W' : World} {g x : Nat} {v0 v1 v2 v3 v4 v5 v6 v7 v8 u0 u1 : Value} (hg : g < w.heap.size) (hx : x < w.heap.size) (hb : Below W.heap.size W W')
    (h : W.cell? ⟨g, 0, none⟩ = some v0 ∧ W.cell? ⟨g, 1, none⟩ = some v1 ∧ W.cell? ⟨g, 2, none⟩ = some v2 ∧ W.cell? ⟨g, 3, none⟩ = some v3 ∧ W.cell? ⟨g, 4, none⟩ = some v4 ∧ W.cell? ⟨g, 5, none⟩ = some v5 ∧ W.cell? ⟨g, 6, none⟩ = some v6 ∧ W.cell? ⟨g, 7, none⟩ = some v7 ∧ W.cell? ⟨g, 8, none⟩ = some v8 ∧ W.cell? ⟨x, 0, none⟩ = some u0 ∧ W.cell? ⟨x, 1, none⟩ = some u1 ∧ Below w.heap.size w W) :
    W'.cell? ⟨g, 0, none⟩ = some v0 ∧ W'.cell? ⟨g, 1, none⟩ = some v1 ∧ W'.cell? ⟨g, 2, none⟩ = some v2 ∧ W'.cell? ⟨g, 3, none⟩ = some v3 ∧ W'.cell? ⟨g, 4, none⟩ = some v4 ∧ W'.cell? ⟨g, 5, none⟩ = some v5 ∧ W'.cell? ⟨g, 6, none⟩ = some v6 ∧ W'.cell? ⟨g, 7, none⟩ = some v7 ∧ W'.cell? ⟨g, 8, none⟩ = some v8 ∧ W'.cell? ⟨x, 0, none⟩ = some u0 ∧ W'.cell? ⟨x, 1, none⟩ = some u1 ∧ Below w.heap.size w W' := by
  obtain ⟨h0, h1, h2, h3, h4, h5, h6, h7, h8, h9, h10, h11⟩ := h
  have hs := h11.size
  have k : ∀ b j v, b < w.heap.size → W.cell? ⟨b, j, none⟩ = some v → W'.cell? ⟨b, j, none⟩ = some v := fun b j v hlt hv => (hb.cell (p := ⟨b, j, none⟩) (by show b < _; omega)).trans hv
  exact ⟨k _ _ _ hg h0, k _ _ _ hg h1, k _ _ _ hg h2, k _ _ _ hg h3, k _ _ _ hg h4, k _ _ _ hg h5, k _ _ _ hg h6, k _ _ _ hg h7, k _ _ _ hg h8, k _ _ _ hx h9, k _ _ _ hx h10, h11.trans (hb.mono hs)⟩
theorem last12 {p0 p1 p2 p3 p4 p5 p6 p7 p8 p9 p10 q : Prop} (h : p0 ∧ p1 ∧ p2 ∧ p3 ∧ p4 ∧ p5 ∧ p6 ∧ p7 ∧ p8 ∧ p9 ∧ p10 ∧ q) : q := h.2.2.2.2.2.2.2.2.2.2.2
set_option maxRecDepth 100000 in
set_option maxHeartbeats 4000000 in
theorem law_FnCells (w : World) (A : Option Addr) (len cap : Nat) (zs : List Int) (hz : IsBytes w A len cap zs) (hT : WT w) :
    Calls Tryd.prog 3 #[.slice A len cap] w fun e w' => e = .returned (.bool true) ∧ Below w.heap.size w w' := by
  have hlc := hz.1
  have hcm := hz.2.1
  have HZ := Lib.hid hz
  have HT := Lib.hid hT
  clear hz hT
  by_cases h : (1048576 : Int) < (len : Int)
  · go_enter Tryd.func3, Tryd.ntmps3
    go_wp2
    go_ret
    exact ⟨rfl, Below.refl _ _⟩
  · go_enter Tryd.func3, Tryd.ntmps3
    go_wp2_with fail
    refine (makeConfig_any A len cap zs w HZ.out).mono ?_
    rintro e w1 ⟨⟨c, hv, rfl⟩, hb1⟩
    have B1 := Lib.hid (hb1.alloc hb1.size (.cells (cfgV c) 24))
    have HBC := Lib.hid (Blk.new w1 24 (cfgV c))
    have HIN := Lib.hid (makeInput_any A len cap zs _ (HZ.out.keep B1.out))
    have HJS := Lib.hid (fun s he => join_split c s hv he)
    have HSF := Lib.hid (fun s l hl x hx => split_fine c s hv l hl x hx)
    have HS0 := Lib.hid (fun s => split_some c s hv)
    have HSZ := Lib.hid (fun s => splitL_size c s)
    have HSP := Lib.hid (fun s W (hs : s.size ≤ 1048576) (h : WT W) => implSplitText c s W hs h)
    have HCE := Lib.hid (fun s W (hs : s.size ≤ 1048576) (h : WT W) => implCellWidth c s W hs h)
    have HJO := Lib.hid (fun ls v W (hv : RdL W v ls) (hm : FitL ls) => implJoinLines c ls v W hv hm)
    obtain ⟨sp, hsp⟩ : ∃ sp : ByteArray → List Ln, sp = splitL c := ⟨_, rfl⟩
    obtain ⟨cw, hcw⟩ : ∃ cw : ByteArray → Int, cw = cellWB c := ⟨_, rfl⟩
    obtain ⟨jl, hjl⟩ : ∃ jl : List Ln → ByteArray, jl = joinLB c := ⟨_, rfl⟩
    rw [← hsp, ← hjl] at HJS
    rw [← hsp, ← hcw] at HSF
    rw [← hsp] at HS0 HSZ HSP
    rw [← hcw] at HCE
    rw [← hjl] at HJO
    obtain ⟨m, t, p, d, fr, fd, fl, fe, fm⟩ := c
    simp only at HJS
    unfold cfgV at B1 HBC HIN HSP HCE HJO ⊢
    simp only at B1 HBC HIN HSP HCE HJO ⊢
    clear hb1 hv hsp hcw hjl
    go_wp2_with fail
    refine HIN.out.mono ?_
    rintro e w2 ⟨⟨s, hs, rfl⟩, hb2⟩
    have B2 := Lib.hid (B1.out.trans (hb2.mono B1.out.size))
    have HB2 := Lib.hid (HBC.out.after hb2)
    obtain ⟨c0, c1, c2, c3, c4, c5, c6, c7, c8⟩ := (show Boxed w2 w1.heap.size m t p d fr fd fl fe fm from ⟨HB2.out.cell 0, HB2.out.cell 1, HB2.out.cell 2, HB2.out.cell 3, HB2.out.cell 4, HB2.out.cell 5, HB2.out.cell 6, HB2.out.cell 7, HB2.out.cell 8⟩)
    clear hb2
    obtain ⟨gc, hgc⟩ : ∃ gc, gc = w1.heap.size := ⟨_, rfl⟩
    rw [← hgc] at HB2 c0 c1 c2 c3 c4 c5 c6 c7 c8 ⊢
    clear hgc
    go_wp2_with fail
    refine (HSP.out s _ (by omega) (HT.out.below B2.out)).mono ?_
    rintro e w3 ⟨v, rfl, ho3, hb3⟩
    have B3 := Lib.hid (B2.out.trans (hb3.mono B2.out.size))
    have HB3 := Lib.hid (HB2.out.after hb3)
    have HR3 := Lib.hid ho3.rd
    have hls := HSZ.out s
    have hl0 := HS0.out s
    have HWID := Lib.hid (fun l hl x hx => HSF.out s l hl x hx)
    have HJN := Lib.hid (fun he => HJS.out s he)
    generalize sp s = ls at HR3 hls hl0 HWID HJN
    have hfit : FitL ls := ⟨by omega, by omega⟩
    have HCN := Lib.hid (fun W (hv : RdL W v ls) => implCountCells ls v W hv hfit)
    have HJO2 := Lib.hid (fun W (hv : RdL W v ls) => HJO.out ls v W hv hfit)
    have HTM := Lib.hid (fun l (h : l ∈ ls) => totL_mem ls l h)
    obtain ⟨n, hn⟩ : ∃ n, n = ls.length := ⟨_, rfl⟩
    have HN := Lib.hid hn
    obtain ⟨A', cap', hva, hin⟩ := HR3.out
    have HRL := Lib.hid hin
    rw [← hn] at hls hl0
    rw [← hn] at hva
    rw [← hn] at HRL
    subst hva
    obtain ⟨y, hy⟩ : ∃ y, y = cntL ls := ⟨_, rfl⟩
    rw [← hy] at HCN
    have hn0 : ((n : Int) == 0) = false := by simp; omega
    have hn1 : ((n : Int) = 0) = False := by simp; omega
    clear hb3 ho3 hfit hn hin hy c0 c1 c2 c3 c4 c5 c6 c7 c8
    go_wp2_with fail
    refine (HCN.out _ HR3.out).mono ?_
    rintro e w4 ⟨rfl, hb4⟩
    have D4 := Lib.hid hb4
    have hgc3 : gc < w3.heap.size := HB3.out.lt
    clear hb4 hn0 hn1
    go_wp2_with fail
    go_loopw [7, 9, 30] (fun _ _ i wr => ∃ (k : Nat), k ≤ n ∧ i = .int .i64 (k : Int) ∧ Hid (Below w3.heap.size w3 wr)) (fun _ _ i _ => n - (intOf i).toNat)
    case atStart => exact ⟨0, Nat.zero_le _, rfl, D4⟩
    case round =>
      obtain ⟨k, hk, rfl, HBE⟩ := hrel
      by_cases hlt : k < n
      · obtain ⟨ga, oa, rfl, hga, hca⟩ := HRL.out (by omega)
        have hkl : k < ls.length := by rw [← HN.out]; exact hlt
        obtain ⟨⟨va, p0, hra⟩, p1, p2, p3⟩ := hca k _ (List.getElem?_eq_getElem hkl)
        have a0 := (HBE.out.cell (p := ⟨ga, oa + k * 4, none⟩) hga).trans p0
        have a1 := (HBE.out.cell (p := ⟨ga, oa + k * 4 + 1, none⟩) hga).trans p1
        have a2 := (HBE.out.cell (p := ⟨ga, oa + k * 4 + 2, none⟩) hga).trans p2
        have a3 := (HBE.out.cell (p := ⟨ga, oa + k * 4 + 3, none⟩) hga).trans p3
        have HW2 := Lib.hid (HWID.out _ (List.getElem_mem hkl))
        have hmem := HTM.out _ (List.getElem_mem hkl)
        generalize ls[k] = l at a1 a2 a3 hra HW2 hmem
        obtain ⟨cl, ⟨x, m'⟩, f⟩ := l
        simp only at a1 a2 a3 hra hmem
        obtain ⟨Ac, cc, rfl, hin⟩ := hra
        have HIC := Lib.hid hin
        obtain ⟨z, hz⟩ : ∃ z, z = cl.length := ⟨_, rfl⟩
        have htc : totC cl ≤ 1048576 := by omega
        have hzl : z ≤ 1048576 := by omega
        rw [← hz] at a0 HIC
        have HZ2 := Lib.hid hz
        obtain ⟨wo, rfl⟩ : ∃ wo : World, wo = wr := ⟨_, rfl⟩
        have HBO := Lib.hid (HBE.out.alloc HBE.out.size (.cells #[.slice Ac z cc, .string x, .int .i64 m', .int .i64 f] 34))
        clear hca p0 p1 p2 p3 hin hz hmem
        go_wp2_with fail
        go_loopw [9, 37] (fun _ j wx => ∃ (q : Nat), q ≤ z ∧ j = .int .i64 (q : Int) ∧ Hid (Below w3.heap.size w3 wx)) (fun _ j _ => z - (intOf j).toNat)
        case atStart => exact ⟨0, Nat.zero_le _, rfl, HBO⟩
        case round =>
          obtain ⟨q, hq, rfl, HBX⟩ := hrel
          by_cases hltq : q < z
          · obtain ⟨gi, oi, rfl, hgi, hci⟩ := HIC.out (by omega)
            have hql : q < cl.length := by rw [← HZ2.out]; exact hltq
            obtain ⟨b0, b1⟩ := (hci q _ (List.getElem?_eq_getElem hql)).keep (fun p hp => HBX.out.cell hp) hgi
            have hty := totC_mem cl _ (List.getElem_mem hql)
            have hwd := HW2.out cl[q] (List.getElem_mem hql)
            generalize cl[q] = ce at b0 b1 hty hwd
            obtain ⟨yt, yw⟩ := ce
            simp only at b0 b1 hty hwd
            have hys : yt.size ≤ 1048576 := by omega
            have HCW := Lib.hid (fun W (h : WT W) => HCE.out yt W hys h)
            rw [← hwd] at HCW
            have HBY := Lib.hid (HBX.out.alloc HBX.out.size (.cells #[.string yt, .int .i64 yw] 32))
            have HBK := Lib.hid (Blk.new wr 32 #[.string yt, .int .i64 yw])
            have hB := HB3.out.below HBY.out hgc3
            obtain ⟨c0, c1, c2, c3, c4, c5, c6, c7, c8⟩ := (show Boxed _ gc m t p d fr fd fl fe fm from ⟨hB.cell 0, hB.cell 1, hB.cell 2, hB.cell 3, hB.cell 4, hB.cell 5, hB.cell 6, hB.cell 7, hB.cell 8⟩)
            have d0 := HBK.out.cell 0
            have d1 := HBK.out.cell 1
            have hgw : gc < (wr.alloc (.cells #[.string yt, .int .i64 yw] 32)).heap.size := Nat.lt_of_lt_of_le hgc3 HBY.out.size
            have hgx : wr.heap.size < (wr.alloc (.cells #[.string yt, .int .i64 yw] 32)).heap.size := HBK.out.lt
            have HTY := Lib.hid (HT.out.below (B3.out.trans (HBY.out.mono B3.out.size)))
            have hww : ((yw : Int) != yw) = false := by simp
            clear hci hwd hB
            go_wp2_with fail
            obtain ⟨wc, hwc⟩ : ∃ wc, wc = wr.alloc (.cells #[.string yt, .int .i64 yw] 32) := ⟨_, rfl⟩
            rw [← hwc] at HBY c0 c1 c2 c3 c4 c5 c6 c7 c8 d0 d1 hgw hgx HTY ⊢
            clear hwc HBK
            go_region_held3 (fun W => W.cell? ⟨gc, 0, none⟩ = some (.int .i64 m) ∧ W.cell? ⟨gc, 1, none⟩ = some (.int .i64 t) ∧ W.cell? ⟨gc, 2, none⟩ = some (.int .i64 p) ∧ W.cell? ⟨gc, 3, none⟩ = some (.int .i64 d) ∧ W.cell? ⟨gc, 4, none⟩ = some (.bool fr) ∧ W.cell? ⟨gc, 5, none⟩ = some (.bool fd) ∧ W.cell? ⟨gc, 6, none⟩ = some (.bool fl) ∧ W.cell? ⟨gc, 7, none⟩ = some (.bool fe) ∧ W.cell? ⟨gc, 8, none⟩ = some (.bool fm) ∧ W.cell? ⟨wr.heap.size, 0, none⟩ = some (.string yt) ∧ W.cell? ⟨wr.heap.size, 1, none⟩ = some (.int .i64 yw) ∧ Below wc.heap.size wc W)
              (first | exact ⟨c0, c1, c2, c3, c4, c5, c6, c7, c8, d0, d1, (Below.refl _ _).drew⟩ | exact keep11 hgw hgx (by assumption) (by assumption))
              (first | (go_at_call 10; refine (HCW.out _ (HTY.out.below (last12 (by assumption)))).mono ?_; rintro e w5 ⟨rfl, hb5⟩))
            all_goals
              have HB9 := Lib.hid (last12 (q := Below wc.heap.size wc w5) (by assumption))
              go_wp2_with fail
              go_roundw
              case rel => exact ⟨q + 1, by omega, by go_num, Lib.hid (HBY.out.trans (HB9.out.mono HBY.out.size))⟩
              case measure => simp [intOf]; omega
          · go_wp2_with fail
            go_roundw
            case rel => exact ⟨k + 1, by omega, by go_num, HBX⟩
            case measure => simp [intOf]; omega
      · have hB := HB3.out.below HBE.out hgc3
        obtain ⟨c0, c1, c2, c3, c4, c5, c6, c7, c8⟩ := (show Boxed wr gc m t p d fr fd fl fe fm from ⟨hB.cell 0, hB.cell 1, hB.cell 2, hB.cell 3, hB.cell 4, hB.cell 5, hB.cell 6, hB.cell 7, hB.cell 8⟩)
        have B4 := Lib.hid (B3.out.trans (HBE.out.mono B3.out.size))
        have HR4 := Lib.hid (HR3.out.below HBE.out)
        clear hB
        cases fe with
        | true =>
          go_wp2_with fail
          go_ret
          exact ⟨rfl, B4.out⟩
        | false =>
          have HJ := Lib.hid (HJO2.out wr HR4.out)
          rw [HJN.out rfl] at HJ
          go_wp2_with fail
          refine HJ.out.mono ?_
          rintro e w6 ⟨rfl, hb6⟩
          have B6 := Lib.hid (B4.out.trans (hb6.mono B4.out.size))
          clear hb6
          go_wp2_with fail
          go_ret
          exact ⟨by simp, B6.out⟩
end Go.Proofs.YtncdglfcegmmgaaDoor
