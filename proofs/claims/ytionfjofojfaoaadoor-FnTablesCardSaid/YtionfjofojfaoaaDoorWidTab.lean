/- NaturalWidths: plain words, the program. -/
import Derived.Test.YtionfjofojfaoaaDoorImplCol
import Derived.Test.YtionfjofojfaoaaDoorImplPadW
import Derived.Test.YtionfjofojfaoaaDoorMemI
import Derived.Stop.RegionWithIn
namespace Go.Proofs.YtionfjofojfaoaaDoor
open Go.RowKit Go.Shelf
set_option linter.unusedVariables false
attribute [local go_sem] Oper.semAt_some

/-- The greatest width in column k of the first m rows. -/
def gwT (f : Nat → List ByteArray) (k : Nat) : Nat → Int
  | 0 => 0
  | m + 1 => max (gwT f k m) (textW ((f m).getD k ByteArray.empty) : Int)
def natWs (f : Nat → List ByteArray) (m z : Nat) : List Int := (List.range z).map fun k => gwT f k m
theorem natWs_length (f : Nat → List ByteArray) (m z : Nat) : (natWs f m z).length = z := by simp [natWs]
theorem natWs_snoc (f : Nat → List ByteArray) (m z : Nat) : ints (natWs f m (z + 1)) = ints (natWs f m z) ++ [.int .i64 (gwT f z m)] := by simp [natWs, List.range_succ, ints]
def natW (h : List ByteArray) (n : Nat) (f : Nat → List ByteArray) : List Int := if isTab h n f = true then natWs (rowsA h f) (1 + n) h.length else []
set_option maxRecDepth 100000 in
set_option maxHeartbeats 2000000 in
theorem implGreatest (f : Nat → List ByteArray) (m k : Nat) (v : Value) (w : World) (hv : Rd w v (strs (colT f m k))) (hm : m ≤ 4194304) (hs : ∀ i, i < m → ((f i).getD k ByteArray.empty).size ≤ 100000000) (hT : WT w) :
    Calls Tryd.prog 28 #[v] w fun e w' => e = .returned (.int .i64 (gwT f k m)) ∧ Below w.heap.size w w' := by
  have HW := Lib.hid (fun s W (h : s.size ≤ 100000000) (hb : Below w.heap.size w W) => implTextWidth s W h (hT.below hb))
  obtain ⟨A, c, rfl, hA⟩ := hv
  rw [strs_length, colT_length] at hA ⊢
  have HA := Lib.hid hA
  have HS := Lib.hid hs
  have HG0 : Hid (gwT f k 0 = 0) := Lib.hid rfl
  have HGS : Hid (∀ q, gwT f k (q + 1) = max (gwT f k q) (textW ((f q).getD k ByteArray.empty) : Int)) := Lib.hid (fun _ => rfl)
  obtain ⟨gw, hgw⟩ : ∃ g : Nat → Int, g = gwT f k := ⟨_, rfl⟩
  rw [← hgw] at HG0 HGS ⊢
  clear hA hs hT hgw
  go_enter Tryd.func28, Tryd.ntmps28
  go_wp2_with fail
  go_loopw [3, 8] (fun z i wr => ∃ q : Nat, q ≤ m ∧ i = .int .i64 (q : Int) ∧ z = .int .i64 (gw q) ∧ Below w.heap.size w wr) (fun _ i _ => m - (intOf i).toNat)
  case atStart => exact ⟨0, Nat.zero_le _, rfl, by rw [HG0.out], Below.refl _ _⟩
  case round =>
    obtain ⟨q, hq, rfl, rfl, hbe⟩ := hrel
    by_cases hlt : q < m
    · obtain ⟨g, o, rfl, hg, hcell⟩ := HA.out (by omega)
      have hc := (hbe.cell (p := ⟨g, o + q, none⟩) hg).trans (hcell q _ (strs_get _ q (by rw [colT_length]; exact hlt)))
      rw [colT_get f m k q hlt] at hc
      have hsz := HS.out q hlt
      have HGQ := Lib.hid (HGS.out q)
      obtain ⟨s, hse⟩ : ∃ s, s = (f q).getD k ByteArray.empty := ⟨_, rfl⟩
      rw [← hse] at hc hsz HGQ
      obtain ⟨x, hx⟩ : ∃ x, x = gw q := ⟨_, rfl⟩
      obtain ⟨y, hy⟩ : ∃ y : Int, y = (textW s : Int) := ⟨_, rfl⟩
      have HWS := Lib.hid (HW.out s wr hsz hbe)
      rw [← hy] at HGQ HWS
      rw [← hx] at HGQ ⊢
      have HBE := Lib.hid hbe
      clear hse hcell hx hy hbe hsz
      go_wp2_with fail
      refine HWS.out.mono ?_
      rintro e w1 ⟨rfl, hb1⟩
      have HB1 := Lib.hid (HBE.out.trans (hb1.mono HBE.out.size))
      clear hb1
      go_wp2_with fail
      go_roundw
      case rel => exact ⟨q + 1, by omega, by go_num, by rw [HGQ.out], HB1.out⟩
      case measure => simp [intOf]; omega
    · obtain rfl : q = m := by omega
      go_wp2_with fail
      go_ret
      exact ⟨rfl, hbe⟩
theorem Tryd.infoIntW : (Tryd.prog.info? 3).map (fun i => (i.zero, i.size, i.bytes)) = some (some (.int .i64 0), 1, 8) := by kernel_rfl
/-- Between two rounds of NaturalWidths: the widths so far. -/
def NatAt (w w2 : World) (b b4 : Nat) (rv : Value) (m : Nat) (f : Nat → List ByteArray) (k : Nat) (W : World) : Prop :=
  ∃ u, Blk W b 28 #[u] ∧ Blk W b4 24 #[rv] ∧ W.ownsRow w.heap.size 3 1 u k (ints (natWs f m k)) ∧ Below w.heap.size w W ∧ Keeps w2 W 23
theorem NatAt.calm {w w2 : World} {b b4 : Nat} {rv : Value} {m k B : Nat} {f : Nat → List ByteArray} {W W' : World} (h : NatAt w w2 b b4 rv m f k W) (hc : Calm B W W') (hB : w.heap.size ≤ B) : NatAt w w2 b b4 rv m f k W' := by
  obtain ⟨u, h1, h2, h3, h4, h5⟩ := h
  exact ⟨u, hc.blk h1, hc.blk h2, hc.own h3, hc.below h4 hB (Nat.le_refl _), h5.trans (hc.keeps _)⟩
theorem rowsA_size {h : List ByteArray} {n : Nat} {f : Nat → List ByteArray} (hf : TabFits h n f) (i k : Nat) : ((rowsA h f i).getD k ByteArray.empty).size ≤ 100000000 := by
  have key : ∀ l : List ByteArray, (∀ x ∈ l, x.size ≤ 1048576) → (l.getD k ByteArray.empty).size ≤ 100000000 := by
    intro l hl
    rcases Nat.lt_or_ge k l.length with hk | hk
    · rw [getD_col l k hk]
      have := hl _ (List.getElem_mem hk)
      omega
    · rw [List.getD_eq_getElem?_getD, List.getElem?_eq_none hk]
      exact Nat.zero_le _
  cases i with
  | zero => exact key _ hf.2.1
  | succ i => exact key _ (hf.2.2.2 i).2
attribute [-go_sem] Builtin.append_
set_option maxRecDepth 100000 in
set_option maxHeartbeats 4000000 in
theorem implNatural (h : List ByteArray) (n : Nat) (f : Nat → List ByteArray) (hv rv : Value) (w : World) (hh : Rd w hv (strs h)) (hr : RdT w rv n f) (hs : SlcOk rv n) (hfit : TabFits h n f) (hT : WT w) :
    Calls Tryd.prog 8 #[.agg #[hv, rv]] w fun e w' => ∃ v, e = .returned v ∧ w'.ownsRow w.heap.size 3 1 v (natW h n f).length (ints (natW h n f)) ∧ Below w.heap.size w w' := by
  obtain ⟨iI, hiI, hzI0, hzI1, hzI2⟩ := info_parts Tryd.infoIntW
  have HIS := Lib.hid (fun W (hb : Below w.heap.size w W) => implIsTable h n f hv rv W (hh.below hb) (hr.below hb) hs hfit)
  have HHO := Lib.hid (fun W (hb : Below w.heap.size w W) => implHeadOwn h n f hv rv w W hb hh hr hs hfit.2.2.1)
  have HGV := Lib.hid (fun b rv => colsGive b rv (1 + n) (rowsA h f) (by have := hfit.2.2.1; omega) (fun i => by
    cases i with
    | zero => have := hfit.1; show h.length ≤ _; omega
    | succ i => have := (hfit.2.2.2 i).1; show (f i).length ≤ _; omega))
  have HGW := Lib.hid (fun k u W (hb : Below w.heap.size w W) (hu : Rd W u (strs (colT (rowsA h f) (1 + n) k))) => implGreatest (rowsA h f) (1 + n) k u W hu (by have := hfit.2.2.1; omega) (fun i _ => rowsA_size hfit i k) (hT.below hb))
  obtain ⟨A, c, rfl, _⟩ := hh
  obtain ⟨B, d, rfl⟩ := hr.slc
  obtain ⟨hl, hhl⟩ : ∃ k, k = (strs h).length := ⟨_, rfl⟩
  rw [← hhl] at HIS HHO ⊢
  have hlz : h.length ≤ 1048576 := hfit.1
  have hLZ : Hid (isTab h n f = true → leastT (rowsA h f) (1 + n) = h.length) := Lib.hid (fun hit => by
    obtain ⟨_, hrows, _, _, _⟩ := isTab_facts hit
    refine leastT_same _ _ _ (fun i hi => ?_) (by omega)
    cases i with
    | zero => rfl
    | succ i => exact hrows i (by omega))
  have HK0 := Lib.hid (Blk.new w 26 #[.slice A hl c, .slice B n d])
  have B0 := Lib.hid (by go_grown : Below w.heap.size w (w.alloc (.cells #[.slice A hl c, .slice B n d] 26)))
  obtain ⟨k0, k1⟩ := HK0.out.two
  clear hhl hr hs hfit hT
  refine (callsIn_wide (n := 0)).1 ?_
  refine callsIn_of_wp_marks Tryd.func8 rfl trivial ?_ rfl
  simp only [Tryd.ntmps8, List.size_toArray, List.length_cons, List.length_nil, Nat.reduceAdd, Nat.reduceSub, Array.replicate_succ, Array.replicate_zero, List.push_toArray, List.append_toArray, List.nil_append, List.cons_append]
  gi_wp2_with fail
  refine ⟨trivial, rfl, (inWide (HIS.out _ B0.out)).mono ?_⟩
  rintro e w1 ⟨rfl, hb1⟩
  have B1 := Lib.hid (B0.out.trans (hb1.mono B0.out.size))
  have HK1 := Lib.hid (HK0.out.after hb1)
  clear hb1 k0 k1
  cases hit : isTab h n f with
  | false =>
    have HE : Hid (natW h n f = []) := Lib.hid (by unfold natW; rw [hit]; rfl)
    clear hit
    gi_wp2_with fail
    refine ⟨_, results_tmp rfl _ _ _, _, rfl, by rw [HE.out]; exact World.ownsRow_nil _ _ _ _, B1.out⟩
  | true =>
    have HE : Hid (natW h n f = natWs (rowsA h f) (1 + n) h.length) := Lib.hid (by unfold natW; rw [hit]; rfl)
    have hz := hLZ.out hit
    have s2 : Below w1.heap.size w1 (w1.alloc (.cells #[.slice none 0 0] 28)) := (Below.refl _ _).alloc (Nat.le_refl _) _
    have B2 := Lib.hid (B1.out.trans (s2.mono B1.out.size))
    have HK2 := Lib.hid (HK1.out.after s2)
    have HB2 := Lib.hid (Blk.new w1 28 #[.slice none 0 0])
    have hB1 := B1.out.size
    clear hit s2
    obtain ⟨k0, k1⟩ := HK2.out.two
    gi_wp2_with fail
    refine ⟨trivial, rfl, (inWide (HHO.out _ B2.out)).mono ?_⟩
    rintro e w2 ⟨v, c2, rfl, hrt, hb2, hrw⟩
    have B3 := Lib.hid (B2.out.trans (hb2.mono B2.out.size))
    have HB3 := Lib.hid (HB2.out.after hb2)
    have HRW := Lib.hid hrw
    have s4 : Below w2.heap.size w2 (w2.alloc (.cells #[.slice v (1 + n) c2] 24)) := (Below.refl _ _).alloc (Nat.le_refl _) _
    have H0 : Hid (NatAt w w2 w1.heap.size w2.heap.size (.slice v (1 + n) c2) (1 + n) (rowsA h f) 0 (w2.alloc (.cells #[.slice v (1 + n) c2] 24))) := Lib.hid ⟨_, HB3.out.after s4, Blk.new _ _ _, World.ownsRow_nil _ _ _ _, B3.out.trans (s4.mono B3.out.size), Keeps.below _ s4⟩
    have hGV := HGV.out w2.heap.size (.slice v (1 + n) c2)
    rw [hz] at hGV
    have hw2 := B3.out.size
    have hw12 : w1.heap.size < w2.heap.size := HB3.out.lt
    obtain ⟨z, hzz⟩ : ∃ z, z = h.length := ⟨_, rfl⟩
    rw [← hzz] at hGV HE hlz
    have HGG := Lib.hid hGV
    clear hz hzz hGV s4 hrt hb2 hrw k0 k1 HK0 HK1 HK2 HB2 HB3 HIS HHO
    obtain ⟨m, hm⟩ : ∃ m, m = 1 + n := ⟨_, rfl⟩
    rw [← hm] at HGG H0 HE HGW HRW ⊢
    obtain ⟨F, hF⟩ : ∃ F, F = rowsA h f := ⟨_, rfl⟩
    rw [← hF] at HGG H0 HE HGW HRW
    clear hm hF
    gi_wp2_with fail
    refine ⟨trivial, rfl, (inWide (implColumns v m c2 _)).mono ?_⟩
    rintro e w3 ⟨rfl, rfl⟩
    gi_wp2_with fail
    refine wp_range (gf := 51) (lb := #[.pointer (some ⟨w2.heap.size, 0, none⟩)]) rfl (enters_of Tryd.func51 (by kernel_rfl) rfl) HGG.out rfl
      (NatAt w w2 w1.heap.size w2.heap.size (.slice v m c2) m F) (fun _ _ => False) (fun k X Y h hc => h.calm hc (by simp; omega)) (fun _ _ _ h _ => h) (fun k u X Y Z h hc => h.calm hc)
      (fun k X h => ?rd) H0.out
      (fun k u => { tmps := #[.agg #[.slice A hl c, .slice B n d], .pointer (some ⟨w.heap.size, 0, none⟩), .slice none 0 0, .pointer (some ⟨w1.heap.size, 0, none⟩), undef, u, .agg #[.slice A hl c, .slice B n d], .bool true, .bool false, .agg #[.slice A hl c, .slice B n d], .slice v m c2, .func (.func 51) #[] #[.pointer (some ⟨w2.heap.size, 0, none⟩)], .int .i64 (k : Int), u, undef, undef, undef, undef, undef, undef], defers := [] }) ?assign ?body ?done ?stop
    case rd =>
      obtain ⟨u, h1, h2, h3, h4, h5⟩ := h
      exact ⟨h2.cell 0, h2.lt, HRW.out _ h4 h5⟩
    case assign =>
      intro l k u W K hK
      gi_wp2
      exact hK
    case body =>
      rintro l k u W0 W hk hI hc ⟨g, rfl, hu, hm0⟩
      obtain ⟨u0, h1, h2, h3, h4, h5⟩ := hI
      have hvl := own_len h3
      have hcl : w.heap.size ≤ (w2.alloc (.cells #[.slice v m c2] 24)).heap.size := by simp; omega
      have h1W := hc.blk h1
      have h4W := hc.below h4 hcl (Nat.le_refl _)
      have hbW := h4W.size
      have c0 := h1W.cell 0
      simp at c0
      have H1 := Lib.hid h1W
      have H2 := Lib.hid (hc.blk h2)
      have H3 := Lib.hid (hc.own h3)
      have H4 := Lib.hid h4W
      have H5 := Lib.hid (h5.trans (hc.keeps _))
      have HCL := Lib.hid (fun W' (hb : Below W.heap.size W W') => HGW.out k _ W' (h4W.trans (hb.mono h4W.size)) ((Rd.of_own hu).below hb))
      have HVL := Lib.hid hvl
      have HSN : Hid (ints (natWs F m (k + 1)) = ints (natWs F m k) ++ [.int .i64 (gwT F k m)]) := Lib.hid (natWs_snoc F m k)
      obtain ⟨x, hx⟩ : ∃ x, x = gwT F k m := ⟨_, rfl⟩
      rw [← hx] at HCL HSN
      clear h1 h2 h3 h4 h5 h1W h4W hu hvl hc hcl hx
      gi_wp2_with fail
      gi_region_with (first
        | (refine ⟨trivial, rfl, (inRoundW l (HCL.out _ ?_)).mono ?_⟩; exact below_drewN (Below.refl _ _) 1; rintro e w5 ⟨rfl, hb5⟩; have B5 : Hid (Below W.heap.size W w5) := Lib.hid ((below_drewN (Below.refl W.heap.size W) 1).trans hb5); have hc5 := (B5.out.cell (p := ⟨w1.heap.size, 0, none⟩) H1.out.lt).trans c0; have hs5 := B5.out.size; have hc6 := (((Below.refl w5.heap.size w5).alloc (Nat.le_refl _) (.cells #[.int .i64 x] 3)).cell (p := ⟨w1.heap.size, 0, none⟩) (Nat.lt_of_lt_of_le H1.out.lt B5.out.size)).trans hc5; clear hb5)
        | (obtain ⟨v', w6, hrun, hown', hgrow, _⟩ := run_append_own (P := Tryd.prog) (w5.alloc (.cells #[.int .i64 x] 3)) w.heap.size 28 28 3 iI (.int .i64 0) 1 8 Tryd.underlying28 hiI hzI0 hzI1 hzI2 rfl (by decide) u0 k (ints (natWs F m k)) ((own_below H3.out B5.out).alloc _) ⟨w5.heap.size, 0, none⟩ 1 1 [.int .i64 x] rfl (cell_one_new _ _ _) (by simp [Value.oneCell']) (by unfold maxLen; omega) (by omega) (by simp; omega); obtain ⟨g', cap', rfl, _⟩ := own_cells hown' (by omega); have H35 := Lib.hid (own_below H3.out B5.out); have HO := Lib.hid hown'; have HGR := Lib.hid (grown_trans (World.grownBy_alloc w5 _ u0.ownBlock) hgrow); have HK := Lib.hid ((KeepsOthers.of_below B5.out).trans ((KeepsOthers.alloc w5 (.cells #[.int .i64 x] 3)).trans (KeepsOthers.grownRow (H35.out.alloc _) hgrow))); have hb1 := Blk.grows (H1.out.after B5.out) H35.out (by decide) HGR.out; have HB1 := Lib.hid hb1; have c1 := hb1.cell 0; have f1 := hb1.free 0; simp at c1; rw [hrun]; simp only [Result.andThen]; clear hrun hown' hgrow hb1; go_simp))
      all_goals
        have HBX : Hid (Blk (w6.setCell ⟨w1.heap.size, 0, none⟩ (.slice (some ⟨g', 0, none⟩) (k + 1) cap')) w1.heap.size 28 #[.slice (some ⟨g', 0, none⟩) (k + 1) cap']) := Lib.hid (HB1.out.set 0 _)
        have hS : ∀ e, 28 ≠ e → Keeps w6 (w6.setCell ⟨w1.heap.size, 0, none⟩ (.slice (some ⟨g', 0, none⟩) (k + 1) cap')) e := fun e he => Keeps.blk HB1.out he (grown_set _ _ _ _)
        have hG : ∀ e, 3 ≠ e → Keeps W w6 e := fun e he => (Keeps.below e B5.out).trans (Keeps.grown H35.out he HGR.out)
        refine ⟨HK.out.trans (KeepsOthers.setCell _ _ _), _, HBX.out, ?_, ?_, ?_, ?_⟩
        · exact (Blk.keeps H2.out (hG _ (by decide))).other (by omega)
        · rw [HSN.out]; exact own_keeps HO.out (hS _ (by decide))
        · exact ((H4.out.trans (B5.out.mono hbW)).grown HGR.out (by omega) (fun q hq => (World.ownsRow.lt H35.out q hq).1)).setCell hB1 _
        · exact H5.out.trans ((hG _ (by decide)).trans (hS _ (by decide)))
    case done =>
      rintro D W hD ⟨u, h1, h2, h3, h4, h5⟩ hK
      have c0 := h1.cell 0
      simp at c0
      have H3 := Lib.hid h3
      have H4 := Lib.hid h4
      have HK := Lib.hid hK
      clear h1 h2 h3 h4 h5 hK
      gi_wp2
      refine ⟨by simp, .inl ⟨_, _, rfl, run_takeDeferred HK.out, ?_⟩⟩
      have hcp : Calm D W (W.putObj D (.deferred none)) := Calm.put _ (Nat.le_refl _) HK.out rfl
      have hDw : w.heap.size ≤ D := by simp at hD; omega
      exact ⟨_, results_tmp rfl _ _ _, u, rfl, by rw [HE.out, natWs_length]; exact hcp.own H3.out, hcp.below H4.out hDw (Nat.le_refl _)⟩
    case stop =>
      rintro D c W _ h _
      exact h.elim
end Go.Proofs.YtionfjofojfaoaaDoor
