/- NaturalWidths: the model. -/
import Derived.Test.YtionfjofojfaoaaDoorWidTab
import Derived.Test.YtionfjofojfaoaaDoorSpecTra
import Derived.Test.YtionfjofojfaoaaDoorSpecMax
namespace Go.Proofs.YtionfjofojfaoaaDoor
open Go.RowKit
set_option linter.unusedVariables false
set_option maxRecDepth 100000 in
set_option maxHeartbeats 4000000 in
theorem specNatural (h : List ByteArray) (n : Nat) (f : Nat → List ByteArray) (hv rv : Value) (w : World) (hh : Rd w hv (strs h)) (hr : RdT w rv n f) (hs : SlcOk rv n) (hfit : TabFits h n f) :
    Calls Tryd.prog 16 #[.agg #[hv, rv]] w fun e w' => ∃ v, e = .returned v ∧ w'.ownsRow w.heap.size 3 1 v (natW h n f).length (ints (natW h n f)) ∧ Below w.heap.size w w' := by
  obtain ⟨iI, hiI, hzI0, hzI1, hzI2⟩ := info_parts Tryd.infoIntW
  have HIS := Lib.hid (fun W (hb : Below w.heap.size w W) => specIsTable h n f hv rv W (hh.below hb) (hr.below hb) hs hfit)
  have HCO := Lib.hid (fun (hit : isTab h n f = true) k (hk : k < h.length) W (hb : Below w.heap.size w W) => specColumn h n f hv rv k W (hh.below hb) (hr.below hb) hfit.2.2.1 (fun i hi => by rw [(isTab_facts hit).2.1 i hi]; exact hk) (fun i => (hfit.2.2.2 i).1))
  have HTW := Lib.hid (fun s W (h : s.size ≤ 100000000) => specTextWidth s W h)
  have HMX := Lib.hid (fun a b W => specMax a b W)
  have HSZ : Hid (∀ i k, ((rowsA h f i).getD k ByteArray.empty).size ≤ 100000000) := Lib.hid (fun i k => rowsA_size hfit i k)
  have HF0 : Hid (∀ k (hk : k < h.length), (rowsA h f 0).getD k ByteArray.empty = h[k]) := Lib.hid (fun k hk => getD_col h k hk)
  have HFQ : Hid (∀ k q (hq : q < n), (colT f n k)[q]'(by rw [colT_length]; exact hq) = (rowsA h f (q + 1)).getD k ByteArray.empty) := Lib.hid (fun k q hq => colT_get f n k q hq)
  have HE0 : Hid (isTab h n f = false → natW h n f = []) := Lib.hid (fun hit => by unfold natW; rw [hit]; rfl)
  have HE1 : Hid (isTab h n f = true → natW h n f = natWs (rowsA h f) (1 + n) h.length) := Lib.hid (fun hit => by unfold natW; rw [hit]; rfl)
  have hlz := hfit.1
  have hn := hfit.2.2.1
  obtain ⟨A, c, rfl, hA⟩ := hh
  obtain ⟨B, d, rfl⟩ := hr.slc
  rw [strs_length] at hA HIS HCO ⊢
  have HA : Hid (∀ k (hk : k < h.length), ∃ g o, A = some ⟨g, o, none⟩ ∧ g < w.heap.size ∧ w.cell? ⟨g, o + k, none⟩ = some (.string h[k])) := Lib.hid (fun k hk => by
    obtain ⟨g, o, h1, h2, h3⟩ := hA (by omega)
    exact ⟨g, o, h1, h2, h3 k _ (strs_get h k hk)⟩)
  obtain ⟨F, hF⟩ : ∃ F, F = rowsA h f := ⟨_, rfl⟩
  rw [← hF] at HSZ HF0 HFQ HE1
  obtain ⟨z, hz⟩ : ∃ z, z = h.length := ⟨_, rfl⟩
  obtain ⟨hg, hhg⟩ : ∃ g : Nat → ByteArray, g = fun k => h.getD k ByteArray.empty := ⟨_, rfl⟩
  have HG : Hid (∀ k, k < z → hg k = (F 0).getD k ByteArray.empty ∧ ∃ g o, A = some ⟨g, o, none⟩ ∧ g < w.heap.size ∧ w.cell? ⟨g, o + k, none⟩ = some (.string (hg k))) := Lib.hid (fun k hk => by
    subst hhg hz hF
    refine ⟨rfl, ?_⟩
    show ∃ g o, _ ∧ _ ∧ w.cell? _ = some (.string (h.getD k ByteArray.empty))
    rw [getD_col h k hk]
    exact HA.out k hk)
  rw [← hz] at HCO HE1 hlz HIS ⊢
  have hO := own_empty (w.alloc (.cells #[.slice A z c, .slice B n d] 26)) (w.heap.size + 1) 3 (by simp)
  rw [show (w.alloc (.cells #[.slice A z c, .slice B n d] 26)).heap.size = w.heap.size + 1 by simp] at hO
  have HO := Lib.hid hO
  have B0 := Lib.hid (by go_grown : Below w.heap.size w ((w.alloc (.cells #[.slice A z c, .slice B n d] 26)).alloc (.cells #[] 3)))
  have HK := Lib.hid ((Blk.new w 26 #[.slice A z c, .slice B n d]).after ((Below.refl _ _).alloc (Nat.le_refl _) (.cells #[] 3)))
  clear hF hz hhg hr hs hfit hA HA HF0 hO
  obtain ⟨k0, k1⟩ := HK.out.two
  go_enter Tryd.func16, Tryd.ntmps16
  go_wp2_with fail
  refine (HIS.out _ B0.out).mono ?_
  rintro e w1 ⟨rfl, hb1⟩
  have B1 := Lib.hid (B0.out.trans (hb1.mono B0.out.size))
  have HK1 := Lib.hid (HK.out.after hb1)
  have HO1 := Lib.hid (own_below HO.out hb1)
  have hs1 := hb1.size
  clear hb1 k0 k1
  cases hit : isTab h n f with
  | false =>
    have HE := Lib.hid (HE0.out hit)
    clear hit
    go_wp2_with fail
    go_ret
    exact ⟨_, rfl, by rw [HE.out]; exact World.ownsRow_nil _ _ _ _, B1.out⟩
  | true =>
    have HE := Lib.hid (HE1.out hit)
    have HCC := Lib.hid (HCO.out hit)
    clear hit HCO HE0 HE1
    obtain ⟨m, hm⟩ : ∃ m, m = 1 + n := ⟨_, rfl⟩
    rw [← hm] at HE
    have HM : Hid (∀ k, gwT F k m = gwT F k (n + 1)) := Lib.hid (fun k => by rw [hm, Nat.add_comm])
    clear hm
    obtain ⟨k0, k1⟩ := HK1.out.two
    go_wp2_with fail
    go_loopw [3, 16] (fun v i wr => ∃ k : Nat, k ≤ z ∧ i = .int .i64 (k : Int) ∧ Hid (wr.ownsRow (w.heap.size + 1) 3 1 v k (ints (natWs F m k))) ∧ Hid (Below w.heap.size w wr) ∧ Hid (Blk wr w.heap.size 26 #[.slice A z c, .slice B n d])) (fun _ i _ => z - (intOf i).toNat)
    case atStart => exact ⟨0, Nat.zero_le _, rfl, HO1, B1, HK1⟩
    case round =>
      obtain ⟨k, hk, rfl, HOW, HBE, HBK⟩ := hrel
      obtain ⟨Av, cv, rfl⟩ : ∃ A c, u3 = .slice A k c := by
        obtain ⟨A, c, h, _⟩ := Rd.of_own HOW.out
        exact ⟨A, c, by rw [h, own_len HOW.out]⟩
      by_cases hlt : k < z
      · obtain ⟨hgk, g, o, rfl, hgl, hc0⟩ := HG.out k hlt
        have hcx := (HBE.out.cell (p := ⟨g, o + k, none⟩) hgl).trans hc0
        have hsz : (hg k).size ≤ 100000000 := by rw [hgk]; exact HSZ.out 0 k
        have HGQ : Hid (∀ q, gwT F k (q + 1 + 1) = max (gwT F k (q + 1)) (textW ((F (q + 1)).getD k ByteArray.empty) : Int)) := Lib.hid (fun _ => rfl)
        have HG1 : Hid (gwT F k 1 = (textW (hg k) : Int)) := Lib.hid (by rw [hgk]; exact Int.max_eq_right (Int.natCast_nonneg _))
        have HSN : Hid (ints (natWs F m (k + 1)) = ints (natWs F m k) ++ [.int .i64 (gwT F k (n + 1))]) := Lib.hid (by rw [natWs_snoc, HM.out])
        have HFK := Lib.hid (HFQ.out k)
        have HSK : Hid (∀ q, ((F (q + 1)).getD k ByteArray.empty).size ≤ 100000000) := Lib.hid (fun q => HSZ.out (q + 1) k)
        obtain ⟨s, hse⟩ : ∃ s, s = hg k := ⟨_, rfl⟩
        rw [← hse] at hcx hsz HG1
        obtain ⟨gw, hgw⟩ : ∃ g : Nat → Int, g = fun q => gwT F k (q + 1) := ⟨_, rfl⟩
        have HGQ2 : Hid (∀ q, gw (q + 1) = max (gw q) (textW ((F (q + 1)).getD k ByteArray.empty) : Int)) := Lib.hid (fun q => by rw [hgw]; exact HGQ.out q)
        have HG12 : Hid (gw 0 = (textW s : Int)) := Lib.hid (by rw [hgw]; exact HG1.out)
        have HSN2 : Hid (ints (natWs F m (k + 1)) = ints (natWs F m k) ++ [.int .i64 (gw n)]) := Lib.hid (by rw [hgw]; exact HSN.out)
        have HCK := Lib.hid (HCC.out k hlt)
        clear hse hgw hgk hc0 HGQ HG1 HSN
        obtain ⟨k0, k1⟩ := HBK.out.two
        go_wp2_with fail
        refine (HTW.out s _ hsz).mono ?_
        rintro e w2 ⟨rfl, hb2⟩
        have B2 := Lib.hid (HBE.out.trans (hb2.mono HBE.out.size))
        have HBK2 := Lib.hid (HBK.out.after hb2)
        have HOW2 := Lib.hid (own_below HOW.out hb2)
        clear hb2 k0 k1 hcx hsz
        obtain ⟨k0, k1⟩ := HBK2.out.two
        go_wp2_with fail
        refine (HCK.out _ B2.out).mono ?_
        rintro e w3 ⟨v3, rfl, ho3, hb3⟩
        have B3 := Lib.hid (B2.out.trans (hb3.mono B2.out.size))
        have HBK3 := Lib.hid (HBK2.out.after hb3)
        have HOW3 := Lib.hid (own_below HOW2.out hb3)
        obtain ⟨A3, c3, rfl, hA3⟩ := Rd.of_own ho3
        rw [strs_length, colT_length] at hA3 ⊢
        have HA3 := Lib.hid hA3
        clear hb3 ho3 hA3 k0 k1
        go_wp2_with fail
        go_loopw [6, 27] (fun v i W2 => ∃ q : Nat, q ≤ n ∧ i = .int .i64 (q : Int) ∧ v = .int .i64 (gw q) ∧ Hid (Below w3.heap.size w3 W2)) (fun _ i _ => n - (intOf i).toNat)
        case atStart => exact ⟨0, Nat.zero_le _, rfl, by rw [HG12.out], Lib.hid (Below.refl _ _)⟩
        case round =>
          obtain ⟨q, hq, rfl, rfl, HB3⟩ := hrel
          by_cases hltq : q < n
          · obtain ⟨g3, o3, rfl, hg3, hc3⟩ := HA3.out (by omega)
            have hcy := (HB3.out.cell (p := ⟨g3, o3 + q, none⟩) hg3).trans (hc3 q _ (strs_get _ q (by rw [colT_length]; exact hltq)))
            rw [HFK.out q hltq] at hcy
            have hsy := HSK.out q
            have HGN := Lib.hid (HGQ2.out q)
            obtain ⟨y, hy⟩ : ∃ y, y = (F (q + 1)).getD k ByteArray.empty := ⟨_, rfl⟩
            rw [← hy] at hcy hsy HGN
            obtain ⟨a, ha⟩ : ∃ a, a = gw q := ⟨_, rfl⟩
            rw [← ha] at HGN ⊢
            clear hy hc3 ha
            go_wp2_with fail
            refine (HTW.out y _ hsy).mono ?_
            rintro e w4 ⟨rfl, hb4⟩
            have HB4 := Lib.hid (HB3.out.trans (hb4.mono HB3.out.size))
            clear hb4 hcy
            go_wp2_with fail
            refine (HMX.out _ _ _).mono ?_
            rintro e w5 ⟨rfl, rfl⟩
            go_wp2_with fail
            go_roundw
            case rel => exact ⟨q + 1, by omega, by go_num, by rw [HGN.out], HB4⟩
            case measure => simp [intOf]; omega
          · obtain rfl : q = n := by omega
            have HOW4 := Lib.hid (own_below HOW3.out HB3.out)
            have HBK4 := Lib.hid (HBK3.out.after HB3.out)
            have B4 := Lib.hid (B3.out.trans (HB3.out.mono B3.out.size))
            have hbs : w.heap.size + 1 ≤ wr.heap.size := HBK4.out.lt
            obtain ⟨a, ha⟩ : ∃ a, a = gw q := ⟨_, rfl⟩
            rw [← ha] at HSN2 ⊢
            clear ha
            go_wp2_with (at_builtin; refine append_one rfl _ _ 28 rfl (w.heap.size + 1) 3 iI _ 8 Tryd.underlying28 hiI hzI0 hzI1 hzI2 rfl (.slice Av k cv) _ _ rfl wr (.int .i64 a) rfl rfl HOW4.out (by omega) (by omega) hbs ?_; intro v5 w5 hown5 hbel5; have HO5 := Lib.hid hown5; have HB5 := Lib.hid (B4.out.trans (hbel5.mono (by omega))); have HBK5 := Lib.hid (HBK4.out.below hbel5 (by omega)); clear hown5 hbel5)
            go_roundw
            case rel => exact ⟨k + 1, by omega, by go_num, Lib.hid (by rw [HSN2.out]; exact HO5.out), HB5, HBK5⟩
            case measure => simp [intOf]; omega
      · obtain rfl : k = z := by omega
        go_wp2_with fail
        go_ret
        exact ⟨_, rfl, by rw [HE.out, natWs_length]; exact own_base HOW.out (by omega), HBE.out⟩
end Go.Proofs.YtionfjofojfaoaaDoor
