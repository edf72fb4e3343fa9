/- The exact law on SameTable, over a contract of the program's. -/
import Derived.Test.YtionfjofojfaoaaSpecSame
import Derived.Test.YtionfjofojfaoaaWalksTab
import Derived.Test.YtionfjofojfaoaaConcat
import Derived.Deep.RegionHeld3
namespace Go.Proofs.Ytionfjofojfaoaa
open Go.RowKit
set_option linter.unusedVariables false

theorem szRows_up (f : Nat → List ByteArray) : ∀ (m i : Nat) (l : Int), 0 ≤ szRows f i m l → szRows f i m l ≤ l
  | 0, i, l, _ => Int.le_refl _
  | m + 1, i, l, h => by
    rw [szRows] at h ⊢
    split at h
    · omega
    · rename_i hh
      rw [if_neg hh]
      have h1 := szL_up (f i) l (by omega)
      have := szRows_up f m (i + 1) _ h
      omega
theorem szTab_up {h : List ByteArray} {n : Nat} {f : Nat → List ByteArray} {l : Int} (hz : 0 ≤ szTab h n f l) : szTab h n f l ≤ l := by
  unfold szTab at hz ⊢
  split at hz
  · omega
  · rename_i h1
    rw [if_neg h1]
    split at hz
    · omega
    · rename_i h2
      rw [if_neg h2]
      have a2 := szL_up h l (by omega)
      unfold szT at hz ⊢
      split at hz
      · omega
      · rename_i h3
        rw [if_neg h3]
        have := szRows_up f n 0 _ hz
        omega
theorem tab_fits_at {h : List ByteArray} {n : Nat} {f : Nat → List ByteArray} {l : Int} (hl : l ≤ 1048576) (hz : 0 ≤ szTab h n f l) (he : ∀ i, n ≤ i → f i = []) : TabFits h n f := by
  unfold szTab at hz
  split at hz
  · omega
  · rename_i h1
    split at hz
    · omega
    · rename_i h2
      have a := szL_le h l (by omega)
      have a2 := szL_up h l (by omega)
      have b := szT_le n f _ (by omega : 0 ≤ szT n f (szL h l))
      refine ⟨by omega, fun x hx => ?_, by omega, fun i => ?_⟩
      · have := tot_mem h x hx
        omega
      · rcases Nat.lt_or_ge i n with hi | hi
        · have c := totT_row f n i hi
          refine ⟨by omega, fun x hx => ?_⟩
          have := tot_mem (f i) x hx
          omega
        · rw [he i hi]
          exact ⟨by simp, fun x hx => by cases hx⟩
/-- What reads as a table. -/
def TRd (W : World) (hv rv : Value) (h : List ByteArray) (n : Nat) (f : Nat → List ByteArray) : Prop := Rd W hv (strs h) ∧ RdT W rv n f
theorem TRd.below {W W' : World} {hv rv : Value} {h : List ByteArray} {n : Nat} {f : Nat → List ByteArray} (hb : Below W.heap.size W W') (ht : TRd W hv rv h n f) : TRd W' hv rv h n f := ⟨ht.1.below hb, ht.2.below hb⟩
theorem OwnTab.trd {W : World} {base top : Nat} {hv rv : Value} {h : List ByteArray} {n : Nat} {f : Nat → List ByteArray} (ho : OwnTab W base top hv rv h n f) : TRd W hv rv h n f := ⟨Rd.of_own ho.head, ho.rows.rd⟩
/-- A table that came in, as the laws take it. -/
def TArg (w : World) (hv rv : Value) (h : List ByteArray) (n : Nat) (f : Nat → List ByteArray) : Prop :=
  TRd w hv rv h n f ∧ h.length ≤ 9223372036854775807 ∧ (∀ x ∈ h, x.size ≤ 9223372036854775807) ∧ n ≤ 9223372036854775807 ∧ (∀ i, i < n → (f i).length ≤ 9223372036854775807 ∧ ∀ x ∈ f i, x.size ≤ 9223372036854775807) ∧ ∀ i, n ≤ i → f i = []
theorem own_tab_below {W W' : World} {b : Nat} {hv rv : Value} {h : List ByteArray} {n : Nat} {f : Nat → List ByteArray} (ho : OwnTab W b W.heap.size hv rv h n f) (hb : Below W.heap.size W W') : OwnTab W' b W'.heap.size hv rv h n f := (ho.below hb).retop hb.size
set_option maxRecDepth 100000 in
set_option maxHeartbeats 8000000 in
theorem sameTable_law (w : World) (h : List ByteArray) (n : Nat) (f : Nat → List ByteArray) (hv rv : Value) (h' : List ByteArray) (m : Nat) (g : Nat → List ByteArray) (hv' rv' : Value) (ha : TArg w hv rv h n f) (hb : TArg w hv' rv' h' m g)
    (hI : ∀ W hv rv hv' rv', Below w.heap.size w W → TRd W hv rv h n f → TRd W hv' rv' h' m g → TabFits h n f → TabFits h' m g → Calls Try.prog 39 #[.agg #[hv, rv], .agg #[hv', rv']] W fun e w' => e = .returned (.bool (tabSame h h' n m f g)) ∧ Below W.heap.size W w') :
    Calls Try.prog 9 #[.agg #[hv, rv], .agg #[hv', rv']] w fun e w' => e = .returned (.bool true) ∧ Below w.heap.size w w' := by
  obtain ⟨ta, a1, a2, a3, a4, a5⟩ := ha
  obtain ⟨tb, b1, b2, b3, b4, b5⟩ := hb
  have HLA := Lib.hid (fun W (hb : Below w.heap.size w W) => szTable_any h n f 1048576 hv rv W (ta.1.below hb) (ta.2.below hb) (by omega) (by omega) a1 a2 a3 a4)
  have HLB := Lib.hid (fun (l : Int) (l0 : 0 ≤ l) (l1 : l ≤ 1048576) W (hb : Below w.heap.size w W) => szTable_any h' m g l hv' rv' W (tb.1.below hb) (tb.2.below hb) l0 l1 b1 b2 b3 b4)
  have HFA := Lib.hid (fun (hz : 0 ≤ szTab h n f 1048576) => tab_fits hz a5)
  have HFB := Lib.hid (fun (l : Int) (l1 : l ≤ 1048576) (hz : 0 ≤ szTab h' m g l) => tab_fits_at l1 hz b5)
  have HUA := Lib.hid (fun (hz : 0 ≤ szTab h n f 1048576) => szTab_up hz)
  have HT := Lib.hid (fun hv rv h n f W (ht : TRd w hv rv h n f) (hf : TabFits h n f) (hb : Below w.heap.size w W) => toTable_any h n f hv rv W (ht.1.below hb) (ht.2.below hb) hf.1 hf.2.2.1 (fun i _ => (hf.2.2.2 i).1))
  have HS := Lib.hid (fun W hv rv hv' rv' (x : TRd W hv rv h n f) (y : TRd W hv' rv' h' m g) (hf : TabFits h n f) (hf' : TabFits h' m g) => specSameTable h h' n m f g hv rv hv' rv' W x.1 x.2 y.1 y.2 hf.1 hf.2.2.1 hf'.2.2.1 (fun i => (hf.2.2.2 i).1))
  have HI := Lib.hid hI
  have HTA := Lib.hid ta
  have HTB := Lib.hid tb
  obtain ⟨A, c, rfl, _⟩ := ta.1
  obtain ⟨B, d, rfl⟩ := ta.2.slc
  obtain ⟨A', c', rfl, _⟩ := tb.1
  obtain ⟨B', d', rfl⟩ := tb.2.slc
  obtain ⟨hl, hhl⟩ : ∃ k, k = (strs h).length := ⟨_, rfl⟩
  obtain ⟨hl', hhl'⟩ : ∃ k, k = (strs h').length := ⟨_, rfl⟩
  rw [← hhl] at HLA HTA ⊢
  rw [← hhl'] at HLB HTB ⊢
  obtain ⟨r, hre⟩ : ∃ r, r = szTab h n f 1048576 := ⟨_, rfl⟩
  rw [← hre] at HLA HFA HUA
  obtain ⟨q, hq⟩ : ∃ q, q = tabSame h h' n m f g := ⟨_, rfl⟩
  rw [← hq] at HS HI
  have hqq : (q != q) = false := by cases q <;> rfl
  clear hhl hhl' hre ta tb a1 a2 a3 a4 a5 b1 b2 b3 b4 b5 hI hq
  have s1 : Below (w.alloc (.cells #[.slice A hl c, .slice B n d] 26)).heap.size (w.alloc (.cells #[.slice A hl c, .slice B n d] 26)) ((w.alloc (.cells #[.slice A hl c, .slice B n d] 26)).alloc (.cells #[.slice A' hl' c', .slice B' m d'] 26)) := (Below.refl _ _).alloc (Nat.le_refl _) _
  have hA := (Blk.new w 26 #[.slice A hl c, .slice B n d]).after s1
  have hB := Blk.new (w.alloc (.cells #[.slice A hl c, .slice B n d] 26)) 26 #[.slice A' hl' c', .slice B' m d']
  rw [show (w.alloc (.cells #[.slice A hl c, .slice B n d] 26)).heap.size = w.heap.size + 1 by simp] at hB
  have HA := Lib.hid hA
  have HB := Lib.hid hB
  have B0 := Lib.hid (by go_grown : Below w.heap.size w ((w.alloc (.cells #[.slice A hl c, .slice B n d] 26)).alloc (.cells #[.slice A' hl' c', .slice B' m d'] 26)))
  obtain ⟨k0, k1⟩ := hA.two
  clear hA hB s1
  go_enter Try.func9, Try.ntmps9
  go_wp2_with fail
  refine (HLA.out _ B0.out).mono ?_
  rintro e w1 ⟨rfl, hb1⟩
  have B1 := Lib.hid (B0.out.trans (hb1.mono B0.out.size))
  have HA1 := Lib.hid (HA.out.after hb1)
  have HB1 := Lib.hid (HB.out.after hb1)
  clear hb1 k0 k1
  by_cases hneg : r < 0
  · go_wp2_with fail
    go_ret
    exact ⟨rfl, B1.out⟩
  · have HFT := Lib.hid (HFA.out (by omega))
    have hru := HUA.out (by omega)
    have HLB2 := Lib.hid (HLB.out r (by omega) hru)
    have HFB2 := Lib.hid (HFB.out r hru)
    obtain ⟨y, hye⟩ : ∃ y, y = szTab h' m g r := ⟨_, rfl⟩
    rw [← hye] at HLB2 HFB2
    clear hye HFA HUA HLB HFB HLA
    obtain ⟨k0, k1⟩ := HB1.out.two
    go_wp2_with fail
    refine (HLB2.out _ B1.out).mono ?_
    rintro e w2 ⟨rfl, hb2⟩
    have B2 := Lib.hid (B1.out.trans (hb2.mono B1.out.size))
    have HA2 := Lib.hid (HA1.out.after hb2)
    have HB2 := Lib.hid (HB1.out.after hb2)
    clear hb2 k0 k1
    by_cases hneg2 : y < 0
    · go_wp2_with fail
      go_ret
      exact ⟨rfl, B2.out⟩
    · have HFU := Lib.hid (HFB2.out (by omega))
      clear HFB2 HLB2
      go_wp2_with fail
      go_region_held3 (fun W => W.cell? ⟨w.heap.size, 0, none⟩ = some (.slice A hl c) ∧ W.cell? ⟨w.heap.size, 1, none⟩ = some (.slice B n d) ∧ W.cell? ⟨w.heap.size + 1, 0, none⟩ = some (.slice A' hl' c') ∧ W.cell? ⟨w.heap.size + 1, 1, none⟩ = some (.slice B' m d') ∧ w.heap.size < W.heap.size ∧ w.heap.size + 1 < W.heap.size ∧ Below w2.heap.size w2 W)
        (first | exact tb_start HA2.out HB2.out | exact tb_below (by assumption) (by assumption))
        (first
          | (go_at_call 14; refine (HT.out _ _ _ _ _ _ (by first | exact HTA.out | exact HTB.out) (by first | exact HFT.out | exact HFU.out) (B2.out.trans ((tb_new (X := w2) (by assumption)).mono B2.out.size))).mono ?_; rintro e w7 ⟨hv7, rv7, rfl, ho7, hb7⟩)
          | (go_at_call 38; refine (HS.out _ _ _ _ _ (by first | exact ho7.trd | exact (OwnTab.trd (by assumption)).below hb7) (by first | exact ho7.trd | exact (OwnTab.trd (by assumption)).below hb7) HFT.out HFU.out).mono ?_; rintro e w8 ⟨rfl, hb8⟩))
      all_goals
        have hx8 := tb_new (X := w2) (W := w8) (by assumption)
        have B8 := Lib.hid (B2.out.trans (hx8.mono B2.out.size))
        have HA8 := Lib.hid (HA2.out.after hx8)
        have HB8 := Lib.hid (HB2.out.after hx8)
        clear hx8
        obtain ⟨k0, k1⟩ := HA8.out.two
        go_wp2_with fail
        refine (HT.out _ _ _ _ _ _ HTA.out HFT.out B8.out).mono ?_
        rintro e w9 ⟨hv9, rv9, rfl, ho9, hb9⟩
        have B9 := Lib.hid (B8.out.trans (hb9.mono B8.out.size))
        have HA9 := Lib.hid (HA8.out.after hb9)
        have HB9 := Lib.hid (HB8.out.after hb9)
        have HO9 := Lib.hid ho9
        obtain ⟨A9, c9, rfl, _⟩ := Rd.of_own ho9.head
        obtain ⟨D9, d9, rfl⟩ := ho9.rows.len
        obtain ⟨l9, hl9⟩ : ∃ k, k = (strs h).length := ⟨_, rfl⟩
        rw [← hl9] at HO9 ⊢
        clear hb9 k0 k1 ho9 hl9
        have hG := Blk.new w9 29 #[.slice none 0 0, .slice none 0 0]
        have s10 : Below w9.heap.size w9 ((w9.alloc (.cells #[.slice none 0 0, .slice none 0 0] 29)).setRow w9.heap.size #[.slice A9 l9 c9, .slice D9 n d9]) := below_row ((Below.refl w9.heap.size w9).alloc (Nat.le_refl _) _) (Nat.le_refl _)
        have hG10 := hG.row (cs' := #[.slice A9 l9 c9, .slice D9 n d9])
        obtain ⟨w10, hw10⟩ : ∃ W, W = (w9.alloc (.cells #[.slice none 0 0, .slice none 0 0] 29)).setRow w9.heap.size #[.slice A9 l9 c9, .slice D9 n d9] := ⟨_, rfl⟩
        rw [← hw10] at s10 hG10
        have HW10 := Lib.hid hw10
        have HG10 := Lib.hid hG10
        have B10 := Lib.hid (B9.out.trans (s10.mono B9.out.size))
        have HA10 := Lib.hid (HA9.out.after s10)
        have HB10 := Lib.hid (HB9.out.after s10)
        have HO10 := Lib.hid (own_tab_below HO9.out s10)
        clear s10 hw10 hG10
        obtain ⟨k0, k1⟩ := HB10.out.two
        go_wp2_with (refine wpList_store_row rfl _ _ _ rfl w9.heap.size #[.slice A9 l9 c9, .slice D9 n d9] rfl rfl 29 _ hG size_tab rfl (one_tab _ _ _ _ _ _) ?_; rw [← HW10.out])
        refine (HT.out _ _ _ _ _ _ HTB.out HFU.out B10.out).mono ?_
        rintro e w11 ⟨hv11, rv11, rfl, ho11, hb11⟩
        have B11 := Lib.hid (B10.out.trans (hb11.mono B10.out.size))
        have HA11 := Lib.hid (HA10.out.after hb11)
        have HB11 := Lib.hid (HB10.out.after hb11)
        have HG11 := Lib.hid (HG10.out.after hb11)
        have HO11 := Lib.hid (own_tab_below HO10.out hb11)
        have HP11 := Lib.hid ho11
        obtain ⟨A11, c11, rfl, _⟩ := Rd.of_own ho11.head
        obtain ⟨D11, d11, rfl⟩ := ho11.rows.len
        obtain ⟨l11, hl11⟩ : ∃ k, k = (strs h').length := ⟨_, rfl⟩
        rw [← hl11] at HP11 ⊢
        clear hb11 k0 k1 ho11 hl11 hG HO9 HO10 HA8 HB8 HA9 HB9 HA10 HB10 HG10
        have hG := Blk.new w11 29 #[.slice none 0 0, .slice none 0 0]
        have s12 : Below w11.heap.size w11 ((w11.alloc (.cells #[.slice none 0 0, .slice none 0 0] 29)).setRow w11.heap.size #[.slice A11 l11 c11, .slice D11 m d11]) := below_row ((Below.refl w11.heap.size w11).alloc (Nat.le_refl _) _) (Nat.le_refl _)
        have hG12 := hG.row (cs' := #[.slice A11 l11 c11, .slice D11 m d11])
        obtain ⟨w12, hw12⟩ : ∃ W, W = (w11.alloc (.cells #[.slice none 0 0, .slice none 0 0] 29)).setRow w11.heap.size #[.slice A11 l11 c11, .slice D11 m d11] := ⟨_, rfl⟩
        rw [← hw12] at s12 hG12
        have HW12 := Lib.hid hw12
        have HH12 := Lib.hid hG12
        have HG12 := Lib.hid (HG11.out.after s12)
        have B12 := Lib.hid (B11.out.trans (s12.mono B11.out.size))
        have HA12 := Lib.hid (HA11.out.after s12)
        have HB12 := Lib.hid (HB11.out.after s12)
        have HO12 := Lib.hid (own_tab_below HO11.out s12)
        have HP12 := Lib.hid (own_tab_below HP11.out s12)
        clear s12 hw12 hG12
        obtain ⟨k0, k1⟩ := HG12.out.two
        obtain ⟨k2, k3⟩ := HH12.out.two
        go_wp2_with (refine wpList_store_row rfl _ _ _ rfl w11.heap.size #[.slice A11 l11 c11, .slice D11 m d11] rfl rfl 29 _ hG size_tab rfl (one_tab _ _ _ _ _ _) ?_; rw [← HW12.out])
        refine (HI.out _ _ _ _ _ B12.out HO12.out.trd HP12.out.trd HFT.out HFU.out).mono ?_
        rintro e w13 ⟨rfl, hb13⟩
        have B13 := Lib.hid (B12.out.trans (hb13.mono B12.out.size))
        have HA13 := Lib.hid (HA12.out.after hb13)
        have HB13 := Lib.hid (HB12.out.after hb13)
        have HG13 := Lib.hid (HG12.out.after hb13)
        have HH13 := Lib.hid (HH12.out.after hb13)
        have HO13 := Lib.hid (own_tab_below HO12.out hb13)
        have HP13 := Lib.hid (own_tab_below HP12.out hb13)
        have HE13 := Lib.hid (fun W b t hv' rv' (hbW : Below w13.heap.size w13 W) (ob : OwnTab W b t hv' rv' h n f) => eqTable_same n _ b _ t h f _ _ hv' rv' W (HO13.out.below hbW) ob (by have := HFT.out.1; omega) (by have := HFT.out.2.2.1; omega) (fun i => by have := (HFT.out.2.2.2 i).1; omega))
        clear hb13 k0 k1 k2 k3 hG HO11 HO12 HP11 HP12 HA11 HB11 HA12 HB12 HG11 HG12 HH12
        obtain ⟨k0, k1⟩ := HA13.out.two
        obtain ⟨k2, k3⟩ := HG13.out.two
        go_wp2_with fail
        go_region_held3 (fun W => W.cell? ⟨w.heap.size, 0, none⟩ = some (.slice A hl c) ∧ W.cell? ⟨w.heap.size, 1, none⟩ = some (.slice B n d) ∧ W.cell? ⟨w9.heap.size, 0, none⟩ = some (.slice A9 l9 c9) ∧ W.cell? ⟨w9.heap.size, 1, none⟩ = some (.slice D9 n d9) ∧ w.heap.size < W.heap.size ∧ w9.heap.size < W.heap.size ∧ Below w13.heap.size w13 W)
          (first | exact tb_start HA13.out HG13.out | exact tb_below (by assumption) (by assumption))
          (first
            | (go_at_call 14; refine (HT.out _ _ _ _ _ _ HTA.out HFT.out (B13.out.trans ((tb_new (X := w13) (by assumption)).mono B13.out.size))).mono ?_; rintro e w14 ⟨hv14, rv14, rfl, ho14, hb14⟩)
            | (go_at_call 16; refine (HE13.out _ _ _ _ _ (tb_new (X := w13) (by assumption)) (by assumption)).mono ?_; rintro e w15 ⟨rfl, hb15⟩))
        all_goals
          have hx15 := tb_new (X := w13) (W := w15) (by assumption)
          have B15 := Lib.hid (B13.out.trans (hx15.mono B13.out.size))
          have HB15 := Lib.hid (HB13.out.after hx15)
          have HH15 := Lib.hid (HH13.out.after hx15)
          have HP15 := Lib.hid (own_tab_below HP13.out hx15)
          have HE15 := Lib.hid (fun W b t hv' rv' (hbW : Below w15.heap.size w15 W) (ob : OwnTab W b t hv' rv' h' m g) => eqTable_same m _ b _ t h' g _ _ hv' rv' W (HP15.out.below hbW) ob (by have := HFU.out.1; omega) (by have := HFU.out.2.2.1; omega) (fun i => by have := (HFU.out.2.2.2 i).1; omega))
          clear hx15 k0 k1 k2 k3
          obtain ⟨k0, k1⟩ := HB15.out.two
          obtain ⟨k2, k3⟩ := HH15.out.two
          go_wp2_with fail
          go_region_held3 (fun W => W.cell? ⟨w.heap.size + 1, 0, none⟩ = some (.slice A' hl' c') ∧ W.cell? ⟨w.heap.size + 1, 1, none⟩ = some (.slice B' m d') ∧ W.cell? ⟨w11.heap.size, 0, none⟩ = some (.slice A11 l11 c11) ∧ W.cell? ⟨w11.heap.size, 1, none⟩ = some (.slice D11 m d11) ∧ w.heap.size + 1 < W.heap.size ∧ w11.heap.size < W.heap.size ∧ Below w15.heap.size w15 W)
            (first | exact tb_start HB15.out HH15.out | exact tb_below (by assumption) (by assumption))
            (first
              | (go_at_call 14; refine (HT.out _ _ _ _ _ _ HTB.out HFU.out (B15.out.trans ((tb_new (X := w15) (by assumption)).mono B15.out.size))).mono ?_; rintro e w16 ⟨hv16, rv16, rfl, ho16, hb16⟩)
              | (go_at_call 16; refine (HE15.out _ _ _ _ _ (tb_new (X := w15) (by assumption)) (by assumption)).mono ?_; rintro e w17 ⟨rfl, hb17⟩))
          all_goals
            have B17 := Lib.hid (B15.out.trans ((tb_new (X := w15) (W := w17) (by assumption)).mono B15.out.size))
            go_wp2_with fail
            go_ret
            exact ⟨rfl, B17.out⟩
end Go.Proofs.Ytionfjofojfaoaa
