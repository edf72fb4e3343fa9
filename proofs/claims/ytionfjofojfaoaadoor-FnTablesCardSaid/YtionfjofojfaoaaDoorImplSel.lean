/- Columns that are selected: plain words; the program's SelectColumns. -/
import Derived.Test.YtionfjofojfaoaaDoorResT
import Derived.Test.YtionfjofojfaoaaDoorMemI
import Derived.Test.YtionfjofojfaoaaDoorImplCol
namespace Go.Proofs.YtionfjofojfaoaaDoor
open Go.RowKit
set_option linter.unusedVariables false

def pickB (r : List ByteArray) (ks : List Int) : List ByteArray := ks.map fun k => r.getD k.toNat ByteArray.empty
def inCols (h : List ByteArray) (ks : List Int) : Bool := ks.all fun k => decide (0 ≤ k ∧ k < (h.length : Int))
def selOk (h : List ByteArray) (n : Nat) (f : Nat → List ByteArray) (ks : List Int) : Bool := isTab h n f && decide (1 ≤ (ks.length : Int) ∧ (ks.length : Int) ≤ 8) && inCols h ks
def selH (h : List ByteArray) (n : Nat) (f : Nat → List ByteArray) (ks : List Int) : List ByteArray := if selOk h n f ks = true then pickB h ks else []
def selN (h : List ByteArray) (n : Nat) (f : Nat → List ByteArray) (ks : List Int) : Nat := if selOk h n f ks = true then n else 0
def selF (f : Nat → List ByteArray) (ks : List Int) (i : Nat) : List ByteArray := pickB (f i) ks
theorem inCols_no (h : List ByteArray) (ks : List Int) (p : Nat) (hp : p < ks.length) (hk : ¬ (0 ≤ ks[p] ∧ ks[p] < (h.length : Int))) : inCols h ks = false := by
  unfold inCols
  rw [List.all_eq_false]
  exact ⟨ks[p], List.getElem_mem _, by simpa using hk⟩
theorem inCols_yes (h : List ByteArray) (ks : List Int) (hk : ∀ p (hp : p < ks.length), 0 ≤ ks[p] ∧ ks[p] < (h.length : Int)) : inCols h ks = true := by
  unfold inCols
  rw [List.all_eq_true]
  intro x hx
  obtain ⟨p, hp, rfl⟩ := List.getElem_of_mem hx
  exact decide_eq_true (hk p hp)
theorem resT_zero (W : World) (base : Nat) (f : Nat → List ByteArray) : ResT W base (.slice none 0 0) (.slice none 0 0) [] 0 f := by
  refine ⟨[], rfl, ⟨none, 0, rfl⟩, fun W' _ => ⟨none, 0, rfl, fun h => by simp at h⟩, fun i u hu => ?_, fun i j u u' hij hi hj => ?_⟩
  · cases i with
    | zero => simp at hu; subst hu; exact World.ownsRow_nil _ _ _ _
    | succ i => simp at hu
  · cases i with
    | zero =>
      cases j with
      | zero => exact absurd rfl hij
      | succ j => simp at hj
    | succ i => simp at hi
/-- A table out of a list of rows: the first is the head. -/
theorem resT_rows {W : World} {base top g n cap : Nat} {G : Nat → List ByteArray} (h : OwnT W base top (.slice (some ⟨g, 0, none⟩) (1 + n) cap) (1 + n) G) :
    ∃ A l c, W.cell? ⟨g, 0, none⟩ = some (.slice A l c) ∧ ∀ B c', (0 < n → B = some ⟨g, 1, none⟩) → ResT W base (.slice A l c) (.slice B n c') (G 0) n (fun i => G (i + 1)) := by
  obtain ⟨vs, a, _, hr, hd⟩ := h
  have hvl := own_len a
  rcases a.2 with ⟨h0, _⟩ | ⟨g', cap', cur, hv, hb, hh, hn, hc, hs, ht⟩
  · simp at h0
  · simp only [Value.slice.injEq, Option.some.injEq, Addr.mk.injEq, and_true, true_and] at hv
    obtain ⟨rfl, rfl⟩ := hv
    obtain ⟨x, us, rfl⟩ : ∃ x us, vs = x :: us := by
      match vs, hvl with
      | x :: us, _ => exact ⟨x, us, rfl⟩
      | [], h => simp at h; omega
    have hul : us.length = n := by simp at hvl; omega
    have hcell : ∀ W', Keeps W W' 23 → ∀ (j : Nat) (u : Value), (x :: us)[j]? = some u → W'.cell? ⟨g, j, none⟩ = some u := by
      intro W' hk j u hu
      have hb' := hk g cur hh
      rw [cell_of_row W' g j cur _ _ hb']
      have hj := (List.getElem?_eq_some_iff.1 hu).1
      have : (cur.toList.take ((1 + n) * 1))[j]? = some u := by rw [ht]; exact hu
      rw [List.getElem?_take] at this
      rw [if_pos (by simp at hj; omega)] at this
      simpa using this
    obtain ⟨A, c, rfl, _⟩ := Rd.of_own (hr 0 x rfl).1
    refine ⟨A, _, c, hcell W (fun _ _ h => h) 0 _ rfl, fun B c' hB => ⟨us, hul, ⟨B, c', rfl⟩, fun W' hk => ⟨B, c', by rw [hul], fun h0 => ?_⟩, fun i u hu => ?_, hd⟩⟩
    · rw [hul] at h0
      refine ⟨g, 1, hB h0, ?_, fun j u hu => ?_⟩
      · exact (Array.getElem?_eq_some_iff.1 (hk g cur hh)).1
      · rw [Nat.add_comm]
        exact hcell W' hk (j + 1) u (by simpa using hu)
    · cases i with
      | zero => exact (hr 0 u hu).1
      | succ i => exact (hr (i + 1) u hu).1
theorem ResT.rebase {W : World} {base base' : Nat} {hv rv : Value} {h : List ByteArray} {n : Nat} {f : Nat → List ByteArray} (ho : ResT W base hv rv h n f) (hb : base' ≤ base) : ResT W base' hv rv h n f := by
  obtain ⟨us, h1, h2, h3, h4⟩ := ho
  exact ⟨us, h1, h2, h3, fun i u hu => own_base (h4.1 i u hu) hb, h4.2⟩
theorem OwnT.cap {W : World} {base top g n c : Nat} {f : Nat → List ByteArray} (h : OwnT W base top (.slice (some ⟨g, 0, none⟩) n c) n f) : n ≤ c ∧ c ≤ 9223372036854775807 := by
  obtain ⟨vs, a, _⟩ := h
  rcases a.2 with ⟨h0, _⟩ | ⟨g', cap', cur, hv, hb, hh, hn, hc, hs, ht⟩
  · simp at h0
  · simp only [Value.slice.injEq, Option.some.injEq, Addr.mk.injEq, and_true, true_and] at hv
    obtain ⟨rfl, rfl⟩ := hv
    exact ⟨hn, hc⟩
theorem leastT_full (h : List ByteArray) (n : Nat) (f : Nat → List ByteArray) (hr : ∀ i, i < n → (f i).length = h.length) : leastT (rowsA h f) (1 + n) = h.length := by
  refine leastT_same _ _ _ (fun i hi => ?_) (by omega)
  cases i with
  | zero => rfl
  | succ i => exact hr i (by omega)
/-- What the columns selected so far are. -/
def selC (F : Nat → List ByteArray) (m : Nat) (ks : List Int) (j : Nat) : List ByteArray := colT F m (ks.getD j 0).toNat
theorem colT_sel (F : Nat → List ByteArray) (m : Nat) (ks : List Int) (i : Nat) (hi : i < m) : colT (selC F m ks) ks.length i = pickB (F i) ks := by
  unfold colT pickB
  apply List.ext_getElem
  · simp
  · intro j h1 h2
    simp at h1 h2
    simp only [List.getElem_map, List.getElem_range]
    unfold selC
    rw [List.getD_eq_getElem?_getD (l := ks), List.getElem?_eq_getElem h2]
    simp only [Option.getD_some]
    have hl : i < (colT F m ks[j].toNat).length := by rw [colT_length]; exact hi
    rw [getD_col _ _ hl, colT_get F m _ i hi]
set_option maxRecDepth 100000 in
set_option maxHeartbeats 8000000 in
theorem implSelect (h : List ByteArray) (n : Nat) (f : Nat → List ByteArray) (hv rv lv : Value) (ks : List Int) (w : World) (hh : Rd w hv (strs h)) (hr : RdT w rv n f) (hs : SlcOk rv n) (hfit : TabFits h n f) (hk : Rd w lv (ints ks)) (hkl : ks.length ≤ 1048576) :
    Calls Tryd.prog 6 #[.agg #[hv, rv], lv] w fun e w' => ∃ hv' rv', e = .returned (.tuple #[.agg #[hv', rv'], .bool (selOk h n f ks)]) ∧ ResT w' w.heap.size hv' rv' (selH h n f ks) (selN h n f ks) (selF f ks) ∧ Below w.heap.size w w' := by
  obtain ⟨iR, hiR, hzR0, hzR1, hzR2⟩ := info_parts Tryd.infoRowTr
  have HIS := Lib.hid (fun W (hb : Below w.heap.size w W) => implIsTable h n f hv rv W (hh.below hb) (hr.below hb) hs hfit)
  have HHR := Lib.hid (fun W (hb : Below w.heap.size w W) => implHeadRows h n f hv rv W (hh.below hb) (hr.below hb) hs hfit.2.2.1)
  have HTR := Lib.hid (fun v W (x : RdT W v (1 + n) (rowsA h f)) => implTranspose (1 + n) (rowsA h f) v W x (by have := hfit.2.2.1; omega) (fun i => by
    cases i with
    | zero => have := hfit.1; show h.length ≤ _; omega
    | succ i => have := (hfit.2.2.2 i).1; show (f i).length ≤ _; omega))
  have HKR := Lib.hid (fun W (hb : Below w.heap.size w W) => hk.below hb)
  obtain ⟨A, c, rfl, _⟩ := hh
  obtain ⟨B, d, rfl⟩ := hr.slc
  obtain ⟨hl, hhl⟩ : ∃ k, k = (strs h).length := ⟨_, rfl⟩
  rw [← hhl] at HIS HHR ⊢
  obtain ⟨L, lc, rfl, hlc⟩ := hk
  rw [ints_length] at hlc HKR ⊢
  have HLC := Lib.hid hlc
  have hn1 : n ≤ 1048576 := hfit.2.2.1
  have s1 : Below (w.alloc (.cells #[.slice A hl c, .slice B n d] 26)).heap.size (w.alloc (.cells #[.slice A hl c, .slice B n d] 26)) ((w.alloc (.cells #[.slice A hl c, .slice B n d] 26)).alloc (.cells #[.slice none 0 0, .slice none 0 0] 26)) := (Below.refl _ _).alloc (Nat.le_refl _) _
  have hK0 := (Blk.new w 26 #[.slice A hl c, .slice B n d]).after s1
  have hK1 := Blk.new (w.alloc (.cells #[.slice A hl c, .slice B n d] 26)) 26 #[.slice none 0 0, .slice none 0 0]
  rw [show (w.alloc (.cells #[.slice A hl c, .slice B n d] 26)).heap.size = w.heap.size + 1 by simp] at hK1
  have B0 := Lib.hid (by go_grown : Below w.heap.size w ((w.alloc (.cells #[.slice A hl c, .slice B n d] 26)).alloc (.cells #[.slice none 0 0, .slice none 0 0] 26)))
  have HK0 := Lib.hid hK0
  have HK1 := Lib.hid hK1
  obtain ⟨k0, k1⟩ := hK0.two
  clear hhl hr hs hfit hK0 hK1 s1 hlc
  cases hit : isTab h n f with
  | false =>
    have HE : Hid (selOk h n f ks = false) := Lib.hid (by unfold selOk; rw [hit]; rfl)
    rw [hit] at HIS
    clear hit
    go_enter Tryd.func6, Tryd.ntmps6
    go_wp2_with fail
    refine (HIS.out _ B0.out).mono ?_
    rintro e w1 ⟨rfl, hb1⟩
    have B1 := Lib.hid (B0.out.trans (hb1.mono B0.out.size))
    have hK1' := HK1.out.after hb1
    have HK1' := Lib.hid hK1'
    clear hb1 k0 k1
    go_wp2_with (refine wpList_store_row rfl _ _ _ rfl (w.heap.size + 1) #[.slice none 0 0, .slice none 0 0] rfl rfl 26 _ hK1' size_tab rfl (one_tab _ _ _ _ _ _) ?_)
    obtain ⟨c0, c1⟩ := (HK1'.out.row (cs' := #[.slice none 0 0, .slice none 0 0])).two
    have B2 := below_row B1.out (g := w.heap.size + 1) (cs := #[.slice none 0 0, .slice none 0 0]) (by omega)
    refine bodyPost_ret (v := .tuple #[.agg #[.slice none 0 0, .slice none 0 0], .bool false]) (by simp [results, Tryd.results6, go_sem, c0, c1]) rfl ⟨_, _, by rw [HE.out], ?_, B2⟩
    rw [show selH h n f ks = [] by unfold selH; rw [HE.out, if_neg (by decide)], show selN h n f ks = 0 by unfold selN; rw [HE.out, if_neg (by decide)]]
    exact resT_zero _ _ _
  | true =>
    obtain ⟨hlen, hrows, hn60, _, _⟩ := isTab_facts hit
    have HZL := Lib.hid (leastT_full h n f hrows)
    have HOK : Hid (selOk h n f ks = (decide (1 ≤ (ks.length : Int) ∧ (ks.length : Int) ≤ 8) && inCols h ks)) := Lib.hid (by unfold selOk; rw [hit, Bool.true_and])
    rw [hit] at HIS
    clear hit hrows
    by_cases hcc : 1 ≤ (ks.length : Int) ∧ (ks.length : Int) ≤ 8
    · have HCC := Lib.hid (fun W => by have h := implColCount (ks.length : Int) W; rw [decide_eq_true hcc] at h; exact h)
      rw [decide_eq_true hcc, Bool.true_and] at HOK
      obtain ⟨hc1, hc8⟩ := hcc
      go_enter Tryd.func6, Tryd.ntmps6
      go_wp2_with fail
      refine (HIS.out _ B0.out).mono ?_
      rintro e w1 ⟨rfl, hb1⟩
      have B1 := Lib.hid (B0.out.trans (hb1.mono B0.out.size))
      have HK0' := Lib.hid (HK0.out.after hb1)
      have HK1' := Lib.hid (HK1.out.after hb1)
      clear hb1 k0 k1
      obtain ⟨k0, k1⟩ := HK0'.out.two
      go_wp2_with fail
      refine (HCC.out _).mono ?_
      rintro e w1b ⟨rfl, rfl⟩
      go_wp2_with fail
      refine (HHR.out _ B1.out).mono ?_
      rintro e w2 ⟨A2, c2, rfl, hr2, hb2⟩
      have B2 := Lib.hid (B1.out.trans (hb2.mono B1.out.size))
      have HK2 := Lib.hid (HK1'.out.after hb2)
      have HR2 := Lib.hid hr2
      clear hb2 hr2 k0 k1
      go_wp2_with fail
      refine (HTR.out _ _ HR2.out).mono ?_
      rintro e w3 ⟨v3, rfl, ho3, hb3⟩
      rw [HZL.out] at ho3
      have B3 := Lib.hid (B2.out.trans (hb3.mono B2.out.size))
      have HK3 := Lib.hid (HK2.out.after hb3)
      obtain ⟨go, co, _, rfl, -, hgo, -⟩ := ho3.row 0 (by omega)
      have HO3 := Lib.hid ho3
      have hb30 := B3.out.size
      clear hb3 ho3
      go_wp2_with fail
      go_loopw [7, 26] (fun v i wr => ∃ (p : Nat) (vs : List Value), p ≤ ks.length ∧ i = .int .i64 (p : Int) ∧ Hid (wr.ownsRow w3.heap.size 23 1 v p vs) ∧ Hid (∀ (j : Nat) (u : Value), vs[j]? = some u → Rd w3 u (strs (selC (rowsA h f) (1 + n) ks j))) ∧ Hid (∀ j (hj : j < ks.length), j < p → 0 ≤ ks[j] ∧ ks[j] < (h.length : Int)) ∧ Hid (Below w3.heap.size w3 wr)) (fun _ i _ => ks.length - (intOf i).toNat)
      case atStart => exact ⟨0, [], Nat.zero_le _, rfl, Lib.hid (World.ownsRow_nil _ _ _ _), Lib.hid (fun j u hu => by simp at hu), Lib.hid (fun j hj h0 => by omega), Lib.hid (Below.refl _ _)⟩
      case round =>
        obtain ⟨p, vs, hp, rfl, HOW, HRD, HIN, HBE⟩ := hrel
        obtain ⟨Ap, cp, rfl⟩ : ∃ A c, u7 = .slice A p c := by
          obtain ⟨A, c, h, _⟩ := Rd.of_own HOW.out
          exact ⟨A, c, by rw [h, own_len HOW.out]⟩
        have HBW := Lib.hid (B3.out.trans (HBE.out.mono hb30))
        have hbs := HBE.out.size
        by_cases hlt : p < ks.length
        · obtain ⟨gl, ol, rfl, hgl, hlcell⟩ := HLC.out (by omega)
          have hcl := (HBW.out.cell (p := ⟨gl, ol + p, none⟩) hgl).trans (hlcell p _ (ints_get ks p hlt))
          clear hlcell
          by_cases hin : 0 ≤ ks[p] ∧ ks[p] < (h.length : Int)
          · obtain ⟨kN, hkN⟩ : ∃ kN : Nat, ks[p] = (kN : Int) := ⟨ks[p].toNat, by omega⟩
            have HIN1 : Hid (∀ j (hj : j < ks.length), j < p + 1 → 0 ≤ ks[j] ∧ ks[j] < (h.length : Int)) := Lib.hid (fun j hj h1 => by
              rcases Nat.lt_or_ge j p with h2 | h2
              · exact HIN.out j hj h2
              · obtain rfl : j = p := by omega
                exact hin)
            have hkh : kN < h.length := by omega
            have hkh2 : (kN : Int) < (h.length : Int) := by omega
            obtain ⟨go', co', u, he, hcu, hgo', hru⟩ := HO3.out.row kN hkh
            simp at he
            obtain ⟨rfl, rfl⟩ := he
            have hcu := (HBE.out.cell (p := ⟨go, kN, none⟩) hgo').trans hcu
            have HSC : Hid (selC (rowsA h f) (1 + n) ks p = colT (rowsA h f) (1 + n) kN) := Lib.hid (by
              unfold selC
              rw [List.getD_eq_getElem?_getD, List.getElem?_eq_getElem hlt, Option.getD_some, hkN]
              rfl)
            rw [hkN] at hcl
            have HRU := Lib.hid hru
            obtain ⟨Au, cu, rfl, _⟩ := hru
            obtain ⟨lu, hlu⟩ : ∃ l, l = (strs (colT (rowsA h f) (1 + n) kN)).length := ⟨_, rfl⟩
            rw [← hlu] at hcu HRU
            clear hin hkN hlu
            go_wp2_with (at_builtin; refine append_el rfl _ _ 24 rfl w3.heap.size 23 iR _ 1 24 Tryd.underlying24 hiR hzR0 hzR1 hzR2 rfl (by decide) (.slice Ap p cp) _ _ rfl wr #[.slice Au lu cu] rfl rfl (row_oneT _ _ _) HOW.out (by omega) (by omega) hbs ?_; intro v1 w7 ho1 hg1 _; have HO7 := Lib.hid ho1; have HG7 := Lib.hid hg1; clear ho1 hg1)
            have HB7 : Hid (Below w3.heap.size w3 w7) := Lib.hid (HBE.out.grown HG7.out hbs (fun j hj => (World.ownsRow.lt HOW.out j hj).1))
            have HRD7 : Hid (∀ (j : Nat) (u : Value), (vs ++ [.slice Au lu cu])[j]? = some u → Rd w3 u (strs (selC (rowsA h f) (1 + n) ks j))) := Lib.hid (by
              have hvl := own_len HOW.out
              intro j u hu
              rcases Nat.lt_or_ge j p with h2 | h2
              · rw [List.getElem?_append_left (by omega)] at hu
                exact HRD.out j u hu
              · have hj := (List.getElem?_eq_some_iff.1 hu).1
                simp at hj
                obtain rfl : j = p := by omega
                rw [List.getElem?_append_right (by omega)] at hu
                simp [hvl] at hu
                subst hu
                rw [HSC.out]
                exact HRU.out)
            go_roundw
            case rel => exact ⟨p + 1, vs ++ [.slice Au lu cu], by omega, by go_num, HO7, HRD7, HIN1, HB7⟩
            case measure => simp [intOf]; omega
          · have HE : Hid (selOk h n f ks = false) := Lib.hid (by rw [HOK.out]; exact inCols_no h ks p hlt hin)
            have HK4 := Lib.hid (HK3.out.below HBE.out HK3.out.lt)
            have hx2 : ks[p] < 0 ∨ (0 ≤ ks[p] ∧ (h.length : Int) ≤ ks[p]) := by omega
            obtain ⟨x, hx⟩ : ∃ x, x = ks[p] := ⟨_, rfl⟩
            rw [← hx] at hcl hx2
            clear hin hx
            rcases hx2 with hx2 | ⟨hx2, hx3⟩
            · have hK4 := HK4.out
              go_wp2_with (refine wpList_store_row rfl _ _ _ rfl (w.heap.size + 1) #[.slice none 0 0, .slice none 0 0] rfl rfl 26 _ hK4 size_tab rfl (one_tab _ _ _ _ _ _) ?_)
              obtain ⟨c0, c1⟩ := (Blk.row hK4 (cs' := #[.slice none 0 0, .slice none 0 0])).two
              have B9 := below_row HBW.out (g := w.heap.size + 1) (cs := #[.slice none 0 0, .slice none 0 0]) (by omega)
              refine bodyPost_ret (v := .tuple #[.agg #[.slice none 0 0, .slice none 0 0], .bool false]) (by simp [results, Tryd.results6, go_sem, c0, c1]) rfl ⟨_, _, by rw [HE.out], ?_, B9⟩
              rw [show selH h n f ks = [] by unfold selH; rw [HE.out, if_neg (by decide)], show selN h n f ks = 0 by unfold selN; rw [HE.out, if_neg (by decide)]]
              exact resT_zero _ _ _
            · have hK4 := HK4.out
              go_wp2_with (refine wpList_store_row rfl _ _ _ rfl (w.heap.size + 1) #[.slice none 0 0, .slice none 0 0] rfl rfl 26 _ hK4 size_tab rfl (one_tab _ _ _ _ _ _) ?_)
              obtain ⟨c0, c1⟩ := (Blk.row hK4 (cs' := #[.slice none 0 0, .slice none 0 0])).two
              have B9 := below_row HBW.out (g := w.heap.size + 1) (cs := #[.slice none 0 0, .slice none 0 0]) (by omega)
              refine bodyPost_ret (v := .tuple #[.agg #[.slice none 0 0, .slice none 0 0], .bool false]) (by simp [results, Tryd.results6, go_sem, c0, c1]) rfl ⟨_, _, by rw [HE.out], ?_, B9⟩
              rw [show selH h n f ks = [] by unfold selH; rw [HE.out, if_neg (by decide)], show selN h n f ks = 0 by unfold selN; rw [HE.out, if_neg (by decide)]]
              exact resT_zero _ _ _
        · obtain rfl : p = ks.length := by omega
          have HE : Hid (selOk h n f ks = true) := Lib.hid (by rw [HOK.out]; exact inCols_yes h ks (fun j hj => HIN.out j hj hj))
          have hrt := rdT_vals (f := selC (rowsA h f) (1 + n) ks) HOW.out (fun i u hu => (HRD.out i u hu).below HBE.out)
          have HT2 := Lib.hid (implTranspose ks.length (selC (rowsA h f) (1 + n) ks) _ wr hrt (by omega) (fun i => by unfold selC; rw [colT_length]; omega))
          have HL2 := Lib.hid (leastT_same (selC (rowsA h f) (1 + n) ks) (1 + n) ks.length (fun i _ => by unfold selC; rw [colT_length]) (by omega))
          clear hrt
          go_wp2_with fail
          refine HT2.out.mono ?_
          rintro e w5 ⟨v5, rfl, ho5, hb5⟩
          rw [HL2.out] at ho5
          have B5 := Lib.hid (HBW.out.trans (hb5.mono (by omega)))
          have HK5 := Lib.hid ((HK3.out.below HBE.out HK3.out.lt).after hb5)
          obtain ⟨g5, c5, _, rfl, -, hg5, -⟩ := ho5.row 0 (by omega)
          obtain ⟨A6, l6, c6, hc6, hres⟩ := resT_rows ho5
          have HRES := Lib.hid hres
          obtain ⟨hcap, hcap2⟩ := ho5.cap
          obtain ⟨r0, r1⟩ := HK5.out.two
          have f0 := HK5.out.free 0
          have f1 := HK5.out.free 1
          clear hres ho5 hb5
          by_cases hc1 : c5 = 1
          · subst hc1
            obtain rfl : n = 0 := by omega
            go_wp2_with fail
            go_region
            all_goals
              go_wp2_with fail
              have hb1 := HK5.out.set 0 (.slice A6 l6 c6)
              have hb2 := hb1.set 1 (.slice (some ⟨g5, 0, none⟩) 0 0)
              simp at hb2
              have hbd : Blk ((w5.setCell ⟨w.heap.size + 1, 0, none⟩ (.slice A6 l6 c6)).setCell ⟨w.heap.size + 1, 1, none⟩ (.slice (some ⟨g5, 0, none⟩) 0 0)).drew (w.heap.size + 1) 26 #[.slice A6 l6 c6, .slice (some ⟨g5, 0, none⟩) 0 0] := hb2
              obtain ⟨e0, e1⟩ := hbd.two
              have hR := (HRES.out (some ⟨g5, 0, none⟩) 0 (fun h0 => by omega)).same (h' := selH h 0 f ks) (f' := selF f ks) (by unfold selH; rw [HE.out, if_pos rfl, colT_sel _ _ _ _ (by omega)]; rfl) (fun i hi => by rw [colT_sel _ _ _ _ (by omega)]; rfl)
              have hS : ∀ e, 26 ≠ e → Keeps w5 ((w5.setCell ⟨w.heap.size + 1, 0, none⟩ (.slice A6 l6 c6)).setCell ⟨w.heap.size + 1, 1, none⟩ (.slice (some ⟨g5, 0, none⟩) 0 0)).drew e := fun e he => ((Keeps.blk HK5.out he (grown_set _ _ _ _)).trans (Keeps.blk hb1 he (grown_set _ _ _ _))).trans (fun _ _ h => h)
              have hR2 := (hR.keep (hS _ (by decide)) (hS _ (by decide))).rebase HBW.out.size
              have hB9 : Below w.heap.size w ((w5.setCell ⟨w.heap.size + 1, 0, none⟩ (.slice A6 l6 c6)).setCell ⟨w.heap.size + 1, 1, none⟩ (.slice (some ⟨g5, 0, none⟩) 0 0)).drew := ((B5.out.setCell (p := ⟨w.heap.size + 1, 0, none⟩) (show w.heap.size ≤ w.heap.size + 1 by omega) _).setCell (p := ⟨w.heap.size + 1, 1, none⟩) (show w.heap.size ≤ w.heap.size + 1 by omega) _).drew
              exact bodyPost_ret (v := .tuple #[.agg #[.slice A6 l6 c6, .slice (some ⟨g5, 0, none⟩) 0 0], .bool true]) (by simp [results, Tryd.results6, go_sem, e0, e1]) rfl ⟨_, _, by rw [HE.out], by rw [show selN h 0 f ks = 0 by unfold selN; rw [HE.out, if_pos rfl]]; exact hR2, hB9⟩
          · have hc2 : (1 : Int) < (c5 : Int) := by omega
            go_wp2_with fail
            go_region
            all_goals
              go_wp2_with fail
              have hb1 := HK5.out.set 0 (.slice A6 l6 c6)
              have hb2 := hb1.set 1 (.slice (some ⟨g5, 1, none⟩) n (c5 - 1))
              simp at hb2
              have hbd : Blk ((w5.setCell ⟨w.heap.size + 1, 0, none⟩ (.slice A6 l6 c6)).setCell ⟨w.heap.size + 1, 1, none⟩ (.slice (some ⟨g5, 1, none⟩) n (c5 - 1))).drew (w.heap.size + 1) 26 #[.slice A6 l6 c6, .slice (some ⟨g5, 1, none⟩) n (c5 - 1)] := hb2
              obtain ⟨e0, e1⟩ := hbd.two
              have hR := (HRES.out (some ⟨g5, 1, none⟩) (c5 - 1) (fun _ => rfl)).same (h' := selH h n f ks) (f' := selF f ks) (by unfold selH; rw [HE.out, if_pos rfl, colT_sel _ _ _ _ (by omega)]; rfl) (fun i hi => by rw [colT_sel _ _ _ _ (by omega)]; rfl)
              have hS : ∀ e, 26 ≠ e → Keeps w5 ((w5.setCell ⟨w.heap.size + 1, 0, none⟩ (.slice A6 l6 c6)).setCell ⟨w.heap.size + 1, 1, none⟩ (.slice (some ⟨g5, 1, none⟩) n (c5 - 1))).drew e := fun e he => ((Keeps.blk HK5.out he (grown_set _ _ _ _)).trans (Keeps.blk hb1 he (grown_set _ _ _ _))).trans (fun _ _ h => h)
              have hR2 := (hR.keep (hS _ (by decide)) (hS _ (by decide))).rebase HBW.out.size
              have hB9 : Below w.heap.size w ((w5.setCell ⟨w.heap.size + 1, 0, none⟩ (.slice A6 l6 c6)).setCell ⟨w.heap.size + 1, 1, none⟩ (.slice (some ⟨g5, 1, none⟩) n (c5 - 1))).drew := ((B5.out.setCell (p := ⟨w.heap.size + 1, 0, none⟩) (show w.heap.size ≤ w.heap.size + 1 by omega) _).setCell (p := ⟨w.heap.size + 1, 1, none⟩) (show w.heap.size ≤ w.heap.size + 1 by omega) _).drew
              exact bodyPost_ret (v := .tuple #[.agg #[.slice A6 l6 c6, .slice (some ⟨g5, 1, none⟩) n (c5 - 1)], .bool true]) (by simp [results, Tryd.results6, go_sem, e0, e1]) rfl ⟨_, _, by rw [HE.out], by rw [show selN h n f ks = n by unfold selN; rw [HE.out, if_pos rfl]]; exact hR2, hB9⟩
    · have HE : Hid (selOk h n f ks = false) := Lib.hid (by rw [HOK.out, decide_eq_false hcc, Bool.false_and])
      have HCC := Lib.hid (fun W => by have h := implColCount (ks.length : Int) W; rw [decide_eq_false hcc] at h; exact h)
      clear hcc HOK
      go_enter Tryd.func6, Tryd.ntmps6
      go_wp2_with fail
      refine (HIS.out _ B0.out).mono ?_
      rintro e w1 ⟨rfl, hb1⟩
      have B1 := Lib.hid (B0.out.trans (hb1.mono B0.out.size))
      have hK1' := HK1.out.after hb1
      clear hb1 k0 k1
      go_wp2_with fail
      refine (HCC.out _).mono ?_
      rintro e w1b ⟨rfl, rfl⟩
      go_wp2_with (refine wpList_store_row rfl _ _ _ rfl (w.heap.size + 1) #[.slice none 0 0, .slice none 0 0] rfl rfl 26 _ hK1' size_tab rfl (one_tab _ _ _ _ _ _) ?_)
      obtain ⟨c0, c1⟩ := (Blk.row hK1' (cs' := #[.slice none 0 0, .slice none 0 0])).two
      have B9 := below_row B1.out (g := w.heap.size + 1) (cs := #[.slice none 0 0, .slice none 0 0]) (by omega)
      refine bodyPost_ret (v := .tuple #[.agg #[.slice none 0 0, .slice none 0 0], .bool false]) (by simp [results, Tryd.results6, go_sem, c0, c1]) rfl ⟨_, _, by rw [HE.out], ?_, B9⟩
      rw [show selH h n f ks = [] by unfold selH; rw [HE.out, if_neg (by decide)], show selN h n f ks = 0 by unfold selN; rw [HE.out, if_neg (by decide)]]
      exact resT_zero _ _ _
end Go.Proofs.YtionfjofojfaoaaDoor
