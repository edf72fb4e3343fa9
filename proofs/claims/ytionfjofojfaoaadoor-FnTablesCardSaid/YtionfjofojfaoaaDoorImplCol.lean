/- The program's ColumnOf. -/
import Derived.Test.YtionfjofojfaoaaDoorImplTra
namespace Go.Proofs.YtionfjofojfaoaaDoor
open Go.RowKit Go.Shelf
set_option linter.unusedVariables false
attribute [local go_sem] Oper.semAt_some

theorem isTab_facts {h : List ByteArray} {n : Nat} {f : Nat → List ByteArray} (ht : isTab h n f = true) :
    (1 ≤ h.length ∧ h.length ≤ 8) ∧ (∀ i, i < n → (f i).length = h.length) ∧ n ≤ 60 ∧ badRow h = false ∧ ∀ i, i < n → badRow (f i) = false := by
  unfold isTab at ht
  rw [decide_eq_true_eq] at ht
  unfold tabCode at ht
  split at ht
  · omega
  · rename_i h1
    split at ht
    · omega
    · rename_i h2
      split at ht
      · omega
      · rename_i h3
        split at ht
        · omega
        · rename_i h4
          have hw : anyR (wrongRow h.length) f n = false := by
            cases hc : anyR (wrongRow h.length) f n with
            | false => rfl
            | true => exact absurd hc h2
          have hb : badRow h = false := by
            cases hc : badRow h with
            | false => rfl
            | true => exact absurd (.inl hc) h3
          have hr : anyR badRow f n = false := by
            cases hc : anyR badRow f n with
            | false => rfl
            | true => exact absurd (.inr hc) h3
          refine ⟨by omega, fun i hi => ?_, by omega, hb, anyR_no _ _ _ hr⟩
          have := anyR_no _ _ _ hw i hi
          unfold wrongRow at this
          rw [decide_eq_false_iff_not] at this
          omega
theorem minTo_same (f : Nat → List ByteArray) (z m : Nat) (h : ∀ i, i < m → (f i).length = z) (h0 : 0 < m) : ∀ k, k ≤ m → minTo f k = z := by
  intro k
  induction k with
  | zero => intro _; exact h 0 h0
  | succ k ih =>
    intro hk
    rw [minTo, ih (by omega), h k (by omega)]
    omega
theorem leastT_same (f : Nat → List ByteArray) (z m : Nat) (h : ∀ i, i < m → (f i).length = z) (h0 : 0 < m) : leastT f m = z := by
  unfold leastT
  rw [if_neg (by omega)]
  exact minTo_same f z m h h0 m (Nat.le_refl _)
/-- Column k of a table, if it has one. -/
def colOf (h : List ByteArray) (n : Nat) (f : Nat → List ByteArray) (k : Int) : List ByteArray := if isTab h n f = true ∧ 0 ≤ k ∧ k < (h.length : Int) then colT f n k.toNat else []
theorem colT_nil (f : Nat → List ByteArray) (k : Nat) : colT f 0 k = [] := rfl
/-- Between two rounds of ColumnOf. -/
def ColAt (w : World) (b : Nat) (rv : Value) (kk : Int) (k : Nat) (W : World) : Prop :=
  Blk W (w.heap.size + 1 + 1) 23 #[.slice none 0 0] ∧ Blk W (w.heap.size + 1) 3 #[.int .i64 kk] ∧ Blk W b 24 #[rv] ∧ Below w.heap.size w W ∧ ¬ (0 ≤ kk ∧ kk < (k : Int))
def ColOut (w : World) (f : Nat → List ByteArray) (n z : Nat) (kk : Int) (c : Code) (W : World) : Prop :=
  c = .ret ∧ ∃ u, Blk W (w.heap.size + 1 + 1) 23 #[u] ∧ W.ownsRow w.heap.size 9 1 u n (strs (colT f n kk.toNat)) ∧ Below w.heap.size w W ∧ 0 ≤ kk ∧ kk < (z : Int)
set_option maxRecDepth 100000 in
set_option maxHeartbeats 4000000 in
theorem implColumnOf (h : List ByteArray) (n : Nat) (f : Nat → List ByteArray) (hv rv : Value) (kk : Int) (w : World) (hh : Rd w hv (strs h)) (hr : RdT w rv n f) (hs : SlcOk rv n) (hfit : TabFits h n f) :
    Calls Tryd.prog 12 #[.agg #[hv, rv], .int .i64 kk] w fun e w' => ∃ v, e = .returned v ∧ w'.ownsRow w.heap.size 9 1 v (colOf h n f kk).length (strs (colOf h n f kk)) ∧ Below w.heap.size w w' := by
  have HIS := Lib.hid (fun W (hb : Below w.heap.size w W) => implIsTable h n f hv rv W (hh.below hb) (hr.below hb) hs hfit)
  have HGV := Lib.hid (fun b => colsGive b rv n f (by have := hfit.2.2.1; omega) (fun i => by have := (hfit.2.2.2 i).1; omega))
  have HR0 := Lib.hid (fun W (hb : Below w.heap.size w W) => hr.below hb)
  obtain ⟨A, c, rfl, _⟩ := hh
  obtain ⟨B, d, rfl⟩ := hr.slc
  obtain ⟨hl, hhl⟩ : ∃ k, k = (strs h).length := ⟨_, rfl⟩
  rw [← hhl] at HIS ⊢
  have s1 : Below (w.alloc (.cells #[.slice A hl c, .slice B n d] 26)).heap.size (w.alloc (.cells #[.slice A hl c, .slice B n d] 26)) (((w.alloc (.cells #[.slice A hl c, .slice B n d] 26)).alloc (.cells #[.int .i64 kk] 3)).alloc (.cells #[.slice none 0 0] 23)) := ((Below.refl _ _).alloc (Nat.le_refl _) _).alloc (by simp) _
  have hK0 := (Blk.new w 26 #[.slice A hl c, .slice B n d]).after s1
  have hK1 := (Blk.new (w.alloc (.cells #[.slice A hl c, .slice B n d] 26)) 3 #[.int .i64 kk]).after ((Below.refl _ _).alloc (Nat.le_refl _) (.cells #[.slice none 0 0] 23))
  rw [show (w.alloc (.cells #[.slice A hl c, .slice B n d] 26)).heap.size = w.heap.size + 1 by simp] at hK1
  have hK2 := Blk.new ((w.alloc (.cells #[.slice A hl c, .slice B n d] 26)).alloc (.cells #[.int .i64 kk] 3)) 23 #[.slice none 0 0]
  rw [show ((w.alloc (.cells #[.slice A hl c, .slice B n d] 26)).alloc (.cells #[.int .i64 kk] 3)).heap.size = w.heap.size + 1 + 1 by simp] at hK2
  have B0 := Lib.hid (by go_grown : Below w.heap.size w (((w.alloc (.cells #[.slice A hl c, .slice B n d] 26)).alloc (.cells #[.int .i64 kk] 3)).alloc (.cells #[.slice none 0 0] 23)))
  have HK0 := Lib.hid hK0
  have HK1 := Lib.hid hK1
  have HK2 := Lib.hid hK2
  obtain ⟨k0, k1⟩ := hK0.two
  clear hhl hr hs hfit hK0 hK1 hK2 s1
  refine (callsIn_wide (n := 0)).1 ?_
  refine callsIn_of_wp_marks Tryd.func12 rfl trivial ?_ rfl
  simp only [Tryd.ntmps12, List.size_toArray, List.length_cons, List.length_nil, Nat.reduceAdd, Nat.reduceSub, Array.replicate_succ, Array.replicate_zero, List.push_toArray, List.append_toArray, List.nil_append, List.cons_append]
  gi_wp2_with fail
  refine ⟨trivial, rfl, (inWide (HIS.out _ B0.out)).mono ?_⟩
  rintro e w1 ⟨rfl, hb1⟩
  have B1 := Lib.hid (B0.out.trans (hb1.mono B0.out.size))
  have hK0' := HK0.out.after hb1
  have HK1' := Lib.hid (HK1.out.after hb1)
  have hK2' := HK2.out.after hb1
  have HK2' := Lib.hid hK2'
  clear hb1 k0 k1
  obtain ⟨k0, k1⟩ := hK0'.two
  have r0 := hK2'.cell 0
  have f0 := hK2'.free 0
  simp at r0
  cases hit : isTab h n f with
  | false =>
    have HE : Hid (colOf h n f kk = []) := Lib.hid (by unfold colOf; rw [if_neg (by rw [hit]; exact fun hh => by cases hh.1)])
    clear hit hK2' hK0'
    gi_wp2_with fail
    have z0 := (HK2'.out.set 0 (.slice none 0 0)).cell 0
    simp at z0
    refine ⟨.slice none 0 0, by simp [results, Tryd.results12, go_sem, z0], .slice none 0 0, rfl, by rw [HE.out]; exact World.ownsRow_nil _ _ _ _, B1.out.setCell (p := ⟨w.heap.size + 1 + 1, 0, none⟩) (show w.heap.size ≤ w.heap.size + 1 + 1 by omega) _⟩
  | true =>
    obtain ⟨hlen, hrows, hn60, _, _⟩ := isTab_facts hit
    have HCO : Hid (colOf h n f kk = if 0 ≤ kk ∧ kk < (h.length : Int) then colT f n kk.toNat else []) := Lib.hid (by
      unfold colOf
      by_cases h1 : 0 ≤ kk ∧ kk < (h.length : Int)
      · rw [if_pos h1, if_pos ⟨hit, h1⟩]
      · rw [if_neg h1, if_neg (fun hh => h1 hh.2)])
    have HZ : Hid (∀ z, z = leastT f n → (¬ (0 ≤ kk ∧ kk < (z : Int)) → colOf h n f kk = []) ∧ (0 ≤ kk ∧ kk < (z : Int) → colOf h n f kk = colT f n kk.toNat)) := Lib.hid (by
      intro z hz
      rw [HCO.out]
      rcases Nat.eq_zero_or_pos n with h0 | h0
      · subst h0
        rw [colT_nil]
        exact ⟨fun _ => by split <;> rfl, fun _ => by split <;> rfl⟩
      · have hzl : z = h.length := by rw [hz]; exact leastT_same f _ n hrows h0
        subst hzl
        exact ⟨fun hne => if_neg hne, fun hp => if_pos hp⟩)
    have s2 : Below w1.heap.size w1 (w1.alloc (.cells #[.slice B n d] 24)) := (Below.refl _ _).alloc (Nat.le_refl _) _
    have H0 : Hid (ColAt w w1.heap.size (.slice B n d) kk 0 (w1.alloc (.cells #[.slice B n d] 24))) := Lib.hid ⟨HK2'.out.after s2, HK1'.out.after s2, Blk.new _ _ _, B1.out.trans (s2.mono B1.out.size), by omega⟩
    have hGV := HGV.out w1.heap.size
    have HZZ := Lib.hid (HZ.out _ rfl)
    have hB1 := B1.out.size
    obtain ⟨z, hz⟩ : ∃ z, z = leastT f n := ⟨_, rfl⟩
    rw [← hz] at hGV HZZ
    have HGG := Lib.hid hGV
    clear hit hK2' hK0' hlen hrows hn60 HCO HZ hGV hz s2
    gi_wp2_with fail
    refine ⟨trivial, rfl, (inWide (implColumns B n d _)).mono ?_⟩
    rintro e w2 ⟨rfl, rfl⟩
    gi_wp2_with fail
    refine wp_range (gf := 51) (lb := #[.pointer (some ⟨w1.heap.size, 0, none⟩)]) rfl (enters_of Tryd.func51 (by kernel_rfl) rfl) HGG.out rfl
      (ColAt w w1.heap.size (.slice B n d) kk) (ColOut w f n z kk) (fun k X Y h hc => ?calm) (fun c X Y h hc => ?calmx) (fun k u X Y Z h hc => h.calm hc) (fun k X h => ⟨h.2.2.1.cell 0, h.2.2.1.lt, HR0.out _ h.2.2.2.1⟩) H0.out
      (fun k u => { tmps := #[.agg #[.slice A hl c, .slice B n d], .int .i64 kk, .pointer (some ⟨w.heap.size, 0, none⟩), .pointer (some ⟨w.heap.size + 1, 0, none⟩), .pointer (some ⟨w.heap.size + 1 + 1, 0, none⟩), .int .i64 (k : Int), u, .agg #[.slice A hl c, .slice B n d], .bool true, .bool false, .pointer (some ⟨w.heap.size, 1, none⟩), .slice B n d, .func (.func 51) #[] #[.pointer (some ⟨w1.heap.size, 0, none⟩)], .int .i64 (k : Int), u, undef, undef, undef, undef], defers := [] }) ?assign ?body ?done ?stop
    case calm =>
      obtain ⟨h1, h2, h3, h4, h5⟩ := h
      exact ⟨hc.blk h1, hc.blk h2, hc.blk h3, hc.below h4 (by simp; omega) (Nat.le_refl _), h5⟩
    case calmx =>
      obtain ⟨h0, u, h1, h2, h3, h4⟩ := h
      exact ⟨h0, u, hc.blk h1, hc.own h2, hc.below h3 (by simp; omega) (Nat.le_refl _), h4⟩
    case assign =>
      intro l k u W K hK
      gi_wp2
      exact hK
    case body =>
      rintro l k u W0 W hk hI hc ⟨g, rfl, hu, hm0⟩
      obtain ⟨h1, h2, h3, h4, h5⟩ := hI
      have h0s := h4.size
      have h1W := hc.blk h1
      have h2W := hc.blk h2
      have h3W := hc.blk h3
      have h4W := hc.below h4 (by simp; omega) (Nat.le_refl _)
      have k1 := h2W.cell 0
      have r0 := h1W.cell 0
      have f0 := h1W.free 0
      simp at k1 r0
      have HU := Lib.hid (own_base hu h0s)
      have H1 := Lib.hid h1W
      have H2 := Lib.hid h2W
      have H3 := Lib.hid h3W
      have H4 := Lib.hid h4W
      clear h1 h2 h3 h4 h1W h2W h3W h4W hu hc
      by_cases he : (k : Int) = kk
      · have HOUT : Hid (ColOut w f n z kk .ret (W.setCell ⟨w.heap.size + 1 + 1, 0, none⟩ (.slice (some ⟨g, 0, none⟩) n n))) := Lib.hid ⟨rfl, _, H1.out.set 0 _, by
          rw [show kk.toNat = k by omega]
          exact own_keeps HU.out (Keeps.blk H1.out (by decide) (grown_set _ _ _ _)), H4.out.setCell (p := ⟨w.heap.size + 1 + 1, 0, none⟩) (show w.heap.size ≤ w.heap.size + 1 + 1 by omega) _, by omega, by omega⟩
        subst he
        gi_wp2_with fail
        exact ⟨KeepsOthers.setCell _ _ _, HOUT.out⟩
      · have HN : Hid (ColAt w w1.heap.size (.slice B n d) kk (k + 1) W) := Lib.hid ⟨H1.out, H2.out, H3.out, H4.out, by omega⟩
        gi_wp2_with fail
        exact ⟨KeepsOthers.refl _, HN.out⟩
    case done =>
      rintro D W hD ⟨h1, h2, h3, h4, h5⟩ hK
      have r0 := h1.cell 0
      have f0 := h1.free 0
      simp at r0
      have H1 := Lib.hid h1
      have H4 := Lib.hid h4
      have HK := Lib.hid hK
      have HE := Lib.hid (HZZ.out.1 h5)
      have hDw : w.heap.size + 1 + 1 + 1 ≤ D := by
        have := H1.out.lt
        simp at hD
        have hx := B1.out.size
        have := HK2'.out.lt
        omega
      clear h1 h2 h3 h4 h5 hK
      gi_wp2
      have hK2 : (W.setCell ⟨w.heap.size + 1 + 1, 0, none⟩ (.slice none 0 0)).heap[D]? = some (.deferred (some [])) := (KeepsOthers.setCell W ⟨w.heap.size + 1 + 1, 0, none⟩ (.slice none 0 0)).same D _ HK.out rfl
      refine ⟨by simp, .inl ⟨_, _, rfl, run_takeDeferred hK2, ?_⟩⟩
      have hcp : Calm D (W.setCell ⟨w.heap.size + 1 + 1, 0, none⟩ (.slice none 0 0)) ((W.setCell ⟨w.heap.size + 1 + 1, 0, none⟩ (.slice none 0 0)).putObj D (.deferred none)) := Calm.put _ (Nat.le_refl _) hK2 rfl
      have z0 := (hcp.blk (H1.out.set 0 (.slice none 0 0))).cell 0
      simp at z0
      exact ⟨.slice none 0 0, by simp [results, Tryd.results12, go_sem, z0], .slice none 0 0, rfl, by rw [HE.out]; exact World.ownsRow_nil _ _ _ _, hcp.below (H4.out.setCell (p := ⟨w.heap.size + 1 + 1, 0, none⟩) (show w.heap.size ≤ w.heap.size + 1 + 1 by omega) _) (by omega) (Nat.le_refl _)⟩
    case stop =>
      rintro D cc W hD ⟨rfl, u, h1, h2, h3, h4⟩ hK
      have HE := Lib.hid (HZZ.out.2 h4)
      have H1 := Lib.hid h1
      have H2 := Lib.hid h2
      have H3 := Lib.hid h3
      have HK := Lib.hid hK
      have hDw : w.heap.size ≤ D := by simp at hD; omega
      clear h1 h2 h3 h4 hK
      gi_wp2
      refine ⟨by simp, .inl ⟨_, _, rfl, run_takeDeferred HK.out, ?_⟩⟩
      have hcp : Calm D W (W.putObj D (.deferred none)) := Calm.put _ (Nat.le_refl _) HK.out rfl
      have z0 := (hcp.blk H1.out).cell 0
      simp at z0
      exact ⟨u, by simp [results, Tryd.results12, go_sem, z0], u, rfl, by rw [HE.out, colT_length]; exact hcp.own H2.out, hcp.below H3.out hDw (Nat.le_refl _)⟩
end Go.Proofs.YtionfjofojfaoaaDoor
