/- The program's TransposeRows and ColumnOf. -/
import Derived.Test.YtionfjofojfaoaaDoorCols
import Derived.Test.YtionfjofojfaoaaDoorImplTab
namespace Go.Proofs.YtionfjofojfaoaaDoor
open Go.RowKit Go.Shelf
set_option linter.unusedVariables false
attribute [local go_sem] Oper.semAt_some

theorem Calm.own {B : Nat} {W W' : World} {base : Nat} {e : TypeId} {size : Nat} {v : Value} {n : Nat} {xs : List Value} (h : Calm B W W') (ho : W.ownsRow base e size v n xs) : W'.ownsRow base e size v n xs := own_keeps ho (h.keeps _)
theorem Calm.blk {B : Nat} {W W' : World} {g : Nat} {T : TypeId} {cs : Array Value} (h : Calm B W W') (hb : Blk W g T cs) : Blk W' g T cs := Blk.keeps hb (h.keeps _)
/-- Rows that a call owns, of which one knows where they end. -/
def OwnRs (W : World) (base : Nat) (vs : List Value) (f : Nat → List ByteArray) : Prop := (∀ (i : Nat) (u : Value), vs[i]? = some u → W.ownsRow base 9 1 u (f i).length (strs (f i))) ∧ Distinct vs
theorem OwnRs.snoc {W0 W' : World} {base : Nat} {vs : List Value} {u : Value} {n : Nat} {f : Nat → List ByteArray} (h : OwnRs W0 base vs f) (hl : vs.length = n) (hs : Keeps W0 W' 9) (hu : W'.ownsRow W0.heap.size 9 1 u (f n).length (strs (f n))) (hb : base ≤ W0.heap.size) : OwnRs W' base (vs ++ [u]) f := by
  obtain ⟨h3, h4⟩ := h
  refine ⟨fun i x hx => ?_, h4.snoc fun j x hx => ?_⟩
  · rcases Nat.lt_or_ge i n with hi | hi
    · rw [List.getElem?_append_left (by omega)] at hx
      exact own_keeps (h3 i x hx) hs
    · rw [List.getElem?_append_right (by omega)] at hx
      have hi0 : i - vs.length = 0 := by
        have := (List.getElem?_eq_some_iff.1 hx).1
        simp at this
        omega
      rw [hi0] at hx
      simp at hx
      subst hx
      obtain rfl : i = n := by omega
      exact own_base hu hb
  · cases hxb : x.ownBlock with
    | none => exact .inl rfl
    | some k =>
      refine .inr fun he => ?_
      have e1 := (World.ownsRow.lt (h3 j x hx) k hxb).2
      have e2 := (World.ownsRow.lt hu k he.symm).1
      omega
theorem OwnRs.calm {B : Nat} {W W' : World} {base : Nat} {vs : List Value} {f : Nat → List ByteArray} (h : OwnRs W base vs f) (hc : Calm B W W') : OwnRs W' base vs f := ⟨fun i u hu => hc.own (h.1 i u hu), h.2⟩
theorem ownT_of {W : World} {base n : Nat} {v : Value} {vs : List Value} {f : Nat → List ByteArray} (ho : W.ownsRow base 23 1 v n vs) (h : OwnRs W base vs f) : OwnT W base W.heap.size v n f :=
  ⟨vs, ho, fun k hk => (World.ownsRow.lt ho k hk).2, fun i u hu => ⟨h.1 i u hu, fun k hk => (World.ownsRow.lt (h.1 i u hu) k hk).2⟩, h.2⟩
theorem RdT.calm {B : Nat} {W W' : World} {v : Value} {n : Nat} {f : Nat → List ByteArray} {b : Nat} {w : World} (h : RdT w v n f) (hb : Below w.heap.size w W) (hc : Calm B W W') (hB : w.heap.size ≤ B) : RdT W' v n f := h.below (hc.below hb hB (Nat.le_refl _))
theorem Tryd.infoRowTr : (Tryd.prog.info? 23).map (fun i => (i.zero, i.size, i.bytes)) = some (some (.slice none 0 0), 1, 24) := by kernel_rfl
/-- Between two rounds of TransposeRows: the columns so far. -/
def TraAt (w : World) (rv : Value) (m : Nat) (f : Nat → List ByteArray) (k : Nat) (W : World) : Prop :=
  ∃ v vs, Blk W w.heap.size 24 #[v] ∧ Blk W (w.heap.size + 1) 24 #[rv] ∧ W.ownsRow w.heap.size 23 1 v k vs ∧ OwnRs W w.heap.size vs (colT f m) ∧ Below w.heap.size w W
theorem TraAt.calm {w : World} {rv : Value} {m k B : Nat} {f : Nat → List ByteArray} {W W' : World} (h : TraAt w rv m f k W) (hc : Calm B W W') (hB : w.heap.size ≤ B) : TraAt w rv m f k W' := by
  obtain ⟨v, vs, h1, h2, h3, h4, h5⟩ := h
  exact ⟨v, vs, hc.blk h1, hc.blk h2, hc.own h3, h4.calm hc, hc.below h5 hB (Nat.le_refl _)⟩
set_option maxRecDepth 100000 in
set_option maxHeartbeats 4000000 in
theorem implTranspose (m : Nat) (f : Nat → List ByteArray) (rv : Value) (w : World) (hr : RdT w rv m f) (hm : m ≤ 4194304) (hf : ∀ i, (f i).length ≤ 4194304) :
    Calls Tryd.prog 7 #[rv] w fun e w' => ∃ v, e = .returned v ∧ OwnT w' w.heap.size w'.heap.size v (leastT f m) (colT f m) ∧ Below w.heap.size w w' := by
  have HG := Lib.hid (colsGive (w.heap.size + 1) rv m f hm hf)
  have HR0 := Lib.hid (fun W (hb : Below w.heap.size w W) => hr.below hb)
  have hlz : leastT f m ≤ 4194304 := by
    rcases Nat.eq_zero_or_pos m with rfl | h0
    · exact Nat.zero_le _
    · exact Nat.le_trans (leastT_le f m 0 h0) (hf 0)
  obtain ⟨B, d, rfl⟩ := hr.slc
  obtain ⟨iR, hiR, hzR0, hzR1, hzR2⟩ := info_parts Tryd.infoRowTr
  have hB0 : Below w.heap.size w ((w.alloc (.cells #[.slice none 0 0] 24)).alloc (.cells #[.slice B m d] 24)) := by go_grown
  have hK0 := (Blk.new w 24 #[.slice none 0 0]).after ((Below.refl _ _).alloc (Nat.le_refl _) (.cells #[.slice B m d] 24))
  have hK1 := Blk.new (w.alloc (.cells #[.slice none 0 0] 24)) 24 #[.slice B m d]
  rw [show (w.alloc (.cells #[.slice none 0 0] 24)).heap.size = w.heap.size + 1 by simp] at hK1
  have H0 : Hid (TraAt w (.slice B m d) m f 0 ((w.alloc (.cells #[.slice none 0 0] 24)).alloc (.cells #[.slice B m d] 24))) := Lib.hid ⟨_, [], hK0, hK1, World.ownsRow_nil _ _ _ _, ⟨fun i u hu => by simp at hu, Distinct.nil⟩, hB0⟩
  clear hr hf hB0 hK0 hK1
  refine (callsIn_wide (n := 0)).1 ?_
  refine callsIn_of_wp_marks Tryd.func7 rfl trivial ?_ rfl
  simp only [Tryd.ntmps7, List.size_toArray, List.length_cons, List.length_nil, Nat.reduceAdd, Nat.reduceSub, Array.replicate_succ, Array.replicate_zero, List.push_toArray, List.append_toArray, List.nil_append, List.cons_append]
  gi_wp2_with fail
  refine ⟨trivial, rfl, (inWide (implColumns B m d _)).mono ?_⟩
  rintro e w1 ⟨rfl, rfl⟩
  gi_wp2_with fail
  refine wp_range (gf := 51) (lb := #[.pointer (some ⟨w.heap.size + 1, 0, none⟩)]) rfl (enters_of Tryd.func51 (by kernel_rfl) rfl) HG.out rfl
    (TraAt w (.slice B m d) m f) (fun _ _ => False) (fun k X Y h hc => h.calm hc (by simp; omega)) (fun _ _ _ h _ => h) (fun k u X Y Z h hc => h.calm hc)
    (fun k X h => ?rd) H0.out
    (fun k u => { tmps := #[.slice B m d, undef, .slice none 0 0, .pointer (some ⟨w.heap.size, 0, none⟩), undef, u, .slice B m d, .func (.func 51) #[] #[.pointer (some ⟨w.heap.size + 1, 0, none⟩)], .int .i64 (k : Int), u, undef, undef, undef, undef, undef], defers := [] }) ?assign ?body ?done ?stop
  case rd =>
    obtain ⟨v, vs, h1, h2, h3, h4, h5⟩ := h
    exact ⟨h2.cell 0, h2.lt, HR0.out _ h5⟩
  case assign =>
    intro l k u W K hK
    gi_wp2
    exact hK
  case body =>
    rintro l k u W0 W hk hI hc ⟨g, rfl, hu, hm0⟩
    obtain ⟨v, vs, h1, h2, h3, h4, h5⟩ := hI
    have hvl := own_len h3
    have hb0 := h5.size
    have hcl : w.heap.size ≤ ((w.alloc (.cells #[.slice none 0 0] 24)).alloc (.cells #[.slice B m d] 24)).heap.size := by simp; omega
    have h1W := hc.blk h1
    have h2W := hc.blk h2
    have h3W := hc.own h3
    have h5W := hc.below h5 hcl (Nat.le_refl _)
    have hbW := h5W.size
    have c0 := h1W.cell 0
    simp at c0
    have H1 := Lib.hid h1W
    have H2 := Lib.hid h2W
    have H3 := Lib.hid h3W
    have H4 := Lib.hid h4
    have H5 := Lib.hid h5W
    have HU := Lib.hid hu
    have HVL := Lib.hid hvl
    have HKC := Lib.hid (hc.keeps 9)
    clear h1 h2 h3 h4 h5 h1W h2W h3W h5W hu hvl hc hcl
    gi_wp2_with (gi_at_builtin; refine wpListIn_append_own _ rfl _ _ 24 rfl w.heap.size 23 iR (.slice none 0 0) 1 24 Tryd.underlying24 hiR hzR0 hzR1 hzR2 rfl (by decide) _ _ _ rfl (H3.out.alloc _) ⟨W.heap.size, 0, none⟩ 1 1 [.slice (some ⟨g, 0, none⟩) m m] rfl rfl (cell_one_new _ _ _) (by simp [Value.oneCell']) (by unfold maxLen; omega) (by omega) (by simp; omega) ?_; intro v' w1 hown' hgrow _; obtain ⟨g', cap', rfl, _⟩ := own_cells hown' (by omega); have HO := Lib.hid hown'; have HGR := Lib.hid (grown_trans (World.grownBy_alloc W _ v.ownBlock) hgrow); have HK := Lib.hid ((KeepsOthers.alloc W (.cells #[.slice (some ⟨g, 0, none⟩) m m] 23)).trans (KeepsOthers.grownRow (H3.out.alloc _) hgrow)); have hb1 := Blk.grows H1.out H3.out (by decide) HGR.out; have HB1 := Lib.hid hb1; have c1 := hb1.cell 0; have f1 := hb1.free 0; clear hown' hgrow hb1; simp at c1)
    have HBX : Hid (Blk (w1.setCell ⟨w.heap.size, 0, none⟩ (.slice (some ⟨g', 0, none⟩) (k + 1) cap')) w.heap.size 24 #[.slice (some ⟨g', 0, none⟩) (k + 1) cap']) := Lib.hid (HB1.out.set 0 _)
    have hS : ∀ e, 24 ≠ e → Keeps w1 (w1.setCell ⟨w.heap.size, 0, none⟩ (.slice (some ⟨g', 0, none⟩) (k + 1) cap')) e := fun e he => Keeps.blk HB1.out he (grown_set _ _ _ _)
    have hG : ∀ e, 23 ≠ e → Keeps W w1 e := fun e he => Keeps.grown H3.out he HGR.out
    have hWs : Keeps W (w1.setCell ⟨w.heap.size, 0, none⟩ (.slice (some ⟨g', 0, none⟩) (k + 1) cap')) 9 := (hG _ (by decide)).trans (hS _ (by decide))
    refine ⟨HK.out.trans (KeepsOthers.setCell _ _ _), _, vs ++ [.slice (some ⟨g, 0, none⟩) m m], HBX.out, ?_, own_keeps HO.out (hS _ (by decide)), ?_, ?_⟩
    · exact (Blk.keeps H2.out (hG _ (by decide))).other (by omega)
    · exact H4.out.snoc HVL.out (HKC.out.trans hWs) (by rw [colT_length]; exact own_keeps HU.out hWs) hb0
    · exact (H5.out.grown HGR.out hbW (fun q hq => (World.ownsRow.lt H3.out q hq).1)).setCell (Nat.le_refl _) _
  case done =>
    rintro D W hD ⟨v, vs, h1, h2, h3, h4, h5⟩ hK
    have c0 := h1.cell 0
    simp at c0
    have H3 := Lib.hid h3
    have H4 := Lib.hid h4
    have H5 := Lib.hid h5
    have HK := Lib.hid hK
    clear h1 h2 h3 h4 h5 hK
    gi_wp2
    refine ⟨by simp, .inl ⟨_, _, rfl, run_takeDeferred HK.out, ?_⟩⟩
    have hcp : Calm D W (W.putObj D (.deferred none)) := Calm.put _ (Nat.le_refl _) HK.out rfl
    have hDw : w.heap.size ≤ D := by simp at hD; omega
    exact ⟨_, results_tmp rfl _ _ _, v, rfl, ownT_of (hcp.own H3.out) (H4.out.calm hcp), hcp.below H5.out hDw (Nat.le_refl _)⟩
  case stop =>
    rintro D c W _ h _
    exact h.elim
end Go.Proofs.YtionfjofojfaoaaDoor
