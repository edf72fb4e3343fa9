/- The exact laws on TableCode and IsTable, over contracts. -/
import Derived.Test.YtionfjofojfaoaaTabT
import Derived.Test.YtionfjofojfaoaaCellT
import Derived.Deep.RegionHeld3
namespace Go.Proofs.Ytionfjofojfaoaa
open Go.RowKit
set_option linter.unusedVariables false

def anyR (p : List ByteArray → Bool) (f : Nat → List ByteArray) : Nat → Bool
  | 0 => false
  | j + 1 => anyR p f j || p (f j)
theorem anyR_no (p : List ByteArray → Bool) (f : Nat → List ByteArray) (n : Nat) (h : anyR p f n = false) : ∀ i, i < n → p (f i) = false := by
  induction n with
  | zero => intro i hi; omega
  | succ n ih =>
    rw [anyR, Bool.or_eq_false_iff] at h
    intro i hi
    rcases Nat.lt_or_ge i n with h1 | h1
    · exact ih h.1 i h1
    · obtain rfl : i = n := by omega
      exact h.2
theorem anyR_yes (p : List ByteArray → Bool) (f : Nat → List ByteArray) (n i : Nat) (hi : i < n) (h : p (f i) = true) : anyR p f n = true := by
  cases hc : anyR p f n with
  | true => rfl
  | false => rw [anyR_no p f n hc i hi] at h; cases h
theorem anyR_none (p : List ByteArray → Bool) (f : Nat → List ByteArray) (n : Nat) (h : ∀ i, i < n → p (f i) = false) : anyR p f n = false := by
  induction n with
  | zero => rfl
  | succ n ih => rw [anyR, ih (fun i hi => h i (by omega)), h n (by omega)]; rfl
def badRow (r : List ByteArray) : Bool := r.any fun s => !cellB s
def wrongRow (z : Nat) (r : List ByteArray) : Bool := decide (r.length ≠ z)
/-- What the code of a table is. -/
def tabCode (h : List ByteArray) (n : Nat) (f : Nat → List ByteArray) : Int :=
  if h.length < 1 ∨ 8 < h.length then 1 else if anyR (wrongRow h.length) f n = true then 1 else if badRow h = true ∨ anyR badRow f n = true then 2 else if 60 < n then 3 else 0
def isTab (h : List ByteArray) (n : Nat) (f : Nat → List ByteArray) : Bool := decide (tabCode h n f = 0)
/-- A table within the reach; no rows behind the last. -/
def TabFits (h : List ByteArray) (n : Nat) (f : Nat → List ByteArray) : Prop :=
  h.length ≤ 1048576 ∧ (∀ x ∈ h, x.size ≤ 1048576) ∧ n ≤ 1048576 ∧ ∀ i, (f i).length ≤ 1048576 ∧ ∀ x ∈ f i, x.size ≤ 1048576
theorem tab_fits {h : List ByteArray} {n : Nat} {f : Nat → List ByteArray} (hz : 0 ≤ szTab h n f 1048576) (he : ∀ i, n ≤ i → f i = []) : TabFits h n f := by
  unfold szTab at hz
  split at hz
  · omega
  · rename_i h1
    split at hz
    · omega
    · rename_i h2
      have a := szL_le h 1048576 (by omega)
      have a2 := szL_up h 1048576 (by omega)
      have b := szT_le n f _ (by omega : 0 ≤ szT n f (szL h 1048576))
      refine ⟨by omega, fun x hx => ?_, by omega, fun i => ?_⟩
      · have := tot_mem h x hx
        omega
      · rcases Nat.lt_or_ge i n with hi | hi
        · have c := totT_row f n i hi
          refine ⟨by omega, fun x hx => ?_⟩
          have := tot_mem (f i) x hx
          omega
        · rw [he i hi]
          exact ⟨by simp, fun x hx => by cases hx⟩
def TabS (X : World) (A B : Nat) (a0 a1 b0 b1 : Value) (W : World) : Prop :=
  W.cell? ⟨A, 0, none⟩ = some a0 ∧ W.cell? ⟨A, 1, none⟩ = some a1 ∧ W.cell? ⟨B, 0, none⟩ = some b0 ∧ W.cell? ⟨B, 1, none⟩ = some b1 ∧ A < W.heap.size ∧ B < W.heap.size ∧ Below X.heap.size X W
theorem tb_start {X : World} {A B : Nat} {T U : TypeId} {a0 a1 b0 b1 : Value} (ha : Blk X A T #[a0, a1]) (hb : Blk X B U #[b0, b1]) :
    X.drew.cell? ⟨A, 0, none⟩ = some a0 ∧ X.drew.cell? ⟨A, 1, none⟩ = some a1 ∧ X.drew.cell? ⟨B, 0, none⟩ = some b0 ∧ X.drew.cell? ⟨B, 1, none⟩ = some b1 ∧ A < X.drew.heap.size ∧ B < X.drew.heap.size ∧ Below X.heap.size X X.drew :=
  ⟨ha.cell 0, ha.cell 1, hb.cell 0, hb.cell 1, ha.lt, hb.lt, below_drewN (Below.refl _ _) 1⟩
theorem tb_below {X W W' : World} {A B : Nat} {a0 a1 b0 b1 : Value} (hb : Below W.heap.size W W')
    (h : W.cell? ⟨A, 0, none⟩ = some a0 ∧ W.cell? ⟨A, 1, none⟩ = some a1 ∧ W.cell? ⟨B, 0, none⟩ = some b0 ∧ W.cell? ⟨B, 1, none⟩ = some b1 ∧ A < W.heap.size ∧ B < W.heap.size ∧ Below X.heap.size X W) :
    W'.cell? ⟨A, 0, none⟩ = some a0 ∧ W'.cell? ⟨A, 1, none⟩ = some a1 ∧ W'.cell? ⟨B, 0, none⟩ = some b0 ∧ W'.cell? ⟨B, 1, none⟩ = some b1 ∧ A < W'.heap.size ∧ B < W'.heap.size ∧ Below X.heap.size X W' := by
  obtain ⟨h0, h1, h2, h3, s1, s2, hx⟩ := h
  have hs := hb.size
  exact ⟨(hb.cell (p := ⟨A, 0, none⟩) s1).trans h0, (hb.cell (p := ⟨A, 1, none⟩) s1).trans h1, (hb.cell (p := ⟨B, 0, none⟩) s2).trans h2, (hb.cell (p := ⟨B, 1, none⟩) s2).trans h3, by omega, by omega, hx.trans (hb.mono hx.size)⟩
theorem tb_new {X W : World} {A B : Nat} {a0 a1 b0 b1 : Value} (h : W.cell? ⟨A, 0, none⟩ = some a0 ∧ W.cell? ⟨A, 1, none⟩ = some a1 ∧ W.cell? ⟨B, 0, none⟩ = some b0 ∧ W.cell? ⟨B, 1, none⟩ = some b1 ∧ A < W.heap.size ∧ B < W.heap.size ∧ Below X.heap.size X W) : Below X.heap.size X W := h.2.2.2.2.2.2
set_option maxRecDepth 100000 in
set_option maxHeartbeats 4000000 in
theorem tableCode_law (w : World) (h : List ByteArray) (n : Nat) (f : Nat → List ByteArray) (hv rv : Value) (hh : Rd w hv (strs h)) (hr : RdT w rv n f) (hm : h.length ≤ 9223372036854775807) (hx : ∀ x ∈ h, x.size ≤ 9223372036854775807)
    (hn : n ≤ 9223372036854775807) (hf : ∀ i, i < n → (f i).length ≤ 9223372036854775807 ∧ ∀ x ∈ f i, x.size ≤ 9223372036854775807) (he : ∀ i, n ≤ i → f i = [])
    (hS : ∀ W b hv rv, Below w.heap.size w W → OwnTab W b W.heap.size hv rv h n f → TabFits h n f → Calls Try.prog 13 #[.agg #[hv, rv]] W fun e w' => e = .returned (.int .i64 (tabCode h n f)) ∧ Below W.heap.size W w')
    (hI : ∀ W b hv rv, Below w.heap.size w W → OwnTab W b W.heap.size hv rv h n f → TabFits h n f → Calls Try.prog 15 #[.agg #[hv, rv]] W fun e w' => e = .returned (.int .i64 (tabCode h n f)) ∧ Below W.heap.size W w') :
    Calls Try.prog 4 #[.agg #[hv, rv]] w fun e w' => e = .returned (.bool true) ∧ Below w.heap.size w w' := by
  have HL := Lib.hid (fun W (hb : Below w.heap.size w W) => szTable_any h n f 1048576 hv rv W (hh.below hb) (hr.below hb) (by omega) (by omega) hm hx hn hf)
  have HTF := Lib.hid (fun (hz : 0 ≤ szTab h n f 1048576) => tab_fits hz he)
  have HT := Lib.hid (fun (hz : TabFits h n f) W (hb : Below w.heap.size w W) => toTable_any h n f hv rv W (hh.below hb) (hr.below hb) hz.1 hz.2.2.1 (fun i _ => (hz.2.2.2 i).1))
  have HS := Lib.hid hS
  have HI := Lib.hid hI
  obtain ⟨A, c, rfl, _⟩ := hh
  obtain ⟨B, d, rfl⟩ := hr.slc
  obtain ⟨hl, hhl⟩ : ∃ k, k = (strs h).length := ⟨_, rfl⟩
  rw [← hhl] at HL HT ⊢
  obtain ⟨r, hre⟩ : ∃ r, r = szTab h n f 1048576 := ⟨_, rfl⟩
  rw [← hre] at HL HTF
  obtain ⟨q, hq⟩ : ∃ q, q = tabCode h n f := ⟨_, rfl⟩
  rw [← hq] at HS HI
  clear hhl hre hr hm hx hn hf he hS hI hq
  have HA := Lib.hid (Blk.new w 26 #[.slice A hl c, .slice B n d])
  have B0 := Lib.hid (by go_grown : Below w.heap.size w (w.alloc (.cells #[.slice A hl c, .slice B n d] 26)))
  obtain ⟨a0, a1⟩ := HA.out.two
  go_enter Try.func4, Try.ntmps4
  go_wp2_with fail
  refine (HL.out _ B0.out).mono ?_
  rintro e w1 ⟨rfl, hb1⟩
  have B1 := Lib.hid (B0.out.trans (hb1.mono B0.out.size))
  have HA1 := Lib.hid (HA.out.after hb1)
  clear hb1 a0 a1
  by_cases hneg : r < 0
  · go_wp2_with fail
    go_ret
    exact ⟨rfl, B1.out⟩
  · have hfit := HTF.out (by omega)
    have HFT := Lib.hid hfit
    have HTT := Lib.hid (HT.out hfit)
    clear hfit HT HTF
    obtain ⟨a0, a1⟩ := HA1.out.two
    go_wp2_with fail
    refine (HTT.out _ B1.out).mono ?_
    rintro e w2 ⟨hv2, rv2, rfl, ho2, hb2⟩
    have B2 := Lib.hid (B1.out.trans (hb2.mono B1.out.size))
    have HA2 := Lib.hid (HA1.out.after hb2)
    have HO2 := Lib.hid ho2
    clear hb2 a0 a1 ho2
    go_wp2_with fail
    refine (HS.out _ _ _ _ B2.out HO2.out HFT.out).mono ?_
    rintro e w3 ⟨rfl, hb3⟩
    have B3 := Lib.hid (B2.out.trans (hb3.mono B2.out.size))
    have HA3 := Lib.hid (HA2.out.after hb3)
    clear hb3 HO2
    obtain ⟨a0, a1⟩ := HA3.out.two
    go_wp2_with fail
    refine (HTT.out _ B3.out).mono ?_
    rintro e w4 ⟨hv4, rv4, rfl, ho4, hb4⟩
    have B4 := Lib.hid (B3.out.trans (hb4.mono B3.out.size))
    have HA4 := Lib.hid (HA3.out.after hb4)
    have HO4 := Lib.hid ho4
    obtain ⟨A4, c4, rfl, _⟩ := Rd.of_own ho4.head
    obtain ⟨D4, d4, rfl⟩ := ho4.rows.len
    obtain ⟨l4, hl4⟩ : ∃ k, k = (strs h).length := ⟨_, rfl⟩
    rw [← hl4] at HO4 ⊢
    clear hb4 a0 a1 ho4 hl4
    have hG := Blk.new w4 29 #[.slice none 0 0, .slice none 0 0]
    have HG5 := Lib.hid (hG.row (cs' := #[.slice A4 l4 c4, .slice D4 n d4]))
    have s5 : Below w4.heap.size w4 ((w4.alloc (.cells #[.slice none 0 0, .slice none 0 0] 29)).setRow w4.heap.size #[.slice A4 l4 c4, .slice D4 n d4]) := below_row ((Below.refl w4.heap.size w4).alloc (Nat.le_refl _) _) (Nat.le_refl _)
    have B5 := Lib.hid (B4.out.trans (s5.mono B4.out.size))
    have HA5 := Lib.hid (HA4.out.after s5)
    have HO5 := Lib.hid ((HO4.out.below s5).retop s5.size)
    clear s5
    go_wp2_with (refine wpList_store_row rfl _ _ _ rfl w4.heap.size #[.slice A4 l4 c4, .slice D4 n d4] rfl rfl 29 _ hG size_tab rfl (one_tab _ _ _ _ _ _) ?_; obtain ⟨g0, g1⟩ := HG5.out.two)
    refine (HI.out _ _ _ _ B5.out HO5.out HFT.out).mono ?_
    rintro e w6 ⟨rfl, hb6⟩
    have B6 := Lib.hid (B5.out.trans (hb6.mono B5.out.size))
    have HA6 := Lib.hid (HA5.out.after hb6)
    have HG6 := Lib.hid (HG5.out.after hb6)
    have HO6 := Lib.hid ((HO5.out.below hb6).retop hb6.size)
    have HEQ := Lib.hid (fun W b t hv' rv' (hbW : Below w6.heap.size w6 W) (ob : OwnTab W b t hv' rv' h n f) => eqTable_same n _ b _ t h f _ _ hv' rv' W (HO6.out.below hbW) ob (by have := HFT.out.1; omega) (by have := HFT.out.2.2.1; omega) (fun i => by have := (HFT.out.2.2.2 i).1; omega))
    clear hb6 g0 g1 hG HG5 HO5 HO4
    obtain ⟨a0, a1⟩ := HA6.out.two
    obtain ⟨g0, g1⟩ := HG6.out.two
    go_wp2_with fail
    go_region_held3 (fun W => W.cell? ⟨w.heap.size, 0, none⟩ = some (.slice A hl c) ∧ W.cell? ⟨w.heap.size, 1, none⟩ = some (.slice B n d) ∧ W.cell? ⟨w4.heap.size, 0, none⟩ = some (.slice A4 l4 c4) ∧ W.cell? ⟨w4.heap.size, 1, none⟩ = some (.slice D4 n d4) ∧ w.heap.size < W.heap.size ∧ w4.heap.size < W.heap.size ∧ Below w6.heap.size w6 W)
      (first | exact tb_start HA6.out HG6.out | exact tb_below (by assumption) (by assumption))
      (first
        | (go_at_call 14; refine (HTT.out _ (B6.out.trans ((tb_new (X := w6) (by assumption)).mono B6.out.size))).mono ?_; rintro e w7 ⟨hv7, rv7, rfl, ho7, hb7⟩)
        | (go_at_call 16; refine (HEQ.out _ _ _ _ _ (tb_new (X := w6) (by assumption)) (by assumption)).mono ?_; rintro e w8 ⟨rfl, hb8⟩))
    all_goals
      have B9 := Lib.hid (B6.out.trans ((tb_new (X := w6) (by assumption)).mono B6.out.size))
      go_wp2_with fail
      go_ret
      exact ⟨rfl, B9.out⟩
set_option maxRecDepth 100000 in
set_option maxHeartbeats 4000000 in
theorem isTable_law (w : World) (h : List ByteArray) (n : Nat) (f : Nat → List ByteArray) (hv rv : Value) (hh : Rd w hv (strs h)) (hr : RdT w rv n f) (hm : h.length ≤ 9223372036854775807) (hx : ∀ x ∈ h, x.size ≤ 9223372036854775807)
    (hn : n ≤ 9223372036854775807) (hf : ∀ i, i < n → (f i).length ≤ 9223372036854775807 ∧ ∀ x ∈ f i, x.size ≤ 9223372036854775807) (he : ∀ i, n ≤ i → f i = [])
    (hS : ∀ W b hv rv, Below w.heap.size w W → OwnTab W b W.heap.size hv rv h n f → TabFits h n f → Calls Try.prog 17 #[.agg #[hv, rv]] W fun e w' => e = .returned (.bool (isTab h n f)) ∧ Below W.heap.size W w')
    (hI : ∀ W b hv rv, Below w.heap.size w W → OwnTab W b W.heap.size hv rv h n f → TabFits h n f → Calls Try.prog 18 #[.agg #[hv, rv]] W fun e w' => e = .returned (.bool (isTab h n f)) ∧ Below W.heap.size W w') :
    Calls Try.prog 5 #[.agg #[hv, rv]] w fun e w' => e = .returned (.bool true) ∧ Below w.heap.size w w' := by
  have HL := Lib.hid (fun W (hb : Below w.heap.size w W) => szTable_any h n f 1048576 hv rv W (hh.below hb) (hr.below hb) (by omega) (by omega) hm hx hn hf)
  have HTF := Lib.hid (fun (hz : 0 ≤ szTab h n f 1048576) => tab_fits hz he)
  have HT := Lib.hid (fun (hz : TabFits h n f) W (hb : Below w.heap.size w W) => toTable_any h n f hv rv W (hh.below hb) (hr.below hb) hz.1 hz.2.2.1 (fun i _ => (hz.2.2.2 i).1))
  have HS := Lib.hid hS
  have HI := Lib.hid hI
  obtain ⟨A, c, rfl, _⟩ := hh
  obtain ⟨B, d, rfl⟩ := hr.slc
  obtain ⟨hl, hhl⟩ : ∃ k, k = (strs h).length := ⟨_, rfl⟩
  rw [← hhl] at HL HT ⊢
  obtain ⟨r, hre⟩ : ∃ r, r = szTab h n f 1048576 := ⟨_, rfl⟩
  rw [← hre] at HL HTF
  obtain ⟨q, hq⟩ : ∃ q, q = isTab h n f := ⟨_, rfl⟩
  rw [← hq] at HS HI
  have hqq : (q != q) = false := by cases q <;> rfl
  clear hhl hre hr hm hx hn hf he hS hI hq
  have HA := Lib.hid (Blk.new w 26 #[.slice A hl c, .slice B n d])
  have B0 := Lib.hid (by go_grown : Below w.heap.size w (w.alloc (.cells #[.slice A hl c, .slice B n d] 26)))
  obtain ⟨a0, a1⟩ := HA.out.two
  go_enter Try.func5, Try.ntmps5
  go_wp2_with fail
  refine (HL.out _ B0.out).mono ?_
  rintro e w1 ⟨rfl, hb1⟩
  have B1 := Lib.hid (B0.out.trans (hb1.mono B0.out.size))
  have HA1 := Lib.hid (HA.out.after hb1)
  clear hb1 a0 a1
  by_cases hneg : r < 0
  · go_wp2_with fail
    go_ret
    exact ⟨rfl, B1.out⟩
  · have hfit := HTF.out (by omega)
    have HFT := Lib.hid hfit
    have HTT := Lib.hid (HT.out hfit)
    clear hfit HT HTF
    obtain ⟨a0, a1⟩ := HA1.out.two
    go_wp2_with fail
    refine (HTT.out _ B1.out).mono ?_
    rintro e w2 ⟨hv2, rv2, rfl, ho2, hb2⟩
    have B2 := Lib.hid (B1.out.trans (hb2.mono B1.out.size))
    have HA2 := Lib.hid (HA1.out.after hb2)
    have HO2 := Lib.hid ho2
    clear hb2 a0 a1 ho2
    go_wp2_with fail
    refine (HS.out _ _ _ _ B2.out HO2.out HFT.out).mono ?_
    rintro e w3 ⟨rfl, hb3⟩
    have B3 := Lib.hid (B2.out.trans (hb3.mono B2.out.size))
    have HA3 := Lib.hid (HA2.out.after hb3)
    clear hb3 HO2
    obtain ⟨a0, a1⟩ := HA3.out.two
    go_wp2_with fail
    refine (HTT.out _ B3.out).mono ?_
    rintro e w4 ⟨hv4, rv4, rfl, ho4, hb4⟩
    have B4 := Lib.hid (B3.out.trans (hb4.mono B3.out.size))
    have HA4 := Lib.hid (HA3.out.after hb4)
    have HO4 := Lib.hid ho4
    obtain ⟨A4, c4, rfl, _⟩ := Rd.of_own ho4.head
    obtain ⟨D4, d4, rfl⟩ := ho4.rows.len
    obtain ⟨l4, hl4⟩ : ∃ k, k = (strs h).length := ⟨_, rfl⟩
    rw [← hl4] at HO4 ⊢
    clear hb4 a0 a1 ho4 hl4
    have hG := Blk.new w4 29 #[.slice none 0 0, .slice none 0 0]
    have HG5 := Lib.hid (hG.row (cs' := #[.slice A4 l4 c4, .slice D4 n d4]))
    have s5 : Below w4.heap.size w4 ((w4.alloc (.cells #[.slice none 0 0, .slice none 0 0] 29)).setRow w4.heap.size #[.slice A4 l4 c4, .slice D4 n d4]) := below_row ((Below.refl w4.heap.size w4).alloc (Nat.le_refl _) _) (Nat.le_refl _)
    have B5 := Lib.hid (B4.out.trans (s5.mono B4.out.size))
    have HA5 := Lib.hid (HA4.out.after s5)
    have HO5 := Lib.hid ((HO4.out.below s5).retop s5.size)
    clear s5
    go_wp2_with (refine wpList_store_row rfl _ _ _ rfl w4.heap.size #[.slice A4 l4 c4, .slice D4 n d4] rfl rfl 29 _ hG size_tab rfl (one_tab _ _ _ _ _ _) ?_; obtain ⟨g0, g1⟩ := HG5.out.two)
    refine (HI.out _ _ _ _ B5.out HO5.out HFT.out).mono ?_
    rintro e w6 ⟨rfl, hb6⟩
    have B6 := Lib.hid (B5.out.trans (hb6.mono B5.out.size))
    have HA6 := Lib.hid (HA5.out.after hb6)
    have HG6 := Lib.hid (HG5.out.after hb6)
    have HO6 := Lib.hid ((HO5.out.below hb6).retop hb6.size)
    have HEQ := Lib.hid (fun W b t hv' rv' (hbW : Below w6.heap.size w6 W) (ob : OwnTab W b t hv' rv' h n f) => eqTable_same n _ b _ t h f _ _ hv' rv' W (HO6.out.below hbW) ob (by have := HFT.out.1; omega) (by have := HFT.out.2.2.1; omega) (fun i => by have := (HFT.out.2.2.2 i).1; omega))
    clear hb6 g0 g1 hG HG5 HO5 HO4
    obtain ⟨a0, a1⟩ := HA6.out.two
    obtain ⟨g0, g1⟩ := HG6.out.two
    go_wp2_with fail
    go_region_held3 (fun W => W.cell? ⟨w.heap.size, 0, none⟩ = some (.slice A hl c) ∧ W.cell? ⟨w.heap.size, 1, none⟩ = some (.slice B n d) ∧ W.cell? ⟨w4.heap.size, 0, none⟩ = some (.slice A4 l4 c4) ∧ W.cell? ⟨w4.heap.size, 1, none⟩ = some (.slice D4 n d4) ∧ w.heap.size < W.heap.size ∧ w4.heap.size < W.heap.size ∧ Below w6.heap.size w6 W)
      (first | exact tb_start HA6.out HG6.out | exact tb_below (by assumption) (by assumption))
      (first
        | (go_at_call 14; refine (HTT.out _ (B6.out.trans ((tb_new (X := w6) (by assumption)).mono B6.out.size))).mono ?_; rintro e w7 ⟨hv7, rv7, rfl, ho7, hb7⟩)
        | (go_at_call 16; refine (HEQ.out _ _ _ _ _ (tb_new (X := w6) (by assumption)) (by assumption)).mono ?_; rintro e w8 ⟨rfl, hb8⟩))
    all_goals
      have B9 := Lib.hid (B6.out.trans ((tb_new (X := w6) (by assumption)).mono B6.out.size))
      go_wp2_with fail
      go_ret
      exact ⟨rfl, B9.out⟩
end Go.Proofs.Ytionfjofojfaoaa
