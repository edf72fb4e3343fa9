/- The model's drawn table. -/
import Derived.Test.YtionfjofojfaoaaDoorCur
import Derived.Test.YtionfjofojfaoaaDoorImplTra
import Derived.Test.YtionfjofojfaoaaDoorSpecTra
import Derived.Deep.RegionWith
import Derived.Test.YtionfjofojfaoaaDoorWalksSameT
namespace Go.Proofs.YtionfjofojfaoaaDoor
open Go.RowKit
set_option linter.unusedVariables false

/-- The texts that a head and a cell are picked from. -/
def headL : List ByteArray := [⟨#[110, 97, 109, 101]⟩, ⟨#[110]⟩, ⟨#[118, 97, 108, 117, 101]⟩, ⟨#[228, 184, 173]⟩, ⟨#[107, 105, 110, 100, 32, 111, 102, 32, 116, 104, 105, 110, 103]⟩]
theorem head_good (x : ByteArray) (h : x ∈ headL) : cellB x = true ∧ x.size ≤ 1000 := by
  simp only [headL, List.mem_cons, List.not_mem_nil, or_false] at h
  rcases h with rfl | rfl | rfl | rfl | rfl <;> decide
theorem head_cells (w : World) : ∀ (j : Nat) x, headL[j]? = some x → (w.alloc (.cells #[.string ⟨#[110, 97, 109, 101]⟩, .string ⟨#[110]⟩, .string ⟨#[118, 97, 108, 117, 101]⟩, .string ⟨#[228, 184, 173]⟩, .string ⟨#[107, 105, 110, 100, 32, 111, 102, 32, 116, 104, 105, 110, 103]⟩] 9)).cell? ⟨w.heap.size, j, none⟩ = some (.string x) := by
  intro j x hj
  rw [cell_of_row _ w.heap.size j _ 9 (0, 0) (heap_alloc_new w _)]
  match j, hj with
  | 0, hj => simp [headL] at hj; subst hj; rfl
  | 1, hj => simp [headL] at hj; subst hj; rfl
  | 2, hj => simp [headL] at hj; subst hj; rfl
  | 3, hj => simp [headL] at hj; subst hj; rfl
  | 4, hj => simp [headL] at hj; subst hj; rfl
  | j + 5, hj => simp [headL] at hj
def cellL : List ByteArray := [⟨#[]⟩, ⟨#[97]⟩, ⟨#[116, 119, 111, 32, 119, 111, 114, 100, 115]⟩, ⟨#[49, 50, 46, 53]⟩, ⟨#[45, 55]⟩, ⟨#[228, 184, 173, 230, 150, 135]⟩, ⟨#[101, 204, 129, 120]⟩, ⟨#[97, 32, 108, 111, 110, 103, 101, 114, 32, 116, 101, 120, 116, 32, 119, 105, 116, 104, 32, 119, 111, 114, 100, 115]⟩, ⟨#[120, 124, 121]⟩, ⟨#[113, 34, 114]⟩, ⟨#[49, 48, 48]⟩, ⟨#[48, 46, 50, 53]⟩, ⟨#[98, 44, 32, 99]⟩]
theorem cell_good (x : ByteArray) (h : x ∈ cellL) : cellB x = true ∧ x.size ≤ 1000 := by
  simp only [cellL, List.mem_cons, List.not_mem_nil, or_false] at h
  rcases h with rfl | rfl | rfl | rfl | rfl | rfl | rfl | rfl | rfl | rfl | rfl | rfl | rfl <;> decide
theorem cell_cells (w : World) : ∀ (j : Nat) x, cellL[j]? = some x → (w.alloc (.cells #[.string ⟨#[]⟩, .string ⟨#[97]⟩, .string ⟨#[116, 119, 111, 32, 119, 111, 114, 100, 115]⟩, .string ⟨#[49, 50, 46, 53]⟩, .string ⟨#[45, 55]⟩, .string ⟨#[228, 184, 173, 230, 150, 135]⟩, .string ⟨#[101, 204, 129, 120]⟩, .string ⟨#[97, 32, 108, 111, 110, 103, 101, 114, 32, 116, 101, 120, 116, 32, 119, 105, 116, 104, 32, 119, 111, 114, 100, 115]⟩, .string ⟨#[120, 124, 121]⟩, .string ⟨#[113, 34, 114]⟩, .string ⟨#[49, 48, 48]⟩, .string ⟨#[48, 46, 50, 53]⟩, .string ⟨#[98, 44, 32, 99]⟩] 9)).cell? ⟨w.heap.size, j, none⟩ = some (.string x) := by
  intro j x hj
  rw [cell_of_row _ w.heap.size j _ 9 (0, 0) (heap_alloc_new w _)]
  match j, hj with
  | 0, hj => simp [cellL] at hj; subst hj; rfl
  | 1, hj => simp [cellL] at hj; subst hj; rfl
  | 2, hj => simp [cellL] at hj; subst hj; rfl
  | 3, hj => simp [cellL] at hj; subst hj; rfl
  | 4, hj => simp [cellL] at hj; subst hj; rfl
  | 5, hj => simp [cellL] at hj; subst hj; rfl
  | 6, hj => simp [cellL] at hj; subst hj; rfl
  | 7, hj => simp [cellL] at hj; subst hj; rfl
  | 8, hj => simp [cellL] at hj; subst hj; rfl
  | 9, hj => simp [cellL] at hj; subst hj; rfl
  | 10, hj => simp [cellL] at hj; subst hj; rfl
  | 11, hj => simp [cellL] at hj; subst hj; rfl
  | 12, hj => simp [cellL] at hj; subst hj; rfl
  | j + 13, hj => simp [cellL] at hj
/-- The blocks below b stand, but p. -/
structure Ow (p b : Nat) (W W' : World) : Prop where
  size : W.heap.size ≤ W'.heap.size
  same : ∀ k, k < b → k ≠ p → W'.heap[k]? = W.heap[k]?
theorem Ow.refl (p b : Nat) (W : World) : Ow p b W W := ⟨Nat.le_refl _, fun _ _ _ => rfl⟩
theorem Ow.trans {p b : Nat} {X Y Z : World} (h : Ow p b X Y) (k : Ow p b Y Z) : Ow p b X Z := ⟨Nat.le_trans h.size k.size, fun i hi hp => (k.same i hi hp).trans (h.same i hi hp)⟩
theorem Ow.below {p b : Nat} {X Y Z : World} (h : Ow p b X Y) (hb : Below b Y Z) : Ow p b X Z := h.trans ⟨hb.size, fun k hk _ => hb.block k hk⟩
theorem Ow.cur {p b : Nat} {X Y Z : World} (h : Ow p b X Y) (hg : Y.grownBy Z (some p)) (hb : b ≤ Y.heap.size) : Ow p b X Z := h.trans ⟨hg.size, fun k hk hp => hg.block k (by omega) (by simp; exact fun e => hp e)⟩
theorem Ow.blk {p b : Nat} {W W' : World} {g : Nat} {T : TypeId} {cs : Array Value} (h : Ow p b W W') (hb : Blk W g T cs) (hg : g < b) (hp : g ≠ p) : Blk W' g T cs := (h.same g hg hp).trans hb
theorem Ow.own {p b : Nat} {W W' : World} {base : Nat} {e : TypeId} {size : Nat} {v : Value} {n : Nat} {xs : List Value} (h : Ow p b W W') (ho : W.ownsRow base e size v n xs) (hv : ∀ q, v.ownBlock = some q → q < b ∧ q ≠ p) : W'.ownsRow base e size v n xs := by
  refine ⟨ho.1, ho.2.imp id fun ⟨g, cap, cur, h1, h2, h3, h4⟩ => ⟨g, cap, cur, h1, h2, ?_, h4⟩⟩
  subst h1
  have := hv g rfl
  exact (h.same g this.1 this.2).trans h3
theorem CurB.keep {w0 w w' : World} {p : Nat} {A : Option Addr} {len cap : Nat} {zs : List Int} (h : CurB w0 w p A len cap zs) (hk : Keeps w w' 69) (ho : Below w0.heap.size w0 w') : CurB w0 w' p A len cap zs := by
  obtain ⟨i, x, h1, h2, h3⟩ := h.at_
  exact ⟨h.base, ⟨i, x, hk _ _ h1, h2, h3⟩, ho, h.bytes⟩
/-- What a drawn table is. -/
def Drawn (hd : List ByteArray) (n : Nat) (f : Nat → List ByteArray) : Prop := 1 ≤ hd.length ∧ hd.length ≤ 3 ∧ n ≤ 4 ∧ (∀ i, i < n → (f i).length = hd.length) ∧ (∀ x ∈ hd, x ∈ headL) ∧ (∀ i, ∀ x ∈ f i, x ∈ cellL) ∧ ∀ i, n ≤ i → f i = []
/-- A head under way. -/
def HeadAt (w0 w : World) (p : Nat) (A : Option Addr) (len cap : Nat) (zs : List Int) (k : Nat) (W : World) : Prop :=
  ∃ v xs, Blk W (w.heap.size + 1) 26 #[v, .slice none 0 0] ∧ Blk W w.heap.size 26 #[.slice none 0 0, .slice none 0 0] ∧ W.ownsRow (w.heap.size + 1 + 1) 9 1 v k (strs xs) ∧ xs.length = k ∧ (∀ x ∈ xs, x ∈ headL) ∧ CurB w0 W p A len cap zs
/-- Rows under way. -/
def RowsAt (w0 w : World) (p : Nat) (A : Option Addr) (len cap : Nat) (zs : List Int) (hv : Value) (hd : List ByteArray) (n : Nat) (W : World) : Prop :=
  ∃ (rv : Value) (us : List Value) (f : Nat → List ByteArray), Blk W (w.heap.size + 1) 26 #[hv, rv] ∧ Blk W w.heap.size 26 #[.slice none 0 0, .slice none 0 0] ∧ W.ownsRow (w.heap.size + 1 + 1) 9 1 hv hd.length (strs hd) ∧ W.ownsRow (w.heap.size + 1 + 1) 23 1 rv n us ∧ (∀ (i : Nat) (u : Value), us[i]? = some u → W.ownsRow (w.heap.size + 1 + 1) 9 1 u (f i).length (strs (f i))) ∧ (∀ i, i < n → (f i).length = hd.length) ∧ (∀ i, ∀ x ∈ f i, x ∈ cellL) ∧ (∀ i, n ≤ i → f i = []) ∧ CurB w0 W p A len cap zs
/-- A row under way. -/
def CellsAt (w0 wo : World) (p : Nat) (A : Option Addr) (len cap : Nat) (zs : List Int) (r : Value) (q : Nat) (W : World) : Prop :=
  ∃ ys : List ByteArray, W.ownsRow wo.heap.size 9 1 r q (strs ys) ∧ ys.length = q ∧ (∀ x ∈ ys, x ∈ cellL) ∧ CurB w0 W p A len cap zs ∧ Ow p wo.heap.size wo W
theorem CurB.bel {w0 w w' : World} {p b : Nat} {A : Option Addr} {len cap : Nat} {zs : List Int} (h : CurB w0 w p A len cap zs) (hb : Below b w w') (hp : p < b) (h0 : w0.heap.size ≤ b) : CurB w0 w' p A len cap zs := by
  obtain ⟨i, x, h1, h2, h3⟩ := h.at_
  exact ⟨h.base, ⟨i, x, (hb.block p hp).trans h1, h2, h3⟩, h.old.trans (hb.mono h0), h.bytes⟩
theorem Blk.cur {W W' : World} {g p : Nat} {T : TypeId} {cs : Array Value} (h : Blk W g T cs) (hg : W.grownBy W' (some p)) (hp : g ≠ p) : Blk W' g T cs := (hg.block g h.lt (by simp; exact fun e => hp e)).trans h
theorem own_cur {W W' : World} {base p : Nat} {e : TypeId} {size : Nat} {v : Value} {n : Nat} {xs : List Value} (h : W.ownsRow base e size v n xs) (hg : W.grownBy W' (some p)) (hp : p < base) : W'.ownsRow base e size v n xs := h.kept hg (by
  cases hu : v.ownBlock with
  | none => exact .inl rfl
  | some q =>
    refine .inr fun he => ?_
    have h1 := (World.ownsRow.lt h q hu).1
    cases he
    omega)
set_option maxRecDepth 100000 in
set_option maxHeartbeats 1000000 in
theorem cell_cur {w0 : World} {p : Nat} {A : Option Addr} {len cap : Nat} {zs : List Int} (w : World) (h : CurB w0 w p A len cap zs) :
    Calls Tryd.prog 49 #[.pointer (some ⟨p, 0, none⟩)] w fun e w' => ∃ x ∈ cellL, e = .returned (.string x) ∧ CurB w0 w' p A len cap zs ∧ w.grownBy w' (some p) := by
  have HB := Lib.hid (h.below ((Below.refl _ _).alloc (Nat.le_refl _) (.cells #[.string ⟨#[]⟩, .string ⟨#[97]⟩, .string ⟨#[116, 119, 111, 32, 119, 111, 114, 100, 115]⟩, .string ⟨#[49, 50, 46, 53]⟩, .string ⟨#[45, 55]⟩, .string ⟨#[228, 184, 173, 230, 150, 135]⟩, .string ⟨#[101, 204, 129, 120]⟩, .string ⟨#[97, 32, 108, 111, 110, 103, 101, 114, 32, 116, 101, 120, 116, 32, 119, 105, 116, 104, 32, 119, 111, 114, 100, 115]⟩, .string ⟨#[120, 124, 121]⟩, .string ⟨#[113, 34, 114]⟩, .string ⟨#[49, 48, 48]⟩, .string ⟨#[48, 46, 50, 53]⟩, .string ⟨#[98, 44, 32, 99]⟩] 9)))
  have HS := Lib.hid (str_cur cellL 13 w.heap.size 13 _ HB.out rfl (by omega) (by omega) (by have := h.lt; omega) (by simp) (cell_cells w))
  clear h HB
  go_enter Tryd.func49, Tryd.ntmps49
  go_wp2_with fail
  refine HS.out.mono ?_
  rintro e w1 ⟨x, hx, rfl, hc, hg⟩
  have HX := Lib.hid hx
  have HC := Lib.hid hc
  have HG := Lib.hid (grown_trans (World.grownBy_alloc w _ _) hg)
  clear hc hx hg
  go_wp2_with fail
  go_ret
  exact ⟨x, HX.out, rfl, HC.out, HG.out⟩
attribute [-go_sem] Builtin.append_
set_option maxRecDepth 100000 in
set_option maxHeartbeats 4000000 in
theorem drawTable {w0 : World} {p : Nat} {A : Option Addr} {len cap : Nat} {zs : List Int} (w : World) (h : CurB w0 w p A len cap zs) :
    Calls Tryd.prog 23 #[.pointer (some ⟨p, 0, none⟩)] w fun e w' => ∃ hv rv hd n f, e = .returned (.agg #[hv, rv]) ∧ (∀ W, Keeps w' W 9 → Keeps w' W 23 → TRd W hv rv hd n f) ∧ SlcOk rv n ∧ Drawn hd n f ∧ Below w0.heap.size w0 w' := by
  obtain ⟨iS, hiS, hzS0, hzS1, hzS2⟩ := info_parts Tryd.infoStrCo
  obtain ⟨iR, hiR, hzR0, hzR1, hzR2⟩ := info_parts Tryd.infoRowTr
  have hp := h.lt
  have hold := h.old.size
  have HH := Lib.hid h
  clear h
  obtain ⟨WS, hWS⟩ : ∃ X, X = (w.alloc (.cells #[.slice none 0 0, .slice none 0 0] 26)).alloc (.cells #[.slice none 0 0, .slice none 0 0] 26) := ⟨_, rfl⟩
  have hG2 : Blk WS w.heap.size 26 #[.slice none 0 0, .slice none 0 0] := by
    rw [hWS]
    exact (Blk.new w 26 #[.slice none 0 0, .slice none 0 0]).after ((Below.refl _ _).alloc (Nat.le_refl _) (.cells #[.slice none 0 0, .slice none 0 0] 26))
  have hG3 : Blk WS (w.heap.size + 1) 26 #[.slice none 0 0, .slice none 0 0] := by
    rw [hWS]
    have := Blk.new (w.alloc (.cells #[.slice none 0 0, .slice none 0 0] 26)) 26 #[.slice none 0 0, .slice none 0 0]
    rwa [show (w.alloc (.cells #[.slice none 0 0, .slice none 0 0] 26)).heap.size = w.heap.size + 1 by simp] at this
  have s0 : Below w.heap.size w WS := by
    rw [hWS]
    exact ((Below.refl _ _).alloc (Nat.le_refl _) _).alloc (by simp) _
  have hWz : WS.heap.size = w.heap.size + 1 + 1 := by rw [hWS]; simp
  have HWS := Lib.hid hWS
  have HC0 := Lib.hid (below_cur 3 _ (HH.out.below s0) (by omega) (by omega))
  have HG2 := Lib.hid hG2
  have HG3 := Lib.hid hG3
  clear hWS hG2 hG3 s0
  go_enter Tryd.func23, Tryd.ntmps23
  go_wp2_with fail
  rw [← HWS.out]
  refine HC0.out.mono ?_
  rintro e w1 ⟨zi, hz0, hz1, rfl, hc1, hg1⟩
  obtain ⟨z, rfl⟩ := Int.eq_ofNat_of_zero_le hz0
  have H0 : Hid (HeadAt w0 w p A len cap zs 0 w1) := Lib.hid ⟨_, [], HG3.out.cur hg1 (by omega), HG2.out.cur hg1 (by omega), World.ownsRow_nil _ _ _ _, rfl, fun x hx => by simp at hx, hc1⟩
  clear hc1 hg1
  go_wp2_with fail
  go_loopw [5] (fun i wr => ∃ k : Nat, k ≤ z + 1 ∧ i = .int .i64 (k : Int) ∧ Hid (HeadAt w0 w p A len cap zs k wr)) (fun i _ => z + 1 - (intOf i).toNat)
  case atStart => exact ⟨0, Nat.zero_le _, rfl, H0⟩
  case round =>
    obtain ⟨k, hk, rfl, HD⟩ := hrel
    by_cases hlt : k < z + 1
    · obtain ⟨v, xs, h3, h2, ho, hxl, hxs, hc⟩ := HD.out
      have c0 := h3.cell 0
      simp at c0
      have hw2 : w.heap.size + 1 < wr.heap.size := h3.lt
      have hpl := hc.lt
      have cL := (((Below.refl wr.drew.heap.size wr.drew).alloc (Nat.le_refl _) (.cells #[.string ⟨#[110, 97, 109, 101]⟩, .string ⟨#[110]⟩, .string ⟨#[118, 97, 108, 117, 101]⟩, .string ⟨#[228, 184, 173]⟩, .string ⟨#[107, 105, 110, 100, 32, 111, 102, 32, 116, 104, 105, 110, 103]⟩] 9)).cell (p := ⟨w.heap.size + 1, 0, none⟩) hw2).trans c0
      have HSC := Lib.hid (str_cur headL 5 wr.heap.size 5 (wr.drew.alloc (.cells #[.string ⟨#[110, 97, 109, 101]⟩, .string ⟨#[110]⟩, .string ⟨#[118, 97, 108, 117, 101]⟩, .string ⟨#[228, 184, 173]⟩, .string ⟨#[107, 105, 110, 100, 32, 111, 102, 32, 116, 104, 105, 110, 103]⟩] 9)) ((hc.below (below_drewN (Below.refl _ _) 1)).below ((Below.refl wr.drew.heap.size wr.drew).alloc (Nat.le_refl _) _)) rfl (by omega) (by omega) (by omega) (by simp) (head_cells wr.drew))
      have H3 := Lib.hid h3
      have H2 := Lib.hid h2
      have HO := Lib.hid ho
      have HXL := Lib.hid hxl
      have HXS := Lib.hid hxs
      clear h3 h2 ho hxl hxs hc HD
      go_wp2_with fail
      go_region_with (first
        | (refine HSC.out.mono ?_; rintro e w5 ⟨x, hx, rfl, hc5, hg5⟩; have HG5 := Lib.hid (grown_trans (World.grownBy_alloc wr.drew (.cells #[.string ⟨#[110, 97, 109, 101]⟩, .string ⟨#[110]⟩, .string ⟨#[118, 97, 108, 117, 101]⟩, .string ⟨#[228, 184, 173]⟩, .string ⟨#[107, 105, 110, 100, 32, 111, 102, 32, 116, 104, 105, 110, 103]⟩] 9) (some p)) hg5); have H35 := Lib.hid (Blk.cur (W := wr.drew) H3.out HG5.out (by omega)); have H25 := Lib.hid (Blk.cur (W := wr.drew) H2.out HG5.out (by omega)); have HO5 := Lib.hid (own_cur (W := wr.drew) HO.out HG5.out (by omega)); have HC5 := Lib.hid hc5; have HX := Lib.hid hx; have hs5 : w.heap.size + 1 < w5.heap.size := H35.out.lt; have c5 := H35.out.cell 0; simp at c5; have c6 := (((Below.refl w5.heap.size w5).alloc (Nat.le_refl _) (.cells #[.string x] 9)).cell (p := ⟨w.heap.size + 1, 0, none⟩) hs5).trans c5; clear hx hc5 hg5)
        | (obtain ⟨v', w6, hrun, hown', hgrow, _⟩ := run_append_own (P := Tryd.prog) (w5.alloc (.cells #[.string x] 9)) (w.heap.size + 1 + 1) 23 23 9 iS (.string ByteArray.empty) 1 16 Tryd.underlying23 hiS hzS0 hzS1 hzS2 rfl (by decide) v k (strs xs) (HO5.out.alloc _) ⟨w5.heap.size, 0, none⟩ 1 1 [.string x] rfl (cell_one_new _ _ _) (by simp [Value.oneCell']) (by unfold maxLen; omega) (by omega) (by simp; omega); obtain ⟨g', cap', rfl, _⟩ := own_cells hown' (by omega); have HO6 := Lib.hid hown'; have HGR := Lib.hid (grown_trans (World.grownBy_alloc w5 _ v.ownBlock) hgrow); have hb1 := Blk.grows H35.out HO5.out (by decide) HGR.out; have HB1 := Lib.hid hb1; have c1 := hb1.cell 0; have f1 := hb1.free 0; simp at c1; rw [hrun]; simp only [Result.andThen]; clear hrun hown' hgrow hb1; go_simp))
      all_goals
        have hS : ∀ e, 26 ≠ e → Keeps w6 (w6.setCell ⟨w.heap.size + 1, 0, none⟩ (.slice (some ⟨g', 0, none⟩) (k + 1) cap')) e := fun e he => Keeps.blk HB1.out he (grown_set _ _ _ _)
        have hG : ∀ e, 9 ≠ e → Keeps w5 w6 e := fun e he => Keeps.grown HO5.out he HGR.out
        have HN : Hid (HeadAt w0 w p A len cap zs (k + 1) (w6.setCell ⟨w.heap.size + 1, 0, none⟩ (.slice (some ⟨g', 0, none⟩) (k + 1) cap'))) := Lib.hid ⟨_, xs ++ [x], HB1.out.set 0 _, (Blk.keeps H25.out (hG _ (by decide))).other (by omega), own_keeps (by
            have := HO6.out
            simp only [strs, List.map_append, List.map_cons, List.map_nil] at this ⊢
            exact this) (hS _ (by decide)), by rw [List.length_append, HXL.out]; rfl, fun y hy => by
            rcases List.mem_append.1 hy with hy | hy
            · exact HXS.out y hy
            · simp at hy; subst hy; exact HX.out, HC5.out.keep ((hG _ (by decide)).trans (hS _ (by decide))) ((HC5.out.old.grown HGR.out HC5.out.old.size (fun q hq => by have := (World.ownsRow.lt HO5.out q hq).1; omega)).setCell (show w0.heap.size ≤ w.heap.size + 1 by omega) _)⟩
        clear H35 H25 HO5 HC5 HX HO6 HGR HB1 hS hG
        go_wp2_with fail
        go_roundw
        case rel => exact ⟨k + 1, by omega, by go_num, HN⟩
        case measure => simp [intOf]; omega
    · obtain rfl : k = z + 1 := by omega
      obtain ⟨hv, hd, h3, h2, ho, hxl, hxs, hc⟩ := HD.out
      have hw2 : w.heap.size + 1 < wr.heap.size := h3.lt
      have HCB := Lib.hid (below_cur 5 _ hc (by omega) (by omega))
      have H3 := Lib.hid h3
      have H2 := Lib.hid h2
      have HO := Lib.hid ho
      have HXL := Lib.hid hxl
      have HXS := Lib.hid hxs
      clear h3 h2 ho hxl hxs hc HD
      go_wp2_with fail
      refine HCB.out.mono ?_
      rintro e w2 ⟨yi, hy0, hy1, rfl, hc2, hg2⟩
      obtain ⟨y, rfl⟩ := Int.eq_ofNat_of_zero_le hy0
      have HR0 : Hid (RowsAt w0 w p A len cap zs hv hd 0 w2) := Lib.hid ⟨.slice none 0 0, [], fun _ => [], H3.out.cur hg2 (by omega), H2.out.cur hg2 (by omega), by rw [HXL.out]; exact own_cur HO.out hg2 (by omega), World.ownsRow_nil _ _ _ _, fun i u hu => by simp at hu, fun i hi => by omega, fun i x hx => by simp at hx, fun _ _ => rfl, hc2⟩
      clear hc2 hg2 H3 H2 HO
      go_wp2_with fail
      go_loopw [6] (fun i wr => ∃ m n : Nat, m + n = y ∧ i = .int .i64 (m : Int) ∧ Hid (RowsAt w0 w p A len cap zs hv hd n wr)) (fun i _ => (intOf i).toNat)
      case atStart => exact ⟨y, 0, rfl, rfl, HR0⟩
      case round =>
        obtain ⟨m, n, hmn, rfl, HR⟩ := hrel
        by_cases hm : 0 < (m : Int)
        · obtain ⟨rv, us, f, h3, h2, ho, hr, hrow, hlen, hgood, hend, hc⟩ := HR.out
          have hw3 : w.heap.size + 1 < wr.heap.size := h3.lt
          have hpl := hc.lt
          have hul := own_len hr
          have HE0 := own_empty wr wr.heap.size 9 (Nat.le_refl _)
          have hsE : Below wr.heap.size wr (wr.alloc (.cells #[] 9)) := (Below.refl _ _).alloc (Nat.le_refl _) _
          have HI0 : Hid (CellsAt w0 wr p A len cap zs (.slice (some ⟨wr.heap.size, 0, none⟩) 0 0) 0 (wr.alloc (.cells #[] 9))) := Lib.hid ⟨[], HE0, rfl, fun x hx => by simp at hx, hc.below hsE, ⟨hsE.size, fun k hk _ => hsE.block k hk⟩⟩
          have H3 := Lib.hid h3
          have H2 := Lib.hid h2
          have HO := Lib.hid ho
          have HRV := Lib.hid hr
          have HROW := Lib.hid hrow
          have HLEN := Lib.hid hlen
          have HGOOD := Lib.hid hgood
          have HEND := Lib.hid hend
          have HUL := Lib.hid hul
          have HC0 := Lib.hid hc
          clear h3 h2 ho hr hrow hlen hgood hend hul HE0 hsE hc HR
          obtain ⟨wo, rfl⟩ : ∃ wo : World, wo = wr := ⟨_, rfl⟩
          go_wp2_with fail
          go_loopw [7, 8] (fun r i wr => ∃ q : Nat, q ≤ z + 1 ∧ i = .int .i64 (q : Int) ∧ Hid (CellsAt w0 wo p A len cap zs r q wr)) (fun _ i _ => z + 1 - (intOf i).toNat)
          case atStart => exact ⟨0, Nat.zero_le _, rfl, HI0⟩
          case round =>
            obtain ⟨q, hq, rfl, HI⟩ := hrel
            obtain ⟨ys, hyo, hyl, hyg, hyc, hyw⟩ := HI.out
            have hws := hyw.size
            obtain ⟨Av, cv, rfl⟩ : ∃ A c, u7 = .slice A q c := by
              obtain ⟨A, c, h, _⟩ := Rd.of_own hyo
              exact ⟨A, c, by rw [h, own_len hyo]⟩
            have HYO := Lib.hid hyo
            have HYL := Lib.hid hyl
            have HYG := Lib.hid hyg
            have HYC := Lib.hid hyc
            have HYW := Lib.hid hyw
            clear hyo hyl hyg hyc hyw HI
            by_cases hlq : q < z + 1
            · go_wp2_with fail
              refine (cell_cur _ HYC.out).mono ?_
              rintro e w5 ⟨x, hx, rfl, hc5, hg5⟩
              have HX := Lib.hid hx
              have HC5 := Lib.hid hc5
              have HYO5 := Lib.hid (own_cur HYO.out hg5 hpl)
              have HYW5 := Lib.hid (HYW.out.cur hg5 hws)
              have hws5 := HYW5.out.size
              clear hx hc5 hg5
              go_wp2_with (at_builtin; refine append_one rfl _ _ 23 rfl wo.heap.size 9 iS _ 16 Tryd.underlying23 hiS hzS0 hzS1 hzS2 rfl (.slice Av q cv) _ _ rfl w5 (.string x) rfl rfl HYO5.out (by omega) (by omega) hws5 ?_; intro v6 w6 hown6 hbel6; have HN : Hid (CellsAt w0 wo p A len cap zs v6 (q + 1) w6) := Lib.hid ⟨ys ++ [x], by (have := hown6; simp only [strs, List.map_append, List.map_cons, List.map_nil] at this ⊢; exact this), by rw [List.length_append, HYL.out]; rfl, fun y' hy' => (List.mem_append.1 hy').elim (HYG.out y') (fun hy' => by simp at hy'; subst hy'; exact HX.out), HC5.out.bel hbel6 hpl (by omega), HYW5.out.below hbel6⟩; clear hown6 hbel6)
              go_roundw
              case rel =>
                rw [show decide (0 < m) = true from decide_eq_true (by omega)]
                exact ⟨_, _, _, _, _, _, _, _, _, _, _, _, ⟨q + 1, by omega, by go_num, HN⟩, rfl⟩
              case measure => simp [intOf]; omega
            · obtain rfl : q = z + 1 := by omega
              have h3 := HYW.out.blk H3.out (by omega) (by omega)
              have c1 := h3.cell 1
              have f1 := h3.free 1
              simp at c1
              have HB3 := Lib.hid h3
              have HB2 := Lib.hid (HYW.out.blk H2.out (by omega) (by omega))
              have HO5 := Lib.hid (HYW.out.own HO.out (fun q hq => ⟨(World.ownsRow.lt HO.out q hq).2, by have := (World.ownsRow.lt HO.out q hq).1; omega⟩))
              have HRV5 := Lib.hid (HYW.out.own HRV.out (fun q hq => ⟨(World.ownsRow.lt HRV.out q hq).2, by have := (World.ownsRow.lt HRV.out q hq).1; omega⟩))
              have HROW5 : Hid (∀ (i : Nat) (u : Value), us[i]? = some u → wr.ownsRow (w.heap.size + 1 + 1) 9 1 u (f i).length (strs (f i))) := Lib.hid (fun i u hu => HYW.out.own (HROW.out i u hu) (fun q hq => ⟨(World.ownsRow.lt (HROW.out i u hu) q hq).2, by have := (World.ownsRow.lt (HROW.out i u hu) q hq).1; omega⟩))
              clear h3
              have hwr : w.heap.size + 1 + 1 ≤ wr.heap.size := by omega
              have hn4 : n ≤ 4 := by omega
              go_wp2_with (at_builtin; refine append_one_g rfl _ _ 24 rfl (w.heap.size + 1 + 1) 23 iR _ 24 Tryd.underlying24 hiR hzR0 hzR1 hzR2 rfl rv _ _ rfl wr (.slice Av (z + 1) cv) rfl rfl HRV5.out (by omega) (by omega) hwr ?_; intro v6 w6 hown6 hgr6; obtain ⟨g', cap', rfl, _⟩ := own_cells hown6 (by omega); have HO6 := Lib.hid hown6; have HGR := Lib.hid (grown_trans (World.grownBy_alloc wr _ rv.ownBlock) hgr6); have hb1 := Blk.grows HB3.out HRV5.out (by decide) HGR.out; have HB1 := Lib.hid hb1; have d1 := hb1.cell 1; have e1 := hb1.free 1; simp at d1; clear hown6 hgr6 hb1)
              have hS : ∀ e, 26 ≠ e → Keeps w6 (w6.setCell ⟨w.heap.size + 1, 1, none⟩ (.slice (some ⟨g', 0, none⟩) (n + 1) cap')) e := fun e he => Keeps.blk HB1.out he (grown_set _ _ _ _)
              have hG : ∀ e, 23 ≠ e → Keeps wr w6 e := fun e he => Keeps.grown HRV5.out he HGR.out
              have hGS := (hG 9 (by decide)).trans (hS _ (by decide))
              have HN : Hid (RowsAt w0 w p A len cap zs hv hd (n + 1) (w6.setCell ⟨w.heap.size + 1, 1, none⟩ (.slice (some ⟨g', 0, none⟩) (n + 1) cap'))) := Lib.hid ⟨_, us ++ [.slice Av (z + 1) cv], fun i => if i = n then ys else f i, HB1.out.set 1 _, (Blk.keeps HB2.out (hG _ (by decide))).other (by omega), own_keeps HO5.out hGS, own_keeps HO6.out (hS _ (by decide)), fun i u hu => by
                rcases Nat.lt_or_ge i n with hi | hi
                · rw [List.getElem?_append_left (by rw [HUL.out]; exact hi)] at hu
                  show World.ownsRow _ _ _ _ _ (if i = n then ys else f i).length (strs (if i = n then ys else f i))
                  rw [if_neg (by omega)]
                  exact own_keeps (HROW5.out i u hu) hGS
                · have hin : i = n := by
                    have := (List.getElem?_eq_some_iff.1 hu).1
                    rw [List.length_append, HUL.out] at this
                    simp at this
                    omega
                  subst hin
                  rw [List.getElem?_append_right (by rw [HUL.out]; exact Nat.le_refl _), HUL.out, Nat.sub_self] at hu
                  simp at hu
                  subst hu
                  show World.ownsRow _ _ _ _ _ (if i = i then ys else f i).length (strs (if i = i then ys else f i))
                  rw [if_pos rfl, HYL.out]
                  exact own_keeps (own_base HYO.out (by omega)) hGS, fun i hi => by
                show (if i = n then ys else f i).length = _
                by_cases h : i = n
                · rw [if_pos h, HYL.out, HXL.out]
                · rw [if_neg h]; exact HLEN.out i (by omega), fun i x hx => by
                have hx : x ∈ (if i = n then ys else f i) := hx
                by_cases h : i = n
                · rw [if_pos h] at hx; exact HYG.out x hx
                · rw [if_neg h] at hx; exact HGOOD.out i x hx, fun i hi => by
                show (if i = n then ys else f i) = _
                rw [if_neg (by omega)]
                exact HEND.out i (by omega), HYC.out.keep ((hG _ (by decide)).trans (hS _ (by decide))) ((HYC.out.old.grown HGR.out HYC.out.old.size (fun q hq => by have := (World.ownsRow.lt HRV5.out q hq).1; omega)).setCell (show w0.heap.size ≤ w.heap.size + 1 by omega) _)⟩
              obtain ⟨m', rfl⟩ : ∃ m', m = m' + 1 := ⟨m - 1, by omega⟩
              clear HB3 HB2 HO5 HRV5 HROW5 HO6 HGR HB1 hS hG hGS HYO HYL HYG HYC HYW
              go_wp2_with fail
              go_roundw
              case rel => exact ⟨m', n + 1, by omega, by go_num, HN⟩
              case measure => simp [intOf]
        · obtain rfl : m = 0 := by omega
          obtain ⟨rv, us, f, h3, h2, ho, hr, hrow, hlen, hgood, hend, hc⟩ := HR.out
          obtain ⟨A1, c1, rfl, _⟩ := Rd.of_own ho
          obtain ⟨A2, c2, rfl, _⟩ := Rd.of_own hr
          have hul := own_len hr
          obtain ⟨l1, hl1⟩ : ∃ l, l = (strs hd).length := ⟨_, rfl⟩
          obtain ⟨l2, hl2⟩ : ∃ l, l = us.length := ⟨_, rfl⟩
          rw [← hl1] at h3 ho
          rw [← hl2] at h3 hr
          rw [hul] at hl2
          subst hl2
          clear hl1
          obtain ⟨q0, q1⟩ := h3.two
          have H2 := Lib.hid h2
          have hK4 := h2
          have HFIN := Lib.hid (And.intro ho (And.intro hr (And.intro hrow (And.intro hlen (And.intro hgood (And.intro hend hc))))))
          clear h3 h2 ho hr hrow hlen hgood hend hc HR
          go_wp2_with (refine wpList_store_row rfl _ _ _ rfl w.heap.size #[.slice A1 l1 c1, .slice A2 l2 c2] rfl rfl 26 _ hK4 size_tab rfl (one_tab _ _ _ _ _ _) ?_)
          obtain ⟨d0, d1⟩ := (Blk.row hK4 (cs' := #[.slice A1 l1 c1, .slice A2 l2 c2])).two
          obtain ⟨ho, hr, hrow, hlen, hgood, hend, hc⟩ := HFIN.out
          have hS : ∀ e, 26 ≠ e → Keeps wr (wr.setRow w.heap.size #[.slice A1 l1 c1, .slice A2 l2 c2]) e := fun e he => Keeps.blk H2.out he (grown_row _ _ _)
          refine bodyPost_ret (v := .agg #[.slice A1 l1 c1, .slice A2 l2 c2]) (by simp [results, Tryd.results23, go_sem, d0, d1]) rfl ⟨_, _, rfl, hd, l2, f, fun W k1 k2 => ⟨Rd.of_own (own_keeps ho ((hS _ (by decide)).trans k1)), rdT_vals (own_keeps hr ((hS _ (by decide)).trans k2)) (fun i u hu => Rd.of_own (own_keeps (hrow i u hu) ((hS _ (by decide)).trans k1)))⟩, SlcOk.of_own hr, ⟨by rw [HXL.out]; omega, by rw [HXL.out]; omega, by omega, hlen, HXS.out, hgood, hend⟩, below_row hc.old (by omega)⟩
set_option maxRecDepth 100000 in
set_option maxHeartbeats 2000000 in
theorem makeTable_any (A : Option Addr) (len cap : Nat) (zs : List Int) (w : World) (hz : IsBytes w A len cap zs) :
    Calls Tryd.prog 5 #[.slice A len cap] w fun e w' => ∃ hv rv hd n f, e = .returned (.agg #[hv, rv]) ∧ TRd w' hv rv hd n f ∧ SlcOk rv n ∧ Drawn hd n f ∧ Below w.heap.size w w' := by
  have s0 : Below w.heap.size w (w.alloc (.cells #[.slice none 0 0, .slice none 0 0] 26)) := (Below.refl _ _).alloc (Nat.le_refl _) _
  have HN := Lib.hid (new_cur A len cap zs _ (hz.keep s0))
  have HK := Lib.hid (Blk.new w 26 #[.slice none 0 0, .slice none 0 0])
  have S0 := Lib.hid s0
  clear hz s0
  go_enter Tryd.func5, Tryd.ntmps5
  go_wp2_with fail
  refine HN.out.mono ?_
  rintro e w1 ⟨p, rfl, hc1⟩
  have HO1 := Lib.hid hc1.old
  have HD := Lib.hid (drawTable w1 hc1)
  clear hc1
  go_wp2_with fail
  refine HD.out.mono ?_
  rintro e w2 ⟨hv, rv, hd, n, f, rfl, hk2, hs2, hd2, hb2⟩
  have h1 := hk2 w2 (fun _ _ h => h) (fun _ _ h => h)
  obtain ⟨A1, c1, rfl, _⟩ := h1.1
  obtain ⟨A2, c2, rfl⟩ := h1.2.slc
  obtain ⟨l1, hl1⟩ : ∃ l, l = (strs hd).length := ⟨_, rfl⟩
  rw [← hl1] at hk2 ⊢
  have hK4 := HK.out.after hb2
  have HKB := Lib.hid (HK.out.after hb2)
  have HK2 := Lib.hid hk2
  have HS2 := Lib.hid hs2
  have HD2 := Lib.hid hd2
  have HB2 := Lib.hid (S0.out.trans (hb2.mono S0.out.size))
  clear hl1 hk2 hs2 hd2 hb2 h1
  go_wp2_with (refine wpList_store_row rfl _ _ _ rfl w.heap.size #[.slice A1 l1 c1, .slice A2 n c2] rfl rfl 26 _ hK4 size_tab rfl (one_tab _ _ _ _ _ _) ?_)
  obtain ⟨d0, d1⟩ := (Blk.row hK4 (cs' := #[.slice A1 l1 c1, .slice A2 n c2])).two
  have hS : ∀ e, 26 ≠ e → Keeps w2 (w2.setRow w.heap.size #[.slice A1 l1 c1, .slice A2 n c2]) e := fun e he => Keeps.blk HKB.out he (grown_row _ _ _)
  refine bodyPost_ret (v := .agg #[.slice A1 l1 c1, .slice A2 n c2]) (by simp [results, Tryd.results5, go_sem, d0, d1]) rfl ⟨_, _, hd, n, f, rfl, HK2.out _ (hS _ (by decide)) (hS _ (by decide)), HS2.out, HD2.out, below_row HB2.out (Nat.le_refl _)⟩
end Go.Proofs.YtionfjofojfaoaaDoor
