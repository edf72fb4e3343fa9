/- The laws' own helpers on lines: toLineS. -/
import Derived.Test.YtncdglfcegmmgaaLnLaws
namespace Go.Proofs.Ytncdglfcegmmgaa
open Go.RowKit
set_option linter.unusedVariables false

set_option maxRecDepth 100000 in
set_option maxHeartbeats 400000 in
theorem toCell_any (x : ByteArray) (m : Int) (w : World) :
    Calls Try.prog 30 #[.agg #[.string x, .int .i64 m]] w fun e w' => e = .returned (.agg #[.string x, .int .i64 m]) ∧ Below w.heap.size w w' := by
  go_enter Try.func30, Try.ntmps30
  go_wp2
  exact bodyPost_ret (v := .agg #[.string x, .int .i64 m]) (by simp [results, Try.results30, go_sem]) rfl ⟨rfl, by go_grown⟩
theorem Try.infoCel : (Try.prog.info? 46).map (fun i => (i.zero, i.size, i.bytes)) = some (some (.agg #[.string ByteArray.empty, .int .i64 0]), 2, 24) := by kernel_rfl
theorem own_blk {w : World} {base : Nat} {e : TypeId} {size g n c : Nat} {xs : List Value} (h : w.ownsRow base e size (.slice (some ⟨g, 0, none⟩) n c) n xs) (hc : c = n) : ∃ cs, Blk w g e cs ∧ cs.toList = xs ∧ base ≤ g := by
  subst hc
  rcases h.2 with ⟨h', _⟩ | ⟨g', cap', cur, h', hb, hg, hnc, hcm, hcs, htake⟩
  · simp at h'
  · simp only [Value.slice.injEq, Option.some.injEq, Addr.mk.injEq, and_true, true_and] at h'
    obtain ⟨rfl, rfl⟩ := h'
    refine ⟨cur, hg, ?_, hb⟩
    rw [List.take_of_length_le (by simp [hcs])] at htake
    exact htake
set_option maxRecDepth 100000 in
set_option maxHeartbeats 2000000 in
theorem toCellS_any (l : List Cel) (v : Value) (w : World) (hv : RdC w v l) (hm : l.length ≤ 1048576) :
    Calls Try.prog 29 #[v] w fun e w' => (∃ u, e = .returned u ∧ RdCB w.heap.size w' u l) ∧ Below w.heap.size w w' := by
  obtain ⟨i0, hi0, hz0, hz1, hz2⟩ := info_parts Try.infoCel
  obtain ⟨A, ca, rfl, hA⟩ := hv
  have HA := Lib.hid hA
  obtain ⟨n, hn⟩ : ∃ n, n = l.length := ⟨_, rfl⟩
  rw [← hn] at HA hm ⊢
  have HN := Lib.hid hn
  clear hA hn
  go_enter Try.func29, Try.ntmps29
  go_wp2_with (at_make; refine wpList_make_full _ rfl _ _ 45 rfl w.heap.size 46 i0 _ 2 Try.underlying45 hi0 hz0 hz1 _ _ _ _ n rfl rfl rfl rfl (by rw [hz2]; omega) (by unfold maxLen; omega) (Nat.le_refl _) ?_; intro w1 hown1 hgr1; have HO1 := Lib.hid hown1; have HG1 := Lib.hid hgr1; clear hown1 hgr1)
  obtain ⟨cs0, hblk, hcs0, _⟩ := own_blk HO1.out rfl
  have hsz0 : cs0.size = n * 2 := by rw [← Array.length_toList, hcs0]; exact HO1.out.1
  have B1 := Lib.hid ((Below.refl w.heap.size w).grown HG1.out (Nat.le_refl _) (fun k hk => by cases hk))
  have HB0 := Lib.hid hblk
  have HS0 := Lib.hid hsz0
  clear hblk hcs0 hsz0 HO1 HG1
  have hlt0 : w.heap.size < w1.heap.size := HB0.out.lt
  go_loopw [4] (fun i wr => ∃ (k : Nat) (cs : Array Value), k ≤ n ∧ i = .int .i64 (k : Int) ∧ Hid (Blk wr w.heap.size 46 cs) ∧ Hid (MadeC cs l k n) ∧ Hid (Below w.heap.size w wr)) (fun i _ => n - (intOf i).toNat)
  case atStart => exact ⟨0, cs0, Nat.zero_le _, rfl, HB0, Lib.hid ⟨HS0.out, fun j c hj => absurd hj (by omega)⟩, B1⟩
  case round =>
    obtain ⟨k, cs, hk, rfl, HB, HM, HBE⟩ := hrel
    by_cases hlt : k < n
    · obtain ⟨ga, oa, rfl, hga, hca⟩ := HA.out (by omega)
      have hkl : k < l.length := by rw [← HN.out]; exact hlt
      obtain ⟨a0, a1⟩ := (hca k _ (List.getElem?_eq_getElem hkl)).keep (fun p hp => HBE.out.cell hp) hga
      have HST := Lib.hid (HM.out.step hlt l[k] (List.getElem?_eq_getElem hkl))
      generalize l[k] = c at a0 a1 HST
      obtain ⟨x, m⟩ := c
      simp only at a0 a1 HST
      have HT := Lib.hid (fun W => toCell_any x m W)
      clear hca
      go_wp2_with fail
      refine (HT.out _).mono ?_
      rintro e w2 ⟨rfl, hb2⟩
      have HB2 := Lib.hid (HB.out.after hb2)
      have B2 := Lib.hid (HBE.out.trans (hb2.mono HBE.out.size))
      have hs := HM.out.1
      obtain ⟨u0, hu0⟩ : ∃ u, cs[k * 2]? = some u := ⟨_, Array.getElem?_eq_getElem (show k * 2 < cs.size by omega)⟩
      obtain ⟨u1, hu1⟩ : ∃ u, cs[k * 2 + 1]? = some u := ⟨_, Array.getElem?_eq_getElem (show k * 2 + 1 < cs.size by omega)⟩
      have c0 : w2.cell? ⟨w.heap.size, k * 2, none⟩ = some u0 := (HB2.out.cell _).trans hu0
      have c1 : w2.cell? ⟨w.heap.size, k * 2 + 1, none⟩ = some u1 := (HB2.out.cell _).trans hu1
      have f0 := HB2.out.free (k * 2)
      have f1 := HB2.out.free (k * 2 + 1)
      have HB3 := Lib.hid ((HB2.out.set (k * 2) (.string x)).set (k * 2 + 1) (.int .i64 m))
      have B3 := Lib.hid ((B2.out.setCell (p := ⟨w.heap.size, k * 2, none⟩) (Nat.le_refl _) (.string x)).setCell (p := ⟨w.heap.size, k * 2 + 1, none⟩) (Nat.le_refl _) (.int .i64 m))
      clear hb2 a0 a1 hs hu0 hu1
      go_wp2_with fail
      go_roundw
      case rel => exact ⟨k + 1, _, by omega, by go_num, HB3, HST, B3⟩
      case measure => simp [intOf]; omega
    · obtain rfl : k = n := by omega
      go_wp2
      go_ret
      exact ⟨⟨_, rfl, HM.out.rd HN.out.symm HB.out (Nat.le_refl _) _⟩, HBE.out⟩
/-- The zero line's cells. -/
def ZL : Array Value := #[.slice none 0 0, .string ⟨#[]⟩, .int .i64 0, .int .i64 0]
theorem zero_line (w : World) : (zeroValue 48).run Try.prog w = .ok (.agg ZL) w := by kernel_rfl
theorem size_line : (Try.prog.info? 48).map (·.size) = some 4 := by kernel_rfl
theorem one_line (A : Option Addr) (n c : Nat) (x : ByteArray) (m f : Int) : (#[.slice A n c, .string x, .int .i64 m, .int .i64 f] : Array Value).all (·.oneCell') = true := by simp [Value.oneCell']
theorem row_other {W : World} {g k : Nat} {cs : Array Value} (h : g ≠ k) : (W.setRow g cs).heap[k]? = W.heap[k]? := by simp [World.setRow, Array.getElem?_modify, h]
theorem RdCB.one {B : Nat} {w : World} {v : Value} {l : List Cel} (h : RdCB B w v l) : v.oneCell' = true := by
  obtain ⟨A, c, rfl, _⟩ := h
  rfl
theorem RdCB.slc {B : Nat} {w : World} {v : Value} {l : List Cel} (h : RdCB B w v l) : ∃ A c, v = .slice A l.length c := by
  obtain ⟨A, c, rfl, _⟩ := h
  exact ⟨A, c, rfl⟩
set_option maxRecDepth 100000 in
set_option maxHeartbeats 2000000 in
theorem toLine_any (l : List Cel) (va : Value) (x : ByteArray) (m f : Int) (w : World) (ha : RdC w va l) (hm : l.length ≤ 1048576) :
    Calls Try.prog 18 #[.agg #[va, .string x, .int .i64 m, .int .i64 f]] w fun e w' => (∃ u, e = .returned (.agg #[u, .string x, .int .i64 m, .int .i64 f]) ∧ RdCB w.heap.size w' u l) ∧ Below w.heap.size w w' := by
  have HC := Lib.hid (fun W hr => toCellS_any l va W hr hm)
  have HE := Lib.hid (fun W => toCell_any x m W)
  have HA := Lib.hid ha
  have B0 := Lib.hid (by go_grown : Below w.heap.size w (((w.alloc (.cells #[va, .string x, .int .i64 m, .int .i64 f] 42)).alloc (.cells ZL 48)).alloc (.cells ZL 48)))
  have H1 := Lib.hid (((Blk.new w 42 #[va, .string x, .int .i64 m, .int .i64 f]).after ((Below.refl _ _).alloc (Nat.le_refl _) (.cells ZL 48))).after ((Below.refl _ _).alloc (Nat.le_refl _) (.cells ZL 48)))
  have h2 := (Blk.new (w.alloc (.cells #[va, .string x, .int .i64 m, .int .i64 f] 42)) 48 ZL).after ((Below.refl _ _).alloc (Nat.le_refl _) (.cells ZL 48))
  rw [show (w.alloc (.cells #[va, .string x, .int .i64 m, .int .i64 f] 42)).heap.size = w.heap.size + 1 by simp] at h2
  have h3 := Blk.new ((w.alloc (.cells #[va, .string x, .int .i64 m, .int .i64 f] 42)).alloc (.cells ZL 48)) 48 ZL
  rw [show ((w.alloc (.cells #[va, .string x, .int .i64 m, .int .i64 f] 42)).alloc (.cells ZL 48)).heap.size = w.heap.size + 2 by simp] at h3
  have H2 := Lib.hid h2
  have H3 := Lib.hid h3
  have hsz : (((w.alloc (.cells #[va, .string x, .int .i64 m, .int .i64 f] 42)).alloc (.cells ZL 48)).alloc (.cells ZL 48)).heap.size = w.heap.size + 3 := by simp
  have HSZ := Lib.hid hsz
  clear h2 h3 hsz
  obtain ⟨A, ca, rfl, _⟩ := ha
  go_enter Try.func18, Try.ntmps18
  go_wp2_with fail
  refine (HC.out _ (HA.out.below B0.out)).mono ?_
  rintro e w1 ⟨⟨u, rfl, hu⟩, hb1⟩
  have hlt : w.heap.size + 3 ≤ w1.heap.size := by have := hb1.size; rw [HSZ.out] at this; exact this
  have HU := Lib.hid (show RdCB (w.heap.size + 3) w1 u l from by rw [← HSZ.out]; exact hu)
  have B1 := Lib.hid (B0.out.trans (hb1.mono B0.out.size))
  have K1 := Lib.hid (H1.out.after hb1)
  have K2 := Lib.hid (H2.out.after hb1)
  have K3 := Lib.hid (H3.out.after hb1)
  clear hb1
  have K3a : Hid (Blk (w1.setCell ⟨w.heap.size + 2, 0, none⟩ u) (w.heap.size + 2) 48 #[u, .string ⟨#[]⟩, .int .i64 0, .int .i64 0]) := Lib.hid (K3.out.set 0 u)
  have K1a := Lib.hid (K1.out.other (g' := w.heap.size + 2) (j := 0) (u := u) (by omega))
  have K2a := Lib.hid (K2.out.other (g' := w.heap.size + 2) (j := 0) (u := u) (by omega))
  have B1a := Lib.hid (B1.out.setCell (p := ⟨w.heap.size + 2, 0, none⟩) (by show _ ≤ w.heap.size + 2; omega) u)
  have HUa := Lib.hid (HU.out.keep (w' := w1.setCell ⟨w.heap.size + 2, 0, none⟩ u) (by simp [World.setCell]) (fun p hp hp2 => World.cell?_of_block (Below.heap_setCell w1 ⟨w.heap.size + 2, 0, none⟩ u p.block (by show p.block ≠ w.heap.size + 2; omega))))
  obtain ⟨Au, cu, rfl⟩ := HU.out.slc
  have c0 : w1.cell? ⟨w.heap.size + 2, 0, none⟩ = some (.slice none 0 0) := K3.out.cell 0
  have f0 : w1.frozen? ⟨w.heap.size + 2, 0, none⟩ = false := K3.out.free 0
  have a1 : w1.cell? ⟨w.heap.size, 1, none⟩ = some (.string x) := K1.out.cell 1
  have a2 : w1.cell? ⟨w.heap.size, 2, none⟩ = some (.int .i64 m) := K1.out.cell 2
  go_wp2_with fail
  clear c0 f0 a1 a2
  refine (HE.out _).mono ?_
  rintro e w2 ⟨rfl, hb2⟩
  have B2 := Lib.hid (B1a.out.trans (hb2.mono B1a.out.size))
  have L1 := Lib.hid (K1a.out.after hb2)
  have L2 := Lib.hid (K2a.out.after hb2)
  have L3 := Lib.hid (K3a.out.after hb2)
  have HU2 := Lib.hid (HUa.out.below hb2)
  clear hb2
  have c0 : w2.cell? ⟨w.heap.size + 2, 0, none⟩ = some (.slice Au l.length cu) := L3.out.cell 0
  have c1 : w2.cell? ⟨w.heap.size + 2, 1, none⟩ = some (.string ⟨#[]⟩) := L3.out.cell 1
  have c2 : w2.cell? ⟨w.heap.size + 2, 2, none⟩ = some (.int .i64 0) := L3.out.cell 2
  have c3 : w2.cell? ⟨w.heap.size + 2, 3, none⟩ = some (.int .i64 0) := L3.out.cell 3
  have f1 := L3.out.free 1
  have f2 := L3.out.free 2
  have f3 := L3.out.free 3
  have a3 : w2.cell? ⟨w.heap.size, 3, none⟩ = some (.int .i64 f) := L1.out.cell 3
  have M2 := Lib.hid (((L2.out.other (g' := w.heap.size + 2) (j := 1) (u := .string x) (by omega)).other (g' := w.heap.size + 2) (j := 2) (u := .int .i64 m) (by omega)).other (g' := w.heap.size + 2) (j := 3) (u := .int .i64 f) (by omega))
  have HON := Lib.hid (one_line Au l.length cu x m f)
  have B3 := Lib.hid (((B2.out.setCell (p := ⟨w.heap.size + 2, 1, none⟩) (by show _ ≤ w.heap.size + 2; omega) (.string x)).setCell (p := ⟨w.heap.size + 2, 2, none⟩) (by show _ ≤ w.heap.size + 2; omega) (.int .i64 m)).setCell (p := ⟨w.heap.size + 2, 3, none⟩) (by show _ ≤ w.heap.size + 2; omega) (.int .i64 f))
  have hz := M2.out
  have hrow := hz.row (cs' := #[.slice Au l.length cu, .string x, .int .i64 m, .int .i64 f])
  have HROW := Lib.hid hrow
  clear hrow
  go_wp2_with (refine wpList_store_row rfl _ _ _ rfl (w.heap.size + 1) #[.slice Au l.length cu, .string x, .int .i64 m, .int .i64 f] rfl rfl 48 ZL hz size_line rfl HON.out ?_)
  have r0 := HROW.out.cell 0
  have r1 := HROW.out.cell 1
  have r2 := HROW.out.cell 2
  have r3 := HROW.out.cell 3
  refine bodyPost_ret (v := .agg #[.slice Au l.length cu, .string x, .int .i64 m, .int .i64 f]) (by simp [results, Try.results18, go_sem, r0, r1, r2, r3]) rfl ⟨⟨_, rfl, ?_⟩, below_row B3.out (Nat.le_succ _)⟩
  refine (HU2.out.keep ?_ ?_).mono (by omega)
  · simp [World.setRow, World.setCell]
  · intro q hq hq2
    refine World.cell?_of_block ?_
    rw [row_other (by omega), Below.heap_setCell _ _ _ _ (by show q.block ≠ w.heap.size + 2; omega), Below.heap_setCell _ _ _ _ (by show q.block ≠ w.heap.size + 2; omega), Below.heap_setCell _ _ _ _ (by show q.block ≠ w.heap.size + 2; omega)]
theorem Try.infoLn : (Try.prog.info? 48).map (fun i => (i.zero, i.size, i.bytes)) = some (some (.agg ZL), 4, 56) := by kernel_rfl
set_option maxRecDepth 100000 in
set_option maxHeartbeats 4000000 in
theorem toLineS_any (ls : List Ln) (v : Value) (w : World) (hv : RdL w v ls) (hm : FitL ls) :
    Calls Try.prog 9 #[v] w fun e w' => (∃ u, e = .returned u ∧ RdL w' u ls) ∧ Below w.heap.size w w' := by
  obtain ⟨i0, hi0, hz0, hz1, hz2⟩ := info_parts Try.infoLn
  obtain ⟨A, ca, rfl, hA⟩ := hv
  have hlen := hm.1
  have HA := Lib.hid hA
  have HM := Lib.hid (fun l (h : l ∈ ls) => (by have h1 := totL_mem ls l h; have h2 := hm.2; omega : l.cells.length ≤ 1048576))
  obtain ⟨n, hn⟩ : ∃ n, n = ls.length := ⟨_, rfl⟩
  rw [← hn] at HA hlen ⊢
  have HN := Lib.hid hn
  clear hA hn hm
  go_enter Try.func9, Try.ntmps9
  go_wp2_with (at_make; refine wpList_make_full _ rfl _ _ 29 rfl w.heap.size 48 i0 _ 4 Try.underlying29 hi0 hz0 hz1 _ _ _ _ n rfl rfl rfl rfl (by rw [hz2]; omega) (by unfold maxLen; omega) (Nat.le_refl _) ?_; intro w1 hown1 hgr1; have HO1 := Lib.hid hown1; have HG1 := Lib.hid hgr1; clear hown1 hgr1)
  obtain ⟨cs0, hblk, hcs0, _⟩ := own_blk HO1.out rfl
  have hsz0 : cs0.size = n * 4 := by rw [← Array.length_toList, hcs0]; exact HO1.out.1
  have B1 := Lib.hid ((Below.refl w.heap.size w).grown HG1.out (Nat.le_refl _) (fun k hk => by cases hk))
  have HB0 := Lib.hid hblk
  have HS0 := Lib.hid hsz0
  clear hblk hcs0 hsz0 HO1 HG1
  have hlt0 : w.heap.size < w1.heap.size := HB0.out.lt
  go_loopw [4] (fun i wr => ∃ (k : Nat) (cs : Array Value), k ≤ n ∧ i = .int .i64 (k : Int) ∧ Hid (Blk wr w.heap.size 48 cs) ∧ Hid (MadeL (w.heap.size + 1) wr cs ls k n) ∧ Hid (Below w.heap.size w wr)) (fun i _ => n - (intOf i).toNat)
  case atStart => exact ⟨0, cs0, Nat.zero_le _, rfl, HB0, Lib.hid ⟨HS0.out, fun j c hj => absurd hj (by omega)⟩, B1⟩
  case round =>
    obtain ⟨k, cs, hk, rfl, HB, HME, HBE⟩ := hrel
    by_cases hlt : k < n
    · obtain ⟨ga, oa, rfl, hga, hca⟩ := HA.out (by omega)
      have hkl : k < ls.length := by rw [← HN.out]; exact hlt
      obtain ⟨⟨va, p0, hra⟩, p1, p2, p3⟩ := hca k _ (List.getElem?_eq_getElem hkl)
      have hml := HM.out _ (List.getElem_mem hkl)
      have a0 := (HBE.out.cell (p := ⟨ga, oa + k * 4, none⟩) hga).trans p0
      have a1 := (HBE.out.cell (p := ⟨ga, oa + k * 4 + 1, none⟩) hga).trans p1
      have a2 := (HBE.out.cell (p := ⟨ga, oa + k * 4 + 2, none⟩) hga).trans p2
      have a3 := (HBE.out.cell (p := ⟨ga, oa + k * 4 + 3, none⟩) hga).trans p3
      have HST := Lib.hid (fun (W : World) (h : MadeL (w.heap.size + 1) W cs ls k n) (u : Value) (hu : RdCB (w.heap.size + 1) W u (ls[k]'hkl).cells) => h.step hlt (ls[k]'hkl) (List.getElem?_eq_getElem hkl) u hu)
      generalize ls[k] = c at a1 a2 a3 hra hml HST
      obtain ⟨cl, ⟨x, m⟩, f⟩ := c
      simp only at a1 a2 a3 hra hml HST
      have hltw : w.heap.size + 1 ≤ wr.heap.size := HB.out.lt
      have HT := Lib.hid (toLine_any cl va x m f wr (hra.below HBE.out) hml)
      clear hca p0 p1 p2 p3 hra hml
      go_wp2_with fail
      refine (HT.out).mono ?_
      rintro e w2 ⟨⟨u, rfl, hu⟩, hb2⟩
      have HB2 := Lib.hid (HB.out.after hb2)
      have B2 := Lib.hid (HBE.out.trans (hb2.mono HBE.out.size))
      have HM2 := Lib.hid (HST.out w2 (HME.out.keep hb2.size (fun p _ hp => hb2.cell hp)) u (hu.mono hltw))
      obtain ⟨Au, cu, rfl⟩ := hu.slc
      have hs := HME.out.1
      obtain ⟨u0, hu0⟩ : ∃ u, cs[k * 4]? = some u := ⟨_, Array.getElem?_eq_getElem (show k * 4 < cs.size by omega)⟩
      obtain ⟨u1, hu1⟩ : ∃ u, cs[k * 4 + 1]? = some u := ⟨_, Array.getElem?_eq_getElem (show k * 4 + 1 < cs.size by omega)⟩
      obtain ⟨u2, hu2⟩ : ∃ u, cs[k * 4 + 2]? = some u := ⟨_, Array.getElem?_eq_getElem (show k * 4 + 2 < cs.size by omega)⟩
      obtain ⟨u3, hu3⟩ : ∃ u, cs[k * 4 + 3]? = some u := ⟨_, Array.getElem?_eq_getElem (show k * 4 + 3 < cs.size by omega)⟩
      have c0 : w2.cell? ⟨w.heap.size, k * 4, none⟩ = some u0 := (HB2.out.cell _).trans hu0
      have c1 : w2.cell? ⟨w.heap.size, k * 4 + 1, none⟩ = some u1 := (HB2.out.cell _).trans hu1
      have c2 : w2.cell? ⟨w.heap.size, k * 4 + 2, none⟩ = some u2 := (HB2.out.cell _).trans hu2
      have c3 : w2.cell? ⟨w.heap.size, k * 4 + 3, none⟩ = some u3 := (HB2.out.cell _).trans hu3
      have f0 := HB2.out.free (k * 4)
      have f1 := HB2.out.free (k * 4 + 1)
      have f2 := HB2.out.free (k * 4 + 2)
      have f3 := HB2.out.free (k * 4 + 3)
      have HB3 := Lib.hid ((((HB2.out.set (k * 4) (.slice Au cl.length cu)).set (k * 4 + 1) (.string x)).set (k * 4 + 2) (.int .i64 m)).set (k * 4 + 3) (.int .i64 f))
      have B3 := Lib.hid ((((B2.out.setCell (p := ⟨w.heap.size, k * 4, none⟩) (Nat.le_refl _) (.slice Au cl.length cu)).setCell (p := ⟨w.heap.size, k * 4 + 1, none⟩) (Nat.le_refl _) (.string x)).setCell (p := ⟨w.heap.size, k * 4 + 2, none⟩) (Nat.le_refl _) (.int .i64 m)).setCell (p := ⟨w.heap.size, k * 4 + 3, none⟩) (Nat.le_refl _) (.int .i64 f))
      have HM3 := Lib.hid (HM2.out.keep (w' := (((w2.setCell ⟨w.heap.size, k * 4, none⟩ (.slice Au cl.length cu)).setCell ⟨w.heap.size, k * 4 + 1, none⟩ (.string x)).setCell ⟨w.heap.size, k * 4 + 2, none⟩ (.int .i64 m)).setCell ⟨w.heap.size, k * 4 + 3, none⟩ (.int .i64 f)) (by simp [World.setCell]) (fun q hq _ => World.cell?_of_block (by
        rw [Below.heap_setCell _ _ _ _ (by show q.block ≠ w.heap.size; omega), Below.heap_setCell _ _ _ _ (by show q.block ≠ w.heap.size; omega), Below.heap_setCell _ _ _ _ (by show q.block ≠ w.heap.size; omega), Below.heap_setCell _ _ _ _ (by show q.block ≠ w.heap.size; omega)])))
      clear hb2 a0 a1 a2 a3 hs hu0 hu1 hu2 hu3 hu
      go_wp2_with fail
      go_roundw
      case rel => exact ⟨k + 1, _, by omega, by go_num, HB3, HM3, B3⟩
      case measure => simp [intOf]; omega
    · obtain rfl : k = n := by omega
      go_wp2
      go_ret
      exact ⟨⟨_, rfl, HME.out.rd HN.out.symm HB.out _⟩, HBE.out⟩
end Go.Proofs.Ytncdglfcegmmgaa
