/- MakeConfig of the model's package gives some valid configuration. -/
import Derived.Test.YtncdglfcegmmgaaDoorCur
import Derived.Test.YtncdglfcegmmgaaDoorCfgCells
namespace Go.Proofs.YtncdglfcegmmgaaDoor
open Go.RowKit
set_option linter.unusedVariables false

theorem Blk.grown {W W' : World} {g p : Nat} {T : TypeId} {cs : Array Value} (h : Blk W g T cs) (hg : W.grownBy W' (some p)) (hne : g ≠ p) : Blk W' g T cs := (hg.block g h.lt (by simpa using hne)).trans h
theorem CurB.row {w0 w : World} {p : Nat} {A : Option Addr} {len cap : Nat} {zs : List Int} (h : CurB w0 w p A len cap zs) {g : Nat} {cs : Array Value} (hg : w0.heap.size ≤ g) (hne : g ≠ p) : CurB w0 (w.setRow g cs) p A len cap zs := by
  refine ⟨h.base, ?_, below_row h.old hg, h.bytes⟩
  obtain ⟨i, x, h1, h2, h3⟩ := h.at_
  exact ⟨i, x, by simp [World.setRow, Array.getElem?_modify, hne, h1], h2, h3⟩
theorem CurB.setc {w0 w : World} {p : Nat} {A : Option Addr} {len cap : Nat} {zs : List Int} (h : CurB w0 w p A len cap zs) {g j : Nat} {u : Value} (hg : w0.heap.size ≤ g) (hne : g ≠ p) : CurB w0 (w.setCell ⟨g, j, none⟩ u) p A len cap zs := by
  refine ⟨h.base, ?_, h.old.setCell hg _, h.bytes⟩
  obtain ⟨i, x, h1, h2, h3⟩ := h.at_
  exact ⟨i, x, by simp [World.setCell, Array.getElem?_modify, hne, h1], h2, h3⟩
set_option maxRecDepth 100000 in
set_option maxHeartbeats 400000 in
theorem once_cur {w0 : World} {p : Nat} {A : Option Addr} {len cap : Nat} {zs : List Int} (n : Int) (w : World) (h : CurB w0 w p A len cap zs) (h0 : 0 < n) (h1 : n ≤ 256) :
    Calls Tryd.prog 39 #[.pointer (some ⟨p, 0, none⟩), .int .i64 n] w fun e w' => ∃ b : Bool, e = .returned (.bool b) ∧ CurB w0 w' p A len cap zs ∧ w.grownBy w' (some p) := by
  have HC := Lib.hid (below_cur n w h h0 h1)
  clear h h0 h1
  go_enter Tryd.func39, Tryd.ntmps39
  go_wp2_with fail
  refine HC.out.mono ?_
  rintro e w1 ⟨x, _, _, rfl, hc1, hg1⟩
  have HC1 := Lib.hid hc1
  have HG1 := Lib.hid hg1
  clear hc1 hg1
  go_wp2_with fail
  go_ret
  exact ⟨_, rfl, HC1.out, HG1.out⟩
set_option maxRecDepth 100000 in
set_option maxHeartbeats 1000000 in
theorem pick_cur {w0 : World} {p : Nat} {A : Option Addr} {len cap : Nat} {zs : List Int} (l : List Int) (n g c : Nat) (w : World) (h : CurB w0 w p A len cap zs) (hn : l.length = n) (h0 : 0 < n) (h1 : n ≤ 256) (hg : g ≠ p)
    (hgl : g < w.heap.size) (hc : ∀ (j : Nat) x, l[j]? = some x → w.cell? ⟨g, j, none⟩ = some (.int .i64 x)) :
    Calls Tryd.prog 37 #[.pointer (some ⟨p, 0, none⟩), .slice (some ⟨g, 0, none⟩) n c] w fun e w' => ∃ x ∈ l, e = .returned (.int .i64 x) ∧ CurB w0 w' p A len cap zs ∧ w.grownBy w' (some p) := by
  have HC := Lib.hid (below_cur (n : Int) w h (by omega) (by omega))
  have HL := Lib.hid hc
  have HN := Lib.hid hn
  clear h hc hn
  go_enter Tryd.func37, Tryd.ntmps37
  go_wp2_with fail
  refine HC.out.mono ?_
  rintro e w1 ⟨x, hx0, hx1, rfl, hc1, hg1⟩
  obtain ⟨j, rfl⟩ := Int.eq_ofNat_of_zero_le hx0
  have hjl : j < l.length := by rw [HN.out]; omega
  have hcell : w1.cell? ⟨g, j, none⟩ = some (.int .i64 l[j]) := (World.cell?_of_block (hg1.block g hgl (by simpa using hg))).trans (HL.out j _ (List.getElem?_eq_getElem hjl))
  obtain ⟨y, hy⟩ : ∃ y, y = l[j] := ⟨_, rfl⟩
  rw [← hy] at hcell
  have HY := Lib.hid (show y ∈ l from by rw [hy]; exact List.getElem_mem _)
  have HC1 := Lib.hid hc1
  have HG1 := Lib.hid hg1
  clear hc1 hg1 hy
  go_wp2
  go_ret
  exact ⟨y, HY.out, rfl, HC1.out, HG1.out⟩
theorem ints_cells (w : World) (T : TypeId) (l : List Int) : ∀ (j : Nat) x, l[j]? = some x → (w.alloc (.cells (l.map (Value.int .i64)).toArray T)).cell? ⟨w.heap.size, j, none⟩ = some (.int .i64 x) := fun j x hj => by
  rw [(Blk.new w T _).cell]
  simp [hj]
theorem drawn_valid (m t p d : Int) (b fd fl fe fm : Bool) (hm : m ∈ [(0 : Int), 0, 0, 3, 5]) (ht : t ∈ [(8 : Int), 4, 1]) (hp0 : 0 ≤ p) (hp1 : p < 3) (hd : d ∈ [(32 : Int), 32, 46, 9]) (hb : d = 9 → b = false) : validC ⟨m, t, p, d, b, fd, fl, fe, fm⟩ = true := by
  rw [validC_iff]
  simp only [List.mem_cons, List.not_mem_nil, or_false] at hm ht hd
  dsimp only
  refine ⟨by omega, by omega, by omega, ?_⟩
  by_cases h9 : d = 9
  · exact .inl ⟨h9, hb h9⟩
  · exact .inr (by omega)
set_option maxRecDepth 100000 in
set_option maxHeartbeats 4000000 in
theorem draw_cur {w0 : World} {p : Nat} {A : Option Addr} {len cap : Nat} {zs : List Int} (w : World) (h : CurB w0 w p A len cap zs) :
    Calls Tryd.prog 18 #[.pointer (some ⟨p, 0, none⟩)] w fun e w' => ∃ c : Cfg, validC c = true ∧ e = .returned (.agg (cfgV c)) ∧ CurB w0 w' p A len cap zs := by
  have HC0 := Lib.hid h
  have hp0 : p < w.heap.size := h.lt
  have hne : w.heap.size ≠ p := by omega
  clear h
  have HC1 := Lib.hid (HC0.out.below ((Below.refl _ _).alloc (Nat.le_refl _) (.cells ZC 24)))
  have HZ1 := Lib.hid (Blk.new w 24 ZC)
  have HC2 := Lib.hid (HC1.out.below ((Below.refl _ _).alloc (Nat.le_refl _) (.cells #[.int .i64 0, .int .i64 0, .int .i64 0, .int .i64 3, .int .i64 5] 3)))
  have HZ2 := Lib.hid (HZ1.out.after ((Below.refl _ _).alloc (Nat.le_refl _) (.cells #[.int .i64 0, .int .i64 0, .int .i64 0, .int .i64 3, .int .i64 5] 3)))
  go_enter Tryd.func18, Tryd.ntmps18
  go_wp2_with fail
  refine (pick_cur [0, 0, 0, 3, 5] 5 (w.heap.size + 1) 5 _ HC2.out rfl (by omega) (by omega) (by omega) (by simp) (by have := ints_cells (w.alloc (.cells ZC 24)) 3 [0, 0, 0, 3, 5]; simpa using this)).mono ?_
  rintro e w1 ⟨m, hm, rfl, hc1, hg1⟩
  have HZ3 := Lib.hid (HZ2.out.grown hg1 hne)
  have HM := Lib.hid hm
  have HC3 := Lib.hid hc1
  clear hc1 hg1 hm
  have HC4 := Lib.hid (HC3.out.below ((Below.refl _ _).alloc (Nat.le_refl _) (.cells #[.int .i64 8, .int .i64 4, .int .i64 1] 3)))
  have HZ4 := Lib.hid (HZ3.out.after ((Below.refl _ _).alloc (Nat.le_refl _) (.cells #[.int .i64 8, .int .i64 4, .int .i64 1] 3)))
  go_wp2_with fail
  refine (pick_cur [8, 4, 1] 3 w1.heap.size 3 _ HC4.out rfl (by omega) (by omega) (by have := HC3.out.lt; omega) (by simp) (by have := ints_cells w1 3 [8, 4, 1]; simpa using this)).mono ?_
  rintro e w2 ⟨t, ht, rfl, hc1, hg1⟩
  have HZ5 := Lib.hid (HZ4.out.grown hg1 hne)
  have HT := Lib.hid ht
  have HC5 := Lib.hid hc1
  clear hc1 hg1 ht
  go_wp2_with fail
  refine (below_cur 3 _ HC5.out (by omega) (by omega)).mono ?_
  rintro e w3 ⟨q, hq0, hq1, rfl, hc1, hg1⟩
  have HZ6 := Lib.hid (HZ5.out.grown hg1 hne)
  have HC6 := Lib.hid hc1
  clear hc1 hg1
  have HC7 := Lib.hid (HC6.out.below ((Below.refl _ _).alloc (Nat.le_refl _) (.cells #[.int .i64 32, .int .i64 32, .int .i64 46, .int .i64 9] 3)))
  have HZ7 := Lib.hid (HZ6.out.after ((Below.refl _ _).alloc (Nat.le_refl _) (.cells #[.int .i64 32, .int .i64 32, .int .i64 46, .int .i64 9] 3)))
  go_wp2_with fail
  refine (pick_cur [32, 32, 46, 9] 4 w3.heap.size 4 _ HC7.out rfl (by omega) (by omega) (by have := HC6.out.lt; omega) (by simp) (by have := ints_cells w3 3 [32, 32, 46, 9]; simpa using this)).mono ?_
  rintro e w4 ⟨d, hd, rfl, hc1, hg1⟩
  have HZ8 := Lib.hid (HZ7.out.grown hg1 hne)
  have HD := Lib.hid hd
  have HC8 := Lib.hid hc1
  clear hc1 hg1 hd
  go_wp2_with fail
  refine (once_cur 4 _ HC8.out (by omega) (by omega)).mono ?_
  rintro e w5 ⟨fd, rfl, hc1, hg1⟩
  have HZ9 := Lib.hid (HZ8.out.grown hg1 hne)
  have HC9 := Lib.hid hc1
  clear hc1 hg1
  go_wp2_with fail
  refine (once_cur 4 _ HC9.out (by omega) (by omega)).mono ?_
  rintro e w6 ⟨fl, rfl, hc1, hg1⟩
  have HZ10 := Lib.hid (HZ9.out.grown hg1 hne)
  have HC10 := Lib.hid hc1
  clear hc1 hg1
  go_wp2_with fail
  refine (once_cur 3 _ HC10.out (by omega) (by omega)).mono ?_
  rintro e w7 ⟨fe, rfl, hc1, hg1⟩
  have HZ11 := Lib.hid (HZ10.out.grown hg1 hne)
  have HC11 := Lib.hid hc1
  clear hc1 hg1
  go_wp2_with fail
  refine (once_cur 4 _ HC11.out (by omega) (by omega)).mono ?_
  rintro e w8 ⟨fm, rfl, hc1, hg1⟩
  have HZ12 := Lib.hid (HZ11.out.grown hg1 hne)
  have HC12 := Lib.hid hc1
  clear hc1 hg1
  have HC13 := Lib.hid (HC12.out.below ((Below.refl _ _).alloc (Nat.le_refl _) (.cells #[.int .i64 m, .int .i64 t, .int .i64 q, .int .i64 d, .bool false, .bool fd, .bool fl, .bool fe, .bool fm] 24)))
  have HZ13 := Lib.hid (HZ12.out.after ((Below.refl _ _).alloc (Nat.le_refl _) (.cells #[.int .i64 m, .int .i64 t, .int .i64 q, .int .i64 d, .bool false, .bool fd, .bool fl, .bool fe, .bool fm] 24)))
  have HN13 := Lib.hid (Blk.new w8 24 #[.int .i64 m, .int .i64 t, .int .i64 q, .int .i64 d, .bool false, .bool fd, .bool fl, .bool fe, .bool fm])
  have hne8 : w8.heap.size ≠ p := by have := HC12.out.lt; omega
  have hlt8 : w.heap.size < w8.heap.size := HZ12.out.lt
  have hne9 : w8.heap.size ≠ w.heap.size := by omega
  have hw0 : w0.heap.size ≤ w.heap.size := HC0.out.old.size
  by_cases h9 : d = 9
  · have e9 : (d != 9) = false := by simp [h9]
    have HV := Lib.hid (drawn_valid m t q d false fd fl fe fm HM.out HT.out hq0 hq1 HD.out (fun _ => rfl))
    clear h9
    have HZ14 := Lib.hid (show Blk ((w8.alloc (.cells #[.int .i64 m, .int .i64 t, .int .i64 q, .int .i64 d, .bool false, .bool fd, .bool fl, .bool fe, .bool fm] 24))) w.heap.size 24 ZC from HZ13.out)
    have HONE := Lib.hid (one_cfg ⟨m, t, q, d, false, fd, fl, fe, fm⟩)
    have hz := HZ14.out
    have HBX := Lib.hid ((HZ14.out.row (cs' := #[.int .i64 m, .int .i64 t, .int .i64 q, .int .i64 d, .bool false, .bool fd, .bool fl, .bool fe, .bool fm])).boxed)
    go_wp2_with (refine wpList_store_row rfl _ _ _ rfl w.heap.size #[.int .i64 m, .int .i64 t, .int .i64 q, .int .i64 d, .bool false, .bool fd, .bool fl, .bool fe, .bool fm] rfl rfl 24 ZC hz size_cfg rfl HONE.out ?_)
    obtain ⟨c0, c1, c2, c3, c4, c5, c6, c7, c8⟩ := HBX.out
    exact bodyPost_ret (v := .agg #[.int .i64 m, .int .i64 t, .int .i64 q, .int .i64 d, .bool false, .bool fd, .bool fl, .bool fe, .bool fm]) (by simp [results, Tryd.results18, go_sem, c0, c1, c2, c3, c4, c5, c6, c7, c8]) rfl ⟨⟨m, t, q, d, false, fd, fl, fe, fm⟩, HV.out, rfl, HC13.out.row hw0 hne⟩
  · have e9 : (d != 9) = true := by simp [h9]
    go_wp2_with fail
    refine (once_cur 3 _ HC13.out (by omega) (by omega)).mono ?_
    rintro e w9 ⟨b, rfl, hc1, hg1⟩
    have HV := Lib.hid (drawn_valid m t q d b fd fl fe fm HM.out HT.out hq0 hq1 HD.out (fun h => absurd h h9))
    clear h9
    have HZ14 := Lib.hid (HZ13.out.grown hg1 hne)
    have HN14 := Lib.hid (HN13.out.grown hg1 hne8)
    have HC14 := Lib.hid hc1
    clear hc1 hg1
    have HN15 : Hid (Blk (w9.setCell ⟨w8.heap.size, 4, none⟩ (.bool b)) w8.heap.size 24 #[.int .i64 m, .int .i64 t, .int .i64 q, .int .i64 d, .bool b, .bool fd, .bool fl, .bool fe, .bool fm]) := Lib.hid (HN14.out.set 4 (.bool b))
    have HZ15 := Lib.hid (HZ14.out.other (j := 4) (u := .bool b) hne9)
    have HC15 := Lib.hid (HC14.out.setc (j := 4) (u := .bool b) (Nat.le_trans hw0 (Nat.le_of_lt hlt8)) hne8)
    have HONE := Lib.hid (one_cfg ⟨m, t, q, d, b, fd, fl, fe, fm⟩)
    have hz := HZ15.out
    have HBX := Lib.hid ((HZ15.out.row (cs' := #[.int .i64 m, .int .i64 t, .int .i64 q, .int .i64 d, .bool b, .bool fd, .bool fl, .bool fe, .bool fm])).boxed)
    obtain ⟨d0, d1, d2, d3, d4, d5, d6, d7, d8⟩ := HN14.out.boxed
    have dz : w9.frozen? ⟨w8.heap.size, 4, none⟩ = false := HN14.out.free 4
    go_wp2_with (refine wpList_store_row rfl _ _ _ rfl w.heap.size #[.int .i64 m, .int .i64 t, .int .i64 q, .int .i64 d, .bool b, .bool fd, .bool fl, .bool fe, .bool fm] rfl rfl 24 ZC hz size_cfg rfl HONE.out ?_)
    obtain ⟨c0, c1, c2, c3, c4, c5, c6, c7, c8⟩ := HBX.out
    exact bodyPost_ret (v := .agg #[.int .i64 m, .int .i64 t, .int .i64 q, .int .i64 d, .bool b, .bool fd, .bool fl, .bool fe, .bool fm]) (by simp [results, Tryd.results18, go_sem, c0, c1, c2, c3, c4, c5, c6, c7, c8]) rfl ⟨⟨m, t, q, d, b, fd, fl, fe, fm⟩, HV.out, rfl, HC15.out.row hw0 hne⟩
set_option maxRecDepth 100000 in
set_option maxHeartbeats 1000000 in
theorem makeConfig_any (A : Option Addr) (len cap : Nat) (zs : List Int) (w : World) (hz : IsBytes w A len cap zs) :
    Calls Tryd.prog 6 #[.slice A len cap] w fun e w' => (∃ c : Cfg, validC c = true ∧ e = .returned (.agg (cfgV c))) ∧ Below w.heap.size w w' := by
  have HZ := Lib.hid ((⟨hz.1, hz.2.1, fun h0 => by
    obtain ⟨g, o, hA, hg, hc⟩ := hz.2.2 h0
    exact ⟨g, o, hA, by simp; omega, fun i hi => ⟨(((Below.refl w.heap.size w).alloc (Nat.le_refl _) (.cells ZC 24)).cell (p := ⟨g, o + i, none⟩) hg).trans (hc i hi).1, (hc i hi).2⟩⟩⟩ : IsBytes (w.alloc (.cells ZC 24)) A len cap zs))
  have HN := Lib.hid (new_cur A len cap zs _ HZ.out)
  clear hz
  go_enter Tryd.func6, Tryd.ntmps6
  go_wp2_with fail
  refine HN.out.mono ?_
  rintro e w1 ⟨p, rfl, hc1⟩
  have HC1 := Lib.hid hc1
  clear hc1
  go_wp2_with fail
  refine (draw_cur _ HC1.out).mono ?_
  rintro e w2 ⟨c, hv, rfl, hc2⟩
  have HV := Lib.hid hv
  have hz : Blk w2 w.heap.size 24 ZC := (Blk.new w 24 ZC).after hc2.old
  have B2 := Lib.hid ((by go_grown : Below w.heap.size w (w.alloc (.cells ZC 24))).trans (hc2.old.mono (by simp)))
  clear hv hc2
  have HONE := Lib.hid (one_cfg c)
  have HBX := Lib.hid (hz.row (cs' := cfgV c))
  obtain ⟨m, t, p, d, fr, fd, fl, fe, fm⟩ := c
  unfold cfgV at HONE HBX ⊢
  simp only at HONE HBX ⊢
  go_wp2_with (refine wpList_store_row rfl _ _ _ rfl w.heap.size #[.int .i64 m, .int .i64 t, .int .i64 p, .int .i64 d, .bool fr, .bool fd, .bool fl, .bool fe, .bool fm] rfl rfl 24 ZC hz size_cfg rfl HONE.out ?_)
  obtain ⟨c0, c1, c2, c3, c4, c5, c6, c7, c8⟩ := HBX.out.boxed
  exact bodyPost_ret (v := .agg #[.int .i64 m, .int .i64 t, .int .i64 p, .int .i64 d, .bool fr, .bool fd, .bool fl, .bool fe, .bool fm]) (by simp [results, Tryd.results6, go_sem, c0, c1, c2, c3, c4, c5, c6, c7, c8]) rfl ⟨⟨⟨m, t, p, d, fr, fd, fl, fe, fm⟩, HV.out, rfl⟩, below_row B2.out (Nat.le_refl _)⟩
end Go.Proofs.YtncdglfcegmmgaaDoor
