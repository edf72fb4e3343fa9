/- One line of a layout: the model's l07Line. -/
import Derived.Test.YtjdbkpckhgncbaaOwnU
import Derived.Test.YtjdbkpckhgncbaaSpecFillW
import Derived.Test.YtjdbkpckhgncbaaLayLen
import Derived.Test.YtjdbkpckhgncbaaSpecBlk
import Derived.Test.YtjdbkpckhgncbaaBA
import Derived.Test.YtjdbkpckhgncbaaBB
import Derived.Deep.DeepCutAuto
namespace Go.Proofs.Ytjdbkpckhgncbaa
open Go.RowKit
set_option linter.unusedVariables false

theorem layS_below {W W' WX : World} {H HC gw ow : Nat} {m t p d yw nw : Int} {fr fd fl fe fm : Bool} {yt : ByteArray} (hb : Below W.heap.size W W') (h : W.cell? ⟨H, 0, none⟩ = some (.int .i64 m) ∧ W.cell? ⟨H, 1, none⟩ = some (.int .i64 t) ∧ W.cell? ⟨H, 2, none⟩ = some (.int .i64 p) ∧ W.cell? ⟨H, 3, none⟩ = some (.int .i64 d) ∧ W.cell? ⟨H, 4, none⟩ = some (.bool fr) ∧ W.cell? ⟨H, 5, none⟩ = some (.bool fd) ∧ W.cell? ⟨H, 6, none⟩ = some (.bool fl) ∧ W.cell? ⟨H, 7, none⟩ = some (.bool fe) ∧ W.cell? ⟨H, 8, none⟩ = some (.bool fm) ∧ W.cell? ⟨HC, 0, none⟩ = some (.string yt) ∧ W.cell? ⟨HC, 1, none⟩ = some (.int .i64 yw) ∧ W.cell? ⟨gw, ow, none⟩ = some (.int .i64 nw) ∧ HC < W.heap.size ∧ H < W.heap.size ∧ gw < W.heap.size ∧ Below WX.heap.size WX W) : W'.cell? ⟨H, 0, none⟩ = some (.int .i64 m) ∧ W'.cell? ⟨H, 1, none⟩ = some (.int .i64 t) ∧ W'.cell? ⟨H, 2, none⟩ = some (.int .i64 p) ∧ W'.cell? ⟨H, 3, none⟩ = some (.int .i64 d) ∧ W'.cell? ⟨H, 4, none⟩ = some (.bool fr) ∧ W'.cell? ⟨H, 5, none⟩ = some (.bool fd) ∧ W'.cell? ⟨H, 6, none⟩ = some (.bool fl) ∧ W'.cell? ⟨H, 7, none⟩ = some (.bool fe) ∧ W'.cell? ⟨H, 8, none⟩ = some (.bool fm) ∧ W'.cell? ⟨HC, 0, none⟩ = some (.string yt) ∧ W'.cell? ⟨HC, 1, none⟩ = some (.int .i64 yw) ∧ W'.cell? ⟨gw, ow, none⟩ = some (.int .i64 nw) ∧ HC < W'.heap.size ∧ H < W'.heap.size ∧ gw < W'.heap.size ∧ Below WX.heap.size WX W' := by
  obtain ⟨h0, h1, h2, h3, h4, h5, h6, h7, h8, h9, h10, h11, h12, h13, h14, h15⟩ := h
  have hs := hb.size
  exact ⟨(hb.cell (p := ⟨H, 0, none⟩) h13).trans h0, (hb.cell (p := ⟨H, 1, none⟩) h13).trans h1, (hb.cell (p := ⟨H, 2, none⟩) h13).trans h2, (hb.cell (p := ⟨H, 3, none⟩) h13).trans h3, (hb.cell (p := ⟨H, 4, none⟩) h13).trans h4, (hb.cell (p := ⟨H, 5, none⟩) h13).trans h5, (hb.cell (p := ⟨H, 6, none⟩) h13).trans h6, (hb.cell (p := ⟨H, 7, none⟩) h13).trans h7, (hb.cell (p := ⟨H, 8, none⟩) h13).trans h8, (hb.cell (p := ⟨HC, 0, none⟩) h12).trans h9, (hb.cell (p := ⟨HC, 1, none⟩) h12).trans h10, (hb.cell (p := ⟨gw, ow, none⟩) h14).trans h11, by omega, by omega, by omega, h15.trans (hb.mono h15.size)⟩
theorem layS_new {WX W : World} {H HC gw ow : Nat} {m t p d yw nw : Int} {fr fd fl fe fm : Bool} {yt : ByteArray} (h : W.cell? ⟨H, 0, none⟩ = some (.int .i64 m) ∧ W.cell? ⟨H, 1, none⟩ = some (.int .i64 t) ∧ W.cell? ⟨H, 2, none⟩ = some (.int .i64 p) ∧ W.cell? ⟨H, 3, none⟩ = some (.int .i64 d) ∧ W.cell? ⟨H, 4, none⟩ = some (.bool fr) ∧ W.cell? ⟨H, 5, none⟩ = some (.bool fd) ∧ W.cell? ⟨H, 6, none⟩ = some (.bool fl) ∧ W.cell? ⟨H, 7, none⟩ = some (.bool fe) ∧ W.cell? ⟨H, 8, none⟩ = some (.bool fm) ∧ W.cell? ⟨HC, 0, none⟩ = some (.string yt) ∧ W.cell? ⟨HC, 1, none⟩ = some (.int .i64 yw) ∧ W.cell? ⟨gw, ow, none⟩ = some (.int .i64 nw) ∧ HC < W.heap.size ∧ H < W.heap.size ∧ gw < W.heap.size ∧ Below WX.heap.size WX W) : Below WX.heap.size WX W := by
  obtain ⟨_, _, _, _, _, _, _, _, _, _, _, _, _, _, _, h⟩ := h
  exact h
set_option maxRecDepth 100000 in
set_option maxHeartbeats 8000000 in
theorem specLine (c : Cfg) (l : List Cel) (va vw : Value) (ws : List Int) (x : ByteArray) (m' f : Int) (w : World) (hv : validC c = true) (ha : RdC w va l) (hw : Rd w vw (ints ws)) (hlen : ws.length = l.length) (hl : l.length ≤ 1048576) (htc : totC l ≤ 1048576) (hx : x.size ≤ 1048576)
    (hb : ∀ (k : Nat) y n, l[k]? = some y → ws[k]? = some n → 0 ≤ n ∧ n ≤ 800000 ∧ 0 ≤ y.wid ∧ y.wid ≤ 9223372036854775807) :
    Calls Try.prog 28 #[.agg (cfgV c), .agg #[va, .string x, .int .i64 m', .int .i64 f], vw] w fun e w' => e = .returned (.string ⟨(layLn c ⟨l, ⟨x, m'⟩, f⟩ ws).toArray⟩) ∧ Below w.heap.size w w' := by
  have HFW := Lib.hid (fun n W h0 h1 => specFillW c n W hv h0 h1)
  have HTK := Lib.hid (fun k h h' => layCels_take c l ws k h h')
  have HBD := Lib.hid (layCels_bd c hv l ws (fun k y n h1 h2 => ⟨(hb k y n h1 h2).2.1, (hb k y n h1 h2).2.2.1⟩) hl htc)
  have HB := Lib.hid hb
  have HTC := Lib.hid (fun y h => Nat.le_trans (totC_mem l y h) htc)
  have HFL := Lib.hid (fun n h => fillL_len c n hv h)
  have HFX := Lib.hid (fun n => fillW_list c n)
  have HLC : Hid (∀ y n, layCel c y n = (if c.fr = true then fillL c (max (n - y.wid) 0) ++ y.txt.data.toList else y.txt.data.toList ++ fillL c (max (n - y.wid) 0)) ++ (if c.fl = true then [124] else [])) := Lib.hid (fun y n => rfl)
  have HRES : Hid (layLn c ⟨l, ⟨x, m'⟩, f⟩ ws = layCels c l ws ++ (x.data.toList ++ (if f ≠ 0 then [10] else []))) := Lib.hid rfl
  obtain ⟨RES, hRES⟩ : ∃ r, r = layLn c ⟨l, ⟨x, m'⟩, f⟩ ws := ⟨_, rfl⟩
  rw [← hRES] at HRES ⊢
  obtain ⟨Aw, cw, rfl, hWc⟩ := hw
  rw [ints_length] at hWc ⊢
  obtain ⟨Ac, cc, rfl, hCc⟩ := ha
  rw [hlen] at hWc ⊢
  have HLEN := Lib.hid hlen
  obtain ⟨n, hn⟩ : ∃ n, n = l.length := ⟨_, rfl⟩
  rw [← hn] at hWc hCc hl ⊢
  have HN := Lib.hid hn
  have HWC := Lib.hid hWc
  have HCC := Lib.hid hCc
  have hC0 := Blk.new w 25 (cfgV c)
  have hL0 := Blk.new (w.alloc (.cells (cfgV c) 25)) 39 #[.slice Ac n cc, .string x, .int .i64 m', .int .i64 f]
  rw [show (w.alloc (.cells (cfgV c) 25)).heap.size = w.heap.size + 1 by simp] at hL0
  have D1 : ∀ (W : World) o, Below W.heap.size W (W.alloc o) := fun W o => (Below.refl _ _).alloc (Nat.le_refl _) o
  have HC0 := Lib.hid ((hC0.after (D1 _ (.cells #[.slice Ac n cc, .string x, .int .i64 m', .int .i64 f] 39))).after (D1 _ (.cells #[] 5)))
  have HL0 := Lib.hid (hL0.after (D1 _ (.cells #[] 5)))
  have B0 := Lib.hid (by go_grown : Below w.heap.size w (((w.alloc (.cells (cfgV c) 25)).alloc (.cells #[.slice Ac n cc, .string x, .int .i64 m', .int .i64 f] 39)).alloc (.cells #[] 5)))
  have hO0 := OwnU.lit ((w.alloc (.cells (cfgV c) 25)).alloc (.cells #[.slice Ac n cc, .string x, .int .i64 m', .int .i64 f] 39)) w.heap.size (by simp; omega)
  rw [show ((w.alloc (.cells (cfgV c) 25)).alloc (.cells #[.slice Ac n cc, .string x, .int .i64 m', .int .i64 f] 39)).heap.size = w.heap.size + 1 + 1 by simp] at hO0
  have HO0 : Hid (OwnU _ w.heap.size _ (layCels c (l.take 0) (ws.take 0))) := Lib.hid (by rw [List.take_zero, List.take_zero]; exact hO0)
  have HALL : Hid (layCels c (l.take n) (ws.take n) = layCels c l ws) := Lib.hid (by rw [hn, List.take_length, ← hlen, List.take_length])
  obtain ⟨LC, hLC⟩ : ∃ g : Nat → List UInt8, g = fun k => layCels c (l.take k) (ws.take k) := ⟨_, rfl⟩
  have HTK2 : Hid (∀ k (h : k < l.length) (h' : k < ws.length), LC (k + 1) = LC k ++ layCel c l[k] ws[k]) := Lib.hid (by rw [hLC]; exact HTK.out)
  have HBD2 : Hid (∀ k, (LC k).length ≤ 2000000000000) := Lib.hid (by rw [hLC]; exact HBD.out)
  have HO1 : Hid (OwnU (((w.alloc (.cells (cfgV c) 25)).alloc (.cells #[.slice Ac n cc, .string x, .int .i64 m', .int .i64 f] 39)).alloc (.cells #[] 5)) w.heap.size (.slice (some ⟨w.heap.size + 1 + 1, 0, none⟩) 0 0) (LC 0)) := Lib.hid (by rw [hLC]; exact HO0.out)
  have HALL2 : Hid (RES = LC n ++ (x.data.toList ++ (if f ≠ 0 then [10] else []))) := Lib.hid (by rw [HRES.out, hLC, ← HALL.out])
  obtain ⟨m, t, p, d, fr, fd, fl, fe, fm⟩ := c
  unfold cfgV at HFW HC0 HL0 B0 HO1 ⊢
  simp only at HFW HC0 HL0 B0 HO1 HLC ⊢
  clear hn hWc hCc hlen hb hLC hRES HRES HTK HBD HO0 hO0 HALL hC0 hL0 D1 hv htc
  go_enter Try.func28, Try.ntmps28
  go_wp2_with fail
  go_loopw [7, 8, 9, 10, 15] (fun b _ _ _ i wr => ∃ (k : Nat) (vo : Value), k ≤ n ∧ vo = b ∧ i = .int .i64 (k : Int) ∧ Hid (OwnU wr w.heap.size vo (LC k)) ∧ Hid (Below w.heap.size w wr) ∧ Hid (Blk wr w.heap.size 25 #[.int .i64 m, .int .i64 t, .int .i64 p, .int .i64 d, .bool fr, .bool fd, .bool fl, .bool fe, .bool fm]) ∧ Hid (Blk wr (w.heap.size + 1) 39 #[.slice Ac n cc, .string x, .int .i64 m', .int .i64 f])) (fun _ _ _ _ i _ => n - (intOf i).toNat)
  case atStart => exact ⟨0, _, Nat.zero_le _, rfl, rfl, HO1, B0, HC0, HL0⟩
  case round =>
    obtain ⟨k, vo, hk, rfl, rfl, HO, HBE, HBC, HBL⟩ := hrel
    by_cases hlt : k < n
    · obtain ⟨gi, oi, rfl, hgi, hci⟩ := HCC.out (by omega)
      have hkl : k < l.length := by rw [← HN.out]; exact hlt
      have hkw : k < ws.length := by rw [HLEN.out]; exact hkl
      obtain ⟨gw, og, rfl, hgw, hcw⟩ := HWC.out (by omega)
      have w0 := (HBE.out.cell (p := ⟨gw, og + k, none⟩) hgw).trans (hcw k _ (ints_get ws k hkw))
      obtain ⟨b0, b1⟩ := (hci k _ (List.getElem?_eq_getElem hkl)).keep (fun p hp => HBE.out.cell hp) hgi
      have HSTEP := Lib.hid (HTK2.out k hkl hkw)
      obtain ⟨g0, g1, g2, g3⟩ := HB.out k _ _ (List.getElem?_eq_getElem hkl) (List.getElem?_eq_getElem hkw)
      have hyt := HTC.out _ (List.getElem_mem hkl)
      generalize ws[k] = nw at w0 HSTEP g0 g1
      generalize l[k] = y at b0 b1 HSTEP g2 g3 hyt
      obtain ⟨yt, yw⟩ := y
      simp only at b0 b1 g2 g3 hyt
      rw [HLC.out] at HSTEP
      simp only at HSTEP
      have hPL := HBD2.out k
      obtain ⟨P, hP⟩ : ∃ P, P = LC k := ⟨_, rfl⟩
      rw [← hP] at HO HSTEP hPL
      have hwrap : IntKind.i64.wrap (nw - yw) = nw - yw := IntWalk.i64_in _ (by omega)
      obtain ⟨mx, hmx⟩ : ∃ mx, mx = max (nw - yw) 0 := ⟨_, rfl⟩
      have hmx0 : 0 ≤ mx := by omega
      have hmx1 : mx ≤ 900000 := by omega
      have HMX : Hid (∀ W, Calls Try.prog 45 #[.int .i64 (nw - yw), .int .i64 0] W fun e w' => e = .returned (.int .i64 mx) ∧ W = w') := Lib.hid (fun W => by rw [hmx]; exact specMax (nw - yw) 0 W)
      rw [← hmx] at HSTEP
      have HFK := Lib.hid (HFW.out mx)
      have HFL1 := HFL.out mx hmx0
      rw [← HFX.out] at HSTEP HFL1
      generalize fillW ⟨m, t, p, d, fr, fd, fl, fe, fm⟩ mx = F at HFK HSTEP HFL1
      have hFs : F.size ≤ 900000 := by have : F.data.toList.length = F.size := rfl; omega
      obtain ⟨wx, rfl⟩ : ∃ wx : World, wx = wr := ⟨_, rfl⟩
      obtain ⟨HC, hHC⟩ : ∃ H, H = wx.heap.size := ⟨_, rfl⟩
      obtain ⟨WX, hWX⟩ : ∃ W, W = wx.alloc (.cells #[.string yt, .int .i64 yw] 37) := ⟨_, rfl⟩
      have DX : Below wx.heap.size wx WX := by rw [hWX]; exact (Below.refl _ _).alloc (Nat.le_refl _) _
      have hKC : Blk WX HC 37 #[.string yt, .int .i64 yw] := by rw [hHC, hWX]; exact Blk.new _ _ _
      have y0 := hKC.cell 0
      have y1 := hKC.cell 1
      simp at y0 y1
      have hsx := hKC.lt
      have hBC1 := HBC.out.after DX
      obtain ⟨e0, e1, e2, e3, e4, e5, e6, e7, e8⟩ := hBC1.boxed
      have hs0 := hBC1.lt
      have hgx : gw < WX.heap.size := by have := HBE.out.size; have := DX.size; omega
      have w1 := (DX.cell (p := ⟨gw, og + k, none⟩) (by have := HBE.out.size; show gw < _; omega)).trans w0
      have HKC := Lib.hid hKC
      have HDX := Lib.hid DX
      have HWX := Lib.hid hWX
      have HHC := Lib.hid hHC
      have BX := Lib.hid (Below.drew (Below.refl WX.heap.size WX))
      clear hci hcw hWX hHC hKC DX hBC1 hmx hP
      go_upto_region 5 with (fail)
      rw [← HWX.out, ← HHC.out]
      go_region_held3 (fun W => W.cell? ⟨w.heap.size, 0, none⟩ = some (.int .i64 m) ∧ W.cell? ⟨w.heap.size, 1, none⟩ = some (.int .i64 t) ∧ W.cell? ⟨w.heap.size, 2, none⟩ = some (.int .i64 p) ∧ W.cell? ⟨w.heap.size, 3, none⟩ = some (.int .i64 d) ∧ W.cell? ⟨w.heap.size, 4, none⟩ = some (.bool fr) ∧ W.cell? ⟨w.heap.size, 5, none⟩ = some (.bool fd) ∧ W.cell? ⟨w.heap.size, 6, none⟩ = some (.bool fl) ∧ W.cell? ⟨w.heap.size, 7, none⟩ = some (.bool fe) ∧ W.cell? ⟨w.heap.size, 8, none⟩ = some (.bool fm) ∧ W.cell? ⟨HC, 0, none⟩ = some (.string yt) ∧ W.cell? ⟨HC, 1, none⟩ = some (.int .i64 yw) ∧ W.cell? ⟨gw, og + k, none⟩ = some (.int .i64 nw) ∧ HC < W.heap.size ∧ w.heap.size < W.heap.size ∧ gw < W.heap.size ∧ Below WX.heap.size WX W)
        (first | exact ⟨e0, e1, e2, e3, e4, e5, e6, e7, e8, y0, y1, w1, hsx, hs0, hgx, BX.out⟩ | exact layS_below (by assumption) (by assumption))
        (first | (go_at_call 45; refine (HMX.out _).mono ?_; rintro e wz ⟨rfl, rfl⟩) | (go_at_call 23; refine (HFK.out _ hmx0 hmx1).mono ?_; rintro e w2 ⟨rfl, hb2⟩))
      all_goals
        have DW := Lib.hid (layS_new (WX := WX) (W := w2) (by assumption))
        have hO2 := HO.out.keeps ((Keeps.below 5 HDX.out).trans (.below _ DW.out))
        have HO2 := Lib.hid hO2
        have B2 := Lib.hid ((HBE.out.trans (HDX.out.mono HBE.out.size)).trans (DW.out.mono (Nat.le_trans HBE.out.size HDX.out.size)))
        have HC2 := Lib.hid (HBC.out.keeps ((Keeps.below _ HDX.out).trans (.below _ DW.out)))
        have HL2 := Lib.hid (HBL.out.keeps ((Keeps.below _ HDX.out).trans (.below _ DW.out)))
        have HK2 := Lib.hid (HKC.out.after DW.out)
        have hbase2 : w.heap.size ≤ w2.heap.size := B2.out.size
        clear hwrap e0 e1 e2 e3 e4 e5 e6 e7 e8 y0 y1 w1 w0 hO2
        cases fr with

        | false =>
          obtain ⟨e0, e1, e2, e3, e4, e5, e6, e7, e8⟩ := HC2.out.boxed
          have y0 := HK2.out.cell 0
          simp at y0
          have hz2 : (P).length ≤ 3000000000000 := by (try simp only [List.length_append]); have : yt.data.toList.length = yt.size := rfl; have : F.data.toList.length = F.size := rfl; omega
          go_upto_region 9 with (at_builtin; refine add_str rfl _ _ rfl w.heap.size w2 vo (P) rfl HO2.out yt rfl (by omega) hbase2 ?_; intro v3 w3 ho hg; have HOX := Lib.hid ho; have HGX := Lib.hid hg; clear ho hg)
          have ho := HOX.out
          have hg := HGX.out
          clear e0 e1 e2 e3 e4 e5 e6 e7 e8 y0
          have HO3 := Lib.hid ho
          have HB3 := Lib.hid (HO2.out.grown hg B2.out (Nat.le_refl _) hbase2)
          have B3 := HB3
          have HC3 := Lib.hid (HC2.out.grows HO2.out (by decide) hg)
          have HL3 := Lib.hid (HL2.out.grows HO2.out (by decide) hg)
          have HK3 := Lib.hid (HK2.out.grows HO2.out (by decide) hg)
          have hbase3 : w.heap.size ≤ w3.heap.size := B3.out.size
          clear ho hg
          obtain ⟨e0, e1, e2, e3, e4, e5, e6, e7, e8⟩ := HC3.out.boxed
          have y0 := HK3.out.cell 0
          simp at y0
          have hz3 : (P ++ yt.data.toList).length ≤ 3000000000000 := by (try simp only [List.length_append]); have : yt.data.toList.length = yt.size := rfl; have : F.data.toList.length = F.size := rfl; omega
          go_upto_region 11 with (at_builtin; refine add_str rfl _ _ rfl w.heap.size w3 v3 (P ++ yt.data.toList) rfl HO3.out F rfl (by omega) hbase3 ?_; intro v4 w4 ho hg; have HOX := Lib.hid ho; have HGX := Lib.hid hg; clear ho hg)
          have ho := HOX.out
          have hg := HGX.out
          clear e0 e1 e2 e3 e4 e5 e6 e7 e8 y0
          have HO4 := Lib.hid ho
          have HB4 := Lib.hid (HO3.out.grown hg B3.out (Nat.le_refl _) hbase3)
          have B4 := HB4
          have HC4 := Lib.hid (HC3.out.grows HO3.out (by decide) hg)
          have HL4 := Lib.hid (HL3.out.grows HO3.out (by decide) hg)
          have HK4 := Lib.hid (HK3.out.grows HO3.out (by decide) hg)
          have hbase4 : w.heap.size ≤ w4.heap.size := B4.out.size
          clear ho hg
          cases fl with
          | false =>
            obtain ⟨e0, e1, e2, e3, e4, e5, e6, e7, e8⟩ := HC4.out.boxed
            have y0 := HK4.out.cell 0
            simp at y0
            have HFIN : Hid (LC (k + 1) = P ++ yt.data.toList ++ F.data.toList) := Lib.hid (by rw [HSTEP.out]; simp)
            go_wp2_with fail
            clear e0 e1 e2 e3 e4 e5 e6 e7 e8 y0
            go_roundw
            case rel => exact ⟨k + 1, v4, by omega, rfl, by go_num, Lib.hid (by rw [HFIN.out]; exact HO4.out), B4, HC4, HL4⟩
            case measure => simp [intOf]; omega
          | true =>
            obtain ⟨e0, e1, e2, e3, e4, e5, e6, e7, e8⟩ := HC4.out.boxed
            have y0 := HK4.out.cell 0
            simp at y0
            have HFIN : Hid (LC (k + 1) = P ++ yt.data.toList ++ F.data.toList ++ [124]) := Lib.hid (by rw [HSTEP.out]; simp)
            have hz4 : (P ++ yt.data.toList ++ F.data.toList).length ≤ 3000000000000 := by simp only [List.length_append]; have : yt.data.toList.length = yt.size := rfl; have : F.data.toList.length = F.size := rfl; omega
            go_wp2_with (at_builtin; refine add_byte rfl _ _ rfl w.heap.size w4 v4 (P ++ yt.data.toList ++ F.data.toList) rfl HO4.out 124 124 rfl rfl (by omega) hbase4 ?_; intro v5 w5 ho hg; have HOX5 := Lib.hid ho; have HGX5 := Lib.hid hg; clear ho hg)
            have ho := HOX5.out
            have hg := HGX5.out
            clear e0 e1 e2 e3 e4 e5 e6 e7 e8 y0
            have HO5 := Lib.hid ho
            have HB5 := Lib.hid (HO4.out.grown hg B4.out (Nat.le_refl _) hbase4)
            have B5 := HB5
            have HC5 := Lib.hid (HC4.out.grows HO4.out (by decide) hg)
            have HL5 := Lib.hid (HL4.out.grows HO4.out (by decide) hg)
            have HK5 := Lib.hid (HK4.out.grows HO4.out (by decide) hg)
            have hbase5 : w.heap.size ≤ w5.heap.size := B5.out.size
            clear ho hg
            go_roundw
            case rel => exact ⟨k + 1, v5, by omega, rfl, by go_num, Lib.hid (by rw [HFIN.out]; exact HO5.out), B5, HC5, HL5⟩
            case measure => simp [intOf]; omega
        | true =>
          obtain ⟨e0, e1, e2, e3, e4, e5, e6, e7, e8⟩ := HC2.out.boxed
          have y0 := HK2.out.cell 0
          simp at y0
          have hz2 : (P).length ≤ 3000000000000 := by (try simp only [List.length_append]); have : yt.data.toList.length = yt.size := rfl; have : F.data.toList.length = F.size := rfl; omega
          go_upto_region 8 with (at_builtin; refine add_str rfl _ _ rfl w.heap.size w2 vo (P) rfl HO2.out F rfl (by omega) hbase2 ?_; intro v3 w3 ho hg; have HOX := Lib.hid ho; have HGX := Lib.hid hg; clear ho hg)
          have ho := HOX.out
          have hg := HGX.out
          clear e0 e1 e2 e3 e4 e5 e6 e7 e8 y0
          have HO3 := Lib.hid ho
          have HB3 := Lib.hid (HO2.out.grown hg B2.out (Nat.le_refl _) hbase2)
          have B3 := HB3
          have HC3 := Lib.hid (HC2.out.grows HO2.out (by decide) hg)
          have HL3 := Lib.hid (HL2.out.grows HO2.out (by decide) hg)
          have HK3 := Lib.hid (HK2.out.grows HO2.out (by decide) hg)
          have hbase3 : w.heap.size ≤ w3.heap.size := B3.out.size
          clear ho hg
          obtain ⟨e0, e1, e2, e3, e4, e5, e6, e7, e8⟩ := HC3.out.boxed
          have y0 := HK3.out.cell 0
          simp at y0
          have hz3 : (P ++ F.data.toList).length ≤ 3000000000000 := by (try simp only [List.length_append]); have : yt.data.toList.length = yt.size := rfl; have : F.data.toList.length = F.size := rfl; omega
          go_upto_region 9 with (at_builtin; refine add_str rfl _ _ rfl w.heap.size w3 v3 (P ++ F.data.toList) rfl HO3.out yt rfl (by omega) hbase3 ?_; intro v4 w4 ho hg; have HOX := Lib.hid ho; have HGX := Lib.hid hg; clear ho hg)
          have ho := HOX.out
          have hg := HGX.out
          clear e0 e1 e2 e3 e4 e5 e6 e7 e8 y0
          have HO4 := Lib.hid ho
          have HB4 := Lib.hid (HO3.out.grown hg B3.out (Nat.le_refl _) hbase3)
          have B4 := HB4
          have HC4 := Lib.hid (HC3.out.grows HO3.out (by decide) hg)
          have HL4 := Lib.hid (HL3.out.grows HO3.out (by decide) hg)
          have HK4 := Lib.hid (HK3.out.grows HO3.out (by decide) hg)
          have hbase4 : w.heap.size ≤ w4.heap.size := B4.out.size
          clear ho hg
          cases fl with
          | false =>
            obtain ⟨e0, e1, e2, e3, e4, e5, e6, e7, e8⟩ := HC4.out.boxed
            have y0 := HK4.out.cell 0
            simp at y0
            have HFIN : Hid (LC (k + 1) = P ++ F.data.toList ++ yt.data.toList) := Lib.hid (by rw [HSTEP.out]; simp)
            go_wp2_with fail
            clear e0 e1 e2 e3 e4 e5 e6 e7 e8 y0
            go_roundw
            case rel => exact ⟨k + 1, v4, by omega, rfl, by go_num, Lib.hid (by rw [HFIN.out]; exact HO4.out), B4, HC4, HL4⟩
            case measure => simp [intOf]; omega
          | true =>
            obtain ⟨e0, e1, e2, e3, e4, e5, e6, e7, e8⟩ := HC4.out.boxed
            have y0 := HK4.out.cell 0
            simp at y0
            have HFIN : Hid (LC (k + 1) = P ++ F.data.toList ++ yt.data.toList ++ [124]) := Lib.hid (by rw [HSTEP.out]; simp)
            have hz4 : (P ++ F.data.toList ++ yt.data.toList).length ≤ 3000000000000 := by simp only [List.length_append]; have : yt.data.toList.length = yt.size := rfl; have : F.data.toList.length = F.size := rfl; omega
            go_wp2_with (at_builtin; refine add_byte rfl _ _ rfl w.heap.size w4 v4 (P ++ F.data.toList ++ yt.data.toList) rfl HO4.out 124 124 rfl rfl (by omega) hbase4 ?_; intro v5 w5 ho hg; have HOX5 := Lib.hid ho; have HGX5 := Lib.hid hg; clear ho hg)
            have ho := HOX5.out
            have hg := HGX5.out
            clear e0 e1 e2 e3 e4 e5 e6 e7 e8 y0
            have HO5 := Lib.hid ho
            have HB5 := Lib.hid (HO4.out.grown hg B4.out (Nat.le_refl _) hbase4)
            have B5 := HB5
            have HC5 := Lib.hid (HC4.out.grows HO4.out (by decide) hg)
            have HL5 := Lib.hid (HL4.out.grows HO4.out (by decide) hg)
            have HK5 := Lib.hid (HK4.out.grows HO4.out (by decide) hg)
            have hbase5 : w.heap.size ≤ w5.heap.size := B5.out.size
            clear ho hg
            go_roundw
            case rel => exact ⟨k + 1, v5, by omega, rfl, by go_num, Lib.hid (by rw [HFIN.out]; exact HO5.out), B5, HC5, HL5⟩
            case measure => simp [intOf]; omega
    · obtain rfl : k = n := by omega
      have hPL := HBD2.out k
      have q1 := HBL.out.cell 1
      have q3 := HBL.out.cell 3
      simp at q1 q3
      have hbase : w.heap.size ≤ wr.heap.size := HBE.out.size
      obtain ⟨P, hP⟩ : ∃ P, P = LC k := ⟨_, rfl⟩
      rw [← hP] at HO hPL HALL2
      have hxs : x.data.toList.length = x.size := rfl
      clear hP
      go_upto_region 15 with (at_builtin; refine add_str rfl _ _ rfl w.heap.size wr vo P rfl HO.out x rfl (by omega) hbase ?_; intro v3 w3 ho hg; have HO3 := Lib.hid ho; have HG3 := Lib.hid hg; clear ho hg)
      have HB3 := Lib.hid (HO.out.grown HG3.out HBE.out (Nat.le_refl _) hbase)
      have HL3 := Lib.hid (HBL.out.grows HO.out (by decide) HG3.out)
      have hbase3 : w.heap.size ≤ w3.heap.size := HB3.out.size
      clear q1 q3
      have q3 := HL3.out.cell 3
      simp at q3
      by_cases hf : f = 0
      · have e0 : (f != 0) = false := by simp [hf]
        have HFIN : Hid (P ++ x.data.toList = RES) := Lib.hid (by rw [HALL2.out, if_neg (by simp [hf])]; simp)
        have hcv := HO3.out.conv
        rw [HFIN.out] at hcv
        clear hf
        go_wp2_with fail
        go_ret
        exact ⟨rfl, HB3.out⟩
      · have e0 : (f != 0) = true := by simp [hf]
        have HFIN : Hid (P ++ x.data.toList ++ [10] = RES) := Lib.hid (by rw [HALL2.out, if_pos hf]; simp)
        have hz3 : (P ++ x.data.toList).length ≤ 3000000000000 := by rw [List.length_append]; omega
        clear hf
        go_upto_region 17 with (at_builtin; refine add_byte rfl _ _ rfl w.heap.size w3 v3 (P ++ x.data.toList) rfl HO3.out 10 10 rfl rfl (by omega) hbase3 ?_; intro v4 w4 ho hg; have HO4 := Lib.hid ho; have HG4 := Lib.hid hg; clear ho hg)
        have HB4 := Lib.hid (HO3.out.grown HG4.out HB3.out (Nat.le_refl _) hbase3)
        have hcv := HO4.out.conv
        rw [HFIN.out] at hcv
        clear q3
        go_wp2_with fail
        go_ret
        exact ⟨rfl, HB4.out⟩
end Go.Proofs.Ytjdbkpckhgncbaa
