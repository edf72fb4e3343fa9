/- One line of a layout: the model's LayLine. -/
import Derived.Test.YtjdbkpckhgncbaaSpecLayL
import Derived.Test.YtjdbkpckhgncbaaLayB
namespace Go.Proofs.Ytjdbkpckhgncbaa
open Go.RowKit
set_option linter.unusedVariables false

set_option maxRecDepth 100000 in
set_option maxHeartbeats 4000000 in
theorem specLayLine (c : Cfg) (l : List Cel) (va vw : Value) (ws : List Int) (x : ByteArray) (m' f : Int) (w : World) (ha : RdC w va l) (hw : Rd w vw (ints ws)) (hl : l.length ≤ 1048576) (hwl : ws.length ≤ 1048576) (htc : totC l ≤ 1048576) (hx : x.size ≤ 1048576)
    (hyw : ∀ y ∈ l, y.wid ≤ 9223372036854775807) :
    Calls Try.prog 10 #[.agg (cfgV c), .agg #[va, .string x, .int .i64 m', .int .i64 f], vw] w fun e w' => e = .returned (.string (layLineB c ⟨l, ⟨x, m'⟩, f⟩ ws)) ∧ Below w.heap.size w w' := by
  have hS := fun W => specIsConfig c W
  have HLN := Lib.hid (fun W (hb : Below w.heap.size w W) (hv : validC c = true) (hlen : ws.length = l.length) (h3 : okWs ws = true) (h4 : okCs l = true) =>
    specLine c l va vw ws x m' f W hv (ha.below hb) (hw.below hb) hlen hl htc hx (fun k y n h1 h2 => ⟨(okWs_get h3 k n h2).1, by have := (okWs_get h3 k n h2).2; omega, okCs_get h4 k y h1, hyw y (List.mem_of_getElem? h1)⟩))
  have HIN := Lib.hid (fun x W => l01In_any x 0 100200 W)
  obtain ⟨Aw, cw, rfl, hWc⟩ := hw
  rw [ints_length] at hWc HLN ⊢
  obtain ⟨Ac, cc, rfl, hCc⟩ := ha
  obtain ⟨RES, hRES⟩ : ∃ r, r = layLineB c ⟨l, ⟨x, m'⟩, f⟩ ws := ⟨_, rfl⟩
  have HNO : Hid (validC c = false ∨ ws.length ≠ l.length ∨ okWs ws = false ∨ okCs l = false → RES = ⟨#[]⟩) := Lib.hid (fun h => by rw [hRES]; exact layLineB_no h)
  have HYES : Hid (validC c = true → ws.length = l.length → okWs ws = true → okCs l = true → RES = ⟨(layLn c ⟨l, ⟨x, m'⟩, f⟩ ws).toArray⟩) := Lib.hid (fun h1 h2 h3 h4 => by rw [hRES]; exact layLineB_yes h1 h2 h3 h4)
  rw [← hRES]
  have hC0 := Blk.new w 25 (cfgV c)
  have hL0 := Blk.new (w.alloc (.cells (cfgV c) 25)) 39 #[.slice Ac l.length cc, .string x, .int .i64 m', .int .i64 f]
  rw [show (w.alloc (.cells (cfgV c) 25)).heap.size = w.heap.size + 1 by simp] at hL0
  have HC0 := Lib.hid (hC0.after ((Below.refl (w.alloc (.cells (cfgV c) 25)).heap.size (w.alloc (.cells (cfgV c) 25))).alloc (Nat.le_refl _) (.cells #[.slice Ac l.length cc, .string x, .int .i64 m', .int .i64 f] 39)))
  have HL0 := Lib.hid hL0
  have B0 := Lib.hid (by go_grown : Below w.heap.size w ((w.alloc (.cells (cfgV c) 25)).alloc (.cells #[.slice Ac l.length cc, .string x, .int .i64 m', .int .i64 f] 39)))
  have HWT := Lib.hid (fun k h => okWs_take ws k h)
  have HCT := Lib.hid (fun k h => okCs_take l k h)
  have HWB := Lib.hid (fun k h hb => okWs_bad ws k h hb)
  have HCB := Lib.hid (fun k h hb => okCs_bad l k h hb)
  have HW0 : Hid (okWs (ws.take 0) = true) := Lib.hid rfl
  have HCC0 : Hid (okCs (l.take 0) = true) := Lib.hid rfl
  have HWA : Hid (okWs (ws.take ws.length) = okWs ws) := Lib.hid (by rw [List.take_length])
  have HCA : Hid (okCs (l.take l.length) = okCs l) := Lib.hid (by rw [List.take_length])
  obtain ⟨n, hn⟩ : ∃ n, n = l.length := ⟨_, rfl⟩
  obtain ⟨nw, hnw⟩ : ∃ n, n = ws.length := ⟨_, rfl⟩
  have HN := Lib.hid hn
  have HNW := Lib.hid hnw
  rw [← hn] at HLN hCc hl HNO HYES HC0 HL0 B0 HCA ⊢
  rw [← hnw] at HLN hWc hwl HNO HYES HWA ⊢
  have HWC := Lib.hid hWc
  have HCC := Lib.hid hCc
  clear hRES hWc hCc hC0 hL0 hn hnw htc hyw
  cases hv : validC c with
  | false =>
    have HE := Lib.hid (HNO.out (.inl hv))
    rw [hv] at hS
    have HS := Lib.hid hS
    clear hS hv HLN HYES HNO
    obtain ⟨m, t, p, d, fr, fd, fl, fe, fm⟩ := c
    unfold cfgV at HS B0 ⊢
    simp only at HS B0 ⊢
    go_enter Try.func10, Try.ntmps10
    go_wp2_with fail
    refine (HS.out _).mono ?_
    rintro e w1 ⟨rfl, hb1⟩
    have B1 := Lib.hid (B0.out.trans (hb1.mono B0.out.size))
    clear hb1
    go_wp2_with fail
    go_ret
    exact ⟨ret_string HE.out.symm, B1.out⟩
  | true =>
    have HLV := Lib.hid (fun W hb => HLN.out W hb hv)
    have HYV := Lib.hid (HYES.out hv)
    rw [hv] at hS
    have HS := Lib.hid hS
    clear hS hv HLN HYES
    obtain ⟨m, t, p, d, fr, fd, fl, fe, fm⟩ := c
    unfold cfgV at HS HC0 HL0 B0 HLV ⊢
    simp only at HS HC0 HL0 B0 HLV ⊢
    by_cases hlen : nw = n
    · have HLV2 := Lib.hid (fun W hb => HLV.out W hb hlen)
      have HYV2 := Lib.hid (HYV.out hlen)
      subst hlen
      have hne : ((nw : Int) != (nw : Int)) = false := by simp
      clear HLV HYV
      go_enter Try.func10, Try.ntmps10
      go_wp2_with fail
      refine (HS.out _).mono ?_
      rintro e w1 ⟨rfl, hb1⟩
      have B1 := Lib.hid (B0.out.trans (hb1.mono B0.out.size))
      have HC1 := Lib.hid (HC0.out.after hb1)
      have HL1 := Lib.hid (HL0.out.after hb1)
      have q0 := HL1.out.cell 0
      simp at q0
      clear hb1
      go_wp2_with fail
      clear hne
      go_loopw [8, 24] (fun _ i wr => ∃ (k : Nat), k ≤ nw ∧ i = .int .i64 (k : Int) ∧ Hid (okWs (ws.take k) = true) ∧ Hid (Below w.heap.size w wr) ∧ Hid (Blk wr w.heap.size 25 #[.int .i64 m, .int .i64 t, .int .i64 p, .int .i64 d, .bool fr, .bool fd, .bool fl, .bool fe, .bool fm]) ∧ Hid (Blk wr (w.heap.size + 1) 39 #[.slice Ac nw cc, .string x, .int .i64 m', .int .i64 f])) (fun _ i _ => nw - (intOf i).toNat)
      case atStart => exact ⟨0, Nat.zero_le _, rfl, HW0, B1, HC1, HL1⟩
      case round =>
        obtain ⟨k, hk, rfl, HOK, HBE, HBC, HBL⟩ := hrel
        by_cases hlt : k < nw
        · obtain ⟨gw, og, rfl, hgw, hcw⟩ := HWC.out (by omega)
          have hkw : k < ws.length := by rw [← HNW.out]; exact hlt
          have w0 := (HBE.out.cell (p := ⟨gw, og + k, none⟩) hgw).trans (hcw k _ (ints_get ws k hkw))
          have HT := Lib.hid (HWT.out k hkw)
          have HB := Lib.hid (HWB.out k hkw)
          generalize ws[k] = z at w0 HT HB
          have HIZ := Lib.hid (fun W => HIN.out z W)
          clear hcw
          by_cases hr : 0 ≤ z ∧ z ≤ 100200
          · rw [inB_yes hr] at HIZ
            have HNX : Hid (okWs (ws.take (k + 1)) = true) := Lib.hid (by rw [HT.out, HOK.out]; simp [hr])
            clear hr
            go_wp2_with fail
            refine (HIZ.out _).mono ?_
            rintro e w5 ⟨rfl, rfl⟩
            go_wp2_with fail
            go_roundw
            case rel => exact ⟨k + 1, by omega, by go_num, HNX, HBE, HBC, HBL⟩
            case measure => simp [intOf]; omega
          · rw [inB_no hr] at HIZ
            have HE := Lib.hid (HNO.out (.inr (.inr (.inl (HB.out hr)))))
            clear hr
            go_wp2_with fail
            refine (HIZ.out _).mono ?_
            rintro e w5 ⟨rfl, rfl⟩
            go_wp2_with fail
            go_ret
            exact ⟨ret_string HE.out.symm, HBE.out⟩
        · obtain rfl : k = nw := by omega
          have HWOK : Hid (okWs ws = true) := Lib.hid (by rw [← HWA.out]; exact HOK.out)
          have HLV3 := Lib.hid (fun W hb => HLV2.out W hb HWOK.out)
          have HYV3 := Lib.hid (HYV2.out HWOK.out)
          have q0 := HBL.out.cell 0
          simp at q0
          go_wp2_with fail
          clear q0
          go_loopw [10, 35] (fun _ i wx => ∃ (q : Nat), q ≤ k ∧ i = .int .i64 (q : Int) ∧ Hid (okCs (l.take q) = true) ∧ Hid (Below w.heap.size w wx) ∧ Hid (Blk wx w.heap.size 25 #[.int .i64 m, .int .i64 t, .int .i64 p, .int .i64 d, .bool fr, .bool fd, .bool fl, .bool fe, .bool fm]) ∧ Hid (Blk wx (w.heap.size + 1) 39 #[.slice Ac k cc, .string x, .int .i64 m', .int .i64 f])) (fun _ i _ => k - (intOf i).toNat)
          case atStart => exact ⟨0, Nat.zero_le _, rfl, HCC0, HBE, HBC, HBL⟩
          case round =>
            obtain ⟨q, hq, rfl, HOKQ, HBX, HBCX, HBLX⟩ := hrel
            by_cases hltq : q < k
            · obtain ⟨gi, oi, rfl, hgi, hci⟩ := HCC.out (by omega)
              have hql : q < l.length := by rw [← HN.out]; exact hltq
              obtain ⟨b0, b1⟩ := (hci q _ (List.getElem?_eq_getElem hql)).keep (fun p hp => HBX.out.cell hp) hgi
              have HT := Lib.hid (HCT.out q hql)
              have HB := Lib.hid (HCB.out q hql)
              generalize l[q] = y at b0 b1 HT HB
              obtain ⟨yt, yw⟩ := y
              simp only at b0 b1 HT HB
              have DX := Lib.hid ((Below.refl wr.heap.size wr).alloc (Nat.le_refl _) (.cells #[.string yt, .int .i64 yw] 37))
              have HBY := Lib.hid (HBX.out.trans (DX.out.mono HBX.out.size))
              have HBCY := Lib.hid (HBCX.out.after DX.out)
              have HBLY := Lib.hid (HBLX.out.after DX.out)
              clear hci
              by_cases hr : 0 ≤ yw
              · have HNX : Hid (okCs (l.take (q + 1)) = true) := Lib.hid (by rw [HT.out, HOKQ.out]; simp [hr])
                have hr2 : ¬ yw < 0 := by omega
                clear hr
                go_wp2_with fail
                go_roundw
                case rel => exact ⟨q + 1, by omega, by go_num, HNX, HBY, HBCY, HBLY⟩
                case measure => simp [intOf]; omega
              · have HE := Lib.hid (HNO.out (.inr (.inr (.inr (HB.out (by omega))))))
                have hr2 : yw < 0 := by omega
                clear hr
                go_wp2_with fail
                go_ret
                exact ⟨ret_string HE.out.symm, HBY.out⟩
            · obtain rfl : q = k := by omega
              have HCOK : Hid (okCs l = true) := Lib.hid (by rw [← HCA.out]; exact HOKQ.out)
              have HE := Lib.hid (HYV3.out HCOK.out)
              have HCALL := Lib.hid (fun W hb => HLV3.out W hb HCOK.out)
              obtain ⟨c0, c1, c2, c3, c4, c5, c6, c7, c8⟩ := HBCX.out.boxed
              have q0 := HBLX.out.cell 0
              have q1 := HBLX.out.cell 1
              have q2 := HBLX.out.cell 2
              have q3 := HBLX.out.cell 3
              simp at q0 q1 q2 q3
              go_wp2_with fail
              refine (HCALL.out _ HBX.out).mono ?_
              rintro e w6 ⟨rfl, hb6⟩
              have B6 := Lib.hid (HBX.out.trans (hb6.mono HBX.out.size))
              clear hb6
              go_wp2_with fail
              go_ret
              exact ⟨ret_string HE.out.symm, B6.out⟩
    · have HE := Lib.hid (HNO.out (.inr (.inl hlen)))
      have hne : ((nw : Int) != (n : Int)) = true := by simp; omega
      clear hlen HLV HYV
      go_enter Try.func10, Try.ntmps10
      go_wp2_with fail
      refine (HS.out _).mono ?_
      rintro e w1 ⟨rfl, hb1⟩
      have B1 := Lib.hid (B0.out.trans (hb1.mono B0.out.size))
      have HL1 := Lib.hid (HL0.out.after hb1)
      have q0 := HL1.out.cell 0
      simp at q0
      clear hb1
      go_wp2_with fail
      go_ret
      exact ⟨ret_string HE.out.symm, B1.out⟩
end Go.Proofs.Ytjdbkpckhgncbaa
