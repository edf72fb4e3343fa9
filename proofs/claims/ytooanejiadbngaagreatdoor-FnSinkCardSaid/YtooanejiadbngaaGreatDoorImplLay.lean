/- The program's lines of a layout: a cell laid, what can be laid, a line laid. -/
import Derived.Test.YtooanejiadbngaaGreatDoorImplFill
import Derived.Test.YtooanejiadbngaaGreatDoorLayB
import Derived.Test.YtooanejiadbngaaGreatDoorBG
import Derived.Test.YtooanejiadbngaaGreatDoorBA
import Derived.Test.YtooanejiadbngaaGreatDoorBB
import Derived.StillTailTactics
namespace Go.Proofs.YtooanejiadbngaaGreatDoor
open Go.RowKit
set_option linter.unusedVariables false

theorem bytes_mk (a b : List UInt8) : (⟨(a ++ b).toArray⟩ : ByteArray) = ⟨a.toArray⟩ ++ ⟨b.toArray⟩ := by apply ByteArray.ext; simp
theorem bytes_of (s : ByteArray) : (⟨s.data.toList.toArray⟩ : ByteArray) = s := by apply ByteArray.ext; simp
theorem bytes_noneR (s : ByteArray) : s ++ (⟨#[]⟩ : ByteArray) = s := by apply ByteArray.ext; simp
/-- A cell laid. -/
def layCelB (c : Cfg) (y : Cel) (n : Int) : ByteArray := ⟨(layCel c y n).toArray⟩
theorem layCelB_list (c : Cfg) (y : Cel) (n : Int) : (layCelB c y n).data.toList = layCel c y n := by unfold layCelB; simp
theorem layCelB_eq (c : Cfg) (y : Cel) (n : Int) : layCelB c y n = (if c.fr = true then fillW c (max 0 (n - y.wid)) ++ y.txt else y.txt ++ fillW c (max 0 (n - y.wid))) ++ (if c.fl = true then ⟨#[124]⟩ else ⟨#[]⟩) := by
  unfold layCelB layCel fillW
  rw [bytes_mk, Int.max_comm 0]
  congr 1
  · split
    · rw [bytes_mk, bytes_of]
    · rw [bytes_mk, bytes_of]
  · split <;> rfl
theorem fillW_size (c : Cfg) (n : Int) (hv : validC c = true) (h0 : 0 ≤ n) : ((fillW c n).size : Int) ≤ n := by
  have h := fillL_len c n hv h0
  rw [← fillW_list] at h
  exact h
theorem layCelB_size (c : Cfg) (y : Cel) (n : Int) (hv : validC c = true) (h1 : n ≤ 800000) (h2 : 0 ≤ y.wid) : (layCelB c y n).size ≤ y.txt.size + 800001 := by
  have h := layCel_len c y n hv h1 h2
  rw [← layCelB_list] at h
  exact h
theorem txt_addN {P : Program} {w : World} (a b : ByteArray) (h : a.size + b.size ≤ 9223372036854775807) : (Op.stringOp .add a b).run P w = .ok (.string (a ++ b)) w :=
  run_string_add_sum _ _ _ h
/-- A region whose reads stand ahead of its calls: the world of the draw under a name. -/
theorem still_named {P : Program} {id : Nat} {Q : Exit → Act → World → Prop} {a : Act} {w : World} {l : List Oper} (n : Nat) (hm : P.follows .mixedOrders = true) (hB : Region.lexTailB .any l.toArray n = true)
    (h : ∀ wd : World, wd = w.drew → wpStill P l.toArray wd (fun a' => wpList P l.toArray Q (l.drop n) a' wd) (l.take n) a) : (Code.region id l.toArray true).wp P Q a w :=
  wp_region_still_tail n hm hB (h _ rfl)
set_option maxRecDepth 100000 in
set_option maxHeartbeats 2000000 in
theorem implLayCell (c : Cfg) (y : Cel) (n : Int) (w : World) (hv : validC c = true) (h0 : 0 ≤ n) (h1 : n ≤ 100200) (hy0 : 0 ≤ y.wid) (hy1 : y.wid ≤ 9223372036854775807) (hys : y.txt.size ≤ 1048576) :
    Calls Tryz.prog 44 #[.agg (cfgV c), .agg #[.string y.txt, .int .i64 y.wid], .int .i64 n] w fun e w' => e = .returned (.string (layCelB c y n)) ∧ Below w.heap.size w w' := by
  obtain ⟨mx, hmx⟩ : ∃ mx, mx = max 0 (n - y.wid) := ⟨_, rfl⟩
  have hm0 : 0 ≤ mx := by omega
  have hm1 : mx ≤ 100200 := by omega
  have HF := Lib.hid (fun W => implFilled c mx W hv hm0 (by omega))
  have hFs := fillW_size c mx hv hm0
  have hR := layCelB_eq c y n
  rw [← hmx] at hR
  generalize layCelB c y n = R at hR ⊢
  generalize fillW c mx = F at HF hR hFs
  have hmr := fun ts ty w => max_any (P := Tryz.prog) ts ty 0 (n - y.wid) w
  rw [← hmx] at hmr
  have hC0 := Blk.new w 24 (cfgV c)
  have hL0 := Blk.new (w.alloc (.cells (cfgV c) 24)) 77 #[.string y.txt, .int .i64 y.wid]
  rw [show (w.alloc (.cells (cfgV c) 24)).heap.size = w.heap.size + 1 by simp] at hL0
  have HC0 := Lib.hid (hC0.after ((Below.refl (w.alloc (.cells (cfgV c) 24)).heap.size (w.alloc (.cells (cfgV c) 24))).alloc (Nat.le_refl _) (.cells #[.string y.txt, .int .i64 y.wid] 77)))
  have HL0 := Lib.hid hL0
  have B0 := Lib.hid (by go_grown : Below w.heap.size w ((w.alloc (.cells (cfgV c) 24)).alloc (.cells #[.string y.txt, .int .i64 y.wid] 77)))
  obtain ⟨yt, yw⟩ := y
  obtain ⟨m, t, p, d, fr, fd, fl, fe, fm⟩ := c
  unfold cfgV at HF HC0 HL0 B0 ⊢
  simp only at HF HC0 HL0 B0 hR hmr hy0 hy1 hys ⊢
  have a1 := fun w => txt_addN (P := Tryz.prog) (w := w) yt F (by omega)
  have a2 := fun w => txt_addN (P := Tryz.prog) (w := w) F yt (by omega)
  have a3 := fun w => txt_addN (P := Tryz.prog) (w := w) (yt ++ F) ⟨#[124]⟩ (by rw [ByteArray.size_append, show (⟨#[124]⟩ : ByteArray).size = 1 from rfl]; omega)
  have a4 := fun w => txt_addN (P := Tryz.prog) (w := w) (F ++ yt) ⟨#[124]⟩ (by rw [ByteArray.size_append, show (⟨#[124]⟩ : ByteArray).size = 1 from rfl]; omega)
  obtain ⟨u1, hu1⟩ : ∃ u, u = yt ++ F := ⟨_, rfl⟩
  obtain ⟨u2, hu2⟩ : ∃ u, u = F ++ yt := ⟨_, rfl⟩
  rw [← hu1] at a1 a3 hR
  rw [← hu2] at a2 a4 hR
  obtain ⟨u3, hu3⟩ : ∃ u, u = u1 ++ ⟨#[124]⟩ := ⟨_, rfl⟩
  obtain ⟨u4, hu4⟩ : ∃ u, u = u2 ++ ⟨#[124]⟩ := ⟨_, rfl⟩
  rw [← hu3] at a3
  rw [← hu4] at a4
  have HE1 : Hid (fr = false → fl = false → R = u1) := Lib.hid (fun e1 e2 => by rw [hR, e1, e2]; exact bytes_noneR _)
  have HE2 : Hid (fr = true → fl = false → R = u2) := Lib.hid (fun e1 e2 => by rw [hR, e1, e2]; exact bytes_noneR _)
  have HE3 : Hid (fr = false → fl = true → R = u3) := Lib.hid (fun e1 e2 => by rw [hR, e1, e2, hu3]; rfl)
  have HE4 : Hid (fr = true → fl = true → R = u4) := Lib.hid (fun e1 e2 => by rw [hR, e1, e2, hu4]; rfl)
  clear hR hC0 hL0 hmx hv hu1 hu2 hu3 hu4 hFs
  cases fr <;> cases fl
  all_goals
    first | have HE := Lib.hid (HE1.out rfl rfl) | have HE := Lib.hid (HE2.out rfl rfl) | have HE := Lib.hid (HE3.out rfl rfl) | have HE := Lib.hid (HE4.out rfl rfl)
    clear HE1 HE2 HE3 HE4
    go_enter Tryz.func44, Tryz.ntmps44
    go_wp2_with fail
    refine (HF.out _).mono ?_
    rintro e w1 ⟨rfl, hb1⟩
    have B1 := Lib.hid (B0.out.trans (hb1.mono B0.out.size))
    obtain ⟨c0, c1, c2, c3, c4, c5, c6, c7, c8⟩ := (HC0.out.after hb1).boxed
    have hl1 := HL0.out.after hb1
    have q0 := hl1.cell 0
    simp at q0
    clear hb1 hl1
    go_wp2_with fail
    go_ret
    exact ⟨ret_string HE.out.symm, B1.out⟩
def canLayB (c : Cfg) (l : List Cel) (ws : List Int) : Bool := validC c && decide (ws.length = l.length) && okWs ws && okCs l
set_option maxRecDepth 100000 in
set_option maxHeartbeats 4000000 in
theorem implCanLay (c : Cfg) (l : List Cel) (va vw : Value) (ws : List Int) (x : ByteArray) (m' f : Int) (w : World) (ha : RdC w va l) (hw : Rd w vw (ints ws)) (hl : l.length ≤ 1048576) (hwl : ws.length ≤ 1048576) :
    Calls Tryz.prog 42 #[.agg (cfgV c), .agg #[va, .string x, .int .i64 m', .int .i64 f], vw] w fun e w' => e = .returned (.bool (canLayB c l ws)) ∧ Below w.heap.size w w' := by
  have hS := fun W => implIsConfig c W
  obtain ⟨Aw, cw, rfl, hWc⟩ := hw
  rw [ints_length] at hWc ⊢
  obtain ⟨Ac, cc, rfl, hCc⟩ := ha
  obtain ⟨RES, hRES⟩ : ∃ r, r = canLayB c l ws := ⟨_, rfl⟩
  have HNO : Hid (validC c = false ∨ ws.length ≠ l.length ∨ okWs ws = false ∨ okCs l = false → RES = false) := Lib.hid (fun h => by
    rw [hRES]; unfold canLayB
    rcases h with h | h | h | h
    · rw [h]; simp
    · rw [decide_eq_false h]; simp
    · rw [h]; simp
    · rw [h]; simp)
  have HYES : Hid (validC c = true → ws.length = l.length → okWs ws = true → okCs l = true → RES = true) := Lib.hid (fun h1 h2 h3 h4 => by rw [hRES]; unfold canLayB; rw [h1, h3, h4, decide_eq_true h2]; rfl)
  rw [← hRES]
  have hC0 := Blk.new w 24 (cfgV c)
  have hL0 := Blk.new (w.alloc (.cells (cfgV c) 24)) 79 #[.slice Ac l.length cc, .string x, .int .i64 m', .int .i64 f]
  rw [show (w.alloc (.cells (cfgV c) 24)).heap.size = w.heap.size + 1 by simp] at hL0
  have HL0 := Lib.hid hL0
  have B0 := Lib.hid (by go_grown : Below w.heap.size w ((w.alloc (.cells (cfgV c) 24)).alloc (.cells #[.slice Ac l.length cc, .string x, .int .i64 m', .int .i64 f] 79)))
  have HWT := Lib.hid (fun k h => okWs_take ws k h)
  have HCT := Lib.hid (fun k h => okCs_take l k h)
  have HWB := Lib.hid (fun k h hb => okWs_bad ws k h hb)
  have HCB := Lib.hid (fun k h hb => okCs_bad l k h hb)
  have HW0 : Hid (okWs (ws.take 0) = true) := Lib.hid rfl
  have HCC0 : Hid (okCs (l.take 0) = true) := Lib.hid rfl
  have HWA : Hid (okWs (ws.take ws.length) = okWs ws) := Lib.hid (by rw [List.take_length])
  have HCA : Hid (okCs (l.take l.length) = okCs l) := Lib.hid (by rw [List.take_length])
  obtain ⟨n, hn⟩ : ∃ n, n = l.length := ⟨_, rfl⟩
  obtain ⟨nw, hnw⟩ : ∃ n, n = ws.length := ⟨_, rfl⟩
  have HN := Lib.hid hn
  have HNW := Lib.hid hnw
  rw [← hn] at hCc hl HNO HYES HL0 B0 HCA ⊢
  rw [← hnw] at hWc hwl HNO HYES HWA ⊢
  have HWC := Lib.hid hWc
  have HCC := Lib.hid hCc
  clear hRES hWc hCc hC0 hL0 hn hnw
  cases hv : validC c with
  | false =>
    have HE := Lib.hid (HNO.out (.inl hv))
    rw [hv] at hS
    have HS := Lib.hid hS
    clear hS hv HYES HNO
    obtain ⟨m, t, p, d, fr, fd, fl, fe, fm⟩ := c
    unfold cfgV at HS B0 ⊢
    simp only at HS B0 ⊢
    go_enter Tryz.func42, Tryz.ntmps42
    go_wp2_with fail
    refine (HS.out _).mono ?_
    rintro e w1 ⟨rfl, hb1⟩
    have B1 := Lib.hid (B0.out.trans (hb1.mono B0.out.size))
    clear hb1
    go_wp2_with fail
    go_ret
    exact ⟨ret_bool HE.out.symm, B1.out⟩
  | true =>
    have HYV := Lib.hid (HYES.out hv)
    rw [hv] at hS
    have HS := Lib.hid hS
    clear hS hv HYES
    obtain ⟨m, t, p, d, fr, fd, fl, fe, fm⟩ := c
    unfold cfgV at HS HL0 B0 ⊢
    simp only at HS HL0 B0 ⊢
    by_cases hlen : nw = n
    · have HYV2 := Lib.hid (HYV.out hlen)
      subst hlen
      have hne : ((nw : Int) != (nw : Int)) = false := by simp
      clear HYV
      go_enter Tryz.func42, Tryz.ntmps42
      go_wp2_with fail
      refine (HS.out _).mono ?_
      rintro e w1 ⟨rfl, hb1⟩
      have B1 := Lib.hid (B0.out.trans (hb1.mono B0.out.size))
      have HL1 := Lib.hid (HL0.out.after hb1)
      have q0 := HL1.out.cell 0
      simp at q0
      clear hb1
      go_wp2_with fail
      clear hne
      go_loopw [7, 8, 23] (fun _ _ i wr => ∃ (k : Nat), k ≤ nw ∧ i = .int .i64 (k : Int) ∧ Hid (okWs (ws.take k) = true) ∧ Hid (okCs (l.take k) = true) ∧ Hid (Below w.heap.size w wr)) (fun _ _ i _ => nw - (intOf i).toNat)
      case atStart => exact ⟨0, Nat.zero_le _, rfl, HW0, HCC0, B1⟩
      case round =>
        obtain ⟨k, hk, rfl, HOK, HOKC, HBE⟩ := hrel
        by_cases hlt : k < nw
        · obtain ⟨gw, og, rfl, hgw, hcw⟩ := HWC.out (by omega)
          obtain ⟨gi, oi, rfl, hgi, hci⟩ := HCC.out (by omega)
          have hkw : k < ws.length := by rw [← HNW.out]; exact hlt
          have hkl : k < l.length := by rw [← HN.out]; exact hlt
          have w0 := (HBE.out.cell (p := ⟨gw, og + k, none⟩) hgw).trans (hcw k _ (ints_get ws k hkw))
          obtain ⟨b0, b1⟩ := (hci k _ (List.getElem?_eq_getElem hkl)).keep (fun p hp => HBE.out.cell hp) hgi
          have HT := Lib.hid (HWT.out k hkw)
          have HB := Lib.hid (HWB.out k hkw)
          have HTC := Lib.hid (HCT.out k hkl)
          have HBC := Lib.hid (HCB.out k hkl)
          generalize ws[k] = z at w0 HT HB
          generalize l[k] = y at b0 b1 HTC HBC
          obtain ⟨yt, yw⟩ := y
          simp only at b0 b1 HTC HBC
          have DX := Lib.hid ((Below.refl wr.heap.size wr).alloc (Nat.le_refl _) (.cells #[.string yt, .int .i64 yw] 77))
          have HBY := Lib.hid (HBE.out.trans (DX.out.mono HBE.out.size))
          have w1' := (DX.out.cell (p := ⟨gw, og + k, none⟩) (by have := HBE.out.size; show gw < _; omega)).trans w0
          clear hcw hci
          by_cases hr : 0 ≤ yw
          · have hr2 : ¬ yw < 0 := by omega
            by_cases hz : 0 ≤ z
            · have hz2 : ¬ z < 0 := by omega
              by_cases hz3 : z ≤ 100200
              · have hz4 : ¬ 100200 < z := by omega
                have HNX : Hid (okWs (ws.take (k + 1)) = true) := Lib.hid (by rw [HT.out, HOK.out]; simp [hz, hz3])
                have HNC : Hid (okCs (l.take (k + 1)) = true) := Lib.hid (by rw [HTC.out, HOKC.out]; simp [hr])
                go_wp2_with fail
                go_roundw
                case rel => exact ⟨k + 1, by omega, by go_num, HNX, HNC, HBY⟩
                case measure => simp [intOf]; omega
              · have HE := Lib.hid (HNO.out (.inr (.inr (.inl (HB.out (fun h => hz3 h.2))))))
                have hz4 : 100200 < z := by omega
                go_wp2_with fail
                go_ret
                exact ⟨ret_bool HE.out.symm, HBY.out⟩
            · have HE := Lib.hid (HNO.out (.inr (.inr (.inl (HB.out (fun h => hz h.1))))))
              have hz4 : z < 0 := by omega
              go_wp2_with fail
              go_ret
              exact ⟨ret_bool HE.out.symm, HBY.out⟩
          · have HE := Lib.hid (HNO.out (.inr (.inr (.inr (HBC.out (by omega))))))
            have hr2 : yw < 0 := by omega
            clear hr
            go_wp2_with fail
            go_ret
            exact ⟨ret_bool HE.out.symm, HBY.out⟩
        · obtain rfl : k = nw := by omega
          have HWOK : Hid (okWs ws = true) := Lib.hid (by rw [← HWA.out]; exact HOK.out)
          have HCOK : Hid (okCs l = true) := Lib.hid (by rw [← HCA.out]; exact HOKC.out)
          have HE := Lib.hid (HYV2.out HWOK.out HCOK.out)
          go_wp2_with fail
          go_ret
          exact ⟨ret_bool HE.out.symm, HBE.out⟩
    · have HE := Lib.hid (HNO.out (.inr (.inl hlen)))
      have hne : ((nw : Int) != (n : Int)) = true := by simp; omega
      clear hlen HYV
      go_enter Tryz.func42, Tryz.ntmps42
      go_wp2_with fail
      refine (HS.out _).mono ?_
      rintro e w1 ⟨rfl, hb1⟩
      have B1 := Lib.hid (B0.out.trans (hb1.mono B0.out.size))
      have HL1 := Lib.hid (HL0.out.after hb1)
      have q0 := HL1.out.cell 0
      simp at q0
      clear hb1
      go_wp2_with fail
      go_ret
      exact ⟨ret_bool HE.out.symm, B1.out⟩
theorem bldBelow {B b : Nat} {l : List UInt8} {w w' : World} (h : BuiltF B b l w) (hb : Below w.heap.size w w') : BuiltF B b l w' := by
  have one : ∀ p, Lib.BuilderAtF 104 5 B b p (u8s l) w → Lib.BuilderAtF 104 5 B b p (u8s l) w' := by
    intro p k
    have hlt := k.lt
    obtain ⟨hB, v, hv, hown, hne⟩ := k
    exact ⟨hB, v, (hb.block b hlt).trans hv, hown.kept (row := none) ⟨hb.os, hb.tape, hb.output, hb.size, fun k hk _ => hb.block k hk⟩ (Classical.em _), hne⟩
  rcases h with h | h
  · exact .inl (one _ h)
  · exact .inr (one _ h)
theorem layCels_whole (c : Cfg) (l : List Cel) (ws : List Int) (h : ws.length = l.length) : layCels c (l.take l.length) (ws.take l.length) = layCels c l ws := by
  rw [List.take_length, ← h, List.take_length]
set_option maxRecDepth 100000 in
set_option maxHeartbeats 4000000 in
theorem implLayLine (c : Cfg) (l : List Cel) (va vw : Value) (ws : List Int) (x : ByteArray) (m' f : Int) (w : World) (ha : RdC w va l) (hw : Rd w vw (ints ws)) (hl : l.length + totC l + x.size ≤ 1048576) (hwl : ws.length ≤ 1048576)
    (hyw : ∀ y ∈ l, y.wid ≤ 9223372036854775807) :
    Calls Tryz.prog 32 #[.agg (cfgV c), .agg #[va, .string x, .int .i64 m', .int .i64 f], vw] w fun e w' => e = .returned (.string (layLineB c ⟨l, ⟨x, m'⟩, f⟩ ws)) ∧ Below w.heap.size w w' := by
  have hS := fun W (hb : Below w.heap.size w W) => implCanLay c l va vw ws x m' f W (ha.below hb) (hw.below hb) (by omega) hwl
  obtain ⟨Aw, cw, rfl, hWc⟩ := hw
  rw [ints_length] at hWc hS ⊢
  obtain ⟨Ac, cc, rfl, hCc⟩ := ha
  obtain ⟨RES, hRES⟩ : ∃ r, r = layLineB c ⟨l, ⟨x, m'⟩, f⟩ ws := ⟨_, rfl⟩
  rw [← hRES]
  have hC0 := Blk.new w 24 (cfgV c)
  have hL0 := Blk.new (w.alloc (.cells (cfgV c) 24)) 79 #[.slice Ac l.length cc, .string x, .int .i64 m', .int .i64 f]
  rw [show (w.alloc (.cells (cfgV c) 24)).heap.size = w.heap.size + 1 by simp] at hL0
  have HC0 := Lib.hid (hC0.after ((Below.refl (w.alloc (.cells (cfgV c) 24)).heap.size (w.alloc (.cells (cfgV c) 24))).alloc (Nat.le_refl _) (.cells #[.slice Ac l.length cc, .string x, .int .i64 m', .int .i64 f] 79)))
  have HL0 := Lib.hid hL0
  have B0 := Lib.hid (by go_grown : Below w.heap.size w ((w.alloc (.cells (cfgV c) 24)).alloc (.cells #[.slice Ac l.length cc, .string x, .int .i64 m', .int .i64 f] 79)))
  cases hcl : canLayB c l ws with
  | false =>
    have HE : Hid (RES = ⟨#[]⟩) := Lib.hid (by
      rw [hRES]
      refine layLineB_no ?_
      unfold canLayB at hcl
      simp only [Bool.and_eq_false_iff, decide_eq_false_iff_not] at hcl
      rcases hcl with ((h | h) | h) | h
      · exact .inl h
      · exact .inr (.inl h)
      · exact .inr (.inr (.inl h))
      · exact .inr (.inr (.inr h)))
    rw [hcl] at hS
    have HS := Lib.hid hS
    generalize l.length = n at HS HL0 B0 ⊢
    generalize ws.length = nw at HS ⊢
    clear hS hcl hRES hWc hCc hC0 hL0 HC0 HL0
    obtain ⟨m, t, p, d, fr, fd, fl, fe, fm⟩ := c
    unfold cfgV at HS B0 ⊢
    simp only at HS B0 ⊢
    go_enter Tryz.func32, Tryz.ntmps32
    go_wp2_with fail
    refine (HS.out _ B0.out).mono ?_
    rintro e w1 ⟨rfl, hb1⟩
    have B1 := Lib.hid (B0.out.trans (hb1.mono B0.out.size))
    clear hb1
    go_wp2_with fail
    go_ret
    exact ⟨ret_string HE.out.symm, B1.out⟩
  | true =>
    have hcl2 := hcl
    unfold canLayB at hcl2
    simp only [Bool.and_eq_true, decide_eq_true_eq] at hcl2
    obtain ⟨⟨⟨hv, hlen⟩, hows⟩, hocs⟩ := hcl2
    have HE : Hid (RES = ⟨(layLn c ⟨l, ⟨x, m'⟩, f⟩ ws).toArray⟩) := Lib.hid (by rw [hRES]; exact layLineB_yes hv hlen hows hocs)
    rw [hcl] at hS
    have HS := Lib.hid hS
    have HLC := Lib.hid (fun y n W h0 h1 h2 h3 h4 => implLayCell c y n W hv h0 h1 h2 h3 h4)
    have HTK := Lib.hid (fun k h h' => layCels_take c l ws k h h')
    have hbd := fun (k : Nat) y n (h1 : l[k]? = some y) (h2 : ws[k]? = some n) => (⟨by have := (okWs_get hows k n h2).2; omega, okCs_get hocs k y h1⟩ : n ≤ 800000 ∧ 0 ≤ y.wid)
    have HLEN := Lib.hid (fun k => layCels_bd c hv l ws hbd (by omega) (by omega) k)
    have HALL := Lib.hid (layCels_whole c l ws hlen)
    have HCS := Lib.hid (fun y n h => layCelB_size c y n hv h)
    have HLS := Lib.hid (layCelB_list c)
    have HWG := Lib.hid (fun k n (h : ws[k]? = some n) => okWs_get hows k n h)
    have HCG := Lib.hid (fun k y (h : l[k]? = some y) => okCs_get hocs k y h)
    have HYW := Lib.hid (fun k y (h : l[k]? = some y) => hyw y (List.mem_of_getElem? h))
    have HTC := Lib.hid (fun k y (h : l[k]? = some y) => totC_mem l y (List.mem_of_getElem? h))
    have hxs : x.size ≤ 1048576 := by omega
    have hlc : totC l ≤ 1048576 := by omega
    have hll : l.length ≤ 1048576 := by omega
    have HTL := Lib.hid hlc
    have HLN : Hid (layLn c ⟨l, ⟨x, m'⟩, f⟩ ws = layCels c l ws ++ (x.data.toList ++ (if f ≠ 0 then [10] else []))) := Lib.hid rfl
    obtain ⟨LC, hLC⟩ : ∃ g : List Cel → List Int → List UInt8, g = layCels c := ⟨_, rfl⟩
    have HN0 : Hid (LC (l.take 0) (ws.take 0) = []) := Lib.hid (by rw [hLC]; rfl)
    rw [← hLC] at HTK HLEN HALL HLN
    obtain ⟨n, hn⟩ : ∃ n, n = l.length := ⟨_, rfl⟩
    rw [hlen] at hwl hWc HS ⊢
    have HN := Lib.hid hn
    have HNW : Hid (ws.length = n) := Lib.hid (by rw [hlen, hn])
    rw [← hn] at hCc hWc hl hwl HS HC0 HL0 B0 HALL hll ⊢
    have HWC := Lib.hid hWc
    have HCC := Lib.hid hCc
    obtain ⟨m, t, p, d, fr, fd, fl, fe, fm⟩ := c
    unfold cfgV at HS HC0 HL0 B0 HLC ⊢
    simp only at HS HC0 HL0 B0 HLC ⊢
    clear hS hcl hRES hWc hCc hC0 hL0 hLC hn hlen hows hocs hbd hyw hv hlc hl
    obtain ⟨lcb, hlcb⟩ : ∃ g : Cel → Int → ByteArray, g = layCelB ⟨m, t, p, d, fr, fd, fl, fe, fm⟩ := ⟨_, rfl⟩
    obtain ⟨lcl, hlcl⟩ : ∃ g : Cel → Int → List UInt8, g = layCel ⟨m, t, p, d, fr, fd, fl, fe, fm⟩ := ⟨_, rfl⟩
    rw [← hlcb] at HLC HCS HLS
    rw [← hlcl] at HLS HTK
    clear hlcb hlcl
    generalize layLn ⟨m, t, p, d, fr, fd, fl, fe, fm⟩ ⟨l, ⟨x, m'⟩, f⟩ ws = LL at HE HLN
    go_enter Tryz.func32, Tryz.ntmps32
    go_wp2_with fail
    refine (HS.out _ B0.out).mono ?_
    rintro e w1 ⟨rfl, hb1⟩
    have B1 := Lib.hid (B0.out.trans (hb1.mono B0.out.size))
    have HC1 := Lib.hid (HC0.out.after hb1)
    have HL1 := Lib.hid (HL0.out.after hb1)
    have hlt1 : w.heap.size + 1 < w1.heap.size := HL1.out.lt
    clear hb1 HC0 HL0 HS
    have HB0 := Lib.hid (bldNew w1)
    have B2 := Lib.hid (B1.out.alloc B1.out.size (.cells #[.pointer none, .slice none 0 0] 104))
    have D2 : Below w1.heap.size w1 (w1.alloc (.cells #[.pointer none, .slice none 0 0] 104)) := (Below.refl _ _).alloc (Nat.le_refl _) _
    have HC2 := Lib.hid (HC1.out.after D2)
    have HL2 := Lib.hid (HL1.out.after D2)
    have HLT : Hid (w1.heap.size < (w1.alloc (.cells #[.pointer none, .slice none 0 0] 104)).heap.size) := Lib.hid (by simp)
    have q0 := HL2.out.cell 0
    simp at q0
    clear D2
    go_wp2_with fail
    obtain ⟨b, hb⟩ : ∃ b, b = w1.heap.size := ⟨_, rfl⟩
    rw [← hb] at HB0 HLT hlt1 ⊢
    have HBW : Hid (w.heap.size ≤ b) := Lib.hid (by omega)
    clear hb q0
    go_loopw [8, 9, 18] (fun _ _ i wr => ∃ (k : Nat), k ≤ n ∧ i = .int .i64 (k : Int) ∧ Hid (BuiltF b b (LC (l.take k) (ws.take k)) wr) ∧ Hid (Below w.heap.size w wr) ∧ Hid (b < wr.heap.size) ∧ Hid (Blk wr w.heap.size 24 #[.int .i64 m, .int .i64 t, .int .i64 p, .int .i64 d, .bool fr, .bool fd, .bool fl, .bool fe, .bool fm]) ∧ Hid (Blk wr (w.heap.size + 1) 79 #[.slice Ac n cc, .string x, .int .i64 m', .int .i64 f])) (fun _ _ i _ => n - (intOf i).toNat)
    case atStart => exact ⟨0, Nat.zero_le _, rfl, Lib.hid (by rw [HN0.out]; exact HB0.out), B2, HLT, HC2, HL2⟩
    case round =>
      obtain ⟨k, hk, rfl, HO, HBE, HLB, HBC, HBL⟩ := hrel
      have hne1 : w.heap.size ≠ b := by omega
      have hne2 : w.heap.size + 1 ≠ b := by omega
      have hbr : b < wr.heap.size := HLB.out
      have hlk := HLEN.out k
      by_cases hlt : k < n
      · obtain ⟨gw, og, rfl, hgw, hcw⟩ := HWC.out (by omega)
        obtain ⟨gi, oi, rfl, hgi, hci⟩ := HCC.out (by omega)
        have hkw : k < ws.length := by rw [HNW.out]; exact hlt
        have hkl : k < l.length := by rw [← HN.out]; exact hlt
        have w0 := (HBE.out.cell (p := ⟨gw, og + k, none⟩) hgw).trans (hcw k _ (ints_get ws k hkw))
        obtain ⟨b0, b1⟩ := (hci k _ (List.getElem?_eq_getElem hkl)).keep (fun p hp => HBE.out.cell hp) hgi
        have HST := Lib.hid (HTK.out k hkl hkw)
        obtain ⟨z0, z1⟩ := HWG.out k _ (List.getElem?_eq_getElem hkw)
        have y0 := HCG.out k _ (List.getElem?_eq_getElem hkl)
        have y1 := HYW.out k _ (List.getElem?_eq_getElem hkl)
        have y2 := HTC.out k _ (List.getElem?_eq_getElem hkl)
        have y3 := Nat.le_trans y2 HTL.out
        generalize ws[k] = z at w0 z0 z1 HST
        generalize l[k] = y at b0 b1 y0 y1 y2 y3 HST
        have HCA := Lib.hid (fun W => HLC.out y z W z0 z1 y0 y1 y3)
        have hcs := HCS.out y z (by omega) y0
        rw [← HLS.out] at HST
        generalize lcb y z = T at HCA hcs HST
        have hTs : T.size ≤ 1848577 := by omega
        obtain ⟨yt, yw⟩ := y
        simp only at b0 b1 HCA
        have DX0 := (Below.refl wr.heap.size wr).alloc (Nat.le_refl _) (.cells #[.string yt, .int .i64 yw] 77)
        have HDX0 := Lib.hid DX0
        clear hcw hci y0 y1 y2 y3 z0 z1 hcs DX0
        go_wp2_with fail
        refine still_named 6 (by kernel_rfl) (by kernel_rfl) ?_
        intro wd hwd
        simp only [List.take_succ_cons, List.take_zero, List.drop_succ_cons, List.drop_zero]
        have hK : Blk wd wr.heap.size 77 #[.string yt, .int .i64 yw] := by rw [hwd]; exact Blk.new wr _ _
        have DX : Hid (Below wr.heap.size wr wd) := Lib.hid (by rw [hwd]; exact HDX0.out.drew)
        clear hwd
        have HBY := Lib.hid (HBE.out.trans (DX.out.mono HBE.out.size))
        have w1' := (DX.out.cell (p := ⟨gw, og + k, none⟩) (by have := HBE.out.size; show gw < _; omega)).trans w0
        have HBC1 := Lib.hid (HBC.out.after DX.out)
        have HBL1 := Lib.hid (HBL.out.after DX.out)
        obtain ⟨c0, c1, c2, c3, c4, c5, c6, c7, c8⟩ := HBC1.out.boxed
        have k0 := hK.cell 0
        have k1 := hK.cell 1
        simp at k0 k1
        have HO1 := Lib.hid (bldBelow HO.out DX.out)
        have HSD : Hid (b < wd.heap.size) := Lib.hid (Nat.lt_of_lt_of_le hbr DX.out.size)
        clear w0 hK
        repeat still_step
        refine wpStill_nil ?_
        go_wp2_with fail
        refine (HCA.out _).mono ?_
        rintro e w5 ⟨rfl, hb5⟩
        have HBZ := Lib.hid (HBY.out.trans (hb5.mono HBY.out.size))
        have HBC2 := Lib.hid (HBC1.out.after hb5)
        have HBL2 := Lib.hid (HBL1.out.after hb5)
        have HO2 := Lib.hid (bldBelow HO1.out hb5)
        have hs5 : b < w5.heap.size := Nat.lt_of_lt_of_le HSD.out hb5.size
        have HC1' := Lib.hid (bldString b b _ T _ HO2.out (by omega) (by omega))
        clear hb5 c0 c1 c2 c3 c4 c5 c6 c7 c8 k0 k1 w1'
        go_wp2_with fail
        refine HC1'.out.mono ?_
        rintro e w6 ⟨rfl, hb6, hw6, hk6⟩
        have HBC3 := Lib.hid (HBC2.out.kept hk6 hne1 (by decide))
        have HBL3 := Lib.hid (HBL2.out.kept hk6 hne2 (by decide))
        have HW6 := Lib.hid (HBZ.out.trans (hw6.mono HBW.out))
        have HS6 := Lib.hid (Nat.lt_of_lt_of_le hs5 hw6.size)
        have HBU := Lib.hid hb6
        clear hb6 hw6 hk6
        go_wp2_with fail
        go_roundw
        case rel => exact ⟨k + 1, by omega, by go_num, Lib.hid (by rw [HST.out]; exact HBU.out), HW6, HS6, HBC3, HBL3⟩
        case measure => simp [intOf]; omega
      · obtain rfl : k = n := by omega
        rw [HALL.out] at HO hlk
        have HFIN := Lib.hid (fun (h : f = 0) => (by rw [HE.out, HLN.out, if_neg (by simpa using h), List.append_nil] : RES = ⟨(LC l ws ++ x.data.toList).toArray⟩))
        have HFIN2 := Lib.hid (fun (h : f ≠ 0) => (by rw [HE.out, HLN.out, if_pos h, List.append_assoc] : RES = ⟨(LC l ws ++ x.data.toList ++ [10]).toArray⟩))
        generalize LC l ws = X at HO hlk HFIN HFIN2
        have q1 := HBL.out.cell 1
        have q3 := HBL.out.cell 3
        simp at q1 q3
        have HC1' := Lib.hid (bldString b b _ x _ HO.out (by omega) (by omega))
        go_wp2_with fail
        refine HC1'.out.mono ?_
        rintro e w6 ⟨rfl, hb6, hw6, hk6⟩
        have t3 := (HBL.out.kept hk6 hne2 (by decide)).cell 3
        simp at t3
        have HW6 := Lib.hid (HBE.out.trans (hw6.mono HBW.out))
        have hs6 := (Nat.lt_of_lt_of_le hbr hw6.size)
        have hxl : (X ++ x.data.toList).length ≤ 2000001048576 := by rw [List.length_append, bytes_length]; omega
        generalize X ++ x.data.toList = Y at hb6 hxl HFIN HFIN2
        have HBU := Lib.hid hb6
        clear hb6 hw6 hk6 q1 q3
        by_cases hf : f = 0
        · have HR := Lib.hid (HFIN.out hf)
          have hf2 : (f != 0) = false := by simp [hf]
          have HT := Lib.hid (bldText b b _ _ HBU.out (by omega))
          clear hf
          go_wp2_with fail
          refine HT.out.mono ?_
          rintro e w7 ⟨rfl, hw7⟩
          have HW7 := Lib.hid (HW6.out.trans (hw7.mono HBW.out))
          clear hw7
          go_wp2_with fail
          go_ret
          exact ⟨ret_string HR.out.symm, HW7.out⟩
        · have HR := Lib.hid (HFIN2.out hf)
          have hf2 : (f != 0) = true := by simp [hf]
          have HB10 := Lib.hid (bldByte b b Y 10 _ HBU.out (by omega) (by omega))
          clear hf
          go_wp2_with fail
          refine HB10.out.mono ?_
          rintro e w7 ⟨rfl, hb7, hw7, hk7⟩
          have HW7 := Lib.hid (HW6.out.trans (hw7.mono HBW.out))
          have hs7 := (Nat.lt_of_lt_of_le hs6 hw7.size)
          have HT := Lib.hid (bldText b b _ _ hb7 (by omega))
          clear hb7 hw7 hk7
          go_wp2_with fail
          refine HT.out.mono ?_
          rintro e w8 ⟨rfl, hw8⟩
          have HW8 := Lib.hid (HW7.out.trans (hw8.mono HBW.out))
          clear hw8
          go_wp2_with fail
          go_ret
          exact ⟨ret_string HR.out.symm, HW8.out⟩
end Go.Proofs.YtooanejiadbngaaGreatDoor
