/- The laws on sinks and on divided sessions, over contracts of the program's. -/
import Derived.Test.YtooanejiadbngaaGreatDoorMakeChunks
import Derived.Test.YtooanejiadbngaaGreatDoorBE
import Derived.Test.YtooanejiadbngaaGreatDoorSes
import Derived.Test.YtooanejiadbngaaGreatDoorSesMath
import Derived.Test.YtooanejiadbngaaGreatDoorOpMem
import Derived.Test.YtooanejiadbngaaGreatDoorBA
import Derived.Deep.RegionHeld3
import Derived.Deep.DeepCutAuto
import Derived.IntWalk
namespace Go.Proofs.YtooanejiadbngaaGreatDoor
open Go.RowKit
set_option linter.unusedVariables false
set_option linter.unusedSimpArgs false

theorem run_headS (s : ByteArray) (c : Nat) (hc : c ≤ s.size) (w : World) :
    (Instr.slice 9 (.string s) none (some (.int .i64 (c : Int))) none).run Tryz.prog w = .ok (.string (s.extract 0 c)) w := by
  rw [run_slice_string_h (P := Tryz.prog) (w := w) (t := 9) (s := s) (ht := Tryz.underlying9) .i64 _ (by omega) (by omega)]
  rw [Int.toNat_natCast]
theorem ints_get' (l : List Int) (k : Nat) (x : Int) (h : l[k]? = some x) : (ints l)[k]? = some (.int .i64 x) := by
  unfold ints
  rw [List.getElem?_map, h]
  rfl
theorem extract_self (s : ByteArray) : s.extract 0 s.size = s := bytes_ext (by
  rw [ByteArray.data_extract, Array.toList_extract, List.extract_eq_take_drop]
  simp only [List.drop_zero, Nat.sub_zero]
  exact List.take_of_length_le (Nat.le_refl _))
/-- What FnSink asks of the bytes: what was taken, what is left, whether it failed. -/
theorem sink_pack (c : Cfg) (s : ByteArray) (room : Nat) (l : List ByteArray) (hv : validC c = true) (hs : s.size ≤ 108) (hl : catB l = s) (hll : l.length ≤ 108) (hroom : room ≤ 59) :
    ∃ (Y K : ByteArray) (N : Nat) (q code : Int) (D : Bool) (cs : List Int), layB c s = Y ∧ opsL c l = opsL c l ∧ (opsL c l).length = N + 1 ∧ N ≤ 200 ∧ 1 ≤ N ∧
      runS ⟨zeroC, ⟨#[]⟩, ⟨room, ⟨#[]⟩, false⟩⟩ (opsL c l) = ⟨c, ⟨#[]⟩, ⟨q, K, D⟩⟩ ∧ codesS ⟨zeroC, ⟨#[]⟩, ⟨room, ⟨#[]⟩, false⟩⟩ (opsL c l) = cs ∧ cs.length = N + 1 ∧ cs[N]? = some code ∧
      okR ⟨zeroC, ⟨#[]⟩, ⟨room, ⟨#[]⟩, false⟩⟩ (opsL c l) ∧ K.size ≤ Y.size ∧ Y.extract 0 K.size = K ∧ K.size ≤ room ∧ Y.size ≤ 2000000000000 ∧
      ((D = false ∧ code = 0 ∧ K = Y ∧ Y.size ≤ room) ∨ (D = true ∧ code = 3 ∧ K.size = room ∧ room < Y.size)) := by
  subst hl
  have hr := run_all c room l hv (by omega) zeroC ⟨#[]⟩
  have hc := codes_last c room l hv (by omega) zeroC ⟨#[]⟩
  have ho := okR_all c room l hv (by omega) (by omega) zeroC
  have hY := layB_size c (catB l) hv (by omega)
  have hlen := opsL_len c l
  have hcl := codesS_len ⟨zeroC, ⟨#[]⟩, ⟨room, ⟨#[]⟩, false⟩⟩ (opsL c l)
  by_cases h : (layB c (catB l)).size ≤ room
  · have e : sinkOf room (layB c (catB l)) = ⟨(room : Int) - (layB c (catB l)).size, layB c (catB l), false⟩ := if_pos h
    rw [e] at hr
    rw [decide_eq_false (by omega)] at hc
    exact ⟨_, _, l.length + 1, _, _, _, _, rfl, rfl, by omega, by omega, by omega, hr, rfl, by omega, hc, ho, Nat.le_refl _, extract_self _, h, hY, .inl ⟨rfl, rfl, rfl, h⟩⟩
  · have e : sinkOf room (layB c (catB l)) = ⟨0, (layB c (catB l)).extract 0 room, true⟩ := if_neg h
    have hk : ((layB c (catB l)).extract 0 room).size = room := by simp; omega
    rw [e] at hr
    rw [decide_eq_true (by omega)] at hc
    exact ⟨_, _, l.length + 1, _, _, _, _, rfl, rfl, by omega, by omega, by omega, hr, rfl, by omega, hc, ho, by omega, by rw [hk], by omega, hY, .inr ⟨rfl, rfl, hk, by omega⟩⟩
theorem snS_start {X : World} {g : Nat} {T : TypeId} {m t p d : Int} {fr fd fl fe fm : Bool} {x : World} (hb : Blk X g T #[.int .i64 m, .int .i64 t, .int .i64 p, .int .i64 d, .bool fr, .bool fd, .bool fl, .bool fe, .bool fm]) (hx : Below x.heap.size x X) :
    X.drew.cell? ⟨g, 0, none⟩ = some (.int .i64 m) ∧ X.drew.cell? ⟨g, 1, none⟩ = some (.int .i64 t) ∧ X.drew.cell? ⟨g, 2, none⟩ = some (.int .i64 p) ∧ X.drew.cell? ⟨g, 3, none⟩ = some (.int .i64 d) ∧ X.drew.cell? ⟨g, 4, none⟩ = some (.bool fr) ∧ X.drew.cell? ⟨g, 5, none⟩ = some (.bool fd) ∧ X.drew.cell? ⟨g, 6, none⟩ = some (.bool fl) ∧ X.drew.cell? ⟨g, 7, none⟩ = some (.bool fe) ∧ X.drew.cell? ⟨g, 8, none⟩ = some (.bool fm) ∧ g < X.drew.heap.size ∧ Below X.heap.size X X.drew :=
  ⟨hb.cell 0, hb.cell 1, hb.cell 2, hb.cell 3, hb.cell 4, hb.cell 5, hb.cell 6, hb.cell 7, hb.cell 8, hb.lt, (Below.refl _ _).drew⟩
theorem snS_step {X W W' : World} {g : Nat} {v0 v1 v2 v3 v4 v5 v6 v7 v8 : Value} (hb : Below W.heap.size W W')
    (h : W.cell? ⟨g, 0, none⟩ = some v0 ∧ W.cell? ⟨g, 1, none⟩ = some v1 ∧ W.cell? ⟨g, 2, none⟩ = some v2 ∧ W.cell? ⟨g, 3, none⟩ = some v3 ∧ W.cell? ⟨g, 4, none⟩ = some v4 ∧ W.cell? ⟨g, 5, none⟩ = some v5 ∧ W.cell? ⟨g, 6, none⟩ = some v6 ∧ W.cell? ⟨g, 7, none⟩ = some v7 ∧ W.cell? ⟨g, 8, none⟩ = some v8 ∧ g < W.heap.size ∧ Below X.heap.size X W) :
    W'.cell? ⟨g, 0, none⟩ = some v0 ∧ W'.cell? ⟨g, 1, none⟩ = some v1 ∧ W'.cell? ⟨g, 2, none⟩ = some v2 ∧ W'.cell? ⟨g, 3, none⟩ = some v3 ∧ W'.cell? ⟨g, 4, none⟩ = some v4 ∧ W'.cell? ⟨g, 5, none⟩ = some v5 ∧ W'.cell? ⟨g, 6, none⟩ = some v6 ∧ W'.cell? ⟨g, 7, none⟩ = some v7 ∧ W'.cell? ⟨g, 8, none⟩ = some v8 ∧ g < W'.heap.size ∧ Below X.heap.size X W' := by
  obtain ⟨h0, h1, h2, h3, h4, h5, h6, h7, h8, h9, h10⟩ := h
  have hs := hb.size
  have k : ∀ j v, W.cell? ⟨g, j, none⟩ = some v → W'.cell? ⟨g, j, none⟩ = some v := fun j v hv => (hb.cell (p := ⟨g, j, none⟩) h9).trans hv
  exact ⟨k _ _ h0, k _ _ h1, k _ _ h2, k _ _ h3, k _ _ h4, k _ _ h5, k _ _ h6, k _ _ h7, k _ _ h8, by omega, h10.trans (hb.mono h10.size)⟩
theorem snS_old {X W : World} {g : Nat} {v0 v1 v2 v3 v4 v5 v6 v7 v8 : Value} (h : W.cell? ⟨g, 0, none⟩ = some v0 ∧ W.cell? ⟨g, 1, none⟩ = some v1 ∧ W.cell? ⟨g, 2, none⟩ = some v2 ∧ W.cell? ⟨g, 3, none⟩ = some v3 ∧ W.cell? ⟨g, 4, none⟩ = some v4 ∧ W.cell? ⟨g, 5, none⟩ = some v5 ∧ W.cell? ⟨g, 6, none⟩ = some v6 ∧ W.cell? ⟨g, 7, none⟩ = some v7 ∧ W.cell? ⟨g, 8, none⟩ = some v8 ∧ g < W.heap.size ∧ Below X.heap.size X W) : Below X.heap.size X W := h.2.2.2.2.2.2.2.2.2.2
set_option maxRecDepth 100000 in
set_option maxHeartbeats 4000000 in
theorem sink_law (w : World) (A : Option Addr) (len cap : Nat) (zs : List Int) (hz : IsBytes w A len cap zs)
    (hO : ∀ (c : Cfg) (l : List ByteArray) (v : Value) (W : World), l.length ≤ 1048576 → Below w.heap.size w W → Rd W v (strs l) → Calls Tryz.prog 8 #[.agg (cfgV c), v] W fun e w' => ∃ u, e = .returned u ∧ RdO w' u (opsL c l) ∧ Below W.heap.size W w')
    (hR : ∀ (s : Ses) (ops : List Opn) (v : Value) (W : World), okR s ops → ops.length ≤ 1048576 → Below w.heap.size w W → RdO W v ops → Calls Tryz.prog 10 #[.agg (sesV s.c s.h s.k), v] W fun e w' => ∃ u, e = .returned (.tuple #[.agg (sesV (runS s ops).c (runS s ops).h (runS s ops).k), u]) ∧ Rd w' u (ints (codesS s ops)) ∧ Below W.heap.size W w')
    (hL : ∀ (c : Cfg) (s : ByteArray) (W : World), validC c = true → s.size ≤ 50000 → Below w.heap.size w W → Calls Tryz.prog 11 #[.agg (cfgV c), .string s] W fun e w' => e = .returned (.string (layB c s)) ∧ Below W.heap.size W w') :
    Calls Tryz.prog 3 #[.slice A len cap] w fun e w' => e = .returned (.bool true) ∧ Below w.heap.size w w' := by
  have hlc := hz.1
  have hcm := hz.2.1
  have HZ := Lib.hid hz
  have HO0 := Lib.hid hO
  have HR0 := Lib.hid hR
  have HL0 := Lib.hid hL
  clear hz hO hR hL
  by_cases h : (1048576 : Int) < (len : Int)
  · go_enter Tryz.func3, Tryz.ntmps3
    go_wp2
    go_ret
    exact ⟨rfl, Below.refl _ _⟩
  · go_enter Tryz.func3, Tryz.ntmps3
    go_wp2_with fail
    refine (makeConfig_any A len cap zs w HZ.out).mono ?_
    rintro e w1 ⟨⟨c, hv, rfl⟩, hb1⟩
    have B1 := Lib.hid hb1
    have HIN := Lib.hid (fun W (hb : Below w.heap.size w W) => makeInput_any A len cap zs W (HZ.out.keep hb))
    have HNM := Lib.hid (fun W (hb : Below w.heap.size w W) => makeNum_any 50 A len cap zs W (HZ.out.keep hb) (by omega))
    have HCH := Lib.hid (fun s W (hs : s.size ≤ 1000000) (hb : Below w.heap.size w W) => makeChunks_any 40 A len cap zs s W (HZ.out.keep hb) (by omega) hs)
    have HOP := Lib.hid (fun l v W h1 hb hr => HO0.out c l v W h1 hb hr)
    have HLY := Lib.hid (fun s W hs hb => HL0.out c s W hv hs hb)
    have HPK := Lib.hid (fun s room l hs hl hll hr => sink_pack c s room l hv hs hl hll hr)
    have HC0 : Hid (∃ c', c' = c) := Lib.hid ⟨c, rfl⟩
    obtain ⟨cc, hcc⟩ := HC0.out
    rw [← hcc] at HOP HLY HPK
    obtain ⟨m, t, p, d, fr, fd, fl, fe, fm⟩ := c
    have HCV : Hid (cfgV cc = #[.int .i64 m, .int .i64 t, .int .i64 p, .int .i64 d, .bool fr, .bool fd, .bool fl, .bool fe, .bool fm]) := Lib.hid (by rw [hcc]; rfl)
    have HSV : Hid (∀ h k, sesV cc h k = #[.int .i64 m, .int .i64 t, .int .i64 p, .int .i64 d, .bool fr, .bool fd, .bool fl, .bool fe, .bool fm, .string h, .int .i64 k.room, .string k.taken, .bool k.dead]) := Lib.hid (by rw [hcc]; intro h k; rfl)
    rw [HCV.out] at HOP HLY
    unfold cfgV
    simp only at HOP HLY ⊢
    have hK2 := Blk.new w1 24 #[.int .i64 m, .int .i64 t, .int .i64 p, .int .i64 d, .bool fr, .bool fd, .bool fl, .bool fe, .bool fm]
    have X2 := Lib.hid hK2
    have B2 := Lib.hid (B1.out.trans (((Below.refl w1.heap.size w1).alloc (Nat.le_refl _) (.cells #[.int .i64 m, .int .i64 t, .int .i64 p, .int .i64 d, .bool fr, .bool fd, .bool fl, .bool fe, .bool fm] 24)).mono B1.out.size))
    clear hb1 hv hcc hK2
    go_wp2_with fail
    refine (HIN.out _ B2.out).mono ?_
    rintro e w3 ⟨⟨s, hs, rfl⟩, hb3⟩
    have B3 := Lib.hid (B2.out.trans (hb3.mono B2.out.size))
    have X3 := Lib.hid (X2.out.after hb3)
    have HSS : Hid (s.size ≤ 108) := Lib.hid hs
    clear hb3 hs
    go_wp2_with fail
    refine (HNM.out _ B3.out).mono ?_
    rintro e w4 ⟨⟨x, hx0, hx1, rfl⟩, hb4⟩
    have B4 := Lib.hid (B3.out.trans (hb4.mono B3.out.size))
    have X4 := Lib.hid (X3.out.after hb4)
    have HCS := Lib.hid (fun W hb => HCH.out s W (by have := HSS.out; omega) hb)
    clear hb4
    go_wp2_with fail
    have hN0 : 0 ≤ x % 60 := by omega
    have hN1 : x % 60 ≤ 59 := by omega
    generalize x % 60 = R at hN0 hN1 ⊢
    obtain ⟨room, rfl⟩ := Int.eq_ofNat_of_zero_le hN0
    go_region_held3 (fun W => W.cell? ⟨w1.heap.size, 0, none⟩ = some (.int .i64 m) ∧ W.cell? ⟨w1.heap.size, 1, none⟩ = some (.int .i64 t) ∧ W.cell? ⟨w1.heap.size, 2, none⟩ = some (.int .i64 p) ∧ W.cell? ⟨w1.heap.size, 3, none⟩ = some (.int .i64 d) ∧ W.cell? ⟨w1.heap.size, 4, none⟩ = some (.bool fr) ∧ W.cell? ⟨w1.heap.size, 5, none⟩ = some (.bool fd) ∧ W.cell? ⟨w1.heap.size, 6, none⟩ = some (.bool fl) ∧ W.cell? ⟨w1.heap.size, 7, none⟩ = some (.bool fe) ∧ W.cell? ⟨w1.heap.size, 8, none⟩ = some (.bool fm) ∧ w1.heap.size < W.heap.size ∧ Below w4.heap.size w4 W)
      (first | exact snS_start X4.out B4.out | exact snS_step (by assumption) (by assumption))
      (first
        | (go_at_call 9; refine (HCS.out _ (B4.out.trans ((snS_old (by assumption)).mono B4.out.size))).mono ?_; rintro e w5 ⟨l, v5, hcat, hlen, rfl, ho5, hb5⟩)
        | (go_at_call 8; refine (HOP.out l _ _ (by have := HSS.out; omega) (B4.out.trans ((snS_old (by assumption)).mono B4.out.size)) (Rd.of_own ho5)).mono ?_; rintro e w6 ⟨u6, rfl, ⟨A6, k6, rfl, hA6⟩, hb6⟩))
    all_goals
      have hx6 := snS_old (X := w4) (W := w6) (by assumption)
      have B6 := Lib.hid (B4.out.trans (hx6.mono B4.out.size))
      have X6 := Lib.hid (X4.out.after hx6)
      have R6 := Lib.hid (⟨A6, k6, rfl, hA6⟩ : RdO w6 (.slice A6 (opsL cc l).length k6) (opsL cc l))
      obtain ⟨Y, K, N, q, code, D, cs, e1, _, e2, e3, e4, e5, e6, e7, e8, e9, e10, e11, e12, e13, e14⟩ := HPK.out s room l HSS.out hcat (by have := HSS.out; omega) (by omega)
      have hrun := HR0.out ⟨zeroC, ⟨#[]⟩, ⟨room, ⟨#[]⟩, false⟩⟩ (opsL cc l) _ w6 e9 (by omega) B6.out R6.out
      rw [e5, e6] at hrun
      rw [e2] at hrun R6 ⊢
      rw [HSV.out] at hrun
      have HRU := Lib.hid (show Calls Tryz.prog 10 #[.agg #[.int .i64 0, .int .i64 0, .int .i64 0, .int .i64 0, .bool false, .bool false, .bool false, .bool false, .bool false, .string ⟨#[]⟩, .int .i64 (room : Int), .string ⟨#[]⟩, .bool false], .slice A6 (N + 1) k6] w6 fun e w' => ∃ u, e = .returned (.tuple #[.agg #[.int .i64 m, .int .i64 t, .int .i64 p, .int .i64 d, .bool fr, .bool fd, .bool fl, .bool fe, .bool fm, .string ⟨#[]⟩, .int .i64 q, .string K, .bool D], u]) ∧ Rd w' u (ints cs) ∧ Below w6.heap.size w6 w' from hrun)
      have HLYS := Lib.hid (fun W hb => HLY.out s W (by have := HSS.out; omega) hb)
      rw [e1] at HLYS
      have hcl : (ints cs).length = N + 1 := by rw [ints_length]; exact e7
      have hcell : (ints cs)[N]? = some (.int .i64 code) := by rw [ints_get' cs N code e8]
      have HCL := Lib.hid hcl
      have HCE := Lib.hid hcell
      have HFA := Lib.hid e14
      have HKY := Lib.hid e10
      have HKR := Lib.hid e12
      have hsl := fun W => run_headS Y K.size e10 W
      rw [e11] at hsl
      have HSL := Lib.hid hsl
      have HN := Lib.hid (show 1 ≤ N ∧ N ≤ 200 from ⟨e4, e3⟩)
      have HYB := Lib.hid e13
      clear hx6 hA6 hcat hlen ho5 hb5 hb6 hrun e1 e2 e3 e4 e5 e6 e7 e8 e9 e10 e11 e12 e13 e14 hcl hcell hsl
      go_wp2_with fail
      refine HRU.out.mono ?_
      rintro e w7 ⟨u7, rfl, ⟨A7, k7, rfl, hc7⟩, hb7⟩
      rw [HCL.out] at hc7 ⊢
      obtain ⟨gc, oc, rfl, hgc, hcc⟩ := hc7 (by omega)
      have hcode := hcc N _ HCE.out
      have B7 := Lib.hid (B6.out.trans (hb7.mono B6.out.size))
      have D7 := (Below.refl w7.heap.size w7).alloc (Nat.le_refl _) (.cells #[.int .i64 m, .int .i64 t, .int .i64 p, .int .i64 d, .bool fr, .bool fd, .bool fl, .bool fe, .bool fm, .string ⟨#[]⟩, .int .i64 q, .string K, .bool D] 37)
      have B8 := Lib.hid (B7.out.trans (D7.mono B7.out.size))
      have V8 := Lib.hid (Blk.new w7 37 #[.int .i64 m, .int .i64 t, .int .i64 p, .int .i64 d, .bool fr, .bool fd, .bool fl, .bool fe, .bool fm, .string ⟨#[]⟩, .int .i64 q, .string K, .bool D])
      have HCD := Lib.hid ((D7.cell (p := ⟨gc, oc + N, none⟩) hgc).trans hcode)
      have hgc2 : gc < (w7.alloc (.cells #[.int .i64 m, .int .i64 t, .int .i64 p, .int .i64 d, .bool fr, .bool fd, .bool fl, .bool fe, .bool fm, .string ⟨#[]⟩, .int .i64 q, .string K, .bool D] 37)).heap.size := Nat.lt_of_lt_of_le hgc D7.size
      obtain ⟨c0, c1, c2, c3, c4, c5, c6, c7, c8⟩ := ((X6.out.after hb7).after D7).boxed
      clear hb7 hc7 hcc hcode D7
      go_wp2_with fail
      refine (HLYS.out _ B8.out).mono ?_
      rintro e w9 ⟨rfl, hb9⟩
      have B9 := Lib.hid (B8.out.trans (hb9.mono B8.out.size))
      have V9 := Lib.hid (V8.out.after hb9)
      have hcd := (hb9.cell (p := ⟨gc, oc + N, none⟩) hgc2).trans HCD.out
      obtain ⟨d0, d1, d2, d3, d4, d5, d6, d7, d8, d9, d10, d11, d12⟩ := V9.out.thirteen
      have hNi : (N : Int) ≤ 200 := by have := HN.out; omega
      have hsl := HSL.out
      clear hb9 c0 c1 c2 c3 c4 c5 c6 c7 c8 d0 d1 d2 d3 d4 d5 d6 d7 d8 d9 d10 hgc hgc2
      rcases HFA.out with ⟨rfl, rfl, rfl, hYr⟩ | ⟨rfl, rfl, hKr, hYr⟩
      · have hn2 : ¬ ((N + 1 : Nat) : Int) < 2 := by have := HN.out; omega
        have hya : ¬ (room : Int) < (K.size : Int) := by omega
        have hyb : (K.size : Int) ≤ 2000000000000 := by have := HYB.out; omega
        go_wp2_with fail
        go_ret
        exact ⟨rfl, B9.out⟩
      · have hn2 : ¬ ((N + 1 : Nat) : Int) < 2 := by have := HN.out; omega
        have hya : (room : Int) < (Y.size : Int) := by omega
        simp only [hKr] at hsl
        have hkr : (K.size : Int) = (room : Int) := by omega
        have hyb : (Y.size : Int) ≤ 2000000000000 := by have := HYB.out; omega
        have hky : ¬ (Y.size : Int) < (K.size : Int) := by omega
        have hkr2 : ¬ (room : Int) < (K.size : Int) := by omega
        go_wp2_with fail
        go_ret
        exact ⟨rfl, B9.out⟩
/-- A part of a list of operations in memory. -/
theorem RdO.take {w : World} {A : Option Addr} {c : Nat} {l : List Opn} (k : Nat) (hk : k ≤ l.length) (h : RdO w (.slice A l.length c) l) (c' : Nat) : RdO w (.slice A k c') (l.take k) := by
  obtain ⟨A', c2, e, hc⟩ := h
  injection e with e1 e2 e3
  subst e1
  have hl : (l.take k).length = k := by rw [List.length_take]; omega
  refine ⟨A, c', by rw [hl], fun h0 => ?_⟩
  rw [hl] at h0
  obtain ⟨g, o, hA, hg, hcell⟩ := hc (by omega)
  refine ⟨g, o, hA, hg, fun j x hj => hcell j x ?_⟩
  rw [List.getElem?_take] at hj
  split at hj
  · exact hj
  · cases hj
theorem RdO.drop {w : World} {g o : Nat} {c : Nat} {l : List Opn} (k : Nat) (hk : k < l.length) (h : RdO w (.slice (some ⟨g, o, none⟩) l.length c) l) (c' : Nat) : RdO w (.slice (some ⟨g, o + k * 11, none⟩) (l.length - k) c') (l.drop k) := by
  obtain ⟨A', c2, e, hc⟩ := h
  injection e with e1 e2 e3
  have hl : (l.drop k).length = l.length - k := List.length_drop
  obtain ⟨g', o', hA, hg, hcell⟩ := hc (by omega)
  rw [← e1] at hA
  injection hA with hA
  injection hA with h1 h2 h3
  subst h1 h2
  refine ⟨_, c', by rw [hl], fun _ => ⟨g, o + k * 11, rfl, hg, fun j x hj => ?_⟩⟩
  rw [List.getElem?_drop] at hj
  have := hcell (k + j) x hj
  rw [show o + k * 11 + j * 11 = o + (k + j) * 11 by omega]
  exact this
theorem size_sesW : (Tryz.prog.info? 37).map (·.size) = some 13 := by kernel_rfl
theorem stS_start {X : World} {g : Nat} {T : TypeId} {m t p d : Int} {fr fd fl fe fm : Bool} {h : ByteArray} {r : Int} {tk : ByteArray} {dd : Bool} (hb : Blk X g T #[.int .i64 m, .int .i64 t, .int .i64 p, .int .i64 d, .bool fr, .bool fd, .bool fl, .bool fe, .bool fm, .string h, .int .i64 r, .string tk, .bool dd]) :
    X.drew.cell? ⟨g, 0, none⟩ = some (.int .i64 m) ∧ X.drew.cell? ⟨g, 1, none⟩ = some (.int .i64 t) ∧ X.drew.cell? ⟨g, 2, none⟩ = some (.int .i64 p) ∧ X.drew.cell? ⟨g, 3, none⟩ = some (.int .i64 d) ∧ X.drew.cell? ⟨g, 4, none⟩ = some (.bool fr) ∧ X.drew.cell? ⟨g, 5, none⟩ = some (.bool fd) ∧ X.drew.cell? ⟨g, 6, none⟩ = some (.bool fl) ∧ X.drew.cell? ⟨g, 7, none⟩ = some (.bool fe) ∧ X.drew.cell? ⟨g, 8, none⟩ = some (.bool fm) ∧ X.drew.cell? ⟨g, 9, none⟩ = some (.string h) ∧ X.drew.cell? ⟨g, 10, none⟩ = some (.int .i64 r) ∧ X.drew.cell? ⟨g, 11, none⟩ = some (.string tk) ∧ X.drew.cell? ⟨g, 12, none⟩ = some (.bool dd) ∧ g < X.drew.heap.size ∧ Below X.heap.size X X.drew :=
  ⟨hb.cell 0, hb.cell 1, hb.cell 2, hb.cell 3, hb.cell 4, hb.cell 5, hb.cell 6, hb.cell 7, hb.cell 8, hb.cell 9, hb.cell 10, hb.cell 11, hb.cell 12, hb.lt, (Below.refl _ _).drew⟩
theorem stS_step {X W W' : World} {g : Nat} {v0 v1 v2 v3 v4 v5 v6 v7 v8 v9 v10 v11 v12 : Value} (hb : Below W.heap.size W W') (h : W.cell? ⟨g, 0, none⟩ = some v0 ∧ W.cell? ⟨g, 1, none⟩ = some v1 ∧ W.cell? ⟨g, 2, none⟩ = some v2 ∧ W.cell? ⟨g, 3, none⟩ = some v3 ∧ W.cell? ⟨g, 4, none⟩ = some v4 ∧ W.cell? ⟨g, 5, none⟩ = some v5 ∧ W.cell? ⟨g, 6, none⟩ = some v6 ∧ W.cell? ⟨g, 7, none⟩ = some v7 ∧ W.cell? ⟨g, 8, none⟩ = some v8 ∧ W.cell? ⟨g, 9, none⟩ = some v9 ∧ W.cell? ⟨g, 10, none⟩ = some v10 ∧ W.cell? ⟨g, 11, none⟩ = some v11 ∧ W.cell? ⟨g, 12, none⟩ = some v12 ∧ g < W.heap.size ∧ Below X.heap.size X W) : W'.cell? ⟨g, 0, none⟩ = some v0 ∧ W'.cell? ⟨g, 1, none⟩ = some v1 ∧ W'.cell? ⟨g, 2, none⟩ = some v2 ∧ W'.cell? ⟨g, 3, none⟩ = some v3 ∧ W'.cell? ⟨g, 4, none⟩ = some v4 ∧ W'.cell? ⟨g, 5, none⟩ = some v5 ∧ W'.cell? ⟨g, 6, none⟩ = some v6 ∧ W'.cell? ⟨g, 7, none⟩ = some v7 ∧ W'.cell? ⟨g, 8, none⟩ = some v8 ∧ W'.cell? ⟨g, 9, none⟩ = some v9 ∧ W'.cell? ⟨g, 10, none⟩ = some v10 ∧ W'.cell? ⟨g, 11, none⟩ = some v11 ∧ W'.cell? ⟨g, 12, none⟩ = some v12 ∧ g < W'.heap.size ∧ Below X.heap.size X W' := by
  obtain ⟨h0, h1, h2, h3, h4, h5, h6, h7, h8, h9, h10, h11, h12, hg, hx⟩ := h
  have hs := hb.size
  have k : ∀ j v, W.cell? ⟨g, j, none⟩ = some v → W'.cell? ⟨g, j, none⟩ = some v := fun j v hv => (hb.cell (p := ⟨g, j, none⟩) hg).trans hv
  exact ⟨k _ _ h0, k _ _ h1, k _ _ h2, k _ _ h3, k _ _ h4, k _ _ h5, k _ _ h6, k _ _ h7, k _ _ h8, k _ _ h9, k _ _ h10, k _ _ h11, k _ _ h12, by omega, hx.trans (hb.mono hx.size)⟩
theorem stS_row {X W : World} {g q : Nat} {cs : Array Value} {v0 v1 v2 v3 v4 v5 v6 v7 v8 v9 v10 v11 v12 : Value} (hq : g < q) (hxq : X.heap.size ≤ q) (h : W.cell? ⟨g, 0, none⟩ = some v0 ∧ W.cell? ⟨g, 1, none⟩ = some v1 ∧ W.cell? ⟨g, 2, none⟩ = some v2 ∧ W.cell? ⟨g, 3, none⟩ = some v3 ∧ W.cell? ⟨g, 4, none⟩ = some v4 ∧ W.cell? ⟨g, 5, none⟩ = some v5 ∧ W.cell? ⟨g, 6, none⟩ = some v6 ∧ W.cell? ⟨g, 7, none⟩ = some v7 ∧ W.cell? ⟨g, 8, none⟩ = some v8 ∧ W.cell? ⟨g, 9, none⟩ = some v9 ∧ W.cell? ⟨g, 10, none⟩ = some v10 ∧ W.cell? ⟨g, 11, none⟩ = some v11 ∧ W.cell? ⟨g, 12, none⟩ = some v12 ∧ g < W.heap.size ∧ Below X.heap.size X W) : (W.setRow q cs).cell? ⟨g, 0, none⟩ = some v0 ∧ (W.setRow q cs).cell? ⟨g, 1, none⟩ = some v1 ∧ (W.setRow q cs).cell? ⟨g, 2, none⟩ = some v2 ∧ (W.setRow q cs).cell? ⟨g, 3, none⟩ = some v3 ∧ (W.setRow q cs).cell? ⟨g, 4, none⟩ = some v4 ∧ (W.setRow q cs).cell? ⟨g, 5, none⟩ = some v5 ∧ (W.setRow q cs).cell? ⟨g, 6, none⟩ = some v6 ∧ (W.setRow q cs).cell? ⟨g, 7, none⟩ = some v7 ∧ (W.setRow q cs).cell? ⟨g, 8, none⟩ = some v8 ∧ (W.setRow q cs).cell? ⟨g, 9, none⟩ = some v9 ∧ (W.setRow q cs).cell? ⟨g, 10, none⟩ = some v10 ∧ (W.setRow q cs).cell? ⟨g, 11, none⟩ = some v11 ∧ (W.setRow q cs).cell? ⟨g, 12, none⟩ = some v12 ∧ g < (W.setRow q cs).heap.size ∧ Below X.heap.size X (W.setRow q cs) := by
  obtain ⟨h0, h1, h2, h3, h4, h5, h6, h7, h8, h9, h10, h11, h12, hg, hx⟩ := h
  have e : Below q W (W.setRow q cs) := below_setRow (Below.refl _ _) (Nat.le_refl _) cs
  have hs := e.size
  have k : ∀ j v, W.cell? ⟨g, j, none⟩ = some v → (W.setRow q cs).cell? ⟨g, j, none⟩ = some v := fun j v hv => (e.cell (p := ⟨g, j, none⟩) hq).trans hv
  exact ⟨k _ _ h0, k _ _ h1, k _ _ h2, k _ _ h3, k _ _ h4, k _ _ h5, k _ _ h6, k _ _ h7, k _ _ h8, k _ _ h9, k _ _ h10, k _ _ h11, k _ _ h12, by omega, hx.trans (e.mono hxq)⟩
theorem stS_old {X W : World} {g : Nat} {v0 v1 v2 v3 v4 v5 v6 v7 v8 v9 v10 v11 v12 : Value} (h : W.cell? ⟨g, 0, none⟩ = some v0 ∧ W.cell? ⟨g, 1, none⟩ = some v1 ∧ W.cell? ⟨g, 2, none⟩ = some v2 ∧ W.cell? ⟨g, 3, none⟩ = some v3 ∧ W.cell? ⟨g, 4, none⟩ = some v4 ∧ W.cell? ⟨g, 5, none⟩ = some v5 ∧ W.cell? ⟨g, 6, none⟩ = some v6 ∧ W.cell? ⟨g, 7, none⟩ = some v7 ∧ W.cell? ⟨g, 8, none⟩ = some v8 ∧ W.cell? ⟨g, 9, none⟩ = some v9 ∧ W.cell? ⟨g, 10, none⟩ = some v10 ∧ W.cell? ⟨g, 11, none⟩ = some v11 ∧ W.cell? ⟨g, 12, none⟩ = some v12 ∧ g < W.heap.size ∧ Below X.heap.size X W) : Below X.heap.size X W := by
  obtain ⟨_, _, _, _, _, _, _, _, _, _, _, _, _, _, hx⟩ := h
  exact hx
set_option maxRecDepth 100000 in
set_option maxHeartbeats 4000000 in
theorem sessions_law (w : World) (A : Option Addr) (len cap : Nat) (zs : List Int) (hz : IsBytes w A len cap zs)
    (hO : ∀ (c : Cfg) (l : List ByteArray) (v : Value) (W : World), l.length ≤ 1048576 → Below w.heap.size w W → Rd W v (strs l) → Calls Tryz.prog 8 #[.agg (cfgV c), v] W fun e w' => ∃ u, e = .returned u ∧ OwnO w' W.heap.size u (opsL c l) ∧ Below W.heap.size W w')
    (hR : ∀ (s : Ses) (ops : List Opn) (v : Value) (W : World), okR s ops → ops.length ≤ 1048576 → Below w.heap.size w W → RdO W v ops → Calls Tryz.prog 10 #[.agg (sesV s.c s.h s.k), v] W fun e w' => ∃ u, e = .returned (.tuple #[.agg (sesV (runS s ops).c (runS s ops).h (runS s ops).k), u]) ∧ Rd w' u (ints (codesS s ops)) ∧ Below W.heap.size W w')
    (hS : ∀ (c : Cfg) (h : ByteArray) (k : Snk) (W : World), Below w.heap.size w W → Calls Tryz.prog 12 #[.agg (sesV c h k), .agg (sesV c h k)] W fun e w' => e = .returned (.bool true) ∧ Below W.heap.size W w') :
    Calls Tryz.prog 4 #[.slice A len cap] w fun e w' => e = .returned (.bool true) ∧ Below w.heap.size w w' := by
  have hlc := hz.1
  have hcm := hz.2.1
  have HZ := Lib.hid hz
  have HO0 := Lib.hid hO
  have HR0 := Lib.hid hR
  have HS0 := Lib.hid hS
  clear hz hO hR hS
  by_cases h : (1048576 : Int) < (len : Int)
  · go_enter Tryz.func4, Tryz.ntmps4
    go_wp2
    go_ret
    exact ⟨rfl, Below.refl _ _⟩
  · go_enter Tryz.func4, Tryz.ntmps4
    go_wp2_with fail
    refine (makeConfig_any A len cap zs w HZ.out).mono ?_
    rintro e w1 ⟨⟨c, hv, rfl⟩, hb1⟩
    have B1 := Lib.hid hb1
    have HIN := Lib.hid (fun W (hb : Below w.heap.size w W) => makeInput_any A len cap zs W (HZ.out.keep hb))
    have HNM := Lib.hid (fun W (hb : Below w.heap.size w W) => makeNum_any 3 A len cap zs W (HZ.out.keep hb) (by omega))
    have HCH := Lib.hid (fun s W (hs : s.size ≤ 108) (hb : Below w.heap.size w W) => makeChunks_any 40 A len cap zs s W (HZ.out.keep hb) (by omega) (by omega))
    have HOP := Lib.hid (fun l v W h1 hb hr => HO0.out c l v W h1 hb hr)
    have HPK := Lib.hid (fun l (hl : (catB l).size ≤ 400) => okR_all c 30 l hv hl (by omega) zeroC)
    have HC0 : Hid (∃ c', c' = c) := Lib.hid ⟨c, rfl⟩
    obtain ⟨cc, hcc⟩ := HC0.out
    rw [← hcc] at HOP HPK
    obtain ⟨m, t, p, d, fr, fd, fl, fe, fm⟩ := c
    have HCV : Hid (cfgV cc = #[.int .i64 m, .int .i64 t, .int .i64 p, .int .i64 d, .bool fr, .bool fd, .bool fl, .bool fe, .bool fm]) := Lib.hid (by rw [hcc]; rfl)
    rw [HCV.out] at HOP
    unfold cfgV
    simp only at HOP ⊢
    have hK2 := Blk.new w1 24 #[.int .i64 m, .int .i64 t, .int .i64 p, .int .i64 d, .bool fr, .bool fd, .bool fl, .bool fe, .bool fm]
    have X2 := Lib.hid hK2
    have B2 := Lib.hid (B1.out.trans (((Below.refl w1.heap.size w1).alloc (Nat.le_refl _) (.cells #[.int .i64 m, .int .i64 t, .int .i64 p, .int .i64 d, .bool fr, .bool fd, .bool fl, .bool fe, .bool fm] 24)).mono B1.out.size))
    clear hb1 hv hcc hK2
    go_wp2_with fail
    generalize hw2 : w1.alloc (.cells #[.int .i64 m, .int .i64 t, .int .i64 p, .int .i64 d, .bool fr, .bool fd, .bool fl, .bool fe, .bool fm] 24) = w2 at X2 B2 ⊢
    clear hw2
    go_region_held3 (fun W => W.cell? ⟨w1.heap.size, 0, none⟩ = some (.int .i64 m) ∧ W.cell? ⟨w1.heap.size, 1, none⟩ = some (.int .i64 t) ∧ W.cell? ⟨w1.heap.size, 2, none⟩ = some (.int .i64 p) ∧ W.cell? ⟨w1.heap.size, 3, none⟩ = some (.int .i64 d) ∧ W.cell? ⟨w1.heap.size, 4, none⟩ = some (.bool fr) ∧ W.cell? ⟨w1.heap.size, 5, none⟩ = some (.bool fd) ∧ W.cell? ⟨w1.heap.size, 6, none⟩ = some (.bool fl) ∧ W.cell? ⟨w1.heap.size, 7, none⟩ = some (.bool fe) ∧ W.cell? ⟨w1.heap.size, 8, none⟩ = some (.bool fm) ∧ w1.heap.size < W.heap.size ∧ Below w2.heap.size w2 W)
      (first | exact snS_start X2.out B2.out | exact snS_step (by assumption) (by assumption))
      (first
        | (go_at_call 6; refine (HIN.out _ (B2.out.trans ((snS_old (by assumption)).mono B2.out.size))).mono ?_; rintro e w3 ⟨⟨s, hs, rfl⟩, hb3⟩)
        | (go_at_call 9; refine (HCH.out _ _ (by assumption) (B2.out.trans ((snS_old (by assumption)).mono B2.out.size))).mono ?_; rintro e w5 ⟨l, v5, hcat, hlen, rfl, ho5, hb5⟩)
        | (go_at_call 8; refine (HOP.out l _ _ (by omega) (B2.out.trans ((snS_old (by assumption)).mono B2.out.size)) (Rd.of_own ho5)).mono ?_; rintro e w6 ⟨u6, rfl, ho6, hb6⟩))
    all_goals
      have hx6 := snS_old (X := w2) (W := w6) (by assumption)
      have B6 := Lib.hid (B2.out.trans (hx6.mono B2.out.size))
      have hok := HPK.out l (by rw [hcat]; omega)
      have hln := opsL_len cc l
      generalize opsL cc l = ops at ho6 hok hln
      have hrow : w6.ownsRow w5.heap.size 51 11 u6 ops.length (opnVals ops) := ho6
      rcases hrow.2 with ⟨_, h0⟩ | ⟨g, k6, cur, rfl, _, hg6, hlk, hkm, _, _⟩
      · omega
      have R6 := Lib.hid (ho6.rd)
      obtain ⟨L, hL⟩ : ∃ L, L = ops.length := ⟨_, rfl⟩
      have HLL := Lib.hid hL
      rw [← hL] at R6 hlk hln ⊢
      have HLN := Lib.hid (show 2 ≤ L ∧ L ≤ 200 from ⟨by omega, by omega⟩)
      have hLi : (L : Int) ≤ 200 := by omega
      have hL2 : (2 : Int) ≤ (L : Int) := by omega
      have HOK := Lib.hid hok
      clear hx6 hb6 hb5 hb3 hcat hlen ho5 ho6 hrow hg6 hL hln hs hok
      go_wp2_with fail
      refine (HNM.out _ B6.out).mono ?_
      rintro e w7 ⟨⟨x, hx0, hx1, rfl⟩, hb7⟩
      have B7 := Lib.hid (B6.out.trans (hb7.mono B6.out.size))
      have R7 := Lib.hid (R6.out.below hb7)
      have hLp : ¬ ((L : Int) + 1) = 0 := by omega
      clear hb7
      go_wp2_with fail
      have hN0 : 0 ≤ x % ((L : Int) + 1) := Int.emod_nonneg _ hLp
      have hN1 : x % ((L : Int) + 1) < (L : Int) + 1 := Int.emod_lt_of_pos _ (by omega)
      generalize x % ((L : Int) + 1) = R at hN0 hN1 ⊢
      obtain ⟨kk, rfl⟩ := Int.eq_ofNat_of_zero_le hN0
      have hkL : kk ≤ L := by omega
      have hkI : (kk : Int) ≤ (L : Int) := by omega
      clear hN0 hN1
      have D8 := (Below.refl w7.heap.size w7).alloc (Nat.le_refl _) (.cells #[.int .i64 0, .int .i64 0, .int .i64 0, .int .i64 0, .bool false, .bool false, .bool false, .bool false, .bool false, .string ⟨#[]⟩, .int .i64 30, .string ⟨#[]⟩, .bool false] 37)
      have B8 := Lib.hid (B7.out.trans (D8.mono B7.out.size))
      have R8 := Lib.hid (R7.out.below D8)
      have V8 := Lib.hid (Blk.new w7 37 #[.int .i64 0, .int .i64 0, .int .i64 0, .int .i64 0, .bool false, .bool false, .bool false, .bool false, .bool false, .string ⟨#[]⟩, .int .i64 30, .string ⟨#[]⟩, .bool false])
      have hgs : w7.heap.size < (w7.alloc (.cells #[.int .i64 0, .int .i64 0, .int .i64 0, .int .i64 0, .bool false, .bool false, .bool false, .bool false, .bool false, .string ⟨#[]⟩, .int .i64 30, .string ⟨#[]⟩, .bool false] 37)).heap.size := by simp
      clear D8
      generalize w7.alloc (.cells #[.int .i64 0, .int .i64 0, .int .i64 0, .int .i64 0, .bool false, .bool false, .bool false, .bool false, .bool false, .string ⟨#[]⟩, .int .i64 30, .string ⟨#[]⟩, .bool false] 37) = w8 at B8 R8 V8 hgs ⊢
      have hap : ops.take kk ++ ops.drop kk = ops := List.take_append_drop ..
      have hok1 : okR ⟨zeroC, ⟨#[]⟩, ⟨((30 : Nat) : Int), ⟨#[]⟩, false⟩⟩ (ops.take kk) ∧ okR (runS ⟨zeroC, ⟨#[]⟩, ⟨((30 : Nat) : Int), ⟨#[]⟩, false⟩⟩ (ops.take kk)) (ops.drop kk) := (okR_append _ _ _).1 (by rw [hap]; exact HOK.out)
      have hrun2 : runS (runS ⟨zeroC, ⟨#[]⟩, ⟨((30 : Nat) : Int), ⟨#[]⟩, false⟩⟩ (ops.take kk)) (ops.drop kk) = runS ⟨zeroC, ⟨#[]⟩, ⟨((30 : Nat) : Int), ⟨#[]⟩, false⟩⟩ ops := by rw [← runS_append, hap]
      have hl1 : (ops.take kk).length = kk := by rw [List.length_take, ← HLL.out]; omega
      have hl2 : (ops.drop kk).length = L - kk := by rw [List.length_drop, ← HLL.out]
      have HR1 := Lib.hid (fun (v : Value) W hb hr => HR0.out ⟨zeroC, ⟨#[]⟩, ⟨((30 : Nat) : Int), ⟨#[]⟩, false⟩⟩ (ops.take kk) v W hok1.1 (by omega) hb hr)
      have HR2 := Lib.hid (fun (v : Value) W hb hr => HR0.out (runS ⟨zeroC, ⟨#[]⟩, ⟨((30 : Nat) : Int), ⟨#[]⟩, false⟩⟩ (ops.take kk)) (ops.drop kk) v W hok1.2 (by omega) hb hr)
      have HR3 := Lib.hid (fun (v : Value) W hb hr => HR0.out ⟨zeroC, ⟨#[]⟩, ⟨((30 : Nat) : Int), ⟨#[]⟩, false⟩⟩ ops v W HOK.out (by rw [← HLL.out]; omega) hb hr)
      have hc1 := codesS_len ⟨zeroC, ⟨#[]⟩, ⟨((30 : Nat) : Int), ⟨#[]⟩, false⟩⟩ (ops.take kk)
      have hc2 := codesS_len (runS ⟨zeroC, ⟨#[]⟩, ⟨((30 : Nat) : Int), ⟨#[]⟩, false⟩⟩ (ops.take kk)) (ops.drop kk)
      have hc3 := codesS_len ⟨zeroC, ⟨#[]⟩, ⟨((30 : Nat) : Int), ⟨#[]⟩, false⟩⟩ ops
      rw [hrun2] at HR2
      generalize codesS (runS ⟨zeroC, ⟨#[]⟩, ⟨((30 : Nat) : Int), ⟨#[]⟩, false⟩⟩ (ops.take kk)) (ops.drop kk) = cs2 at hc2 HR2
      generalize runS ⟨zeroC, ⟨#[]⟩, ⟨((30 : Nat) : Int), ⟨#[]⟩, false⟩⟩ (ops.take kk) = s1 at HR1 HR2
      generalize runS ⟨zeroC, ⟨#[]⟩, ⟨((30 : Nat) : Int), ⟨#[]⟩, false⟩⟩ ops = s2 at HR2 HR3
      generalize codesS ⟨zeroC, ⟨#[]⟩, ⟨((30 : Nat) : Int), ⟨#[]⟩, false⟩⟩ (ops.take kk) = cs1 at hc1 HR1
      generalize codesS ⟨zeroC, ⟨#[]⟩, ⟨((30 : Nat) : Int), ⟨#[]⟩, false⟩⟩ ops = cs3 at hc3 HR3
      obtain ⟨⟨m1, t1, p1, d1, fr1, fd1, fl1, fe1, fm1⟩, h1, ⟨q1, k1, b1⟩⟩ := s1
      obtain ⟨⟨m2, t2, p2, d2, fr2, fd2, fl2, fe2, fm2⟩, h2, ⟨q2, k2, b2⟩⟩ := s2
      have rdT : RdO w8 (.slice (some ⟨g, 0, none⟩) kk k6) (ops.take kk) := RdO.take kk (by rw [← HLL.out]; exact hkL) (by have := R8.out; rw [HLL.out] at this; exact this) k6
      obtain ⟨QA, hQA⟩ : ∃ QA : Option Addr, QA = (if k6 = kk then some ⟨g, 0, none⟩ else some ((⟨g, 0, none⟩ : Addr).add (kk * 11))) := ⟨_, rfl⟩
      have rdD : RdO w8 (.slice QA (L - kk) (k6 - kk)) (ops.drop kk) := by
        by_cases hkk : kk = L
        · refine ⟨QA, k6 - kk, by rw [hl2], fun h0 => ?_⟩
          rw [hl2] at h0; omega
        · have hq : QA = some ⟨g, 0 + kk * 11, none⟩ := by
            rw [hQA, if_neg (by omega)]
            by_cases hk0 : kk = 0
            · subst hk0; rfl
            · rw [show (⟨g, 0, none⟩ : Addr).add (kk * 11) = ⟨g, 0 + kk * 11, none⟩ by simp [Addr.add]; omega]
          rw [hq]
          have := RdO.drop kk (by rw [← HLL.out]; omega) (by have := R8.out; rw [HLL.out] at this; exact this) (k6 - kk)
          rw [← HLL.out] at this
          exact this
      have hs1 : ∀ W, (Instr.slice 28 (.slice (some ⟨g, 0, none⟩) L k6) none (some (.int .i64 (kk : Int))) none).run Tryz.prog W = .ok (.slice (some ⟨g, 0, none⟩) kk k6) W := fun W => by
        rw [run_slice_h (P := Tryz.prog) (w := W) (t := 28) (a := some ⟨g, 0, none⟩) (len := L) (cap := k6) (ht := Tryz.underlying28) .i64 _ (by omega) (by omega)]
        rw [Int.toNat_natCast, show (sizeOf (Tryz.prog.elem 28)).run Tryz.prog W = .ok 11 W by kernel_rfl]
        by_cases hk0 : k6 = 0 <;> simp [Result.andThen, sliced, Addr.add, hk0]
      have hs2 : ∀ W, (Instr.slice 28 (.slice (some ⟨g, 0, none⟩) L k6) (some (.int .i64 (kk : Int))) none none).run Tryz.prog W = .ok (.slice QA (L - kk) (k6 - kk)) W := fun W => by
        rw [run_slice_l (P := Tryz.prog) (w := W) (t := 28) (a := some ⟨g, 0, none⟩) (len := L) (cap := k6) (ht := Tryz.underlying28) .i64 _ (by omega) (by omega)]
        rw [Int.toNat_natCast, show (sizeOf (Tryz.prog.elem 28)).run Tryz.prog W = .ok 11 W by kernel_rfl, hQA]
        by_cases hk0 : k6 = kk <;> simp [Result.andThen, sliced, hk0]
      have HX1 : Hid (∀ W, Below w8.heap.size w8 W → Calls Tryz.prog 10 #[.agg #[.int .i64 0, .int .i64 0, .int .i64 0, .int .i64 0, .bool false, .bool false, .bool false, .bool false, .bool false, .string ⟨#[]⟩, .int .i64 30, .string ⟨#[]⟩, .bool false], .slice (some ⟨g, 0, none⟩) kk k6] W fun e w' => ∃ A c, e = .returned (.tuple #[.agg #[.int .i64 m1, .int .i64 t1, .int .i64 p1, .int .i64 d1, .bool fr1, .bool fd1, .bool fl1, .bool fe1, .bool fm1, .string h1, .int .i64 q1, .string k1, .bool b1], .slice A kk c]) ∧ Below W.heap.size W w') := Lib.hid (fun W hb => (HR1.out _ W (B8.out.trans (hb.mono B8.out.size)) (rdT.below hb)).mono (fun e w' ⟨u, he, ⟨A', c', hu, _⟩, hb'⟩ => ⟨A', c', by rw [he, hu, ints_length, hc1, hl1]; rfl, hb'⟩))
      have HX2 : Hid (∀ W, Below w8.heap.size w8 W → Calls Tryz.prog 10 #[.agg #[.int .i64 m1, .int .i64 t1, .int .i64 p1, .int .i64 d1, .bool fr1, .bool fd1, .bool fl1, .bool fe1, .bool fm1, .string h1, .int .i64 q1, .string k1, .bool b1], .slice QA (L - kk) (k6 - kk)] W fun e w' => ∃ A c, e = .returned (.tuple #[.agg #[.int .i64 m2, .int .i64 t2, .int .i64 p2, .int .i64 d2, .bool fr2, .bool fd2, .bool fl2, .bool fe2, .bool fm2, .string h2, .int .i64 q2, .string k2, .bool b2], .slice A (L - kk) c]) ∧ Below W.heap.size W w') := Lib.hid (fun W hb => (HR2.out _ W (B8.out.trans (hb.mono B8.out.size)) (rdD.below hb)).mono (fun e w' ⟨u, he, ⟨A', c', hu, _⟩, hb'⟩ => ⟨A', c', by rw [he, hu, ints_length, hc2, hl2]; rfl, hb'⟩))
      have HX3 : Hid (∀ W, Below w8.heap.size w8 W → Calls Tryz.prog 10 #[.agg #[.int .i64 0, .int .i64 0, .int .i64 0, .int .i64 0, .bool false, .bool false, .bool false, .bool false, .bool false, .string ⟨#[]⟩, .int .i64 30, .string ⟨#[]⟩, .bool false], .slice (some ⟨g, 0, none⟩) L k6] W fun e w' => ∃ A c, e = .returned (.tuple #[.agg #[.int .i64 m2, .int .i64 t2, .int .i64 p2, .int .i64 d2, .bool fr2, .bool fd2, .bool fl2, .bool fe2, .bool fm2, .string h2, .int .i64 q2, .string k2, .bool b2], .slice A L c]) ∧ Below W.heap.size W w') := Lib.hid (fun W hb => (HR3.out _ W (B8.out.trans (hb.mono B8.out.size)) (R8.out.below hb)).mono (fun e w' ⟨u, he, ⟨A', c', hu, _⟩, hb'⟩ => ⟨A', c', by rw [he, hu, ints_length, hc3, ← HLL.out]; rfl, hb'⟩))
      clear HR1 HR2 HR3 hc1 hc2 hc3 hl1 hl2 hok1 hrun2 hap rdT rdD hQA R6 R7
      go_cut [7, 8] (fun s7 s8 wx => ∃ (ga : Nat) (A8 : Option Addr) (c8 : Nat), s7 = .pointer (some ⟨ga, 0, none⟩) ∧ s8 = .slice A8 kk c8 ∧ Hid (Blk wx ga 37 #[.int .i64 m1, .int .i64 t1, .int .i64 p1, .int .i64 d1, .bool fr1, .bool fd1, .bool fl1, .bool fe1, .bool fm1, .string h1, .int .i64 q1, .string k1, .bool b1]) ∧ Hid (Below w8.heap.size w8 wx))
      case first =>
        refine wp_region_noPanic ?_
        refine wp_region_held_drew (S := (fun W => W.cell? ⟨w7.heap.size, 0, none⟩ = some (.int .i64 0) ∧ W.cell? ⟨w7.heap.size, 1, none⟩ = some (.int .i64 0) ∧ W.cell? ⟨w7.heap.size, 2, none⟩ = some (.int .i64 0) ∧ W.cell? ⟨w7.heap.size, 3, none⟩ = some (.int .i64 0) ∧ W.cell? ⟨w7.heap.size, 4, none⟩ = some (.bool false) ∧ W.cell? ⟨w7.heap.size, 5, none⟩ = some (.bool false) ∧ W.cell? ⟨w7.heap.size, 6, none⟩ = some (.bool false) ∧ W.cell? ⟨w7.heap.size, 7, none⟩ = some (.bool false) ∧ W.cell? ⟨w7.heap.size, 8, none⟩ = some (.bool false) ∧ W.cell? ⟨w7.heap.size, 9, none⟩ = some (.string ⟨#[]⟩) ∧ W.cell? ⟨w7.heap.size, 10, none⟩ = some (.int .i64 30) ∧ W.cell? ⟨w7.heap.size, 11, none⟩ = some (.string ⟨#[]⟩) ∧ W.cell? ⟨w7.heap.size, 12, none⟩ = some (.bool false) ∧ w7.heap.size < W.heap.size ∧ Below w8.heap.size w8 W)) (by kernel_rfl) (stS_start V8.out) (fun hHeld => ?_)
        refine wpAnyH_take (i := 0) (oi := _) (v := .agg #[.int .i64 0, .int .i64 0, .int .i64 0, .int .i64 0, .bool false, .bool false, .bool false, .bool false, .bool false, .string ⟨#[]⟩, .int .i64 30, .string ⟨#[]⟩, .bool false]) rfl (by kernel_rfl) (by kernel_rfl) (by kernel_rfl) (fun _ _ _ h => h) (Or.inl ⟨by rfl, ?_⟩) (by assumption) ?_
        · intro W hSw
          try dsimp only at hSw
          go_simp
        try simp only [Act.put, List.setIfInBounds_toArray, List.set_cons_zero, List.set_cons_succ]
        refine wpAnyH_take (i := 1) (oi := _) (v := .slice (some ⟨g, 0, none⟩) L k6) rfl (by kernel_rfl) (by kernel_rfl) (by kernel_rfl) (fun _ _ _ h => h) (Or.inl ⟨by rfl, ?_⟩) (by assumption) ?_
        · intro W hSw
          try dsimp only at hSw
          go_simp
        try simp only [Act.put, List.setIfInBounds_toArray, List.set_cons_zero, List.set_cons_succ]
        refine wpAnyH_take (i := 2) (oi := _) (v := .int .i64 (kk : Int)) rfl (by kernel_rfl) (by kernel_rfl) (by kernel_rfl) (fun _ _ _ h => h) (Or.inl ⟨by rfl, ?_⟩) (by assumption) ?_
        · intro W hSw
          try dsimp only at hSw
          go_simp
        try simp only [Act.put, List.setIfInBounds_toArray, List.set_cons_zero, List.set_cons_succ]
        refine wpAnyH_take (i := 3) (oi := _) (v := .slice (some ⟨g, 0, none⟩) kk k6) rfl (by kernel_rfl) (by kernel_rfl) (by kernel_rfl) (fun _ _ _ h => h) (Or.inl ⟨by rfl, ?_⟩) (by assumption) ?_
        · intro W hSw
          try dsimp only at hSw
          go_simp
        try simp only [Act.put, List.setIfInBounds_toArray, List.set_cons_zero, List.set_cons_succ]
        refine wpAnyH_ready (rs := [4, 8]) (by kernel_rfl) (by simp) ?_
        refine AllReadyH.cons (o := _) rfl (fun K hK => ?_) (AllReadyH.cons (o := _) rfl (fun K hK => ?_) AllReadyH.nil)
        · go_simp
          go_at_call 10
          refine (HX1.out _ (stS_old hHeld)).mono ?_
          rintro e w9 ⟨A8, c8, rfl, hb9⟩
          refine hK.out _ _ (stS_step hb9 hHeld) (fun hH2 => ?_)
          try simp only [Act.put, List.setIfInBounds_toArray, List.set_cons_zero, List.set_cons_succ]
          refine wpAnyH_take (i := 5) (oi := _) (v := .tuple #[.agg #[.int .i64 m1, .int .i64 t1, .int .i64 p1, .int .i64 d1, .bool fr1, .bool fd1, .bool fl1, .bool fe1, .bool fm1, .string h1, .int .i64 q1, .string k1, .bool b1], .slice A8 kk c8]) rfl (by kernel_rfl) (by kernel_rfl) (by kernel_rfl) (fun _ _ _ h => h) (Or.inl ⟨by rfl, ?_⟩) (by assumption) ?_
          · intro W hSw
            try dsimp only at hSw
            go_simp
          try simp only [Act.put, List.setIfInBounds_toArray, List.set_cons_zero, List.set_cons_succ]
          refine wpAnyH_take (i := 6) (oi := _) (v := .agg #[.int .i64 m1, .int .i64 t1, .int .i64 p1, .int .i64 d1, .bool fr1, .bool fd1, .bool fl1, .bool fe1, .bool fm1, .string h1, .int .i64 q1, .string k1, .bool b1]) rfl (by kernel_rfl) (by kernel_rfl) (by kernel_rfl) (fun _ _ _ h => h) (Or.inl ⟨by rfl, ?_⟩) (by assumption) ?_
          · intro W hSw
            try dsimp only at hSw
            go_simp
          try simp only [Act.put, List.setIfInBounds_toArray, List.set_cons_zero, List.set_cons_succ]
          refine wpAnyH_take (i := 7) (oi := _) (v := .slice A8 kk c8) rfl (by kernel_rfl) (by kernel_rfl) (by kernel_rfl) (fun _ _ _ h => h) (Or.inl ⟨by rfl, ?_⟩) (by assumption) ?_
          · intro W hSw
            try dsimp only at hSw
            go_simp
          try simp only [Act.put, List.setIfInBounds_toArray, List.set_cons_zero, List.set_cons_succ]
          refine wpAnyH_ready (rs := [8]) (by kernel_rfl) (by simp) ?_
          refine AllReadyH.cons (o := _) rfl (fun K hK => ?_) AllReadyH.nil
          go_simp
          refine hK.out _ _ (stS_step ((Below.refl _ _).alloc (Nat.le_refl _) _) hH2) (fun hH3 => ?_)
          try simp only [Act.put, List.setIfInBounds_toArray, List.set_cons_zero, List.set_cons_succ]
          have hw9 : w8.heap.size ≤ w9.heap.size := (stS_old hH2).size
          refine wpAnyH_ready (rs := [9]) (by kernel_rfl) (by simp) ?_
          refine AllReadyH.cons (o := _) rfl (fun K hK => ?_) AllReadyH.nil
          rw [if_pos (by rfl)]
          refine wp_store_row _ _ _ rfl (w9.heap.size) #[.int .i64 m1, .int .i64 t1, .int .i64 p1, .int .i64 d1, .bool fr1, .bool fd1, .bool fl1, .bool fe1, .bool fm1, .string h1, .int .i64 q1, .string k1, .bool b1] rfl rfl 37 _ (Blk.new w9 37 #[.int .i64 0, .int .i64 0, .int .i64 0, .int .i64 0, .bool false, .bool false, .bool false, .bool false, .bool false, .string ⟨#[]⟩, .int .i64 0, .string ⟨#[]⟩, .bool false]) size_sesW rfl (one_ses _ _ _ _ _ _ _ _ _ _ _ _ _) ?_
          refine hK.out _ _ (stS_row (Nat.lt_of_lt_of_le hgs hw9) hw9 hH3) (fun hH4 => ?_)
          try simp only [Act.put, List.setIfInBounds_toArray, List.set_cons_zero, List.set_cons_succ]
          refine wpAnyH_ready (rs := [10]) (by kernel_rfl) (by simp) ?_
          refine AllReadyH.cons (o := _) rfl (fun K hK => ?_) AllReadyH.nil
          go_simp
          refine hK.out _ _ hH4 (fun _ => ?_)
          try simp only [Act.put, List.setIfInBounds_toArray, List.set_cons_zero, List.set_cons_succ]
          refine wpAnyH_done (by kernel_rfl) ?_ _
          refine NoPanic.normal ?_
          have hbk := (Blk.new w9 37 #[.int .i64 0, .int .i64 0, .int .i64 0, .int .i64 0, .bool false, .bool false, .bool false, .bool false, .bool false, .string ⟨#[]⟩, .int .i64 0, .string ⟨#[]⟩, .bool false]).row (cs' := #[.int .i64 m1, .int .i64 t1, .int .i64 p1, .int .i64 d1, .bool fr1, .bool fd1, .bool fl1, .bool fe1, .bool fm1, .string h1, .int .i64 q1, .string k1, .bool b1])
          have hol := stS_old hH4
          clear hHeld hH2 hH3 hH4
          go_wp2_with fail
          go_meet
          exact ⟨w9.heap.size, A8, c8, rfl, rfl, Lib.hid hbk, Lib.hid hol⟩
        · go_simp
          refine hK.out _ _ (stS_step ((Below.refl _ _).alloc (Nat.le_refl _) _) hHeld) (fun hH2 => ?_)
          try simp only [Act.put, List.setIfInBounds_toArray, List.set_cons_zero, List.set_cons_succ]
          refine wpAnyH_ready (rs := [4]) (by kernel_rfl) (by simp) ?_
          refine AllReadyH.cons (o := _) rfl (fun K hK => ?_) AllReadyH.nil
          go_simp
          go_at_call 10
          refine (HX1.out _ (stS_old hH2)).mono ?_
          rintro e w9 ⟨A8, c8, rfl, hb9⟩
          refine hK.out _ _ (stS_step hb9 hH2) (fun hH3 => ?_)
          try simp only [Act.put, List.setIfInBounds_toArray, List.set_cons_zero, List.set_cons_succ]
          refine wpAnyH_take (i := 5) (oi := _) (v := .tuple #[.agg #[.int .i64 m1, .int .i64 t1, .int .i64 p1, .int .i64 d1, .bool fr1, .bool fd1, .bool fl1, .bool fe1, .bool fm1, .string h1, .int .i64 q1, .string k1, .bool b1], .slice A8 kk c8]) rfl (by kernel_rfl) (by kernel_rfl) (by kernel_rfl) (fun _ _ _ h => h) (Or.inl ⟨by rfl, ?_⟩) (by assumption) ?_
          · intro W hSw
            try dsimp only at hSw
            go_simp
          try simp only [Act.put, List.setIfInBounds_toArray, List.set_cons_zero, List.set_cons_succ]
          refine wpAnyH_take (i := 6) (oi := _) (v := .agg #[.int .i64 m1, .int .i64 t1, .int .i64 p1, .int .i64 d1, .bool fr1, .bool fd1, .bool fl1, .bool fe1, .bool fm1, .string h1, .int .i64 q1, .string k1, .bool b1]) rfl (by kernel_rfl) (by kernel_rfl) (by kernel_rfl) (fun _ _ _ h => h) (Or.inl ⟨by rfl, ?_⟩) (by assumption) ?_
          · intro W hSw
            try dsimp only at hSw
            go_simp
          try simp only [Act.put, List.setIfInBounds_toArray, List.set_cons_zero, List.set_cons_succ]
          refine wpAnyH_take (i := 7) (oi := _) (v := .slice A8 kk c8) rfl (by kernel_rfl) (by kernel_rfl) (by kernel_rfl) (fun _ _ _ h => h) (Or.inl ⟨by rfl, ?_⟩) (by assumption) ?_
          · intro W hSw
            try dsimp only at hSw
            go_simp
          try simp only [Act.put, List.setIfInBounds_toArray, List.set_cons_zero, List.set_cons_succ]
          have hw9 : w8.heap.size ≤ w8.heap.size := Nat.le_refl _
          refine wpAnyH_ready (rs := [9]) (by kernel_rfl) (by simp) ?_
          refine AllReadyH.cons (o := _) rfl (fun K hK => ?_) AllReadyH.nil
          rw [if_pos (by rfl)]
          refine wp_store_row _ _ _ rfl (w8.heap.size) #[.int .i64 m1, .int .i64 t1, .int .i64 p1, .int .i64 d1, .bool fr1, .bool fd1, .bool fl1, .bool fe1, .bool fm1, .string h1, .int .i64 q1, .string k1, .bool b1] rfl rfl 37 _ ((Blk.new w8.drew 37 #[.int .i64 0, .int .i64 0, .int .i64 0, .int .i64 0, .bool false, .bool false, .bool false, .bool false, .bool false, .string ⟨#[]⟩, .int .i64 0, .string ⟨#[]⟩, .bool false]).after hb9) size_sesW rfl (one_ses _ _ _ _ _ _ _ _ _ _ _ _ _) ?_
          refine hK.out _ _ (stS_row (Nat.lt_of_lt_of_le hgs hw9) hw9 hH3) (fun hH4 => ?_)
          try simp only [Act.put, List.setIfInBounds_toArray, List.set_cons_zero, List.set_cons_succ]
          refine wpAnyH_ready (rs := [10]) (by kernel_rfl) (by simp) ?_
          refine AllReadyH.cons (o := _) rfl (fun K hK => ?_) AllReadyH.nil
          go_simp
          refine hK.out _ _ hH4 (fun _ => ?_)
          try simp only [Act.put, List.setIfInBounds_toArray, List.set_cons_zero, List.set_cons_succ]
          refine wpAnyH_done (by kernel_rfl) ?_ _
          refine NoPanic.normal ?_
          have hbk := ((Blk.new w8.drew 37 #[.int .i64 0, .int .i64 0, .int .i64 0, .int .i64 0, .bool false, .bool false, .bool false, .bool false, .bool false, .string ⟨#[]⟩, .int .i64 0, .string ⟨#[]⟩, .bool false]).after hb9).row (cs' := #[.int .i64 m1, .int .i64 t1, .int .i64 p1, .int .i64 d1, .bool fr1, .bool fd1, .bool fl1, .bool fe1, .bool fm1, .string h1, .int .i64 q1, .string k1, .bool b1])
          have hol := stS_old hH4
          clear hHeld hH2 hH3 hH4
          go_wp2_with fail
          go_meet
          exact ⟨w8.heap.size, A8, c8, rfl, rfl, Lib.hid hbk, Lib.hid hol⟩
      case rest =>
        obtain ⟨ga, A8, c8, rfl, rfl, HGA, HBA⟩ := hcut
        have HY2 := Lib.hid (fun W (hb : Below wc.heap.size wc W) => HX2.out W (HBA.out.trans (hb.mono HBA.out.size)))
        have hga := HGA.out.lt
        obtain ⟨n2, hn2⟩ : ∃ n2, n2 = L - kk := ⟨_, rfl⟩
        rw [← hn2] at HY2
        simp only [← hn2] at hs2
        have hsum : (kk : Int) + (n2 : Int) = (L : Int) := by omega
        have HSUM := Lib.hid hsum
        have hn2i : (n2 : Int) ≤ 200 := by omega
        have hkki : (kk : Int) ≤ 200 := by omega
        obtain ⟨wo, hwo⟩ : ∃ wo : World, wo = wc := ⟨_, rfl⟩
        rw [← hwo] at HY2 hga HGA HBA ⊢
        clear HX2 hwo hsum hn2 hs1
        go_wp2_with fail
        go_cut [9, 10] (fun s9 s10 wx => ∃ (gb : Nat) (A9 : Option Addr) (c9 : Nat), s9 = .pointer (some ⟨gb, 0, none⟩) ∧ s10 = .slice A9 n2 c9 ∧ Hid (Blk wx gb 37 #[.int .i64 m2, .int .i64 t2, .int .i64 p2, .int .i64 d2, .bool fr2, .bool fd2, .bool fl2, .bool fe2, .bool fm2, .string h2, .int .i64 q2, .string k2, .bool b2]) ∧ Hid (Below wo.heap.size wo wx))
        case first =>
          refine wp_region_noPanic ?_
          refine wp_region_held_drew (S := (fun W => W.cell? ⟨ga, 0, none⟩ = some (.int .i64 m1) ∧ W.cell? ⟨ga, 1, none⟩ = some (.int .i64 t1) ∧ W.cell? ⟨ga, 2, none⟩ = some (.int .i64 p1) ∧ W.cell? ⟨ga, 3, none⟩ = some (.int .i64 d1) ∧ W.cell? ⟨ga, 4, none⟩ = some (.bool fr1) ∧ W.cell? ⟨ga, 5, none⟩ = some (.bool fd1) ∧ W.cell? ⟨ga, 6, none⟩ = some (.bool fl1) ∧ W.cell? ⟨ga, 7, none⟩ = some (.bool fe1) ∧ W.cell? ⟨ga, 8, none⟩ = some (.bool fm1) ∧ W.cell? ⟨ga, 9, none⟩ = some (.string h1) ∧ W.cell? ⟨ga, 10, none⟩ = some (.int .i64 q1) ∧ W.cell? ⟨ga, 11, none⟩ = some (.string k1) ∧ W.cell? ⟨ga, 12, none⟩ = some (.bool b1) ∧ ga < W.heap.size ∧ Below wo.heap.size wo W)) (by kernel_rfl) (stS_start HGA.out) (fun hHeld => ?_)
          refine wpAnyH_take (i := 0) (oi := _) (v := .agg #[.int .i64 m1, .int .i64 t1, .int .i64 p1, .int .i64 d1, .bool fr1, .bool fd1, .bool fl1, .bool fe1, .bool fm1, .string h1, .int .i64 q1, .string k1, .bool b1]) rfl (by kernel_rfl) (by kernel_rfl) (by kernel_rfl) (fun _ _ _ h => h) (Or.inl ⟨by rfl, ?_⟩) (by assumption) ?_
          · intro W hSw
            try dsimp only at hSw
            go_simp
          try simp only [Act.put, List.setIfInBounds_toArray, List.set_cons_zero, List.set_cons_succ]
          refine wpAnyH_take (i := 1) (oi := _) (v := .slice (some ⟨g, 0, none⟩) L k6) rfl (by kernel_rfl) (by kernel_rfl) (by kernel_rfl) (fun _ _ _ h => h) (Or.inl ⟨by rfl, ?_⟩) (by assumption) ?_
          · intro W hSw
            try dsimp only at hSw
            go_simp
          try simp only [Act.put, List.setIfInBounds_toArray, List.set_cons_zero, List.set_cons_succ]
          refine wpAnyH_take (i := 2) (oi := _) (v := .int .i64 (kk : Int)) rfl (by kernel_rfl) (by kernel_rfl) (by kernel_rfl) (fun _ _ _ h => h) (Or.inl ⟨by rfl, ?_⟩) (by assumption) ?_
          · intro W hSw
            try dsimp only at hSw
            go_simp
          try simp only [Act.put, List.setIfInBounds_toArray, List.set_cons_zero, List.set_cons_succ]
          refine wpAnyH_take (i := 3) (oi := _) (v := .slice QA n2 (k6 - kk)) rfl (by kernel_rfl) (by kernel_rfl) (by kernel_rfl) (fun _ _ _ h => h) (Or.inl ⟨by rfl, ?_⟩) (by assumption) ?_
          · intro W hSw
            try dsimp only at hSw
            go_simp
          try simp only [Act.put, List.setIfInBounds_toArray, List.set_cons_zero, List.set_cons_succ]
          refine wpAnyH_ready (rs := [4, 8]) (by kernel_rfl) (by simp) ?_
          refine AllReadyH.cons (o := _) rfl (fun K hK => ?_) (AllReadyH.cons (o := _) rfl (fun K hK => ?_) AllReadyH.nil)
          · go_simp
            go_at_call 10
            refine (HY2.out _ (stS_old hHeld)).mono ?_
            rintro e w9 ⟨A8, c8, rfl, hb9⟩
            refine hK.out _ _ (stS_step hb9 hHeld) (fun hH2 => ?_)
            try simp only [Act.put, List.setIfInBounds_toArray, List.set_cons_zero, List.set_cons_succ]
            refine wpAnyH_take (i := 5) (oi := _) (v := .tuple #[.agg #[.int .i64 m2, .int .i64 t2, .int .i64 p2, .int .i64 d2, .bool fr2, .bool fd2, .bool fl2, .bool fe2, .bool fm2, .string h2, .int .i64 q2, .string k2, .bool b2], .slice A8 n2 c8]) rfl (by kernel_rfl) (by kernel_rfl) (by kernel_rfl) (fun _ _ _ h => h) (Or.inl ⟨by rfl, ?_⟩) (by assumption) ?_
            · intro W hSw
              try dsimp only at hSw
              go_simp
            try simp only [Act.put, List.setIfInBounds_toArray, List.set_cons_zero, List.set_cons_succ]
            refine wpAnyH_take (i := 6) (oi := _) (v := .agg #[.int .i64 m2, .int .i64 t2, .int .i64 p2, .int .i64 d2, .bool fr2, .bool fd2, .bool fl2, .bool fe2, .bool fm2, .string h2, .int .i64 q2, .string k2, .bool b2]) rfl (by kernel_rfl) (by kernel_rfl) (by kernel_rfl) (fun _ _ _ h => h) (Or.inl ⟨by rfl, ?_⟩) (by assumption) ?_
            · intro W hSw
              try dsimp only at hSw
              go_simp
            try simp only [Act.put, List.setIfInBounds_toArray, List.set_cons_zero, List.set_cons_succ]
            refine wpAnyH_take (i := 7) (oi := _) (v := .slice A8 n2 c8) rfl (by kernel_rfl) (by kernel_rfl) (by kernel_rfl) (fun _ _ _ h => h) (Or.inl ⟨by rfl, ?_⟩) (by assumption) ?_
            · intro W hSw
              try dsimp only at hSw
              go_simp
            try simp only [Act.put, List.setIfInBounds_toArray, List.set_cons_zero, List.set_cons_succ]
            refine wpAnyH_ready (rs := [8]) (by kernel_rfl) (by simp) ?_
            refine AllReadyH.cons (o := _) rfl (fun K hK => ?_) AllReadyH.nil
            go_simp
            refine hK.out _ _ (stS_step ((Below.refl _ _).alloc (Nat.le_refl _) _) hH2) (fun hH3 => ?_)
            try simp only [Act.put, List.setIfInBounds_toArray, List.set_cons_zero, List.set_cons_succ]
            have hw9 : wo.heap.size ≤ w9.heap.size := (stS_old hH2).size
            refine wpAnyH_ready (rs := [9]) (by kernel_rfl) (by simp) ?_
            refine AllReadyH.cons (o := _) rfl (fun K hK => ?_) AllReadyH.nil
            rw [if_pos (by rfl)]
            refine wp_store_row _ _ _ rfl (w9.heap.size) #[.int .i64 m2, .int .i64 t2, .int .i64 p2, .int .i64 d2, .bool fr2, .bool fd2, .bool fl2, .bool fe2, .bool fm2, .string h2, .int .i64 q2, .string k2, .bool b2] rfl rfl 37 _ (Blk.new w9 37 #[.int .i64 0, .int .i64 0, .int .i64 0, .int .i64 0, .bool false, .bool false, .bool false, .bool false, .bool false, .string ⟨#[]⟩, .int .i64 0, .string ⟨#[]⟩, .bool false]) size_sesW rfl (one_ses _ _ _ _ _ _ _ _ _ _ _ _ _) ?_
            refine hK.out _ _ (stS_row (Nat.lt_of_lt_of_le hga hw9) hw9 hH3) (fun hH4 => ?_)
            try simp only [Act.put, List.setIfInBounds_toArray, List.set_cons_zero, List.set_cons_succ]
            refine wpAnyH_ready (rs := [10]) (by kernel_rfl) (by simp) ?_
            refine AllReadyH.cons (o := _) rfl (fun K hK => ?_) AllReadyH.nil
            go_simp
            refine hK.out _ _ hH4 (fun _ => ?_)
            try simp only [Act.put, List.setIfInBounds_toArray, List.set_cons_zero, List.set_cons_succ]
            refine wpAnyH_done (by kernel_rfl) ?_ _
            refine NoPanic.normal ?_
            have hbk := (Blk.new w9 37 #[.int .i64 0, .int .i64 0, .int .i64 0, .int .i64 0, .bool false, .bool false, .bool false, .bool false, .bool false, .string ⟨#[]⟩, .int .i64 0, .string ⟨#[]⟩, .bool false]).row (cs' := #[.int .i64 m2, .int .i64 t2, .int .i64 p2, .int .i64 d2, .bool fr2, .bool fd2, .bool fl2, .bool fe2, .bool fm2, .string h2, .int .i64 q2, .string k2, .bool b2])
            have hol := stS_old hH4
            clear hHeld hH2 hH3 hH4
            go_wp2_with fail
            go_meet
            exact ⟨w9.heap.size, A8, c8, rfl, rfl, Lib.hid hbk, Lib.hid hol⟩
          · go_simp
            refine hK.out _ _ (stS_step ((Below.refl _ _).alloc (Nat.le_refl _) _) hHeld) (fun hH2 => ?_)
            try simp only [Act.put, List.setIfInBounds_toArray, List.set_cons_zero, List.set_cons_succ]
            refine wpAnyH_ready (rs := [4]) (by kernel_rfl) (by simp) ?_
            refine AllReadyH.cons (o := _) rfl (fun K hK => ?_) AllReadyH.nil
            go_simp
            go_at_call 10
            refine (HY2.out _ (stS_old hH2)).mono ?_
            rintro e w9 ⟨A8, c8, rfl, hb9⟩
            refine hK.out _ _ (stS_step hb9 hH2) (fun hH3 => ?_)
            try simp only [Act.put, List.setIfInBounds_toArray, List.set_cons_zero, List.set_cons_succ]
            refine wpAnyH_take (i := 5) (oi := _) (v := .tuple #[.agg #[.int .i64 m2, .int .i64 t2, .int .i64 p2, .int .i64 d2, .bool fr2, .bool fd2, .bool fl2, .bool fe2, .bool fm2, .string h2, .int .i64 q2, .string k2, .bool b2], .slice A8 n2 c8]) rfl (by kernel_rfl) (by kernel_rfl) (by kernel_rfl) (fun _ _ _ h => h) (Or.inl ⟨by rfl, ?_⟩) (by assumption) ?_
            · intro W hSw
              try dsimp only at hSw
              go_simp
            try simp only [Act.put, List.setIfInBounds_toArray, List.set_cons_zero, List.set_cons_succ]
            refine wpAnyH_take (i := 6) (oi := _) (v := .agg #[.int .i64 m2, .int .i64 t2, .int .i64 p2, .int .i64 d2, .bool fr2, .bool fd2, .bool fl2, .bool fe2, .bool fm2, .string h2, .int .i64 q2, .string k2, .bool b2]) rfl (by kernel_rfl) (by kernel_rfl) (by kernel_rfl) (fun _ _ _ h => h) (Or.inl ⟨by rfl, ?_⟩) (by assumption) ?_
            · intro W hSw
              try dsimp only at hSw
              go_simp
            try simp only [Act.put, List.setIfInBounds_toArray, List.set_cons_zero, List.set_cons_succ]
            refine wpAnyH_take (i := 7) (oi := _) (v := .slice A8 n2 c8) rfl (by kernel_rfl) (by kernel_rfl) (by kernel_rfl) (fun _ _ _ h => h) (Or.inl ⟨by rfl, ?_⟩) (by assumption) ?_
            · intro W hSw
              try dsimp only at hSw
              go_simp
            try simp only [Act.put, List.setIfInBounds_toArray, List.set_cons_zero, List.set_cons_succ]
            have hw9 : wo.heap.size ≤ wo.heap.size := Nat.le_refl _
            refine wpAnyH_ready (rs := [9]) (by kernel_rfl) (by simp) ?_
            refine AllReadyH.cons (o := _) rfl (fun K hK => ?_) AllReadyH.nil
            rw [if_pos (by rfl)]
            refine wp_store_row _ _ _ rfl (wo.heap.size) #[.int .i64 m2, .int .i64 t2, .int .i64 p2, .int .i64 d2, .bool fr2, .bool fd2, .bool fl2, .bool fe2, .bool fm2, .string h2, .int .i64 q2, .string k2, .bool b2] rfl rfl 37 _ ((Blk.new wo.drew 37 #[.int .i64 0, .int .i64 0, .int .i64 0, .int .i64 0, .bool false, .bool false, .bool false, .bool false, .bool false, .string ⟨#[]⟩, .int .i64 0, .string ⟨#[]⟩, .bool false]).after hb9) size_sesW rfl (one_ses _ _ _ _ _ _ _ _ _ _ _ _ _) ?_
            refine hK.out _ _ (stS_row (Nat.lt_of_lt_of_le hga hw9) hw9 hH3) (fun hH4 => ?_)
            try simp only [Act.put, List.setIfInBounds_toArray, List.set_cons_zero, List.set_cons_succ]
            refine wpAnyH_ready (rs := [10]) (by kernel_rfl) (by simp) ?_
            refine AllReadyH.cons (o := _) rfl (fun K hK => ?_) AllReadyH.nil
            go_simp
            refine hK.out _ _ hH4 (fun _ => ?_)
            try simp only [Act.put, List.setIfInBounds_toArray, List.set_cons_zero, List.set_cons_succ]
            refine wpAnyH_done (by kernel_rfl) ?_ _
            refine NoPanic.normal ?_
            have hbk := ((Blk.new wo.drew 37 #[.int .i64 0, .int .i64 0, .int .i64 0, .int .i64 0, .bool false, .bool false, .bool false, .bool false, .bool false, .string ⟨#[]⟩, .int .i64 0, .string ⟨#[]⟩, .bool false]).after hb9).row (cs' := #[.int .i64 m2, .int .i64 t2, .int .i64 p2, .int .i64 d2, .bool fr2, .bool fd2, .bool fl2, .bool fe2, .bool fm2, .string h2, .int .i64 q2, .string k2, .bool b2])
            have hol := stS_old hH4
            clear hHeld hH2 hH3 hH4
            go_wp2_with fail
            go_meet
            exact ⟨wo.heap.size, A8, c8, rfl, rfl, Lib.hid hbk, Lib.hid hol⟩
        case rest =>
          obtain ⟨gb, A9, c9, rfl, rfl, HGB, HBB⟩ := hcut
          have HBC := Lib.hid (HBA.out.trans (HBB.out.mono HBA.out.size))
          obtain ⟨wp, hwp⟩ : ∃ wp : World, wp = wc := ⟨_, rfl⟩
          rw [← hwp] at HGB HBB HBC ⊢
          have V9 := Lib.hid (V8.out.after HBC.out)
          have HY3 := Lib.hid (HX3.out wp HBC.out)
          have HSS := Lib.hid (fun W hb => HS0.out ⟨m2, t2, p2, d2, fr2, fd2, fl2, fe2, fm2⟩ h2 ⟨q2, k2, b2⟩ W hb)
          unfold sesV at HSS
          simp only at HSS
          have B9 := Lib.hid (B8.out.trans (HBC.out.mono B8.out.size))
          obtain ⟨a0, a1, a2, a3, a4, a5, a6, a7, a8, a9, a10, a11, a12⟩ := V9.out.thirteen
          clear hwp hs2 HX3 HY2
          go_wp2_with fail
          refine HY3.out.mono ?_
          rintro e w10 ⟨A10, c10, rfl, hb10⟩
          have B10 := Lib.hid (B9.out.trans (hb10.mono B9.out.size))
          have D10 := (Below.refl w10.heap.size w10).alloc (Nat.le_refl _) (.cells #[.int .i64 m2, .int .i64 t2, .int .i64 p2, .int .i64 d2, .bool fr2, .bool fd2, .bool fl2, .bool fe2, .bool fm2, .string h2, .int .i64 q2, .string k2, .bool b2] 37)
          have B11 := Lib.hid (B10.out.trans (D10.mono B10.out.size))
          have hbb := (HGB.out.after hb10).after D10
          obtain ⟨e0, e1, e2, e3, e4, e5, e6, e7, e8, e9, e10, e11, e12⟩ := hbb.thirteen
          clear hb10 D10 hbb a0 a1 a2 a3 a4 a5 a6 a7 a8 a9 a10 a11 a12
          have hsum := HSUM.out
          go_wp2_with fail
          refine (HSS.out _ B11.out).mono ?_
          rintro e w12 ⟨rfl, hb12⟩
          have B12 := Lib.hid (B11.out.trans (hb12.mono B11.out.size))
          clear hb12
          go_wp2_with fail
          go_ret
          exact ⟨rfl, B12.out⟩
end Go.Proofs.YtooanejiadbngaaGreatDoor
