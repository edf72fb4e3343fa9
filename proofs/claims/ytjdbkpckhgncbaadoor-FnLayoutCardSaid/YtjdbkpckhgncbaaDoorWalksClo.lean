/- The walk of the law: the layout of a text consists of that of its closed beginning and that of the rest; over a contract of the program's Layout. -/
import Derived.Test.YtjdbkpckhgncbaaDoorBE
import Derived.Test.YtjdbkpckhgncbaaDoorBlksMath
import Derived.Test.YtjdbkpckhgncbaaDoorLayB
import Derived.Test.YtjdbkpckhgncbaaDoorImplClosed
import Derived.Deep.RegionHeld3
namespace Go.Proofs.YtjdbkpckhgncbaaDoor
open Go.RowKit
set_option linter.unusedVariables false

theorem ext_take (s : ByteArray) (n : Nat) : (s.extract 0 n).data.toList = s.data.toList.take n := by simp
theorem ext_drop (s : ByteArray) (n : Nat) : (s.extract n s.size).data.toList = s.data.toList.drop n := by
  have h : s.data.toList.length = s.size := rfl
  simp
  exact List.take_of_length_le (by rw [List.length_drop]; omega)
theorem run_headC (s : ByteArray) (c : Nat) (hc : c ≤ s.size) (w : World) :
    (Instr.slice 9 (.string s) none (some (.int .i64 (c : Int))) none).run Tryd.prog w = .ok (.string (s.extract 0 c)) w := by
  rw [run_slice_string_h (P := Tryd.prog) (w := w) (t := 9) (s := s) (ht := Tryd.underlying9) .i64 _ (by omega) (by omega)]
  rw [Int.toNat_natCast]
theorem run_tailC (s : ByteArray) (c : Nat) (hc : c ≤ s.size) (w : World) :
    (Instr.slice 9 (.string s) (some (.int .i64 (c : Int))) none none).run Tryd.prog w = .ok (.string (s.extract c s.size)) w := by
  rw [run_slice_string_l (P := Tryd.prog) (w := w) (t := 9) (s := s) (ht := Tryd.underlying9) .i64 _ (by omega) (by omega)]
  rw [Int.toNat_natCast]
theorem closed_pack (c : Cfg) (s : ByteArray) (hv : validC c = true) (hs : s.size ≤ 108) : ∃ (n : Nat) (P Q : ByteArray), closedB c s = (n : Int) ∧ n ≤ s.size ∧ P = s.extract 0 n ∧ Q = s.extract n s.size ∧ layB c s = layB c P ++ layB c Q ∧ closedB c Q = 0 ∧ P.size ≤ 108 ∧ Q.size ≤ 108 := by
  have hle := lc_le c.fe s.data.toList false false
  have hl : s.data.toList.length = s.size := rfl
  refine ⟨lc c.fe s.data.toList false false, _, _, closedB_yes s hv, by omega, rfl, rfl, ?_, ?_, ?_, ?_⟩
  · have h := layout_lc c (fun b => (celW c.fm b 0 : Int)) s.data.toList
    rw [← ext_take, ← ext_drop, ← layB_list c _ hv, ← layB_list c _ hv, ← layB_list c _ hv] at h
    apply ByteArray.ext
    apply Array.ext'
    rw [h]
    simp
  · rw [closedB_yes _ hv, ext_drop, lc_rest0]
    rfl
  · rw [ByteArray.size_extract]; omega
  · rw [ByteArray.size_extract]; omega
theorem closed_a_nl (c : Cfg) (hv : validC c = true) : closedB c ⟨#[97, 10]⟩ = 2 := by
  rw [closedB_yes _ hv, show (⟨#[97, 10]⟩ : ByteArray).data.toList = [97, 10] from rfl, lc_a_nl]
  rfl
theorem txt_addC {P : Program} {w : World} (a b : ByteArray) (h : a.size + b.size ≤ 9223372036854775807) : (Op.stringOp .add a b).run P w = .ok (.string (a ++ b)) w :=
  run_string_add_sum _ _ _ h
/-- The text of one flag. -/
def flagT (b : Bool) (x : UInt8) : ByteArray := if b = true then ⟨#[x]⟩ else ⟨#[]⟩
set_option maxRecDepth 100000 in
set_option maxHeartbeats 8000000 in
theorem closed_law (w : World) (A : Option Addr) (len cap : Nat) (zs : List Int) (hz : IsBytes w A len cap zs)
    (hL : ∀ (c : Cfg) (s : ByteArray) (W : World), validC c = true → s.size ≤ 50000 → Below w.heap.size w W → Calls Tryd.prog 24 #[.agg (cfgV c), .string s] W fun e w' => e = .returned (.string (layB c s)) ∧ Below W.heap.size W w') :
    Calls Tryd.prog 6 #[.slice A len cap] w fun e w' => e = .returned (.bool true) ∧ Below w.heap.size w w' := by
  have hlc := hz.1
  have hcm := hz.2.1
  have HZ := Lib.hid hz
  have HL0 := Lib.hid hL
  clear hz hL
  by_cases h : (1048576 : Int) < (len : Int)
  · go_enter Tryd.func6, Tryd.ntmps6
    go_wp2
    go_ret
    exact ⟨rfl, Below.refl _ _⟩
  · go_enter Tryd.func6, Tryd.ntmps6
    go_wp2_with fail
    refine (makeConfig_any A len cap zs w HZ.out).mono ?_
    rintro e w1 ⟨⟨c, hv, rfl⟩, hb1⟩
    have B1 := Lib.hid hb1
    have HIN := Lib.hid (fun W (hb : Below w.heap.size w W) => makeInput_any A len cap zs W (HZ.out.keep hb))
    have HLY := Lib.hid (fun s W hs hb => HL0.out c s W hv hs hb)
    have HCL := Lib.hid (fun s W hs => implClosedLength c s W hs)
    have hic := fun W => implIsConfig c W
    rw [hv] at hic
    have HIC := Lib.hid hic
    have HPK := Lib.hid (fun s hs => closed_pack c s hv hs)
    have HLZ := Lib.hid (fun s hs => layB_size c s hv hs)
    have HNL := Lib.hid (closed_a_nl c hv)
    have HC0 : Hid (∃ c', c' = c) := Lib.hid ⟨c, rfl⟩
    obtain ⟨cc, hcc⟩ := HC0.out
    obtain ⟨m, t, p, d, fr, fd, fl, fe, fm⟩ := c
    rw [← hcc] at HLY HCL HIC HPK HLZ HNL
    have HCV : Hid (cfgV cc = #[.int .i64 m, .int .i64 t, .int .i64 p, .int .i64 d, .bool fr, .bool fd, .bool fl, .bool fe, .bool fm]) := Lib.hid (by rw [hcc]; rfl)
    rw [HCV.out] at HLY HCL HIC
    unfold cfgV
    simp only
    have hK2 := Boxed.new w1 24 m t p d fr fd fl fe fm
    have X2 := Lib.hid hK2
    have B2 := Lib.hid (B1.out.trans (((Below.refl w1.heap.size w1).alloc (Nat.le_refl _) (.cells #[.int .i64 m, .int .i64 t, .int .i64 p, .int .i64 d, .bool fr, .bool fd, .bool fl, .bool fe, .bool fm] 24)).mono B1.out.size))
    clear hb1 hv hic hcc hK2
    go_wp2_with fail
    refine (HIN.out _ B2.out).mono ?_
    rintro e w3 ⟨⟨s, hs, rfl⟩, hb3⟩
    have B3 := Lib.hid (B2.out.trans (hb3.mono B2.out.size))
    have X3 := Lib.hid (X2.out.below hb3 (by simp))
    have hlt3 : w1.heap.size < w3.heap.size := by have := hb3.size; simp at this; omega
    obtain ⟨n, P, Q, e1, hn, e2, e3, e4, e5, hP, hQ⟩ := HPK.out s hs
    have HRH := Lib.hid (fun W => run_headC s n hn W)
    have HRT := Lib.hid (fun W => run_tailC s n hn W)
    rw [← e2] at HRH
    rw [← e3] at HRT
    have HC1 := Lib.hid (fun W => HCL.out s W (by omega))
    have hq2 : (closedB cc ⟨#[97, 10]⟩ == 2) = true := by rw [HNL.out]; rfl
    have hq0 : (closedB cc Q == 0) = true := by rw [e5]; rfl
    have hdec : (⟨#[97, 10]⟩ : ByteArray).size ≤ 1048576 := by decide
    have HDEC := Lib.hid hdec
    rw [e1] at HC1
    have z1 := HLZ.out s (by omega)
    have z2 := HLZ.out P (by omega)
    have z3 := HLZ.out Q (by omega)
    have HSS : Hid (s.size ≤ 50000) := Lib.hid (by omega)
    have HSP : Hid (P.size ≤ 50000) := Lib.hid (by omega)
    have HSQ : Hid (Q.size ≤ 50000) := Lib.hid (by omega)
    obtain ⟨LB, hLB⟩ : ∃ f : ByteArray → ByteArray, f = layB cc := ⟨_, rfl⟩
    rw [← hLB] at HLY e4 z2 z3
    have hLS := e4
    have hsn : s.size ≤ 108 := hs
    obtain ⟨sz, hsz⟩ : ∃ z, z = s.size := ⟨_, rfl⟩
    rw [← hsz] at hn hsn
    have HSZ := Lib.hid hsz
    obtain ⟨c0, c1, c2, c3, c4, c5, c6, c7, c8⟩ := X3.out
    have hadd := fun W => txt_addC (P := Tryd.prog) (w := W) (LB P) (LB Q) (by omega)
    rw [← hLS] at hadd
    have HADD := Lib.hid hadd
    have HQ0 := Lib.hid hq0
    have HQ2 := Lib.hid hq2
    clear hb3 e1 e2 e3 e4 e5 hLS hLB z1 z2 z3 hP hQ hsz hs hadd hq0 hq2 hdec
    obtain ⟨CB, hCB⟩ : ∃ f : ByteArray → Int, f = closedB cc := ⟨_, rfl⟩
    rw [← hCB] at HCL HQ0 HQ2
    clear hCB
    go_wp2_with fail
    refine (HC1.out _).mono ?_
    rintro e w4 ⟨rfl, hb4⟩
    have B4 := Lib.hid (B3.out.trans (hb4.mono B3.out.size))
    have X4 := Lib.hid (X3.out.below hb4 hlt3)
    have hlt4 : w1.heap.size < w4.heap.size := Nat.lt_of_lt_of_le hlt3 hb4.size
    clear hb4 c0 c1 c2 c3 c4 c5 c6 c7 c8
    obtain ⟨c0, c1, c2, c3, c4, c5, c6, c7, c8⟩ := X4.out
    have g1 : ¬ (s.size : Int) < (n : Int) := by rw [← HSZ.out]; omega
    go_wp2_with fail
    refine (HIC.out _).mono ?_
    rintro e w5 ⟨rfl, hb5⟩
    have B5 := Lib.hid (B4.out.trans (hb5.mono B4.out.size))
    have X5 := Lib.hid (X4.out.below hb5 hlt4)
    have hlt5 : w1.heap.size < w5.heap.size := Nat.lt_of_lt_of_le hlt4 hb5.size
    clear hb5 c0 c1 c2 c3 c4 c5 c6 c7 c8 g1
    obtain ⟨c0, c1, c2, c3, c4, c5, c6, c7, c8⟩ := X5.out
    have hd5 := B5.out.drew
    have BD5 := Lib.hid hd5
    have hrt := HRT.out
    have hrh := HRH.out
    have hadd := HADD.out
    have hq0 := HQ0.out
    have hq2 := HQ2.out
    by_cases hn0 : n = 0
    · have hg : ((n : Int) == 0) = true := by simp [hn0]
      clear hn0
      go_wp2_with fail
      refine wp_region_held_drew (S := (fun W => W.cell? ⟨w1.heap.size, 0, none⟩ = some (.int .i64 m) ∧ W.cell? ⟨w1.heap.size, 1, none⟩ = some (.int .i64 t) ∧ W.cell? ⟨w1.heap.size, 2, none⟩ = some (.int .i64 p) ∧ W.cell? ⟨w1.heap.size, 3, none⟩ = some (.int .i64 d) ∧ W.cell? ⟨w1.heap.size, 4, none⟩ = some (.bool fr) ∧ W.cell? ⟨w1.heap.size, 5, none⟩ = some (.bool fd) ∧ W.cell? ⟨w1.heap.size, 6, none⟩ = some (.bool fl) ∧ W.cell? ⟨w1.heap.size, 7, none⟩ = some (.bool fe) ∧ W.cell? ⟨w1.heap.size, 8, none⟩ = some (.bool fm) ∧ Below w.heap.size w W ∧ w1.heap.size + 1 ≤ W.heap.size)) (by kernel_rfl) ?_ (fun hHeld => ?_)
      · exact ⟨c0, c1, c2, c3, c4, c5, c6, c7, c8, BD5.out, hlt5⟩
      --<steps
      refine wpAnyH_take (i := 0) (oi := ⟨some 29, _, _, _, _, _⟩) (v := ?_) rfl (by kernel_rfl) (by kernel_rfl) (by kernel_rfl) (fun _ _ _ h => h) (Or.inl ⟨by rfl, ?_⟩) (by assumption) ?_
      rotate_left
      · (intro W hSw; (try dsimp only at hSw); first | (go_simp; done) | (go_simp; with_reducible rfl))
      (try simp only [Act.put, List.setIfInBounds_toArray, List.set_cons_zero, List.set_cons_succ])
      refine wpAnyH_take (i := 1) (oi := ⟨some 30, _, _, _, _, _⟩) (v := ?_) rfl (by kernel_rfl) (by kernel_rfl) (by kernel_rfl) (fun _ _ _ h => h) (Or.inl ⟨by rfl, ?_⟩) (by assumption) ?_
      rotate_left
      · (intro W hSw; (try dsimp only at hSw); first | (go_simp; done) | (go_simp; with_reducible rfl))
      (try simp only [Act.put, List.setIfInBounds_toArray, List.set_cons_zero, List.set_cons_succ])
      refine wpAnyH_take (i := 2) (oi := ⟨some 31, _, _, _, _, _⟩) (v := ?_) rfl (by kernel_rfl) (by kernel_rfl) (by kernel_rfl) (fun _ _ _ h => h) (Or.inl ⟨by rfl, ?_⟩) (by assumption) ?_
      rotate_left
      · (intro W hSw; (try dsimp only at hSw); first | (go_simp; done) | (go_simp; with_reducible rfl))
      (try simp only [Act.put, List.setIfInBounds_toArray, List.set_cons_zero, List.set_cons_succ])
      refine wpAnyH_take (i := 3) (oi := ⟨some 32, _, _, _, _, _⟩) (v := undef) rfl (by kernel_rfl) (by kernel_rfl) (by kernel_rfl) (fun _ _ _ h => h) (Or.inr ⟨by rfl, rfl⟩) (by assumption) ?_
      (try simp only [Act.put, List.setIfInBounds_toArray, List.set_cons_zero, List.set_cons_succ])
      refine wpAnyH_take (i := 4) (oi := ⟨some 33, _, _, _, _, _⟩) (v := undef) rfl (by kernel_rfl) (by kernel_rfl) (by kernel_rfl) (fun _ _ _ h => h) (Or.inr ⟨by rfl, rfl⟩) (by assumption) ?_
      (try simp only [Act.put, List.setIfInBounds_toArray, List.set_cons_zero, List.set_cons_succ])
      refine wpAnyH_take (i := 5) (oi := ⟨some 34, _, _, _, _, _⟩) (v := undef) rfl (by kernel_rfl) (by kernel_rfl) (by kernel_rfl) (fun _ _ _ h => h) (Or.inr ⟨by rfl, rfl⟩) (by assumption) ?_
      (try simp only [Act.put, List.setIfInBounds_toArray, List.set_cons_zero, List.set_cons_succ])
      refine wpAnyH_take (i := 6) (oi := ⟨some 35, _, _, _, _, _⟩) (v := undef) rfl (by kernel_rfl) (by kernel_rfl) (by kernel_rfl) (fun _ _ _ h => h) (Or.inr ⟨by rfl, rfl⟩) (by assumption) ?_
      (try simp only [Act.put, List.setIfInBounds_toArray, List.set_cons_zero, List.set_cons_succ])
      refine wpAnyH_take (i := 7) (oi := ⟨some 36, _, _, _, _, _⟩) (v := undef) rfl (by kernel_rfl) (by kernel_rfl) (by kernel_rfl) (fun _ _ _ h => h) (Or.inr ⟨by rfl, rfl⟩) (by assumption) ?_
      (try simp only [Act.put, List.setIfInBounds_toArray, List.set_cons_zero, List.set_cons_succ])
      refine wpAnyH_take (i := 8) (oi := ⟨some 37, _, _, _, _, _⟩) (v := undef) rfl (by kernel_rfl) (by kernel_rfl) (by kernel_rfl) (fun _ _ _ h => h) (Or.inr ⟨by rfl, rfl⟩) (by assumption) ?_
      (try simp only [Act.put, List.setIfInBounds_toArray, List.set_cons_zero, List.set_cons_succ])
      refine wpAnyH_take (i := 9) (oi := ⟨some 38, _, _, _, _, _⟩) (v := undef) rfl (by kernel_rfl) (by kernel_rfl) (by kernel_rfl) (fun _ _ _ h => h) (Or.inr ⟨by rfl, rfl⟩) (by assumption) ?_
      (try simp only [Act.put, List.setIfInBounds_toArray, List.set_cons_zero, List.set_cons_succ])
      refine wpAnyH_take (i := 10) (oi := ⟨some 39, _, _, _, _, _⟩) (v := undef) rfl (by kernel_rfl) (by kernel_rfl) (by kernel_rfl) (fun _ _ _ h => h) (Or.inr ⟨by rfl, rfl⟩) (by assumption) ?_
      (try simp only [Act.put, List.setIfInBounds_toArray, List.set_cons_zero, List.set_cons_succ])
      refine wpAnyH_take (i := 11) (oi := ⟨some 40, _, _, _, _, _⟩) (v := undef) rfl (by kernel_rfl) (by kernel_rfl) (by kernel_rfl) (fun _ _ _ h => h) (Or.inr ⟨by rfl, rfl⟩) (by assumption) ?_
      (try simp only [Act.put, List.setIfInBounds_toArray, List.set_cons_zero, List.set_cons_succ])
      refine wpAnyH_take (i := 12) (oi := ⟨some 41, _, _, _, _, _⟩) (v := undef) rfl (by kernel_rfl) (by kernel_rfl) (by kernel_rfl) (fun _ _ _ h => h) (Or.inr ⟨by rfl, rfl⟩) (by assumption) ?_
      (try simp only [Act.put, List.setIfInBounds_toArray, List.set_cons_zero, List.set_cons_succ])
      refine wpAnyH_take (i := 13) (oi := ⟨some 42, _, _, _, _, _⟩) (v := undef) rfl (by kernel_rfl) (by kernel_rfl) (by kernel_rfl) (fun _ _ _ h => h) (Or.inr ⟨by rfl, rfl⟩) (by assumption) ?_
      (try simp only [Act.put, List.setIfInBounds_toArray, List.set_cons_zero, List.set_cons_succ])
      refine wpAnyH_take (i := 14) (oi := ⟨some 43, _, _, _, _, _⟩) (v := undef) rfl (by kernel_rfl) (by kernel_rfl) (by kernel_rfl) (fun _ _ _ h => h) (Or.inr ⟨by rfl, rfl⟩) (by assumption) ?_
      (try simp only [Act.put, List.setIfInBounds_toArray, List.set_cons_zero, List.set_cons_succ])
      refine wpAnyH_take (i := 15) (oi := ⟨some 44, _, _, _, _, _⟩) (v := undef) rfl (by kernel_rfl) (by kernel_rfl) (by kernel_rfl) (fun _ _ _ h => h) (Or.inr ⟨by rfl, rfl⟩) (by assumption) ?_
      (try simp only [Act.put, List.setIfInBounds_toArray, List.set_cons_zero, List.set_cons_succ])
      refine wpAnyH_take (i := 16) (oi := ⟨some 45, _, _, _, _, _⟩) (v := undef) rfl (by kernel_rfl) (by kernel_rfl) (by kernel_rfl) (fun _ _ _ h => h) (Or.inr ⟨by rfl, rfl⟩) (by assumption) ?_
      (try simp only [Act.put, List.setIfInBounds_toArray, List.set_cons_zero, List.set_cons_succ])
      refine wpAnyH_take (i := 17) (oi := ⟨some 46, _, _, _, _, _⟩) (v := undef) rfl (by kernel_rfl) (by kernel_rfl) (by kernel_rfl) (fun _ _ _ h => h) (Or.inr ⟨by rfl, rfl⟩) (by assumption) ?_
      (try simp only [Act.put, List.setIfInBounds_toArray, List.set_cons_zero, List.set_cons_succ])
      refine wpAnyH_take (i := 18) (oi := ⟨some 47, _, _, _, _, _⟩) (v := ?_) rfl (by kernel_rfl) (by kernel_rfl) (by kernel_rfl) (fun _ _ _ h => h) (Or.inl ⟨by rfl, ?_⟩) (by assumption) ?_
      rotate_left
      · (intro W hSw; (try dsimp only at hSw); first | (go_simp; done) | (go_simp; with_reducible rfl))
      (try simp only [Act.put, List.setIfInBounds_toArray, List.set_cons_zero, List.set_cons_succ])
      refine wpAnyH_take (i := 19) (oi := ⟨some 48, _, _, _, _, _⟩) (v := ?_) rfl (by kernel_rfl) (by kernel_rfl) (by kernel_rfl) (fun _ _ _ h => h) (Or.inl ⟨by rfl, ?_⟩) (by assumption) ?_
      rotate_left
      · (intro W hSw; (try dsimp only at hSw); first | (go_simp; done) | (go_simp; with_reducible rfl))
      (try simp only [Act.put, List.setIfInBounds_toArray, List.set_cons_zero, List.set_cons_succ])
      refine wpAnyH_take (i := 20) (oi := ⟨some 49, _, _, _, _, _⟩) (v := ?_) rfl (by kernel_rfl) (by kernel_rfl) (by kernel_rfl) (fun _ _ _ h => h) (Or.inl ⟨by rfl, ?_⟩) (by assumption) ?_
      rotate_left
      · (intro W hSw; (try dsimp only at hSw); first | (go_simp; done) | (go_simp; with_reducible rfl))
      (try simp only [Act.put, List.setIfInBounds_toArray, List.set_cons_zero, List.set_cons_succ])
      refine wpAnyH_take (i := 21) (oi := ⟨some 50, _, _, _, _, _⟩) (v := ?_) rfl (by kernel_rfl) (by kernel_rfl) (by kernel_rfl) (fun _ _ _ h => h) (Or.inl ⟨by rfl, ?_⟩) (by assumption) ?_
      rotate_left
      · (intro W hSw; (try dsimp only at hSw); first | (go_simp; done) | (go_simp; with_reducible rfl))
      (try simp only [Act.put, List.setIfInBounds_toArray, List.set_cons_zero, List.set_cons_succ])
      refine wpAnyH_take (i := 22) (oi := ⟨some 51, _, _, _, _, _⟩) (v := ?_) rfl (by kernel_rfl) (by kernel_rfl) (by kernel_rfl) (fun _ _ _ h => h) (Or.inl ⟨by rfl, ?_⟩) (by assumption) ?_
      rotate_left
      · (intro W hSw; (try dsimp only at hSw); first | (go_simp; done) | (go_simp; with_reducible rfl))
      (try simp only [Act.put, List.setIfInBounds_toArray, List.set_cons_zero, List.set_cons_succ])
      refine wpAnyH_take (i := 23) (oi := ⟨some 52, _, _, _, _, _⟩) (v := ?_) rfl (by kernel_rfl) (by kernel_rfl) (by kernel_rfl) (fun _ _ _ h => h) (Or.inl ⟨by rfl, ?_⟩) (by assumption) ?_
      rotate_left
      · (intro W hSw; (try dsimp only at hSw); first | (go_simp; done) | (go_simp; with_reducible rfl))
      (try simp only [Act.put, List.setIfInBounds_toArray, List.set_cons_zero, List.set_cons_succ])
      refine wpAnyH_ready (rs := [24]) (by kernel_rfl) (by simp) ?_
      refine AllReadyH.cons (o := ⟨some 53, _, _, _, _, _⟩) rfl (fun K hK => ?_) AllReadyH.nil
      go_simp
      go_at_call 27
      refine (HCL.out _ _ (by have := HSQ.out; omega)).mono ?_
      rintro e wA ⟨rfl, hbwA⟩
      (try dsimp only)
      refine hK.out _ _ ?_ (fun hHeldwA => ?_)
      · exact box_step hbwA (by assumption)
      clear hK K
      (try simp only [Act.put, List.setIfInBounds_toArray, List.set_cons_zero, List.set_cons_succ])
      refine wpAnyH_take (i := 25) (oi := ⟨some 54, _, _, _, _, _⟩) (v := ?_) rfl (by kernel_rfl) (by kernel_rfl) (by kernel_rfl) (fun _ _ _ h => h) (Or.inl ⟨by rfl, ?_⟩) (by assumption) ?_
      rotate_left
      · (intro W hSw; (try dsimp only at hSw); first | (go_simp; done) | (go_simp; with_reducible rfl))
      (try simp only [Act.put, List.setIfInBounds_toArray, List.set_cons_zero, List.set_cons_succ])
      refine wpAnyH_take (i := 26) (oi := ⟨some 55, _, _, _, _, _⟩) (v := ?_) rfl (by kernel_rfl) (by kernel_rfl) (by kernel_rfl) (fun _ _ _ h => h) (Or.inl ⟨by rfl, ?_⟩) (by assumption) ?_
      rotate_left
      · (intro W hSw; (try dsimp only at hSw); first | (go_simp; done) | (go_simp; with_reducible rfl))
      (try simp only [Act.put, List.setIfInBounds_toArray, List.set_cons_zero, List.set_cons_succ])
      refine wpAnyH_take (i := 27) (oi := ⟨some 56, _, _, _, _, _⟩) (v := ?_) rfl (by kernel_rfl) (by kernel_rfl) (by kernel_rfl) (fun _ _ _ h => h) (Or.inl ⟨by rfl, ?_⟩) (by assumption) ?_
      rotate_left
      · (intro W hSw; (try dsimp only at hSw); first | (go_simp; done) | (go_simp; with_reducible rfl))
      (try simp only [Act.put, List.setIfInBounds_toArray, List.set_cons_zero, List.set_cons_succ])
      refine wpAnyH_take (i := 28) (oi := ⟨some 57, _, _, _, _, _⟩) (v := ?_) rfl (by kernel_rfl) (by kernel_rfl) (by kernel_rfl) (fun _ _ _ h => h) (Or.inl ⟨by rfl, ?_⟩) (by assumption) ?_
      rotate_left
      · (intro W hSw; (try dsimp only at hSw); first | (go_simp; done) | (go_simp; with_reducible rfl))
      (try simp only [Act.put, List.setIfInBounds_toArray, List.set_cons_zero, List.set_cons_succ])
      refine wpAnyH_ready (rs := [29]) (by kernel_rfl) (by simp) ?_
      refine AllReadyH.cons (o := ⟨some 58, _, _, _, _, _⟩) rfl (fun K hK => ?_) AllReadyH.nil
      go_simp
      go_at_call 27
      refine (HCL.out _ _ (HDEC.out)).mono ?_
      rintro e wC ⟨rfl, hbwC⟩
      (try dsimp only)
      refine hK.out _ _ ?_ (fun hHeldwC => ?_)
      · exact box_step hbwC (by assumption)
      clear hK K
      (try simp only [Act.put, List.setIfInBounds_toArray, List.set_cons_zero, List.set_cons_succ])
      refine wpAnyH_take (i := 30) (oi := ⟨some 59, _, _, _, _, _⟩) (v := ?_) rfl (by kernel_rfl) (by kernel_rfl) (by kernel_rfl) (fun _ _ _ h => h) (Or.inl ⟨by rfl, ?_⟩) (by assumption) ?_
      rotate_left
      · (intro W hSw; (try dsimp only at hSw); first | (go_simp; done) | (go_simp; with_reducible rfl))
      (try simp only [Act.put, List.setIfInBounds_toArray, List.set_cons_zero, List.set_cons_succ])
      refine wpAnyH_take (i := 31) (oi := ⟨some 60, _, _, _, _, _⟩) (v := ?_) rfl (by kernel_rfl) (by kernel_rfl) (by kernel_rfl) (fun _ _ _ h => h) (Or.inl ⟨by rfl, ?_⟩) (by assumption) ?_
      rotate_left
      · (intro W hSw; (try dsimp only at hSw); first | (go_simp; done) | (go_simp; with_reducible rfl))
      (try simp only [Act.put, List.setIfInBounds_toArray, List.set_cons_zero, List.set_cons_succ])
      refine wpAnyH_take (i := 32) (oi := ⟨some 2, _, _, _, _, _⟩) (v := ?_) rfl (by kernel_rfl) (by kernel_rfl) (by kernel_rfl) (fun _ _ _ h => h) (Or.inl ⟨by rfl, ?_⟩) (by assumption) ?_
      rotate_left
      · (intro W hSw; (try dsimp only at hSw); first | (go_simp; done) | (go_simp; with_reducible rfl))
      (try simp only [Act.put, List.setIfInBounds_toArray, List.set_cons_zero, List.set_cons_succ])
      refine wpAnyH_done (by kernel_rfl) ?_ _
      --steps>
      have BF := Lib.hid (box_old (w := w) (W := wC) (by assumption))
      go_wp2_with fail
      go_ret
      exact ⟨rfl, BF.out⟩
    · have hg : ((n : Int) == 0) = false := by simp [hn0]
      clear hn0
      go_wp2_with fail
      go_region_held3 (fun W => W.cell? ⟨w1.heap.size, 0, none⟩ = some (.int .i64 m) ∧ W.cell? ⟨w1.heap.size, 1, none⟩ = some (.int .i64 t) ∧ W.cell? ⟨w1.heap.size, 2, none⟩ = some (.int .i64 p) ∧ W.cell? ⟨w1.heap.size, 3, none⟩ = some (.int .i64 d) ∧ W.cell? ⟨w1.heap.size, 4, none⟩ = some (.bool fr) ∧ W.cell? ⟨w1.heap.size, 5, none⟩ = some (.bool fd) ∧ W.cell? ⟨w1.heap.size, 6, none⟩ = some (.bool fl) ∧ W.cell? ⟨w1.heap.size, 7, none⟩ = some (.bool fe) ∧ W.cell? ⟨w1.heap.size, 8, none⟩ = some (.bool fm) ∧ Below w.heap.size w W ∧ w1.heap.size + 1 ≤ W.heap.size)
        (first | exact ⟨c0, c1, c2, c3, c4, c5, c6, c7, c8, BD5.out, hlt5⟩ | exact box_step (by assumption) (by assumption))
        (first | (go_at_call 24; refine (HLY.out _ _ (by first | exact HSS.out | exact HSP.out | exact HSQ.out) (box_old (w := w) (by assumption))).mono ?_; rintro e wL ⟨rfl, hbL⟩) | (go_at_call 27; refine (HCL.out _ _ (by first | exact HDEC.out | (have := HSQ.out; omega))).mono ?_; rintro e wC ⟨rfl, hbC⟩))
      all_goals
        have BF := Lib.hid (box_old (w := w) (W := wC) (by assumption))
        go_wp2_with fail
        go_ret
        exact ⟨rfl, BF.out⟩
end Go.Proofs.YtjdbkpckhgncbaaDoor
