/- The law on what a writer may hold, over contracts of the program's. -/
import Derived.Test.YtdplcbfiidnfcaaDoorWrMath
import Derived.Test.YtdplcbfiidnfcaaDoorEqWr
import Derived.Test.YtdplcbfiidnfcaaDoorBE
import Derived.Deep.RegionHeld3
import Derived.IntWalk
namespace Go.Proofs.YtdplcbfiidnfcaaDoor
open Go.RowKit
set_option linter.unusedVariables false

theorem txt_addQ {P : Program} {w : World} (a b : ByteArray) (h : a.size + b.size ≤ 9223372036854775807) : (Op.stringOp .add a b).run P w = .ok (.string (a ++ b)) w :=
  run_string_add_sum _ _ _ h
theorem run_headQ (s : ByteArray) (c : Nat) (hc : c ≤ s.size) (w : World) :
    (Instr.slice 9 (.string s) none (some (.int .i64 (c : Int))) none).run Tryd.prog w = .ok (.string (s.extract 0 c)) w := by
  rw [run_slice_string_h (P := Tryd.prog) (w := w) (t := 9) (s := s) (ht := Tryd.underlying9) .i64 _ (by omega) (by omega)]
  rw [Int.toNat_natCast]
/-- k pieces of nine bytes. -/
def bigB (k : Nat) : ByteArray := ⟨((List.replicate k [(97 : UInt8), 98, 99, 100, 101, 102, 103, 104, 9]).flatten).toArray⟩
theorem bigB_zero : bigB 0 = ⟨#[]⟩ := rfl
theorem bigB_succ (k : Nat) : bigB k ++ ⟨#[97, 98, 99, 100, 101, 102, 103, 104, 9]⟩ = bigB (k + 1) := bytes_ext (by
  unfold bigB
  rw [List.replicate_succ']
  simp)
theorem bigB_list (k : Nat) : (bigB k).data.toList = (List.replicate k [(97 : UInt8), 98, 99, 100, 101, 102, 103, 104, 9]).flatten := by unfold bigB; simp
theorem bigB_size (k : Nat) : (bigB k).size = 9 * k := by
  have e : (bigB k).data.toList.length = (bigB k).size := rfl
  rw [← e, bigB_list]
  induction k with
  | zero => rfl
  | succ k ih =>
    have ih' := ih rfl
    rw [List.replicate_succ, List.flatten_cons, List.length_append, ih']
    show 9 + 9 * k = _
    omega
theorem bigB_plain (k : Nat) : ∀ x ∈ (bigB k).data.toList, x ≠ 10 ∧ x ≠ 12 := by
  intro x hx
  rw [bigB_list] at hx
  obtain ⟨l, hl, hxl⟩ := List.mem_flatten.1 hx
  rw [(List.mem_replicate.1 hl).2] at hxl
  simp at hxl
  rcases hxl with rfl | rfl | rfl | rfl | rfl | rfl | rfl | rfl | rfl <;> decide
/-- What FnPrompt asks of the bytes. -/
theorem prompt_pack (c : Cfg) (s : ByteArray) (hv : validC c = true) (hs : s.size ≤ 108) : ∃ (H P : ByteArray) (n : Nat), heldB c s = H ∧ toldB c s = P ∧ closedB c H = 0 ∧ H.size ≤ 108 ∧ n = s.size - H.size ∧ n + H.size = s.size ∧ layB c (s.extract 0 n) = P ∧ (s.extract 0 n).size ≤ 108 ∧ ∀ k, heldB c (H ++ bigB k) = H ++ bigB k := by
  have h0 := heldB_size c s
  refine ⟨_, _, _, rfl, rfl, held_shut c s hv, by omega, rfl, by omega, (told_cut c s hv).symm, by simp; omega, fun k => held_all c _ _ hv (held_shut c s hv) (bigB_plain k)⟩
/-- The length of a text value. -/
def strLenQ : Value → Nat
  | .string b => b.size
  | _ => 0
theorem prS_below {X W W' : World} {A B D : Nat} {m t p d : Int} {fr fd fl fe fm : Bool} {H : ByteArray} (hb : Below W.heap.size W W') (h : W.cell? ⟨A, 0, none⟩ = some (.int .i64 m) ∧ W.cell? ⟨A, 1, none⟩ = some (.int .i64 t) ∧ W.cell? ⟨A, 2, none⟩ = some (.int .i64 p) ∧ W.cell? ⟨A, 3, none⟩ = some (.int .i64 d) ∧ W.cell? ⟨A, 4, none⟩ = some (.bool fr) ∧ W.cell? ⟨A, 5, none⟩ = some (.bool fd) ∧ W.cell? ⟨A, 6, none⟩ = some (.bool fl) ∧ W.cell? ⟨A, 7, none⟩ = some (.bool fe) ∧ W.cell? ⟨A, 8, none⟩ = some (.bool fm) ∧ W.cell? ⟨B, 0, none⟩ = some (.int .i64 m) ∧ W.cell? ⟨B, 1, none⟩ = some (.int .i64 t) ∧ W.cell? ⟨B, 2, none⟩ = some (.int .i64 p) ∧ W.cell? ⟨B, 3, none⟩ = some (.int .i64 d) ∧ W.cell? ⟨B, 4, none⟩ = some (.bool fr) ∧ W.cell? ⟨B, 5, none⟩ = some (.bool fd) ∧ W.cell? ⟨B, 6, none⟩ = some (.bool fl) ∧ W.cell? ⟨B, 7, none⟩ = some (.bool fe) ∧ W.cell? ⟨B, 8, none⟩ = some (.bool fm) ∧ W.cell? ⟨B, 9, none⟩ = some (.string H) ∧ W.cell? ⟨D, 0, none⟩ = some (.int .i64 m) ∧ W.cell? ⟨D, 1, none⟩ = some (.int .i64 t) ∧ W.cell? ⟨D, 2, none⟩ = some (.int .i64 p) ∧ W.cell? ⟨D, 3, none⟩ = some (.int .i64 d) ∧ W.cell? ⟨D, 4, none⟩ = some (.bool fr) ∧ W.cell? ⟨D, 5, none⟩ = some (.bool fd) ∧ W.cell? ⟨D, 6, none⟩ = some (.bool fl) ∧ W.cell? ⟨D, 7, none⟩ = some (.bool fe) ∧ W.cell? ⟨D, 8, none⟩ = some (.bool fm) ∧ W.cell? ⟨D, 9, none⟩ = some (.string H) ∧ A < W.heap.size ∧ B < W.heap.size ∧ D < W.heap.size ∧ Below X.heap.size X W) : W'.cell? ⟨A, 0, none⟩ = some (.int .i64 m) ∧ W'.cell? ⟨A, 1, none⟩ = some (.int .i64 t) ∧ W'.cell? ⟨A, 2, none⟩ = some (.int .i64 p) ∧ W'.cell? ⟨A, 3, none⟩ = some (.int .i64 d) ∧ W'.cell? ⟨A, 4, none⟩ = some (.bool fr) ∧ W'.cell? ⟨A, 5, none⟩ = some (.bool fd) ∧ W'.cell? ⟨A, 6, none⟩ = some (.bool fl) ∧ W'.cell? ⟨A, 7, none⟩ = some (.bool fe) ∧ W'.cell? ⟨A, 8, none⟩ = some (.bool fm) ∧ W'.cell? ⟨B, 0, none⟩ = some (.int .i64 m) ∧ W'.cell? ⟨B, 1, none⟩ = some (.int .i64 t) ∧ W'.cell? ⟨B, 2, none⟩ = some (.int .i64 p) ∧ W'.cell? ⟨B, 3, none⟩ = some (.int .i64 d) ∧ W'.cell? ⟨B, 4, none⟩ = some (.bool fr) ∧ W'.cell? ⟨B, 5, none⟩ = some (.bool fd) ∧ W'.cell? ⟨B, 6, none⟩ = some (.bool fl) ∧ W'.cell? ⟨B, 7, none⟩ = some (.bool fe) ∧ W'.cell? ⟨B, 8, none⟩ = some (.bool fm) ∧ W'.cell? ⟨B, 9, none⟩ = some (.string H) ∧ W'.cell? ⟨D, 0, none⟩ = some (.int .i64 m) ∧ W'.cell? ⟨D, 1, none⟩ = some (.int .i64 t) ∧ W'.cell? ⟨D, 2, none⟩ = some (.int .i64 p) ∧ W'.cell? ⟨D, 3, none⟩ = some (.int .i64 d) ∧ W'.cell? ⟨D, 4, none⟩ = some (.bool fr) ∧ W'.cell? ⟨D, 5, none⟩ = some (.bool fd) ∧ W'.cell? ⟨D, 6, none⟩ = some (.bool fl) ∧ W'.cell? ⟨D, 7, none⟩ = some (.bool fe) ∧ W'.cell? ⟨D, 8, none⟩ = some (.bool fm) ∧ W'.cell? ⟨D, 9, none⟩ = some (.string H) ∧ A < W'.heap.size ∧ B < W'.heap.size ∧ D < W'.heap.size ∧ Below X.heap.size X W' := by
  obtain ⟨a0, a1, a2, a3, a4, a5, a6, a7, a8, b0, b1, b2, b3, b4, b5, b6, b7, b8, b9, e0, e1, e2, e3, e4, e5, e6, e7, e8, e9, s1, s2, s3, hx⟩ := h
  have hs := hb.size
  exact ⟨(hb.cell (p := ⟨A, 0, none⟩) s1).trans a0, (hb.cell (p := ⟨A, 1, none⟩) s1).trans a1, (hb.cell (p := ⟨A, 2, none⟩) s1).trans a2, (hb.cell (p := ⟨A, 3, none⟩) s1).trans a3, (hb.cell (p := ⟨A, 4, none⟩) s1).trans a4, (hb.cell (p := ⟨A, 5, none⟩) s1).trans a5, (hb.cell (p := ⟨A, 6, none⟩) s1).trans a6, (hb.cell (p := ⟨A, 7, none⟩) s1).trans a7, (hb.cell (p := ⟨A, 8, none⟩) s1).trans a8, (hb.cell (p := ⟨B, 0, none⟩) s2).trans b0, (hb.cell (p := ⟨B, 1, none⟩) s2).trans b1, (hb.cell (p := ⟨B, 2, none⟩) s2).trans b2, (hb.cell (p := ⟨B, 3, none⟩) s2).trans b3, (hb.cell (p := ⟨B, 4, none⟩) s2).trans b4, (hb.cell (p := ⟨B, 5, none⟩) s2).trans b5, (hb.cell (p := ⟨B, 6, none⟩) s2).trans b6, (hb.cell (p := ⟨B, 7, none⟩) s2).trans b7, (hb.cell (p := ⟨B, 8, none⟩) s2).trans b8, (hb.cell (p := ⟨B, 9, none⟩) s2).trans b9, (hb.cell (p := ⟨D, 0, none⟩) s3).trans e0, (hb.cell (p := ⟨D, 1, none⟩) s3).trans e1, (hb.cell (p := ⟨D, 2, none⟩) s3).trans e2, (hb.cell (p := ⟨D, 3, none⟩) s3).trans e3, (hb.cell (p := ⟨D, 4, none⟩) s3).trans e4, (hb.cell (p := ⟨D, 5, none⟩) s3).trans e5, (hb.cell (p := ⟨D, 6, none⟩) s3).trans e6, (hb.cell (p := ⟨D, 7, none⟩) s3).trans e7, (hb.cell (p := ⟨D, 8, none⟩) s3).trans e8, (hb.cell (p := ⟨D, 9, none⟩) s3).trans e9, by omega, by omega, by omega, hx.trans (hb.mono hx.size)⟩
theorem prS_new {X W : World} {A B D : Nat} {m t p d : Int} {fr fd fl fe fm : Bool} {H : ByteArray} (h : W.cell? ⟨A, 0, none⟩ = some (.int .i64 m) ∧ W.cell? ⟨A, 1, none⟩ = some (.int .i64 t) ∧ W.cell? ⟨A, 2, none⟩ = some (.int .i64 p) ∧ W.cell? ⟨A, 3, none⟩ = some (.int .i64 d) ∧ W.cell? ⟨A, 4, none⟩ = some (.bool fr) ∧ W.cell? ⟨A, 5, none⟩ = some (.bool fd) ∧ W.cell? ⟨A, 6, none⟩ = some (.bool fl) ∧ W.cell? ⟨A, 7, none⟩ = some (.bool fe) ∧ W.cell? ⟨A, 8, none⟩ = some (.bool fm) ∧ W.cell? ⟨B, 0, none⟩ = some (.int .i64 m) ∧ W.cell? ⟨B, 1, none⟩ = some (.int .i64 t) ∧ W.cell? ⟨B, 2, none⟩ = some (.int .i64 p) ∧ W.cell? ⟨B, 3, none⟩ = some (.int .i64 d) ∧ W.cell? ⟨B, 4, none⟩ = some (.bool fr) ∧ W.cell? ⟨B, 5, none⟩ = some (.bool fd) ∧ W.cell? ⟨B, 6, none⟩ = some (.bool fl) ∧ W.cell? ⟨B, 7, none⟩ = some (.bool fe) ∧ W.cell? ⟨B, 8, none⟩ = some (.bool fm) ∧ W.cell? ⟨B, 9, none⟩ = some (.string H) ∧ W.cell? ⟨D, 0, none⟩ = some (.int .i64 m) ∧ W.cell? ⟨D, 1, none⟩ = some (.int .i64 t) ∧ W.cell? ⟨D, 2, none⟩ = some (.int .i64 p) ∧ W.cell? ⟨D, 3, none⟩ = some (.int .i64 d) ∧ W.cell? ⟨D, 4, none⟩ = some (.bool fr) ∧ W.cell? ⟨D, 5, none⟩ = some (.bool fd) ∧ W.cell? ⟨D, 6, none⟩ = some (.bool fl) ∧ W.cell? ⟨D, 7, none⟩ = some (.bool fe) ∧ W.cell? ⟨D, 8, none⟩ = some (.bool fm) ∧ W.cell? ⟨D, 9, none⟩ = some (.string H) ∧ A < W.heap.size ∧ B < W.heap.size ∧ D < W.heap.size ∧ Below X.heap.size X W) : Below X.heap.size X W := by
  obtain ⟨_, _, _, _, _, _, _, _, _, _, _, _, _, _, _, _, _, _, _, _, _, _, _, _, _, _, _, _, _, _, _, _, hx⟩ := h
  exact hx
set_option maxRecDepth 100000 in
set_option maxHeartbeats 8000000 in
theorem prompt_law (w : World) (A : Option Addr) (len cap : Nat) (zs : List Int) (hz : IsBytes w A len cap zs)
    (hN : ∀ (c : Cfg) (W : World), validC c = true → Below w.heap.size w W → Calls Tryd.prog 7 #[.agg (cfgV c)] W fun e w' => e = .returned (.tuple #[.agg (wrV c ⟨#[]⟩), .int .i64 0]) ∧ Below W.heap.size W w')
    (hY : ∀ (c : Cfg) (h r : ByteArray) (W : World), validC c = true → h.size ≤ 400 → r.size ≤ 1000 → (heldB c (h ++ r)).size ≤ 400 → Below w.heap.size w W → Calls Tryd.prog 13 #[.agg (wrV c h), .string r] W fun e w' => e = .returned (.tuple #[.agg (wrV c (heldB c (h ++ r))), .string (toldB c (h ++ r)), .int .i64 0]) ∧ Below W.heap.size W w')
    (hX : ∀ (c : Cfg) (h r : ByteArray) (W : World), validC c = true → h.size ≤ 400 → r.size ≤ 1000 → 400 < (heldB c (h ++ r)).size → Below w.heap.size w W → Calls Tryd.prog 13 #[.agg (wrV c h), .string r] W fun e w' => e = .returned (.tuple #[.agg (wrV c h), .string ⟨#[]⟩, .int .i64 2]) ∧ Below W.heap.size W w')
    (hZ : ∀ (r : ByteArray) (W : World), r.size ≤ 1000 → Below w.heap.size w W → Calls Tryd.prog 13 #[.agg (wrV zeroC ⟨#[]⟩), .string r] W fun e w' => e = .returned (.tuple #[.agg (wrV zeroC ⟨#[]⟩), .string ⟨#[]⟩, .int .i64 1]) ∧ Below W.heap.size W w')
    (hC : ∀ (c : Cfg) (s : ByteArray) (W : World), s.size ≤ 1000 → Below w.heap.size w W → Calls Tryd.prog 14 #[.agg (cfgV c), .string s] W fun e w' => e = .returned (.int .i64 (closedB c s)) ∧ Below W.heap.size W w')
    (hL : ∀ (c : Cfg) (s : ByteArray) (W : World), validC c = true → s.size ≤ 50000 → Below w.heap.size w W → Calls Tryd.prog 11 #[.agg (cfgV c), .string s] W fun e w' => e = .returned (.string (layB c s)) ∧ Below W.heap.size W w')
    (hE : ∀ (n : Int) (W : World), Below w.heap.size w W → Calls Tryd.prog 15 #[.int .i64 n] W fun e w' => e = .returned (.string (wnameB n)) ∧ Below W.heap.size W w') :
    Calls Tryd.prog 4 #[.slice A len cap] w fun e w' => e = .returned (.bool true) ∧ Below w.heap.size w w' := by
  have hlc := hz.1
  have hcm := hz.2.1
  have HZ := Lib.hid hz
  have HN0 := Lib.hid hN
  have HY0 := Lib.hid hY
  have HX0 := Lib.hid hX
  have HZ0 := Lib.hid hZ
  have HC0' := Lib.hid hC
  have HL0 := Lib.hid hL
  have HE0 := Lib.hid hE
  clear hz hN hY hX hZ hC hL hE
  by_cases h : (1048576 : Int) < (len : Int)
  · go_enter Tryd.func4, Tryd.ntmps4
    go_wp2
    go_ret
    exact ⟨rfl, Below.refl _ _⟩
  · go_enter Tryd.func4, Tryd.ntmps4
    go_wp2_with fail
    refine (makeConfig_any A len cap zs w HZ.out).mono ?_
    rintro e w1 ⟨⟨c, hv, rfl⟩, hb1⟩
    have B1 := Lib.hid hb1
    have HIN := Lib.hid (fun W (hb : Below w.heap.size w W) => makeInput_any A len cap zs W (HZ.out.keep hb))
    have HNW := Lib.hid (fun W hb => HN0.out c W hv hb)
    have HWY := Lib.hid (fun h r W h1 h2 h3 hb => HY0.out c h r W hv h1 h2 h3 hb)
    have HWX := Lib.hid (fun h r W h1 h2 h3 hb => HX0.out c h r W hv h1 h2 h3 hb)
    have HWZ := Lib.hid (fun r W hs hb => HZ0.out r W hs hb)
    have HCL := Lib.hid (fun s W hs hb => HC0'.out c s W hs hb)
    have HLY := Lib.hid (fun s W hs hb => HL0.out c s W hv hs hb)
    have HEQ := Lib.hid (fun H W => eqWr c c H H W)
    have HPK := Lib.hid (fun s hs => prompt_pack c s hv hs)
    have HC0 : Hid (∃ c', c' = c) := Lib.hid ⟨c, rfl⟩
    obtain ⟨cc, hcc⟩ := HC0.out
    obtain ⟨m, t, p, d, fr, fd, fl, fe, fm⟩ := c
    rw [← hcc] at HNW HWY HWX HCL HLY HEQ HPK
    have HCV : Hid (cfgV cc = #[.int .i64 m, .int .i64 t, .int .i64 p, .int .i64 d, .bool fr, .bool fd, .bool fl, .bool fe, .bool fm]) := Lib.hid (by rw [hcc]; rfl)
    have HWV : Hid (wrV cc = fun h => #[.int .i64 m, .int .i64 t, .int .i64 p, .int .i64 d, .bool fr, .bool fd, .bool fl, .bool fe, .bool fm, .string h]) := Lib.hid (by rw [hcc]; rfl)
    have HZV : Hid (wrV zeroC ⟨#[]⟩ = #[.int .i64 0, .int .i64 0, .int .i64 0, .int .i64 0, .bool false, .bool false, .bool false, .bool false, .bool false, .string ⟨#[]⟩]) := Lib.hid rfl
    rw [HCV.out, HWV.out] at HNW
    rw [HWV.out] at HWY HWX HEQ
    rw [HZV.out] at HWZ
    rw [HCV.out] at HLY HCL
    unfold cfgV
    simp only at HNW HWY HWX HEQ ⊢
    have hK2 := Blk.new w1 24 #[.int .i64 m, .int .i64 t, .int .i64 p, .int .i64 d, .bool fr, .bool fd, .bool fl, .bool fe, .bool fm]
    have X2 := Lib.hid hK2
    have B2 := Lib.hid (B1.out.trans (((Below.refl w1.heap.size w1).alloc (Nat.le_refl _) (.cells #[.int .i64 m, .int .i64 t, .int .i64 p, .int .i64 d, .bool fr, .bool fd, .bool fl, .bool fe, .bool fm] 24)).mono B1.out.size))
    clear hb1 hv hcc hK2
    go_wp2_with fail
    refine (HIN.out _ B2.out).mono ?_
    rintro e w3 ⟨⟨s, hs, rfl⟩, hb3⟩
    have B3 := Lib.hid (B2.out.trans (hb3.mono B2.out.size))
    have X3 := Lib.hid (X2.out.after hb3)
    obtain ⟨H, P, n, e1, e2, e3, hH, hn, hns, e4, h4, e5⟩ := HPK.out s hs
    have HSS : Hid (s.size ≤ 108) := Lib.hid hs
    have HHH := Lib.hid hH
    have h0s : (⟨#[]⟩ : ByteArray) ++ s = s := bytes_ext (by simp)
    have HW1 := Lib.hid (fun W hb => (by
      have hh := HWY.out ⟨#[]⟩ s W (by decide) (by omega) (by rw [h0s, e1]; omega) hb
      rw [h0s, e1, e2] at hh
      exact hh : Calls Tryd.prog 13 #[.agg #[.int .i64 m, .int .i64 t, .int .i64 p, .int .i64 d, .bool fr, .bool fd, .bool fl, .bool fe, .bool fm, .string ⟨#[]⟩], .string s] W fun e w' => e = .returned (.tuple #[.agg #[.int .i64 m, .int .i64 t, .int .i64 p, .int .i64 d, .bool fr, .bool fd, .bool fl, .bool fe, .bool fm, .string H], .string P, .int .i64 0]) ∧ Below W.heap.size W w'))
    have HW3 := Lib.hid (fun k W (hk : 400 < 9 * k) (hk2 : 9 * k ≤ 1000) hb => HWX.out H (bigB k) W (by omega) (by rw [bigB_size]; omega) (by rw [e5 k, ByteArray.size_append, bigB_size]; omega) hb)
    have HWZ1 := Lib.hid (fun W hb => HWZ.out s W (by omega) hb)
    have HCLH := Lib.hid (fun W hb => HCL.out H W (by omega) hb)
    rw [e3] at HCLH
    have HLYS := Lib.hid (fun W hb => HLY.out (s.extract 0 n) W (by omega) hb)
    rw [e4] at HLYS
    have HSL := Lib.hid (fun W => run_headQ s n (by omega) W)
    generalize s.extract 0 n = Q at HLYS HSL h4
    have HSZ : Hid ((s.size : Int) - (H.size : Int) = (n : Int)) := Lib.hid (by omega)
    obtain ⟨c0, c1, c2, c3, c4, c5, c6, c7, c8⟩ := X3.out.boxed
    clear hb3 e1 e2 e3 e4 e5 hH hs hn hns h0s h4
    go_wp2_with fail
    refine (HNW.out _ B3.out).mono ?_
    rintro e w4 ⟨rfl, hb4⟩
    have B4 := Lib.hid (B3.out.trans (hb4.mono B3.out.size))
    have D4 := Lib.hid ((Below.refl w4.heap.size w4).alloc (Nat.le_refl _) (.cells #[.int .i64 m, .int .i64 t, .int .i64 p, .int .i64 d, .bool fr, .bool fd, .bool fl, .bool fe, .bool fm, .string ⟨#[]⟩] 28))
    have BA4 := Lib.hid (B4.out.trans (D4.out.mono B4.out.size))
    have X4 := Lib.hid ((X3.out.after hb4).after D4.out)
    clear hb4 c0 c1 c2 c3 c4 c5 c6 c7 c8
    go_wp2_with fail
    refine (HW1.out _ BA4.out).mono ?_
    rintro e w5 ⟨rfl, hb5⟩
    have B5 := Lib.hid (BA4.out.trans (hb5.mono BA4.out.size))
    have D5 := Lib.hid ((Below.refl w5.heap.size w5).alloc (Nat.le_refl _) (.cells #[.int .i64 m, .int .i64 t, .int .i64 p, .int .i64 d, .bool fr, .bool fd, .bool fl, .bool fe, .bool fm, .string H] 28))
    have BA5 := Lib.hid (B5.out.trans (D5.out.mono B5.out.size))
    have X5 := Lib.hid ((X4.out.after hb5).after D5.out)
    have U5 := Lib.hid (Blk.new w5 28 #[.int .i64 m, .int .i64 t, .int .i64 p, .int .i64 d, .bool fr, .bool fd, .bool fl, .bool fe, .bool fm, .string H])
    clear hb5
    go_wp2_with fail
    refine (HWZ1.out _ BA5.out).mono ?_
    rintro e w6 ⟨rfl, hb6⟩
    have B6 := Lib.hid (BA5.out.trans (hb6.mono BA5.out.size))
    have D6 := Lib.hid ((Below.refl w6.heap.size w6).alloc (Nat.le_refl _) (.cells #[.int .i64 0, .int .i64 0, .int .i64 0, .int .i64 0, .bool false, .bool false, .bool false, .bool false, .bool false, .string ⟨#[]⟩] 28))
    have BA6 := Lib.hid (B6.out.trans (D6.out.mono B6.out.size))
    have X6 := Lib.hid ((X5.out.after hb6).after D6.out)
    have U6 := Lib.hid ((U5.out.after hb6).after D6.out)
    clear hb6
    go_wp2_with fail
    obtain ⟨wl, hwl⟩ : ∃ W, W = w6.alloc (.cells #[.int .i64 0, .int .i64 0, .int .i64 0, .int .i64 0, .bool false, .bool false, .bool false, .bool false, .bool false, .string ⟨#[]⟩] 28) := ⟨_, rfl⟩
    rw [← hwl] at BA6 X6 U6 ⊢
    clear hwl
    go_loopw [13] (fun b wr => ∃ k : Nat, k ≤ 45 ∧ b = .string (bigB k) ∧ wr = wl) (fun b _ => 500 - strLenQ b)
    case atStart => exact ⟨0, by omega, by rw [bigB_zero], rfl⟩
    case round =>
      obtain ⟨k, hk, rfl, rfl⟩ := hrel
      have hsz := bigB_size k
      by_cases hlt : 9 * k ≤ 400
      · have hsz2 := bigB_size (k + 1)
        have hadd := fun W => txt_addQ (P := Tryd.prog) (w := W) (bigB k) ⟨#[97, 98, 99, 100, 101, 102, 103, 104, 9]⟩ (by rw [hsz, show (⟨#[97, 98, 99, 100, 101, 102, 103, 104, 9]⟩ : ByteArray).size = 9 from rfl]; omega)
        rw [bigB_succ] at hadd
        have HS1 := Lib.hid hsz
        have HS2 := Lib.hid hsz2
        obtain ⟨g, hg⟩ : ∃ g, g = bigB k := ⟨_, rfl⟩
        obtain ⟨g2, hg2⟩ : ∃ g, g = bigB (k + 1) := ⟨_, rfl⟩
        have HG2 := Lib.hid hg2
        have hle : ((bigB k).size : Int) ≤ 400 := by omega
        rw [← hg] at hadd hle HS1 ⊢
        rw [← hg2] at hadd HS2
        clear hg hg2 hsz hsz2
        go_wp2_with fail
        go_roundw
        case rel => exact ⟨k + 1, by omega, by rw [HG2.out], trivial⟩
        case measure => simp only [strLenQ]; rw [HS1.out, HS2.out]; omega
      · obtain rfl : k = 45 := by omega
        have hgt : ¬ ((bigB 45).size : Int) ≤ 400 := by omega
        have hcall := HW3.out 45 wr (by omega) (by omega) BA6.out
        obtain ⟨u0, u1, u2, u3, u4, u5, u6, u7, u8, u9⟩ := U6.out.ten
        generalize bigB 45 = G at hcall hgt ⊢
        have HC9 := Lib.hid hcall
        clear hcall hsz hlt
        go_wp2_with fail
        refine HC9.out.mono ?_
        rintro e w7 ⟨rfl, hb7⟩
        have B7 := Lib.hid (BA6.out.trans (hb7.mono BA6.out.size))
        have D7 := Lib.hid ((Below.refl w7.heap.size w7).alloc (Nat.le_refl _) (.cells #[.int .i64 m, .int .i64 t, .int .i64 p, .int .i64 d, .bool fr, .bool fd, .bool fl, .bool fe, .bool fm, .string H] 28))
        have BA7 := Lib.hid ((B7.out.trans (D7.out.mono B7.out.size)).drew)
        have hx7 := (X6.out.after hb7).after D7.out
        have hu7 := (U6.out.after hb7).after D7.out
        have hy7 := Blk.new w7 28 #[.int .i64 m, .int .i64 t, .int .i64 p, .int .i64 d, .bool fr, .bool fd, .bool fl, .bool fe, .bool fm, .string H]
        have s1 := hx7.lt
        have s2 := hu7.lt
        have s3 := hy7.lt
        clear u0 u1 u2 u3 u4 u5 u6 u7 u8 u9
        obtain ⟨c0, c1, c2, c3, c4, c5, c6, c7, c8⟩ := hx7.boxed
        obtain ⟨u0, u1, u2, u3, u4, u5, u6, u7, u8, u9⟩ := hu7.ten
        obtain ⟨y0, y1, y2, y3, y4, y5, y6, y7, y8, y9⟩ := hy7.ten
        have hq : ∀ W : World, (Op.equalIn 10000 28 (.agg #[.int .i64 m, .int .i64 t, .int .i64 p, .int .i64 d, .bool fr, .bool fd, .bool fl, .bool fe, .bool fm, .string H]) (.agg #[.int .i64 m, .int .i64 t, .int .i64 p, .int .i64 d, .bool fr, .bool fd, .bool fl, .bool fe, .bool fm, .string H])).run Tryd.prog W = .ok true W := fun W => by
          have h := HEQ.out H W
          rw [decide_eq_true (by simp)] at h
          exact h
        have hsl := HSL.out
        have hwz : IntKind.i64.wrap ((s.size : Int) - (H.size : Int)) = (n : Int) := by rw [HSZ.out]; exact IntWalk.i64_in _ (by have := HSS.out; have := HSZ.out; omega)
        have hhl : (H.size : Int) ≤ 400 := by have := HHH.out; omega
        have hnm : wnameB 2 = ⟨#[104, 101, 108, 100]⟩ := rfl
        have HEN := Lib.hid (fun W hb => HE0.out 2 W hb)
        rw [hnm] at HEN
        clear hb7 hx7 hu7 hy7 hnm
        go_wp2_with fail
        go_region_held3 (fun W => W.cell? ⟨w1.heap.size, 0, none⟩ = some (.int .i64 m) ∧ W.cell? ⟨w1.heap.size, 1, none⟩ = some (.int .i64 t) ∧ W.cell? ⟨w1.heap.size, 2, none⟩ = some (.int .i64 p) ∧ W.cell? ⟨w1.heap.size, 3, none⟩ = some (.int .i64 d) ∧ W.cell? ⟨w1.heap.size, 4, none⟩ = some (.bool fr) ∧ W.cell? ⟨w1.heap.size, 5, none⟩ = some (.bool fd) ∧ W.cell? ⟨w1.heap.size, 6, none⟩ = some (.bool fl) ∧ W.cell? ⟨w1.heap.size, 7, none⟩ = some (.bool fe) ∧ W.cell? ⟨w1.heap.size, 8, none⟩ = some (.bool fm) ∧ W.cell? ⟨w5.heap.size, 0, none⟩ = some (.int .i64 m) ∧ W.cell? ⟨w5.heap.size, 1, none⟩ = some (.int .i64 t) ∧ W.cell? ⟨w5.heap.size, 2, none⟩ = some (.int .i64 p) ∧ W.cell? ⟨w5.heap.size, 3, none⟩ = some (.int .i64 d) ∧ W.cell? ⟨w5.heap.size, 4, none⟩ = some (.bool fr) ∧ W.cell? ⟨w5.heap.size, 5, none⟩ = some (.bool fd) ∧ W.cell? ⟨w5.heap.size, 6, none⟩ = some (.bool fl) ∧ W.cell? ⟨w5.heap.size, 7, none⟩ = some (.bool fe) ∧ W.cell? ⟨w5.heap.size, 8, none⟩ = some (.bool fm) ∧ W.cell? ⟨w5.heap.size, 9, none⟩ = some (.string H) ∧ W.cell? ⟨w7.heap.size, 0, none⟩ = some (.int .i64 m) ∧ W.cell? ⟨w7.heap.size, 1, none⟩ = some (.int .i64 t) ∧ W.cell? ⟨w7.heap.size, 2, none⟩ = some (.int .i64 p) ∧ W.cell? ⟨w7.heap.size, 3, none⟩ = some (.int .i64 d) ∧ W.cell? ⟨w7.heap.size, 4, none⟩ = some (.bool fr) ∧ W.cell? ⟨w7.heap.size, 5, none⟩ = some (.bool fd) ∧ W.cell? ⟨w7.heap.size, 6, none⟩ = some (.bool fl) ∧ W.cell? ⟨w7.heap.size, 7, none⟩ = some (.bool fe) ∧ W.cell? ⟨w7.heap.size, 8, none⟩ = some (.bool fm) ∧ W.cell? ⟨w7.heap.size, 9, none⟩ = some (.string H) ∧ w1.heap.size < W.heap.size ∧ w5.heap.size < W.heap.size ∧ w7.heap.size < W.heap.size ∧ Below w.heap.size w W)
          (first | exact ⟨c0, c1, c2, c3, c4, c5, c6, c7, c8, u0, u1, u2, u3, u4, u5, u6, u7, u8, u9, y0, y1, y2, y3, y4, y5, y6, y7, y8, y9, s1, s2, s3, BA7.out⟩ | exact prS_below (by assumption) (by assumption))
          (first
            | (go_at_call 14; refine (HCLH.out _ (prS_new (by assumption))).mono ?_; rintro e wA ⟨rfl, hbA⟩)
            | (go_at_call 11; refine (HLYS.out _ (prS_new (by assumption))).mono ?_; rintro e wB ⟨rfl, hbB⟩)
            | (go_at_call 15; refine (HEN.out _ (prS_new (by assumption))).mono ?_; rintro e wC ⟨rfl, hbC⟩))
        all_goals
          have HB9 := Lib.hid (prS_new (X := w) (W := wC) (by assumption))
          go_wp2_with fail
          go_ret
          exact ⟨rfl, HB9.out⟩
end Go.Proofs.YtdplcbfiidnfcaaDoor
