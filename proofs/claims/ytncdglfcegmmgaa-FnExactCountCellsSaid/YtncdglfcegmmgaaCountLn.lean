/- CountCells: the model's; the law. -/
import Derived.Test.YtncdglfcegmmgaaLnTo
import Derived.Test.YtncdglfcegmmgaaOpenLines
namespace Go.Proofs.Ytncdglfcegmmgaa
open Go.RowKit
set_option linter.unusedVariables false

/-- How many cells there are. -/
def cntL : List Ln → Nat
  | [] => 0
  | l :: r => l.cells.length + cntL r
theorem cntL_le : ∀ ls, cntL ls ≤ totL ls
  | [] => Nat.le_refl _
  | l :: r => by have := cntL_le r; simp only [cntL, totL]; omega
theorem cntL_take (ls : List Ln) : ∀ k (h : k < ls.length), cntL (ls.take (k + 1)) = cntL (ls.take k) + ls[k].cells.length := by
  induction ls with
  | nil => intro k h; cases h
  | cons x r ih =>
    intro k h
    cases k with
    | zero => simp [cntL]
    | succ k =>
      have := ih k (by simpa using h)
      simp only [List.take_succ_cons, cntL, List.getElem_cons_succ]
      omega
theorem cntL_all (ls : List Ln) (k : Nat) (h : ¬ k < ls.length) : cntL (ls.take k) = cntL ls := by rw [List.take_of_length_le (by omega)]
theorem cntL_le_take (ls : List Ln) (k : Nat) : cntL (ls.take k) ≤ cntL ls := by
  induction ls generalizing k with
  | nil => simp [cntL]
  | cons x r ih =>
    cases k with
    | zero => simp [cntL]
    | succ k => have := ih k; simp only [List.take_succ_cons, cntL]; omega
set_option maxRecDepth 100000 in
set_option maxHeartbeats 1000000 in
theorem specCountCells (ls : List Ln) (v : Value) (w : World) (hv : RdL w v ls) (hm : FitL ls) :
    Calls Try.prog 14 #[v] w fun e w' => e = .returned (.int .i64 (cntL ls : Int)) ∧ Below w.heap.size w w' := by
  obtain ⟨A, ca, rfl, hA⟩ := hv
  have hlen := hm.1
  have htot := Nat.le_trans (cntL_le ls) hm.2
  have HA := Lib.hid hA
  obtain ⟨n, hn⟩ : ∃ n, n = ls.length := ⟨_, rfl⟩
  rw [← hn] at HA hlen ⊢
  have HN := Lib.hid hn
  clear hA hn hm
  go_enter Try.func14, Try.ntmps14
  go_wp2
  go_loopw [3, 5, 8] (fun t _ i wr => ∃ (k : Nat), k ≤ n ∧ i = .int .i64 (k : Int) ∧ t = .int .i64 (cntL (ls.take k) : Int) ∧ Hid (Below w.heap.size w wr)) (fun _ _ i _ => n - (intOf i).toNat)
  case atStart => exact ⟨0, Nat.zero_le _, rfl, rfl, Lib.hid (Below.refl _ _)⟩
  case round =>
    obtain ⟨k, hk, rfl, rfl, HBE⟩ := hrel
    by_cases hlt : k < n
    · obtain ⟨ga, oa, rfl, hga, hca⟩ := HA.out (by omega)
      have hkl : k < ls.length := by rw [← HN.out]; exact hlt
      obtain ⟨⟨va, p0, hra⟩, p1, p2, p3⟩ := hca k _ (List.getElem?_eq_getElem hkl)
      have a0 := (HBE.out.cell (p := ⟨ga, oa + k * 4, none⟩) hga).trans p0
      have a1 := (HBE.out.cell (p := ⟨ga, oa + k * 4 + 1, none⟩) hga).trans p1
      have a2 := (HBE.out.cell (p := ⟨ga, oa + k * 4 + 2, none⟩) hga).trans p2
      have a3 := (HBE.out.cell (p := ⟨ga, oa + k * 4 + 3, none⟩) hga).trans p3
      have hst := cntL_take ls k hkl
      have hle := cntL_le_take ls (k + 1)
      generalize ls[k] = c at a1 a2 a3 hra hst
      obtain ⟨cl, ⟨x, m⟩, f⟩ := c
      obtain ⟨A', c', rfl, _⟩ := hra
      simp only at a0 a1 a2 a3 hst
      obtain ⟨z, hz⟩ : ∃ z, z = cl.length := ⟨_, rfl⟩
      rw [← hz] at a0 hst
      obtain ⟨y, hy⟩ : ∃ y, y = cntL (ls.take k) := ⟨_, rfl⟩
      rw [← hy] at hst ⊢
      have HST := Lib.hid hst
      have hyz : y + z ≤ 1048576 := by omega
      clear hca p0 p1 p2 p3 hst hz hy hle
      go_wp2
      go_roundw
      case rel => exact ⟨k + 1, by omega, by go_num, by rw [HST.out]; go_num, Lib.hid (by first | exact HBE.out.alloc HBE.out.size _ | exact (HBE.out.alloc HBE.out.size _).drew)⟩
      case measure => simp [intOf]; omega
    · rw [cntL_all ls k (by rw [← HN.out]; exact hlt)]
      go_wp2
      go_ret
      exact ⟨rfl, HBE.out⟩
set_option maxRecDepth 100000 in
set_option maxHeartbeats 1000000 in
theorem implCountCells (ls : List Ln) (v : Value) (w : World) (hv : RdL w v ls) (hm : FitL ls) :
    Calls Try.prog 15 #[v] w fun e w' => e = .returned (.int .i64 (cntL ls : Int)) ∧ Below w.heap.size w w' := by
  obtain ⟨A, ca, rfl, hA⟩ := hv
  have hlen := hm.1
  have htot := Nat.le_trans (cntL_le ls) hm.2
  have HA := Lib.hid hA
  obtain ⟨n, hn⟩ : ∃ n, n = ls.length := ⟨_, rfl⟩
  rw [← hn] at HA hlen ⊢
  have HN := Lib.hid hn
  clear hA hn hm
  go_enter Try.func15, Try.ntmps15
  go_wp2
  go_loopw [3, 5, 8] (fun t _ i wr => ∃ (k : Nat), k ≤ n ∧ i = .int .i64 (k : Int) ∧ t = .int .i64 (cntL (ls.take k) : Int) ∧ Hid (Below w.heap.size w wr)) (fun _ _ i _ => n - (intOf i).toNat)
  case atStart => exact ⟨0, Nat.zero_le _, rfl, rfl, Lib.hid (Below.refl _ _)⟩
  case round =>
    obtain ⟨k, hk, rfl, rfl, HBE⟩ := hrel
    by_cases hlt : k < n
    · obtain ⟨ga, oa, rfl, hga, hca⟩ := HA.out (by omega)
      have hkl : k < ls.length := by rw [← HN.out]; exact hlt
      obtain ⟨⟨va, p0, hra⟩, p1, p2, p3⟩ := hca k _ (List.getElem?_eq_getElem hkl)
      have a0 := (HBE.out.cell (p := ⟨ga, oa + k * 4, none⟩) hga).trans p0
      have a1 := (HBE.out.cell (p := ⟨ga, oa + k * 4 + 1, none⟩) hga).trans p1
      have a2 := (HBE.out.cell (p := ⟨ga, oa + k * 4 + 2, none⟩) hga).trans p2
      have a3 := (HBE.out.cell (p := ⟨ga, oa + k * 4 + 3, none⟩) hga).trans p3
      have hst := cntL_take ls k hkl
      have hle := cntL_le_take ls (k + 1)
      generalize ls[k] = c at a1 a2 a3 hra hst
      obtain ⟨cl, ⟨x, m⟩, f⟩ := c
      obtain ⟨A', c', rfl, _⟩ := hra
      simp only at a0 a1 a2 a3 hst
      obtain ⟨z, hz⟩ : ∃ z, z = cl.length := ⟨_, rfl⟩
      rw [← hz] at a0 hst
      obtain ⟨y, hy⟩ : ∃ y, y = cntL (ls.take k) := ⟨_, rfl⟩
      rw [← hy] at hst ⊢
      have HST := Lib.hid hst
      have hyz : y + z ≤ 1048576 := by omega
      clear hca p0 p1 p2 p3 hst hz hy hle
      go_wp2
      go_roundw
      case rel => exact ⟨k + 1, by omega, by go_num, by rw [HST.out]; go_num, Lib.hid (by first | exact HBE.out.alloc HBE.out.size _ | exact (HBE.out.alloc HBE.out.size _).drew)⟩
      case measure => simp [intOf]; omega
    · rw [cntL_all ls k (by rw [← HN.out]; exact hlt)]
      go_wp2
      go_ret
      exact ⟨rfl, HBE.out⟩
set_option maxRecDepth 100000 in
set_option maxHeartbeats 1000000 in
theorem law_FnExactCountCells (w : World) (A : Option Addr) (len cap : Nat) (ls : List Ln) (hr : RdL w (.slice A len cap) ls) (hi : InL ls) :
    Calls Try.prog 5 #[.slice A len cap] w fun e w' => e = .returned (.bool true) ∧ Below w.heap.size w w' := by
  have HS := Lib.hid (szLineS_any ls _ 1048576 w hr (by omega) (by omega) hi)
  have HR := Lib.hid hr
  clear hr hi
  go_enter Try.func5, Try.ntmps5
  go_wp2_with fail
  refine HS.out.mono ?_
  rintro e w1 ⟨⟨r, rfl, hsz⟩, hb1⟩
  have B1 := Lib.hid hb1
  clear hb1
  rcases hsz with rfl | ⟨h0, h1⟩
  · go_wp2_with fail
    go_ret
    exact ⟨rfl, B1.out⟩
  · have hfit : FitL ls := ⟨by omega, by omega⟩
    have HT := Lib.hid (fun W (hW : Below w.heap.size w W) => toLineS_any ls _ W (HR.out.below hW) hfit)
    have HC := Lib.hid (fun v W (hv : RdL W v ls) => specCountCells ls v W hv hfit)
    have HI := Lib.hid (fun v W (hv : RdL W v ls) => implCountCells ls v W hv hfit)
    have HE := Lib.hid (fun va vb W (ha : RdL W va ls) (hb : RdL W vb ls) => eqLineS_same ls va vb W ha hb hfit)
    obtain ⟨z, hz⟩ : ∃ z : Int, z = (cntL ls : Int) := ⟨_, rfl⟩
    rw [← hz] at HC HI
    clear h1 hz hfit
    go_wp2_with fail
    refine (HT.out _ B1.out).mono ?_
    rintro e w2 ⟨⟨u, rfl, hu⟩, hb2⟩
    have B2 := Lib.hid (B1.out.trans (hb2.mono B1.out.size))
    clear hb2
    go_wp2_with fail
    refine (HC.out _ _ hu).mono ?_
    rintro e w3 ⟨rfl, hb3⟩
    have B3 := Lib.hid (B2.out.trans (hb3.mono B2.out.size))
    clear hb3 hu
    go_wp2_with fail
    refine (HT.out _ B3.out).mono ?_
    rintro e w4 ⟨⟨x, rfl, hx⟩, hb4⟩
    have B4 := Lib.hid (B3.out.trans (hb4.mono B3.out.size))
    have HX := Lib.hid hx
    clear hb4 hx
    go_wp2_with fail
    refine (HI.out _ _ HX.out).mono ?_
    rintro e w5 ⟨rfl, hb5⟩
    have B5 := Lib.hid (B4.out.trans (hb5.mono B4.out.size))
    have HX5 := Lib.hid (HX.out.below hb5)
    clear hb5
    go_wp2_with fail
    refine (HT.out _ B5.out).mono ?_
    rintro e w6 ⟨⟨y, rfl, hy⟩, hb6⟩
    have B6 := Lib.hid (B5.out.trans (hb6.mono B5.out.size))
    have HX6 := Lib.hid (HX5.out.below hb6)
    clear hb6
    go_wp2_with fail
    refine (HE.out _ _ _ HX6.out hy).mono ?_
    rintro e w7 ⟨rfl, hb7⟩
    have B7 := Lib.hid (B6.out.trans (hb7.mono B6.out.size))
    clear hb7 hy
    go_wp2_with fail
    go_ret
    exact ⟨rfl, B7.out⟩
end Go.Proofs.Ytncdglfcegmmgaa
