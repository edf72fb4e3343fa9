/- CountCells: the model's; the law. -/
import Derived.Test.YtncdglfcegmmgaaDoorLnTo
import Derived.Test.YtncdglfcegmmgaaDoorLnLaws
namespace Go.Proofs.YtncdglfcegmmgaaDoor
open Go.RowKit
set_option linter.unusedVariables false

/-- How many cells there are. -/
def cntL : List Ln → Nat
  | [] => 0
  | l :: r => l.cells.length + cntL r
theorem cntL_le : ∀ ls, cntL ls ≤ totL ls
  | [] => Nat.le_refl _
  | l :: r => by have := cntL_le r; simp only [cntL, totL]; omega
theorem cntL_take (ls : List Ln) : ∀ k (h : k < ls.length), cntL (ls.take (k + 1)) = cntL (ls.take k) + ls[k].cells.length := by
  induction ls with
  | nil => intro k h; cases h
  | cons x r ih =>
    intro k h
    cases k with
    | zero => simp [cntL]
    | succ k =>
      have := ih k (by simpa using h)
      simp only [List.take_succ_cons, cntL, List.getElem_cons_succ]
      omega
theorem cntL_all (ls : List Ln) (k : Nat) (h : ¬ k < ls.length) : cntL (ls.take k) = cntL ls := by rw [List.take_of_length_le (by omega)]
theorem cntL_le_take (ls : List Ln) (k : Nat) : cntL (ls.take k) ≤ cntL ls := by
  induction ls generalizing k with
  | nil => simp [cntL]
  | cons x r ih =>
    cases k with
    | zero => simp [cntL]
    | succ k => have := ih k; simp only [List.take_succ_cons, cntL]; omega
set_option maxRecDepth 100000 in
set_option maxHeartbeats 1000000 in
theorem implCountCells (ls : List Ln) (v : Value) (w : World) (hv : RdL w v ls) (hm : FitL ls) :
    Calls Tryd.prog 9 #[v] w fun e w' => e = .returned (.int .i64 (cntL ls : Int)) ∧ Below w.heap.size w w' := by
  obtain ⟨A, ca, rfl, hA⟩ := hv
  have hlen := hm.1
  have htot := Nat.le_trans (cntL_le ls) hm.2
  have HA := Lib.hid hA
  obtain ⟨n, hn⟩ : ∃ n, n = ls.length := ⟨_, rfl⟩
  rw [← hn] at HA hlen ⊢
  have HN := Lib.hid hn
  clear hA hn hm
  go_enter Tryd.func9, Tryd.ntmps9
  go_wp2
  go_loopw [3, 5, 8] (fun t _ i wr => ∃ (k : Nat), k ≤ n ∧ i = .int .i64 (k : Int) ∧ t = .int .i64 (cntL (ls.take k) : Int) ∧ Hid (Below w.heap.size w wr)) (fun _ _ i _ => n - (intOf i).toNat)
  case atStart => exact ⟨0, Nat.zero_le _, rfl, rfl, Lib.hid (Below.refl _ _)⟩
  case round =>
    obtain ⟨k, hk, rfl, rfl, HBE⟩ := hrel
    by_cases hlt : k < n
    · obtain ⟨ga, oa, rfl, hga, hca⟩ := HA.out (by omega)
      have hkl : k < ls.length := by rw [← HN.out]; exact hlt
      obtain ⟨⟨va, p0, hra⟩, p1, p2, p3⟩ := hca k _ (List.getElem?_eq_getElem hkl)
      have a0 := (HBE.out.cell (p := ⟨ga, oa + k * 4, none⟩) hga).trans p0
      have a1 := (HBE.out.cell (p := ⟨ga, oa + k * 4 + 1, none⟩) hga).trans p1
      have a2 := (HBE.out.cell (p := ⟨ga, oa + k * 4 + 2, none⟩) hga).trans p2
      have a3 := (HBE.out.cell (p := ⟨ga, oa + k * 4 + 3, none⟩) hga).trans p3
      have hst := cntL_take ls k hkl
      have hle := cntL_le_take ls (k + 1)
      generalize ls[k] = c at a1 a2 a3 hra hst
      obtain ⟨cl, ⟨x, m⟩, f⟩ := c
      obtain ⟨A', c', rfl, _⟩ := hra
      simp only at a0 a1 a2 a3 hst
      obtain ⟨z, hz⟩ : ∃ z, z = cl.length := ⟨_, rfl⟩
      rw [← hz] at a0 hst
      obtain ⟨y, hy⟩ : ∃ y, y = cntL (ls.take k) := ⟨_, rfl⟩
      rw [← hy] at hst ⊢
      have HST := Lib.hid hst
      have hyz : y + z ≤ 1048576 := by omega
      clear hca p0 p1 p2 p3 hst hz hy hle
      go_wp2
      go_roundw
      case rel => exact ⟨k + 1, by omega, by go_num, by rw [HST.out]; go_num, Lib.hid (by first | exact HBE.out.alloc HBE.out.size _ | exact (HBE.out.alloc HBE.out.size _).drew)⟩
      case measure => simp [intOf]; omega
    · rw [cntL_all ls k (by rw [← HN.out]; exact hlt)]
      go_wp2
      go_ret
      exact ⟨rfl, HBE.out⟩
end Go.Proofs.YtncdglfcegmmgaaDoor
