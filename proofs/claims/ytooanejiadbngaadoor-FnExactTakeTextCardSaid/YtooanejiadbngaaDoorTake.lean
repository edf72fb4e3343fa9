/- The program's sink: a failure is a panic that a deferred closure recovers: take, failedSink, TakeText. -/
import Derived.Test.YtooanejiadbngaaDoorSink
import Derived.Test.YtooanejiadbngaaDoorJoin
import Derived.Defers
import Derived.Recover
import Derived.Laws.Pointers
import Derived.Laws.CopyOwn
import Derived.IntWalk
namespace Go.Proofs.YtooanejiadbngaaDoor
open Go.RowKit
set_option linter.unusedVariables false
set_option linter.unusedSimpArgs false

/-- The value of a sink's panic. -/
def sinkPV (k : Snk) : Value := .iface 35 (.agg (snkV k))
theorem takeK_dead (k : Snk) (s : ByteArray) (h : k.dead = true) : takeK k s = k ∧ takeOk k s = false := by
  unfold takeK takeOk; rw [if_pos h, h]; exact ⟨rfl, rfl⟩
theorem takeK_fits (k : Snk) (s : ByteArray) (h : k.dead = false) (h' : (s.size : Int) ≤ k.room) : takeK k s = ⟨k.room - s.size, k.taken ++ s, false⟩ ∧ takeOk k s = true := by
  unfold takeK takeOk; rw [if_neg (by rw [h]; decide), if_pos h', h, decide_eq_true h']; exact ⟨rfl, rfl⟩
theorem takeK_over (k : Snk) (s : ByteArray) (h : k.dead = false) (h' : ¬ (s.size : Int) ≤ k.room) : takeK k s = ⟨0, k.taken ++ s.extract 0 (max 0 k.room).toNat, true⟩ ∧ takeOk k s = false := by
  unfold takeK takeOk; rw [if_neg (by rw [h]; decide), if_neg h', h, decide_eq_false h', Int.max_comm]; exact ⟨rfl, rfl⟩
theorem max_snk {P : Program} (ts : Array TypeId) (ty : TypeId) (x y : Int) (w : World) : (Builtin.max_ ts ty #[.int .i64 x, .int .i64 y]).run P w = .ok (.int .i64 (max x y)) w := by
  rw [run_max_int2]
  have : (if y > x then y else x) = max x y := by split <;> omega
  rw [this]
theorem join_pair (a b : ByteArray) (g c : Nat) (w : World) (h0 : w.cell? ⟨g, 0, none⟩ = some (.string a)) (h1 : w.cell? ⟨g, 1, none⟩ = some (.string b)) (hg : g < w.heap.size) (hc : 2 ≤ c) (hl : a.size + b.size ≤ 140737488355328) :
    Calls Tryd.prog 14 #[.string ⟨#[]⟩, .slice (some ⟨g, 0, none⟩) 2 c] w fun e w' => e = .returned (.string (a ++ b)) ∧ Below w.heap.size w w' := by
  have h := impljoinTexts g 0 c [a, b] ⟨#[]⟩ w ?_ hg (by simp) hc (by rw [joinB_two, ByteArray.size_append]; exact hl)
  · rw [joinB_two] at h
    exact h
  · intro j x hj
    match j, hj with
    | 0, hj => obtain rfl := Option.some.inj hj; exact h0
    | 1, hj => obtain rfl := Option.some.inj hj; exact h1
set_option maxRecDepth 100000 in
set_option maxHeartbeats 2000000 in
theorem take_dead (k : Snk) (s : ByteArray) (w : World) (h : k.dead = true) :
    Calls Tryd.prog 12 #[.agg (snkV k), .string s] w fun e w' => e = .panicked [{ v := sinkPV k, recovered := false }] ∧ Below w.heap.size w w' := by
  obtain ⟨r, t, d⟩ := k
  obtain rfl : d = true := h
  unfold sinkPV snkV
  go_enter Tryd.func12, Tryd.ntmps12
  go_wp2
  refine ⟨rfl, rfl, ?_⟩
  go_grown
set_option maxRecDepth 100000 in
set_option maxHeartbeats 2000000 in
theorem take_over (k : Snk) (s : ByteArray) (w : World) (h : k.dead = false) (h' : ¬ (s.size : Int) ≤ k.room) (ht : k.taken.size ≤ 1048576) (hs : s.size ≤ 140737488355328 - 1048576) :
    Calls Tryd.prog 12 #[.agg (snkV k), .string s] w fun e w' => e = .panicked [{ v := sinkPV (takeK k s), recovered := false }] ∧ Below w.heap.size w w' := by
  rw [(takeK_over k s h h').1]
  obtain ⟨r, t, d⟩ := k
  obtain rfl : d = false := h
  simp only at h' ht ⊢
  obtain ⟨n, hn⟩ : ∃ n, n = (max 0 r).toNat := ⟨_, rfl⟩
  have hn2 : max 0 r = (n : Int) := by omega
  have hle : n ≤ s.size := by omega
  rw [← hn]
  have hsl := fun w => run_headK s n hle w
  have hq : (s.extract 0 n).size ≤ 140737488355328 - 1048576 := by simp; omega
  generalize s.extract 0 n = q at hsl hq ⊢
  have hx1 := fun ts ty w => max_snk (P := Tryd.prog) ts ty 0 r w
  rw [hn2] at hx1
  have HJ := Lib.hid (fun g W h0 h1 hg => join_pair t q g 2 W h0 h1 hg (Nat.le_refl _) (by omega))
  unfold sinkPV snkV
  simp only
  clear hn hn2 hq
  go_enter Tryd.func12, Tryd.ntmps12
  go_wp2_with fail
  refine (HJ.out _ _ ?_ ?_ ?_).mono ?_
  · go_simp
  · go_simp
  · simp
  rintro e w1 ⟨rfl, hb1⟩
  have B1 := Lib.hid ((by go_grown : Below w.heap.size w _).trans (hb1.mono (by simp; omega)))
  clear hb1
  go_wp2
  exact ⟨rfl, rfl, B1.out⟩
theorem size_snkT : (Tryd.prog.info? 25).map (·.size) = some 3 := by kernel_rfl
theorem tkS_step {X W W' : World} {a b : Value} (hb : Below W.heap.size W W')
    (h : W.cell? ⟨X.heap.size, 0, none⟩ = some a ∧ W.cell? ⟨X.heap.size, 1, none⟩ = some b ∧ X.heap.size + 1 < W.heap.size ∧ Below X.heap.size X W) :
    W'.cell? ⟨X.heap.size, 0, none⟩ = some a ∧ W'.cell? ⟨X.heap.size, 1, none⟩ = some b ∧ X.heap.size + 1 < W'.heap.size ∧ Below X.heap.size X W' := by
  obtain ⟨h0, h1, h2, h3⟩ := h
  have hs := hb.size
  have k : ∀ j v, W.cell? ⟨X.heap.size, j, none⟩ = some v → W'.cell? ⟨X.heap.size, j, none⟩ = some v := fun j v hv => (hb.cell (p := ⟨X.heap.size, j, none⟩) (by show X.heap.size < _; omega)).trans hv
  exact ⟨k _ _ h0, k _ _ h1, by omega, h3.trans (hb.mono (by omega))⟩
theorem tkS_row {X W : World} {a b : Value} {cs : Array Value}
    (h : W.cell? ⟨X.heap.size, 0, none⟩ = some a ∧ W.cell? ⟨X.heap.size, 1, none⟩ = some b ∧ X.heap.size + 1 < W.heap.size ∧ Below X.heap.size X W) :
    (W.setRow (X.heap.size + 1) cs).cell? ⟨X.heap.size, 0, none⟩ = some a ∧ (W.setRow (X.heap.size + 1) cs).cell? ⟨X.heap.size, 1, none⟩ = some b ∧ X.heap.size + 1 < (W.setRow (X.heap.size + 1) cs).heap.size ∧ Below X.heap.size X (W.setRow (X.heap.size + 1) cs) := by
  obtain ⟨h0, h1, h2, h3⟩ := h
  have k : ∀ j v, W.cell? ⟨X.heap.size, j, none⟩ = some v → (W.setRow (X.heap.size + 1) cs).cell? ⟨X.heap.size, j, none⟩ = some v := fun j v hv => by
    unfold World.cell? at hv ⊢
    rw [setRow_other _ _ _ _ (by simp)]
    exact hv
  refine ⟨k _ _ h0, k _ _ h1, ?_, ?_⟩
  · simpa [World.setRow] using h2
  · exact below_setRow h3 (by omega) cs
set_option maxRecDepth 100000 in
set_option maxHeartbeats 2000000 in
theorem take_fits (k : Snk) (s : ByteArray) (w : World) (h : k.dead = false) (h' : (s.size : Int) ≤ k.room) (hr : k.room ≤ 9223372036854775807) (ht : k.taken.size ≤ 1048576) (hs : s.size ≤ 140737488355328 - 1048576) :
    Calls Tryd.prog 12 #[.agg (snkV k), .string s] w fun e w' => e = .returned (.agg (snkV (takeK k s))) ∧ Below w.heap.size w w' := by
  rw [(takeK_fits k s h h').1]
  obtain ⟨r, t, d⟩ := k
  obtain rfl : d = false := h
  simp only at h' ht hr ⊢
  have HJ := Lib.hid (fun g W h0 h1 hg => join_pair t s g 2 W h0 h1 hg (Nat.le_refl _) (by omega))
  have hwr : IntKind.i64.wrap (r - (s.size : Int)) = r - (s.size : Int) := IntWalk.i64_in _ (by omega)
  unfold snkV
  simp only
  generalize hu : t ++ s = u at HJ ⊢
  clear hu
  have hC0 := (Blk.new w 25 #[.int .i64 r, .string t, .bool false]).after ((Below.refl _ _).alloc (Nat.le_refl _) (.cells #[.int .i64 0, .string ⟨#[]⟩, .bool false] 25))
  have hZ0 := Blk.new (w.alloc (.cells #[.int .i64 r, .string t, .bool false] 25)) 25 #[.int .i64 0, .string ⟨#[]⟩, .bool false]
  rw [show (w.alloc (.cells #[.int .i64 r, .string t, .bool false] 25)).heap.size = w.heap.size + 1 by simp] at hZ0
  have hB0 : Below w.heap.size w ((w.alloc (.cells #[.int .i64 r, .string t, .bool false] 25)).alloc (.cells #[.int .i64 0, .string ⟨#[]⟩, .bool false] 25)) := by go_grown
  have hS0 : w.heap.size + 1 < ((w.alloc (.cells #[.int .i64 r, .string t, .bool false] 25)).alloc (.cells #[.int .i64 0, .string ⟨#[]⟩, .bool false] 25)).heap.size := by simp
  go_enter Tryd.func12, Tryd.ntmps12
  go_wp2_with fail
  generalize hX : ((w.alloc (.cells #[.int .i64 r, .string t, .bool false] 25)).alloc (.cells #[.int .i64 0, .string ⟨#[]⟩, .bool false] 25)) = X at hC0 hZ0 hB0 hS0 ⊢
  have hXs : X.heap.size = w.heap.size + 1 + 1 := by rw [← hX]; simp
  clear hX
  refine wp_region_noPanic ?_
  refine wp_region_held_drew (S := (fun W => W.cell? ⟨w.heap.size, 0, none⟩ = some (.int .i64 r) ∧ W.cell? ⟨w.heap.size, 1, none⟩ = some (.string t) ∧ w.heap.size + 1 < W.heap.size ∧ Below w.heap.size w W)) (by kernel_rfl) ⟨hC0.cell 0, hC0.cell 1, hS0, hB0.drew⟩ (fun hHeld => ?_)
  refine wpAnyH_take (i := 0) (oi := _) (v := .pointer (some ⟨w.heap.size, 0, none⟩)) rfl (by kernel_rfl) (by kernel_rfl) (by kernel_rfl) (fun _ _ _ h => h) (Or.inl ⟨by rfl, ?_⟩) (by assumption) ?_
  · intro W hSw
    go_simp
  try simp only [Act.put, List.setIfInBounds_toArray, List.set_cons_zero, List.set_cons_succ]
  refine wpAnyH_take (i := 1) (oi := _) (v := .int .i64 r) rfl (by kernel_rfl) (by kernel_rfl) (by kernel_rfl) (fun _ _ _ h => h) (Or.inl ⟨by rfl, ?_⟩) (by assumption) ?_
  · intro W hSw
    go_simp
  try simp only [Act.put, List.setIfInBounds_toArray, List.set_cons_zero, List.set_cons_succ]
  refine wpAnyH_take (i := 2) (oi := _) (v := .string s) rfl (by kernel_rfl) (by kernel_rfl) (by kernel_rfl) (fun _ _ _ h => h) (Or.inl ⟨by rfl, ?_⟩) (by assumption) ?_
  · intro W hSw
    go_simp
  try simp only [Act.put, List.setIfInBounds_toArray, List.set_cons_zero, List.set_cons_succ]
  refine wpAnyH_take (i := 3) (oi := _) (v := .int .i64 (s.size : Int)) rfl (by kernel_rfl) (by kernel_rfl) (by kernel_rfl) (fun _ _ _ h => h) (Or.inl ⟨by rfl, ?_⟩) (by assumption) ?_
  · intro W hSw
    go_simp
  try simp only [Act.put, List.setIfInBounds_toArray, List.set_cons_zero, List.set_cons_succ]
  refine wpAnyH_take (i := 4) (oi := _) (v := .int .i64 (r - (s.size : Int))) rfl (by kernel_rfl) (by kernel_rfl) (by kernel_rfl) (fun _ _ _ h => h) (Or.inl ⟨by rfl, ?_⟩) (by assumption) ?_
  · intro W hSw
    go_simp
  try simp only [Act.put, List.setIfInBounds_toArray, List.set_cons_zero, List.set_cons_succ]
  refine wpAnyH_take (i := 5) (oi := _) (v := .pointer (some ⟨w.heap.size, 1, none⟩)) rfl (by kernel_rfl) (by kernel_rfl) (by kernel_rfl) (fun _ _ _ h => h) (Or.inl ⟨by rfl, ?_⟩) (by assumption) ?_
  · intro W hSw
    go_simp
  try simp only [Act.put, List.setIfInBounds_toArray, List.set_cons_zero, List.set_cons_succ]
  refine wpAnyH_take (i := 6) (oi := _) (v := .string t) rfl (by kernel_rfl) (by kernel_rfl) (by kernel_rfl) (fun _ _ _ h => h) (Or.inl ⟨by rfl, ?_⟩) (by assumption) ?_
  · intro W hSw
    go_simp
  try simp only [Act.put, List.setIfInBounds_toArray, List.set_cons_zero, List.set_cons_succ]
  refine wpAnyH_take (i := 7) (oi := _) (v := .string s) rfl (by kernel_rfl) (by kernel_rfl) (by kernel_rfl) (fun _ _ _ h => h) (Or.inl ⟨by rfl, ?_⟩) (by assumption) ?_
  · intro W hSw
    go_simp
  try simp only [Act.put, List.setIfInBounds_toArray, List.set_cons_zero, List.set_cons_succ]
  refine wpAnyH_ready (rs := [8]) (by kernel_rfl) (by simp) ?_
  refine AllReadyH.cons (o := _) rfl (fun K hK => ?_) AllReadyH.nil
  go_simp
  refine hK.out _ _ (tkS_step ((Below.refl _ _).alloc (Nat.le_refl _) _) hHeld) (fun hHeld2 => ?_)
  clear hK K
  try simp only [Act.put, List.setIfInBounds_toArray, List.set_cons_zero, List.set_cons_succ]
  refine wpAnyH_ready (rs := [9]) (by kernel_rfl) (by simp) ?_
  refine AllReadyH.cons (o := _) rfl (fun K hK => ?_) AllReadyH.nil
  go_simp
  go_at_call 14
  refine (HJ.out (w.heap.size + 1 + 1) _ ?_ ?_ ?_).mono ?_
  · rw [← hXs]; go_simp
  · rw [← hXs]; go_simp
  · rw [← hXs]; simp
  rintro e w3 ⟨rfl, hb3⟩
  have hZ3 := ((hZ0.after ((Below.refl X.heap.size X).drew.alloc (Nat.le_refl _) (.cells #[.string t, .string s] 9)))).after hb3
  refine hK.out _ _ (tkS_step hb3 hHeld2) (fun hHeld3 => ?_)
  clear hK K hHeld hHeld2 hb3
  try simp only [Act.put, List.setIfInBounds_toArray, List.set_cons_zero, List.set_cons_succ]
  refine wpAnyH_take (i := 10) (oi := ⟨some 39, _, _, _, _, _⟩) (v := .agg #[.int .i64 (r - (s.size : Int)), .string u, .bool false]) rfl (by kernel_rfl) (by kernel_rfl) (by kernel_rfl) (fun _ _ _ h => h) (Or.inl ⟨by rfl, ?_⟩) (by assumption) ?_
  · intro W hSw
    go_simp
  try simp only [Act.put, List.setIfInBounds_toArray, List.set_cons_zero, List.set_cons_succ]
  refine wpAnyH_ready (rs := [11]) (by kernel_rfl) (by simp) ?_
  refine AllReadyH.cons (o := _) rfl (fun K hK => ?_) AllReadyH.nil
  rw [if_pos (by rfl)]
  refine wp_store_row _ _ _ rfl (w.heap.size + 1) #[.int .i64 (r - (s.size : Int)), .string u, .bool false] rfl rfl 25 _ hZ3 size_snkT rfl (by simp [Value.oneCell']) ?_
  refine hK.out _ _ (tkS_row hHeld3) (fun hHeld4 => ?_)
  clear hK K hHeld3
  try simp only [Act.put, List.setIfInBounds_toArray, List.set_cons_zero, List.set_cons_succ]
  refine wpAnyH_done (by kernel_rfl) ?_ _
  refine NoPanic.normal ?_
  have hR := hZ3.row (cs' := #[.int .i64 (r - (s.size : Int)), .string u, .bool false])
  have c0 := hR.cell 0
  have c1 := hR.cell 1
  have c2 := hR.cell 2
  simp at c0 c1 c2
  have hBF := hHeld4.2.2.2
  clear hHeld4
  go_wp2
  exact bodyPost_ret (v := .agg #[.int .i64 (r - (s.size : Int)), .string u, .bool false]) (by simp [results, Tryd.results12, go_sem, c0, c1, c2]) rfl ⟨rfl, hBF⟩
end Go.Proofs.YtooanejiadbngaaDoor
