/- Merged texts: Pad Join ErrT Take Passed AsHit Catch RunCatch. -/
import Derived.Test.YtooanejiadbngaaGreatDoorShelf
import Derived.Lib.Repeat
import Derived.Lib.Join
import Derived.Test.YtooanejiadbngaaGreatDoorBA
import Derived.Test.YtooanejiadbngaaGreatDoorProg
import Derived.WalkKit
import Derived.ProofKit
import Derived.Below
import Derived.LaidHandle
import Derived.RowKitTokens
import Derived.Test.YtooanejiadbngaaGreatDoorSink
import Derived.Defers
import Derived.Recover
import Derived.Laws.Pointers
import Derived.Laws.CopyOwn
import Derived.IntWalk
import Derived.Test.YtooanejiadbngaaGreatDoorSesMath
import Derived.Test.YtooanejiadbngaaGreatDoorMakeChunks
import Derived.Test.YtooanejiadbngaaGreatDoorPart
import Derived.Deep.MidRow
import Derived.Handy
import Derived.LaidEql
import Derived.Stop.Asserts
import Derived.Test.YtooanejiadbngaaGreatDoorSes
import Derived.Test.YtooanejiadbngaaGreatDoorOpMem
/- PadZeros: the model's and the program's give the same text. -/
namespace Go.Proofs.YtooanejiadbngaaGreatDoor
open Go.RowKit

/-- k zeros ahead of a text. -/
def zpad (k : Nat) (s : ByteArray) : ByteArray := ⟨(List.replicate k 48 ++ s.data.toList).toArray⟩
theorem zpad_size (k : Nat) (s : ByteArray) : (zpad k s).size = k + s.size := by
  show (List.replicate k 48 ++ s.data.toList).toArray.size = _
  simp
theorem zpad_zero (s : ByteArray) : zpad 0 s = s := by
  apply ByteArray.ext; simp [zpad]
theorem zpad_succ (k : Nat) (s : ByteArray) : ByteArray.mk #[48] ++ zpad k s = zpad (k + 1) s := by
  show ByteArray.mk [48].toArray ++ _ = _
  unfold zpad
  rw [ByteArray.mk_append_mk]; rfl

/-- What PadZeros gives. -/
def padB (s : ByteArray) (n : Int) : ByteArray := if 2000 < n then s else zpad (n.toNat - s.size) s

/-- The texts of a list, joined. -/
def joinB (xs : List ByteArray) (sep : ByteArray) : ByteArray := ⟨(Lib.join (xs.map (·.data.toList)) sep.data.toList).toArray⟩

theorem impljoinTexts (bk o c : Nat) (xs : List ByteArray) (sep : ByteArray) (w : World) (hcells : ∀ (j : Nat) x, xs[j]? = some x → w.cell? ⟨bk, o + j, none⟩ = some (.string x))
    (hbk : bk < w.heap.size) (hN : xs.length ≤ 140737488355328) (hcap : xs.length ≤ c) (hlen : (joinB xs sep).size ≤ 140737488355328) :
    Calls Tryz.prog 56 #[.string sep, .slice (some ⟨bk, o, none⟩) xs.length c] w fun e w' => e = .returned (.string (joinB xs sep)) ∧ Below w.heap.size w w' := by
  have hj := Tryz.strings_Join bk o c xs sep w hcells hbk hN hcap hlen
  have HJ := Lib.hid hj
  clear hj hcells hN hcap hlen
  go_enter Tryz.func56, Tryz.ntmps56
  go_wp2_with (go_at_call 69; refine HJ.out.mono ?_; rintro e w' ⟨rfl, hb⟩)
  go_ret
  exact ⟨rfl, by assumption⟩

theorem joinB_two (a b : ByteArray) : joinB [a, b] ⟨#[]⟩ = a ++ b := by
  apply ByteArray.ext
  simp [joinB, Lib.join, List.intercalate]
theorem zeros_append (k : Nat) (s : ByteArray) : (⟨(Lib.repeatL [48] k).toArray⟩ : ByteArray) ++ s = zpad k s := by
  have e : ∀ j, Lib.repeatL [48] j = List.replicate j 48 := by
    intro j
    induction j with
    | zero => rfl
    | succ j ih => show [48] ++ Lib.repeatL [48] j = _; rw [ih]; rfl
  apply ByteArray.ext
  simp [zpad, e]

end Go.Proofs.YtooanejiadbngaaGreatDoor

/- Join: the model's and the program's give the same text; the law's helpers szStringS and toStringS. -/
namespace Go.Proofs.YtooanejiadbngaaGreatDoor
open Go.RowKit

theorem lens_tot (xs : List ByteArray) : Lib.lens (xs.map (·.data.toList)) = tot xs := by
  induction xs with
  | nil => rfl
  | cons x r ih =>
    simp only [Lib.lens, List.map_cons, List.sum_cons, tot] at ih ⊢
    rw [ih]; rfl
theorem joinB_size (xs : List ByteArray) (sep : ByteArray) : (joinB xs sep).size ≤ tot xs + xs.length * sep.size := by
  cases xs with
  | nil => simp [joinB, Lib.join_nil, tot]; rfl
  | cons x r =>
    have h := Lib.join_length x.data.toList (r.map (·.data.toList)) sep.data.toList
    have e : (joinB (x :: r) sep).size = (Lib.join ((x :: r).map (·.data.toList)) sep.data.toList).length := rfl
    rw [e, List.map_cons, h]
    have h2 := lens_tot (x :: r)
    rw [List.map_cons] at h2
    rw [h2, List.length_map, List.length_cons, Nat.add_mul]
    have h3 : sep.data.toList.length = sep.size := rfl
    rw [h3, Nat.mul_comm]
    omega
theorem joinB_nil (sep : ByteArray) : joinB [] sep = ⟨#[]⟩ := rfl
theorem joinB_one (x sep : ByteArray) : joinB [x] sep = x := by
  apply ByteArray.ext; simp [joinB, Lib.join_one]
theorem joinB_snoc (xs : List ByteArray) (x sep : ByteArray) (h : xs ≠ []) : joinB (xs ++ [x]) sep = joinB xs sep ++ sep ++ x := by
  cases xs with
  | nil => exact absurd rfl h
  | cons y r =>
    apply ByteArray.ext
    simp [joinB, Lib.join_cons, Lib.joinTail]

/-- The joined text of the first k. -/
theorem joinB_step (xs : List ByteArray) (sep : ByteArray) (k : Nat) (h : k < xs.length) (h0 : 0 < k) : joinB (xs.take (k + 1)) sep = joinB (xs.take k) sep ++ sep ++ xs[k] := by
  rw [List.take_succ_eq_append_getElem h]
  exact joinB_snoc _ _ _ (by intro e; have := congrArg List.length e; rw [List.length_take] at this; simp only [List.length_nil] at this; omega)
theorem joinB_first (xs : List ByteArray) (sep : ByteArray) (h : 0 < xs.length) : joinB (xs.take 1) sep = xs[0] := by
  rw [show 1 = 0 + 1 from rfl, List.take_succ_eq_append_getElem h]
  exact joinB_one _ _
theorem joinB_bound (xs : List ByteArray) (sep : ByteArray) (k : Nat) (ht : tot xs ≤ 1048576) (hn : xs.length ≤ 1048576) (hs : sep.size ≤ 1048576) : (joinB (xs.take k) sep).size ≤ 1100000000000 := by
  have h1 := joinB_size (xs.take k) sep
  have h2 := tot_take xs k
  have h3 : (xs.take k).length ≤ 1048576 := by rw [List.length_take]; omega
  have h4 : (xs.take k).length * sep.size ≤ 1048576 * 1048576 := Nat.mul_le_mul h3 hs
  omega

theorem implJoinTexts_rd (xs : List ByteArray) (sep : ByteArray) (v : Value) (w : World) (hr : Rd w v (strs xs)) (hcap : ∀ A n c, v = .slice A n c → n ≤ c) (ht : tot xs ≤ 1048576) (hm : xs.length ≤ 1048576) (hs : sep.size ≤ 1048576) :
    Calls Tryz.prog 56 #[.string sep, v] w fun e w' => e = .returned (.string (joinB xs sep)) ∧ Below w.heap.size w w' := by
  obtain ⟨A, c, rfl, hA⟩ := hr
  have hc0 := hcap _ _ _ rfl
  rw [strs_length] at hA hc0
  simp only [strs_length]
  rcases xs with _ | ⟨x, r⟩
  · have hj := Tryz.strings_Join_none A c sep
    have HJ := Lib.hid hj
    clear hj hA hcap
    go_enter Tryz.func56, Tryz.ntmps56
    go_wp2_with (go_at_call 69; refine (HJ.out _).mono ?_; rintro e w' ⟨rfl, rfl⟩)
    go_ret
    exact ⟨rfl, Below.refl _ _⟩
  · obtain ⟨g, o, rfl, hg, hc⟩ := hA (by simp)
    refine impljoinTexts g o c (x :: r) sep w ?_ hg (by omega) hc0 ?_
    · intro j y hj
      exact hc j _ (by simp only [strs, List.getElem?_map, hj]; rfl)
    · have := joinB_bound (x :: r) sep (x :: r).length ht hm hs
      rw [List.take_length] at this
      omega

end Go.Proofs.YtooanejiadbngaaGreatDoor

/- errors.errorType: what the row's condition gives where it is listed. -/
namespace Go.Proofs.YtooanejiadbngaaGreatDoor
open Go.RowKit
set_option linter.unusedVariables false

/-- The variable that errors.As reads. -/
def ErrT (w : World) : Prop := w.cell? ⟨0, 0, none⟩ = some (.iface 142 (.agg #[typeHandle Tryz.prog 89]))
theorem ErrT.lt {w : World} (h : ErrT w) : 0 < w.heap.size := by
  rcases Nat.lt_or_ge 0 w.heap.size with h0 | h0
  · exact h0
  · unfold ErrT at h; simp [World.cell?, Array.getElem?_eq_none h0] at h
theorem ErrT.below {w w' : World} (h : ErrT w) (hb : Below w.heap.size w w') : ErrT w' := (hb.cell (p := ⟨0, 0, none⟩) h.lt).trans h
theorem err_et : Tryz.prog.globalNamed "errors.errorType" = some 0 := by kernel_rfl
theorem err_rt : (Tryz.prog.cutTypes.find? (·.1 == "internal/reflectlite.rtype")).map (·.2) = some 142 := by kernel_rfl
theorem err_row : ((List.range Tryz.prog.types.size).filter fun t => Tryz.prog.rowNamed t [101, 114, 114, 111, 114]) = [89] := by kernel_rfl
theorem errT_of {hs : List (String × DataW Unit)} {W : World} (h : handlesMet Tryz.prog hs W) (hm : ("errors.errorType", DataW.iface "internal/reflectlite.rtype" (.agg [.ptr (.lit (.string [101, 114, 114, 111, 114]))])) ∈ hs) : ErrT W := by
  obtain ⟨name, u, ty, e1, e2, e3, e4, e5⟩ := h _ hm
  have en : name = [101, 114, 114, 111, 114] := (Option.some.inj e1).symm
  subst en
  obtain rfl := Option.some.inj (err_rt.symm.trans e2)
  have hmm : ty ∈ (List.range Tryz.prog.types.size).filter fun t => Tryz.prog.rowNamed t [101, 114, 114, 111, 114] := List.mem_filter.2 ⟨List.mem_range.2 e3, e4⟩
  rw [err_row] at hmm
  obtain rfl := List.mem_singleton.1 hmm
  unfold ErrT
  simpa using World.var?_cell err_et e5 0
end Go.Proofs.YtooanejiadbngaaGreatDoor

/- The program's sink: a failure is a panic that a deferred closure recovers: take, failedSink, TakeText. -/
namespace Go.Proofs.YtooanejiadbngaaGreatDoor
open Go.RowKit
set_option linter.unusedVariables false
set_option linter.unusedSimpArgs false

/-- The value of a sink's panic. -/
def sinkPV (k : Snk) : Value := .iface 87 (.agg (snkV k))
theorem takeK_dead (k : Snk) (s : ByteArray) (h : k.dead = true) : takeK k s = k ∧ takeOk k s = false := by
  unfold takeK takeOk; rw [if_pos h, h]; exact ⟨rfl, rfl⟩
theorem takeK_fits (k : Snk) (s : ByteArray) (h : k.dead = false) (h' : (s.size : Int) ≤ k.room) : takeK k s = ⟨k.room - s.size, k.taken ++ s, false⟩ ∧ takeOk k s = true := by
  unfold takeK takeOk; rw [if_neg (by rw [h]; decide), if_pos h', h, decide_eq_true h']; exact ⟨rfl, rfl⟩
theorem takeK_over (k : Snk) (s : ByteArray) (h : k.dead = false) (h' : ¬ (s.size : Int) ≤ k.room) : takeK k s = ⟨0, k.taken ++ s.extract 0 (max 0 k.room).toNat, true⟩ ∧ takeOk k s = false := by
  unfold takeK takeOk; rw [if_neg (by rw [h]; decide), if_neg h', h, decide_eq_false h', Int.max_comm]; exact ⟨rfl, rfl⟩
theorem max_snk {P : Program} (ts : Array TypeId) (ty : TypeId) (x y : Int) (w : World) : (Builtin.max_ ts ty #[.int .i64 x, .int .i64 y]).run P w = .ok (.int .i64 (max x y)) w := by
  rw [run_max_int2]
  have : (if y > x then y else x) = max x y := by split <;> omega
  rw [this]
theorem join_pair (a b : ByteArray) (g c : Nat) (w : World) (h0 : w.cell? ⟨g, 0, none⟩ = some (.string a)) (h1 : w.cell? ⟨g, 1, none⟩ = some (.string b)) (hg : g < w.heap.size) (hc : 2 ≤ c) (hl : a.size + b.size ≤ 140737488355328) :
    Calls Tryz.prog 56 #[.string ⟨#[]⟩, .slice (some ⟨g, 0, none⟩) 2 c] w fun e w' => e = .returned (.string (a ++ b)) ∧ Below w.heap.size w w' := by
  have h := impljoinTexts g 0 c [a, b] ⟨#[]⟩ w ?_ hg (by simp) hc (by rw [joinB_two, ByteArray.size_append]; exact hl)
  · rw [joinB_two] at h
    exact h
  · intro j x hj
    match j, hj with
    | 0, hj => obtain rfl := Option.some.inj hj; exact h0
    | 1, hj => obtain rfl := Option.some.inj hj; exact h1
set_option maxRecDepth 100000 in
set_option maxHeartbeats 2000000 in
theorem take_dead (k : Snk) (s : ByteArray) (w : World) (h : k.dead = true) :
    Calls Tryz.prog 39 #[.agg (snkV k), .string s] w fun e w' => e = .panicked [{ v := sinkPV k, recovered := false }] ∧ Below w.heap.size w w' := by
  obtain ⟨r, t, d⟩ := k
  obtain rfl : d = true := h
  unfold sinkPV snkV
  go_enter Tryz.func39, Tryz.ntmps39
  go_wp2
  refine ⟨rfl, rfl, ?_⟩
  go_grown
set_option maxRecDepth 100000 in
set_option maxHeartbeats 2000000 in
theorem take_over (k : Snk) (s : ByteArray) (w : World) (h : k.dead = false) (h' : ¬ (s.size : Int) ≤ k.room) (ht : k.taken.size ≤ 1048576) (hs : s.size ≤ 140737488355328 - 1048576) :
    Calls Tryz.prog 39 #[.agg (snkV k), .string s] w fun e w' => e = .panicked [{ v := sinkPV (takeK k s), recovered := false }] ∧ Below w.heap.size w w' := by
  rw [(takeK_over k s h h').1]
  obtain ⟨r, t, d⟩ := k
  obtain rfl : d = false := h
  simp only at h' ht ⊢
  obtain ⟨n, hn⟩ : ∃ n, n = (max 0 r).toNat := ⟨_, rfl⟩
  have hn2 : max 0 r = (n : Int) := by omega
  have hle : n ≤ s.size := by omega
  rw [← hn]
  have hsl := fun w => run_headK s n hle w
  have hq : (s.extract 0 n).size ≤ 140737488355328 - 1048576 := by simp; omega
  generalize s.extract 0 n = q at hsl hq ⊢
  have hx1 := fun ts ty w => max_snk (P := Tryz.prog) ts ty 0 r w
  rw [hn2] at hx1
  have HJ := Lib.hid (fun g W h0 h1 hg => join_pair t q g 2 W h0 h1 hg (Nat.le_refl _) (by omega))
  unfold sinkPV snkV
  simp only
  clear hn hn2 hq
  go_enter Tryz.func39, Tryz.ntmps39
  go_wp2_with fail
  refine (HJ.out _ _ ?_ ?_ ?_).mono ?_
  · go_simp
  · go_simp
  · simp
  rintro e w1 ⟨rfl, hb1⟩
  have B1 := Lib.hid ((by go_grown : Below w.heap.size w _).trans (hb1.mono (by simp; omega)))
  clear hb1
  go_wp2
  exact ⟨rfl, rfl, B1.out⟩
theorem size_snkT : (Tryz.prog.info? 35).map (·.size) = some 3 := by kernel_rfl
theorem tkS_step {X W W' : World} {a b : Value} (hb : Below W.heap.size W W')
    (h : W.cell? ⟨X.heap.size, 0, none⟩ = some a ∧ W.cell? ⟨X.heap.size, 1, none⟩ = some b ∧ X.heap.size + 1 < W.heap.size ∧ Below X.heap.size X W) :
    W'.cell? ⟨X.heap.size, 0, none⟩ = some a ∧ W'.cell? ⟨X.heap.size, 1, none⟩ = some b ∧ X.heap.size + 1 < W'.heap.size ∧ Below X.heap.size X W' := by
  obtain ⟨h0, h1, h2, h3⟩ := h
  have hs := hb.size
  have k : ∀ j v, W.cell? ⟨X.heap.size, j, none⟩ = some v → W'.cell? ⟨X.heap.size, j, none⟩ = some v := fun j v hv => (hb.cell (p := ⟨X.heap.size, j, none⟩) (by show X.heap.size < _; omega)).trans hv
  exact ⟨k _ _ h0, k _ _ h1, by omega, h3.trans (hb.mono (by omega))⟩
theorem tkS_row {X W : World} {a b : Value} {cs : Array Value}
    (h : W.cell? ⟨X.heap.size, 0, none⟩ = some a ∧ W.cell? ⟨X.heap.size, 1, none⟩ = some b ∧ X.heap.size + 1 < W.heap.size ∧ Below X.heap.size X W) :
    (W.setRow (X.heap.size + 1) cs).cell? ⟨X.heap.size, 0, none⟩ = some a ∧ (W.setRow (X.heap.size + 1) cs).cell? ⟨X.heap.size, 1, none⟩ = some b ∧ X.heap.size + 1 < (W.setRow (X.heap.size + 1) cs).heap.size ∧ Below X.heap.size X (W.setRow (X.heap.size + 1) cs) := by
  obtain ⟨h0, h1, h2, h3⟩ := h
  have k : ∀ j v, W.cell? ⟨X.heap.size, j, none⟩ = some v → (W.setRow (X.heap.size + 1) cs).cell? ⟨X.heap.size, j, none⟩ = some v := fun j v hv => by
    unfold World.cell? at hv ⊢
    rw [setRow_other _ _ _ _ (by simp)]
    exact hv
  refine ⟨k _ _ h0, k _ _ h1, ?_, ?_⟩
  · simpa [World.setRow] using h2
  · exact below_setRow h3 (by omega) cs
set_option maxRecDepth 100000 in
set_option maxHeartbeats 2000000 in
theorem take_fits (k : Snk) (s : ByteArray) (w : World) (h : k.dead = false) (h' : (s.size : Int) ≤ k.room) (hr : k.room ≤ 9223372036854775807) (ht : k.taken.size ≤ 1048576) (hs : s.size ≤ 140737488355328 - 1048576) :
    Calls Tryz.prog 39 #[.agg (snkV k), .string s] w fun e w' => e = .returned (.agg (snkV (takeK k s))) ∧ Below w.heap.size w w' := by
  rw [(takeK_fits k s h h').1]
  obtain ⟨r, t, d⟩ := k
  obtain rfl : d = false := h
  simp only at h' ht hr ⊢
  have HJ := Lib.hid (fun g W h0 h1 hg => join_pair t s g 2 W h0 h1 hg (Nat.le_refl _) (by omega))
  have hwr : IntKind.i64.wrap (r - (s.size : Int)) = r - (s.size : Int) := IntWalk.i64_in _ (by omega)
  unfold snkV
  simp only
  generalize hu : t ++ s = u at HJ ⊢
  clear hu
  have hC0 := (Blk.new w 35 #[.int .i64 r, .string t, .bool false]).after ((Below.refl _ _).alloc (Nat.le_refl _) (.cells #[.int .i64 0, .string ⟨#[]⟩, .bool false] 35))
  have hZ0 := Blk.new (w.alloc (.cells #[.int .i64 r, .string t, .bool false] 35)) 35 #[.int .i64 0, .string ⟨#[]⟩, .bool false]
  rw [show (w.alloc (.cells #[.int .i64 r, .string t, .bool false] 35)).heap.size = w.heap.size + 1 by simp] at hZ0
  have hB0 : Below w.heap.size w ((w.alloc (.cells #[.int .i64 r, .string t, .bool false] 35)).alloc (.cells #[.int .i64 0, .string ⟨#[]⟩, .bool false] 35)) := by go_grown
  have hS0 : w.heap.size + 1 < ((w.alloc (.cells #[.int .i64 r, .string t, .bool false] 35)).alloc (.cells #[.int .i64 0, .string ⟨#[]⟩, .bool false] 35)).heap.size := by simp
  go_enter Tryz.func39, Tryz.ntmps39
  go_wp2_with fail
  generalize hX : ((w.alloc (.cells #[.int .i64 r, .string t, .bool false] 35)).alloc (.cells #[.int .i64 0, .string ⟨#[]⟩, .bool false] 35)) = X at hC0 hZ0 hB0 hS0 ⊢
  have hXs : X.heap.size = w.heap.size + 1 + 1 := by rw [← hX]; simp
  clear hX
  refine wp_region_noPanic ?_
  refine wp_region_held_drew (S := (fun W => W.cell? ⟨w.heap.size, 0, none⟩ = some (.int .i64 r) ∧ W.cell? ⟨w.heap.size, 1, none⟩ = some (.string t) ∧ w.heap.size + 1 < W.heap.size ∧ Below w.heap.size w W)) (by kernel_rfl) ⟨hC0.cell 0, hC0.cell 1, hS0, hB0.drew⟩ (fun hHeld => ?_)
  refine wpAnyH_take (i := 0) (oi := _) (v := .pointer (some ⟨w.heap.size, 0, none⟩)) rfl (by kernel_rfl) (by kernel_rfl) (by kernel_rfl) (fun _ _ _ h => h) (Or.inl ⟨by rfl, ?_⟩) (by assumption) ?_
  · intro W hSw
    go_simp
  try simp only [Act.put, List.setIfInBounds_toArray, List.set_cons_zero, List.set_cons_succ]
  refine wpAnyH_take (i := 1) (oi := _) (v := .int .i64 r) rfl (by kernel_rfl) (by kernel_rfl) (by kernel_rfl) (fun _ _ _ h => h) (Or.inl ⟨by rfl, ?_⟩) (by assumption) ?_
  · intro W hSw
    go_simp
  try simp only [Act.put, List.setIfInBounds_toArray, List.set_cons_zero, List.set_cons_succ]
  refine wpAnyH_take (i := 2) (oi := _) (v := .string s) rfl (by kernel_rfl) (by kernel_rfl) (by kernel_rfl) (fun _ _ _ h => h) (Or.inl ⟨by rfl, ?_⟩) (by assumption) ?_
  · intro W hSw
    go_simp
  try simp only [Act.put, List.setIfInBounds_toArray, List.set_cons_zero, List.set_cons_succ]
  refine wpAnyH_take (i := 3) (oi := _) (v := .int .i64 (s.size : Int)) rfl (by kernel_rfl) (by kernel_rfl) (by kernel_rfl) (fun _ _ _ h => h) (Or.inl ⟨by rfl, ?_⟩) (by assumption) ?_
  · intro W hSw
    go_simp
  try simp only [Act.put, List.setIfInBounds_toArray, List.set_cons_zero, List.set_cons_succ]
  refine wpAnyH_take (i := 4) (oi := _) (v := .int .i64 (r - (s.size : Int))) rfl (by kernel_rfl) (by kernel_rfl) (by kernel_rfl) (fun _ _ _ h => h) (Or.inl ⟨by rfl, ?_⟩) (by assumption) ?_
  · intro W hSw
    go_simp
  try simp only [Act.put, List.setIfInBounds_toArray, List.set_cons_zero, List.set_cons_succ]
  refine wpAnyH_take (i := 5) (oi := _) (v := .pointer (some ⟨w.heap.size, 1, none⟩)) rfl (by kernel_rfl) (by kernel_rfl) (by kernel_rfl) (fun _ _ _ h => h) (Or.inl ⟨by rfl, ?_⟩) (by assumption) ?_
  · intro W hSw
    go_simp
  try simp only [Act.put, List.setIfInBounds_toArray, List.set_cons_zero, List.set_cons_succ]
  refine wpAnyH_take (i := 6) (oi := _) (v := .string t) rfl (by kernel_rfl) (by kernel_rfl) (by kernel_rfl) (fun _ _ _ h => h) (Or.inl ⟨by rfl, ?_⟩) (by assumption) ?_
  · intro W hSw
    go_simp
  try simp only [Act.put, List.setIfInBounds_toArray, List.set_cons_zero, List.set_cons_succ]
  refine wpAnyH_take (i := 7) (oi := _) (v := .string s) rfl (by kernel_rfl) (by kernel_rfl) (by kernel_rfl) (fun _ _ _ h => h) (Or.inl ⟨by rfl, ?_⟩) (by assumption) ?_
  · intro W hSw
    go_simp
  try simp only [Act.put, List.setIfInBounds_toArray, List.set_cons_zero, List.set_cons_succ]
  refine wpAnyH_ready (rs := [8]) (by kernel_rfl) (by simp) ?_
  refine AllReadyH.cons (o := _) rfl (fun K hK => ?_) AllReadyH.nil
  go_simp
  refine hK.out _ _ (tkS_step ((Below.refl _ _).alloc (Nat.le_refl _) _) hHeld) (fun hHeld2 => ?_)
  clear hK K
  try simp only [Act.put, List.setIfInBounds_toArray, List.set_cons_zero, List.set_cons_succ]
  refine wpAnyH_ready (rs := [9]) (by kernel_rfl) (by simp) ?_
  refine AllReadyH.cons (o := _) rfl (fun K hK => ?_) AllReadyH.nil
  go_simp
  go_at_call 56
  refine (HJ.out (w.heap.size + 1 + 1) _ ?_ ?_ ?_).mono ?_
  · rw [← hXs]; go_simp
  · rw [← hXs]; go_simp
  · rw [← hXs]; simp
  rintro e w3 ⟨rfl, hb3⟩
  have hZ3 := ((hZ0.after ((Below.refl X.heap.size X).drew.alloc (Nat.le_refl _) (.cells #[.string t, .string s] 9)))).after hb3
  refine hK.out _ _ (tkS_step hb3 hHeld2) (fun hHeld3 => ?_)
  clear hK K hHeld hHeld2 hb3
  try simp only [Act.put, List.setIfInBounds_toArray, List.set_cons_zero, List.set_cons_succ]
  refine wpAnyH_take (i := 10) (oi := ⟨some 39, _, _, _, _, _⟩) (v := .agg #[.int .i64 (r - (s.size : Int)), .string u, .bool false]) rfl (by kernel_rfl) (by kernel_rfl) (by kernel_rfl) (fun _ _ _ h => h) (Or.inl ⟨by rfl, ?_⟩) (by assumption) ?_
  · intro W hSw
    go_simp
  try simp only [Act.put, List.setIfInBounds_toArray, List.set_cons_zero, List.set_cons_succ]
  refine wpAnyH_ready (rs := [11]) (by kernel_rfl) (by simp) ?_
  refine AllReadyH.cons (o := _) rfl (fun K hK => ?_) AllReadyH.nil
  rw [if_pos (by rfl)]
  refine wp_store_row _ _ _ rfl (w.heap.size + 1) #[.int .i64 (r - (s.size : Int)), .string u, .bool false] rfl rfl 35 _ hZ3 size_snkT rfl (by simp [Value.oneCell']) ?_
  refine hK.out _ _ (tkS_row hHeld3) (fun hHeld4 => ?_)
  clear hK K hHeld3
  try simp only [Act.put, List.setIfInBounds_toArray, List.set_cons_zero, List.set_cons_succ]
  refine wpAnyH_done (by kernel_rfl) ?_ _
  refine NoPanic.normal ?_
  have hR := hZ3.row (cs' := #[.int .i64 (r - (s.size : Int)), .string u, .bool false])
  have c0 := hR.cell 0
  have c1 := hR.cell 1
  have c2 := hR.cell 2
  simp at c0 c1 c2
  have hBF := hHeld4.2.2.2
  clear hHeld4
  go_wp2
  exact bodyPost_ret (v := .agg #[.int .i64 (r - (s.size : Int)), .string u, .bool false]) (by simp [results, Tryz.results39, go_sem, c0, c1, c2]) rfl ⟨rfl, hBF⟩
end Go.Proofs.YtooanejiadbngaaGreatDoor

/- What a writer passes on goes to the sink: takePassed. -/
namespace Go.Proofs.YtooanejiadbngaaGreatDoor
open Go.RowKit
set_option linter.unusedVariables false
set_option linter.unusedSimpArgs false

theorem takeOk_dead (k : Snk) (s : ByteArray) : takeOk k s = !(takeK k s).dead := by
  cases hd : k.dead with
  | true => rw [(takeK_dead k s hd).2, (takeK_dead k s hd).1, hd]; rfl
  | false =>
    by_cases hf : (s.size : Int) ≤ k.room
    · rw [(takeK_fits k s hd hf).2, (takeK_fits k s hd hf).1]; rfl
    · rw [(takeK_over k s hd hf).2, (takeK_over k s hd hf).1]; rfl
theorem take_no (k : Snk) (s : ByteArray) (W : World) (hno : (takeK k s).dead = true) (ht : k.taken.size ≤ 1048576) (hs : s.size ≤ 140737488355328 - 1048576) :
    Calls Tryz.prog 39 #[.agg (snkV k), .string s] W fun e w' => e = .panicked [{ v := sinkPV (takeK k s), recovered := false }] ∧ Below W.heap.size W w' := by
  cases hd : k.dead with
  | true =>
    rw [(takeK_dead k s hd).1]
    exact take_dead k s W hd
  | false =>
    by_cases hf : (s.size : Int) ≤ k.room
    · rw [(takeK_fits k s hd hf).1] at hno; cases hno
    · exact take_over k s W hd hf ht hs
theorem take_yes (k : Snk) (s : ByteArray) (W : World) (hyes : (takeK k s).dead = false) (hr : k.room ≤ 9223372036854775807) (ht : k.taken.size ≤ 1048576) (hs : s.size ≤ 140737488355328 - 1048576) :
    Calls Tryz.prog 39 #[.agg (snkV k), .string s] W fun e w' => e = .returned (.agg (snkV (takeK k s))) ∧ Below W.heap.size W w' := by
  cases hd : k.dead with
  | true => rw [(takeK_dead k s hd).1, hd] at hyes; cases hyes
  | false =>
    by_cases hf : (s.size : Int) ≤ k.room
    · exact take_fits k s W hd hf hr ht hs
    · rw [(takeK_over k s hd hf).1] at hyes; cases hyes
theorem tellK_dead (k : Snk) (s : ByteArray) (h : k.dead = true) : tellK k s = takeK k s := by
  unfold tellK
  split
  · exact (takeK_dead k s h).1.symm
  · rfl
theorem tellK_full (k : Snk) (s : ByteArray) (h : s.size ≠ 0) : tellK k s = takeK k s := if_neg h
theorem size_zero {s : ByteArray} (h : s.size = 0) : s = ⟨#[]⟩ := by
  apply ByteArray.ext
  exact Array.eq_empty_of_size_eq_zero h
set_option maxRecDepth 100000 in
set_option maxHeartbeats 2000000 in
/-- Nothing is passed on to a sink that lives. -/
theorem passed_none (k : Snk) (w : World) (h : k.dead = false) :
    Calls Tryz.prog 30 #[.agg (snkV k), .string ⟨#[]⟩] w fun e w' => e = .returned (.agg (snkV k)) ∧ Below w.heap.size w w' := by
  obtain ⟨r, t, d⟩ := k
  obtain rfl : d = false := h
  unfold snkV
  simp only
  go_enter Tryz.func30, Tryz.ntmps30
  go_wp2
  refine bodyPost_ret (v := .agg #[.int .i64 r, .string t, .bool false]) (by simp [results, Tryz.results30, go_sem]) rfl ?_
  refine ⟨rfl, ?_⟩
  go_grown
set_option maxRecDepth 100000 in
set_option maxHeartbeats 2000000 in
theorem passed_take (k k2 : Snk) (s : ByteArray) (w : World) (h : k.dead = true ∨ s.size ≠ 0) (hT : ∀ W, Calls Tryz.prog 39 #[.agg (snkV k), .string s] W fun e w' => e = .returned (.agg (snkV k2)) ∧ Below W.heap.size W w') :
    Calls Tryz.prog 30 #[.agg (snkV k), .string s] w fun e w' => e = .returned (.agg (snkV k2)) ∧ Below w.heap.size w w' := by
  have HT := Lib.hid hT
  clear hT
  obtain ⟨r, t, d⟩ := k
  obtain ⟨r2, t2, d2⟩ := k2
  unfold snkV at HT ⊢
  simp only at HT h ⊢
  have hZ := Blk.new (w.alloc (.cells #[.int .i64 r, .string t, .bool d] 35)) 35 #[.int .i64 0, .string ⟨#[]⟩, .bool false]
  rw [show (w.alloc (.cells #[.int .i64 r, .string t, .bool d] 35)).heap.size = w.heap.size + 1 by simp] at hZ
  have hB : Below w.heap.size w ((w.alloc (.cells #[.int .i64 r, .string t, .bool d] 35)).alloc (.cells #[.int .i64 0, .string ⟨#[]⟩, .bool false] 35)) := by go_grown
  by_cases h0 : s.size = 0
  · obtain rfl := size_zero h0
    have hd : d = true := by rcases h with h | h; exact h; exact absurd h0 h
    subst hd
    clear h h0
    go_enter Tryz.func30, Tryz.ntmps30
    go_wp2_with fail
    refine (HT.out _).mono ?_
    rintro e w1 ⟨rfl, hb1⟩
    have hz1 := hZ.after hb1
    have hB1 := hB.trans (hb1.mono hB.size)
    clear hb1
    go_wp2_with (refine wpList_store_row rfl _ _ _ rfl (w.heap.size + 1) #[.int .i64 r2, .string t2, .bool d2] rfl rfl 35 _ hz1 size_snkT rfl (by simp [Value.oneCell']) ?_)
    have hR := hz1.row (cs' := #[.int .i64 r2, .string t2, .bool d2])
    have c0 := hR.cell 0
    have c1 := hR.cell 1
    have c2 := hR.cell 2
    simp at c0 c1 c2
    exact bodyPost_ret (v := .agg #[.int .i64 r2, .string t2, .bool d2]) (by simp [results, Tryz.results30, go_sem, c0, c1, c2]) rfl ⟨rfl, below_setRow hB1 (by omega) _⟩
  · have hem : s.toList.isEmpty = false := empty_noM (by rintro rfl; exact h0 rfl)
    clear h h0
    go_enter Tryz.func30, Tryz.ntmps30
    go_wp2_with fail
    refine (HT.out _).mono ?_
    rintro e w1 ⟨rfl, hb1⟩
    have hz1 := hZ.after hb1
    have hB1 := hB.trans (hb1.mono hB.size)
    clear hb1
    go_wp2_with (refine wpList_store_row rfl _ _ _ rfl (w.heap.size + 1) #[.int .i64 r2, .string t2, .bool d2] rfl rfl 35 _ hz1 size_snkT rfl (by simp [Value.oneCell']) ?_)
    have hR := hz1.row (cs' := #[.int .i64 r2, .string t2, .bool d2])
    have c0 := hR.cell 0
    have c1 := hR.cell 1
    have c2 := hR.cell 2
    simp at c0 c1 c2
    exact bodyPost_ret (v := .agg #[.int .i64 r2, .string t2, .bool d2]) (by simp [results, Tryz.results30, go_sem, c0, c1, c2]) rfl ⟨rfl, below_setRow hB1 (by omega) _⟩
set_option maxRecDepth 100000 in
set_option maxHeartbeats 2000000 in
theorem passed_dies (k k2 : Snk) (s : ByteArray) (w : World) (h : k.dead = true ∨ s.size ≠ 0) (hT : ∀ W, Calls Tryz.prog 39 #[.agg (snkV k), .string s] W fun e w' => e = .panicked [{ v := sinkPV k2, recovered := false }] ∧ Below W.heap.size W w') :
    Calls Tryz.prog 30 #[.agg (snkV k), .string s] w fun e w' => e = .panicked [{ v := sinkPV k2, recovered := false }] ∧ Below w.heap.size w w' := by
  have HT := Lib.hid hT
  clear hT
  obtain ⟨r, t, d⟩ := k
  obtain ⟨r2, t2, d2⟩ := k2
  unfold snkV at HT ⊢
  simp only at HT h ⊢
  have hZ := Blk.new (w.alloc (.cells #[.int .i64 r, .string t, .bool d] 35)) 35 #[.int .i64 0, .string ⟨#[]⟩, .bool false]
  rw [show (w.alloc (.cells #[.int .i64 r, .string t, .bool d] 35)).heap.size = w.heap.size + 1 by simp] at hZ
  have hB : Below w.heap.size w ((w.alloc (.cells #[.int .i64 r, .string t, .bool d] 35)).alloc (.cells #[.int .i64 0, .string ⟨#[]⟩, .bool false] 35)) := by go_grown
  by_cases h0 : s.size = 0
  · obtain rfl := size_zero h0
    have hd : d = true := by rcases h with h | h; exact h; exact absurd h0 h
    subst hd
    clear h h0
    go_enter Tryz.func30, Tryz.ntmps30
    go_wp2_with fail
    refine (HT.out _).mono ?_
    rintro e w1 ⟨rfl, hb1⟩
    have hB1 := hB.trans (hb1.mono hB.size)
    clear hb1
    go_wp2_with fail
    exact ⟨rfl, rfl, hB1⟩
  · have hem : s.toList.isEmpty = false := empty_noM (by rintro rfl; exact h0 rfl)
    clear h h0
    go_enter Tryz.func30, Tryz.ntmps30
    go_wp2_with fail
    refine (HT.out _).mono ?_
    rintro e w1 ⟨rfl, hb1⟩
    have hB1 := hB.trans (hb1.mono hB.size)
    clear hb1
    go_wp2_with fail
    exact ⟨rfl, rfl, hB1⟩
theorem implPassed (k : Snk) (s : ByteArray) (w : World) (hl : (tellK k s).dead = false) (hr : k.room ≤ 9223372036854775807) (ht : k.taken.size ≤ 1048576) (hs : s.size ≤ 140737488355328 - 1048576) :
    Calls Tryz.prog 30 #[.agg (snkV k), .string s] w fun e w' => e = .returned (.agg (snkV (tellK k s))) ∧ Below w.heap.size w w' := by
  by_cases h0 : s.size = 0
  · obtain rfl := size_zero h0
    have e : tellK k ⟨#[]⟩ = k := if_pos rfl
    rw [e] at hl ⊢
    exact passed_none k w hl
  · rw [tellK_full k s h0] at hl ⊢
    exact passed_take k _ s w (.inr h0) fun W => take_yes k s W hl hr ht hs
theorem implPassedDies (k : Snk) (s : ByteArray) (w : World) (hl : (tellK k s).dead = true) (ht : k.taken.size ≤ 1048576) (hs : s.size ≤ 140737488355328 - 1048576) :
    Calls Tryz.prog 30 #[.agg (snkV k), .string s] w fun e w' => e = .panicked [{ v := sinkPV (tellK k s), recovered := false }] ∧ Below w.heap.size w w' := by
  have hor : k.dead = true ∨ s.size ≠ 0 := by
    by_cases h0 : s.size = 0
    · left
      have e : tellK k s = k := if_pos h0
      rw [e] at hl
      exact hl
    · exact .inr h0
  have e : tellK k s = takeK k s := by
    rcases hor with h | h
    · exact tellK_dead k s h
    · exact tellK_full k s h
  rw [e] at hl ⊢
  exact passed_dies k _ s w hor fun W => take_no k s W hl ht hs
end Go.Proofs.YtooanejiadbngaaGreatDoor

/- errors.As by its contracts, at a target of a pointer type: a nil error; an error of just that type. After the kit's worked example. -/
namespace Go.Proofs.YtooanejiadbngaaGreatDoor
open Go.RowKit Go.Extern.Stop Go.Stop Go.Extern
set_option linter.unusedVariables false

theorem as_nil (t : Value) (w : World) :
    Calls Tryz.prog 36 #[.nilIface, t] w fun e w' => e = .returned (.bool false) ∧ w' = w := by
  go_enter Tryz.func36, Tryz.ntmps36
  go_wp2
  go_ret
  exact ⟨rfl, rfl⟩

theorem asValueOfP (t : Addr) (w : World) : (ReflectliteValue.unpack (.iface 92 (.pointer (some t)))).run Tryz.prog w
    = .ok (.agg #[.pointer (some ⟨5, 92, none⟩), .pointer (some ⟨w.heap.size, 0, none⟩), .int .u64 150]) (w.alloc (.cells #[.pointer (some t)] 92)) := by kernel_rfl
theorem asTypeP (a : Addr) (w : World) : (ReflectliteValue.methodAny (ReflectliteValue.valueError "reflectlite.Value.Type" 0) (fun t _ _ _ => ReflectliteType.toType t) #[.agg #[.pointer (some ⟨5, 92, none⟩), .pointer (some a), .int .u64 150]]).run Tryz.prog w
    = .ok (.iface 142 (.agg #[.pointer (some ⟨5, 92, none⟩)])) w := by kernel_rfl
theorem asMethodKind (h : Value) (w : World) : (Go.method 317 142 (.agg #[h]) "Kind").run Tryz.prog w = .ok (111, h) w := by kernel_rfl
theorem asKindP (w : World) : ((ReflectliteType.abiMethod fun t => (fun a : Nat => Value.int IntKind.u8 (a : Int)) <$> Rtype.kind t) #[.pointer (some ⟨5, 92, none⟩)]).run Tryz.prog w = .ok (.int .u8 22) w := by kernel_rfl
theorem asKindE (w : World) : ((ReflectliteType.abiMethod fun t => (fun a : Nat => Value.int IntKind.u8 (a : Int)) <$> Rtype.kind t) #[.pointer (some ⟨5, 87, none⟩)]).run Tryz.prog w = .ok (.int .u8 25) w := by kernel_rfl

theorem rlm (z : Sem Value) (f : TypeId → Addr → Nat → Nat → Sem Value) (v : Value) :
    ReflectliteValue.method z f #[v] = (do match ← ReflectliteValue.parts v with | none => z | some (t, a, fl) => f t a fl (fl % 32)) := rfl
theorem asPartsP (a : Addr) (w : World) : (ReflectliteValue.parts (.agg #[.pointer (some ⟨5, 92, none⟩), .pointer (some a), .int .u64 150])).run Tryz.prog w = .ok (some (92, a, 150)) w := by kernel_rfl
theorem asIsNilP (a p : Addr) (W : World) (ha : W.cell? a = some (.pointer (some p))) :
    (ReflectliteValue.method (ReflectliteValue.valueError "reflectlite.Value.IsNil" 0) ReflectliteValue.isNil #[.agg #[.pointer (some ⟨5, 92, none⟩), .pointer (some a), .int .u64 150]]).run Tryz.prog W = .ok (.bool false) W := by
  rw [rlm]
  simp only [Sem.run_bind, asPartsP, Result.andThen]
  simp [ReflectliteValue.isNil, loadVar, isAgg, underlying, Tryz.underlying92, ha, Result.andThen]

theorem asMethodElem (h : Value) (w : World) : (Go.method 317 142 (.agg #[h]) "Elem").run Tryz.prog w = .ok (122, .agg #[h]) w := by kernel_rfl
theorem asMethodImplements (h : Value) (w : World) : (Go.method 317 142 (.agg #[h]) "Implements").run Tryz.prog w = .ok (123, .agg #[h]) w := by kernel_rfl
theorem asMethodAssignableTo (h : Value) (w : World) : (Go.method 317 142 (.agg #[h]) "AssignableTo").run Tryz.prog w = .ok (120, .agg #[h]) w := by kernel_rfl
theorem asElemP (w : World) : (ReflectliteType.method ReflectliteType.elem #[.agg #[.pointer (some ⟨5, 92, none⟩)]]).run Tryz.prog w = .ok (.iface 142 (.agg #[.pointer (some ⟨5, 87, none⟩)])) w := by kernel_rfl
theorem asImplE (w : World) : (ReflectliteType.relation "Implements" ReflectliteType.implements_ #[.agg #[.pointer (some ⟨5, 87, none⟩)], .iface 142 (.agg #[.pointer (some ⟨5, 89, none⟩)])]).run Tryz.prog w = .ok (.bool true) w := by kernel_rfl
theorem asTypeOfE (v : Value) (w : World) : (ReflectliteType.typeOf #[.iface 87 v]).run Tryz.prog w = .ok (.iface 142 (.agg #[.pointer (some ⟨5, 87, none⟩)])) w := by kernel_rfl
theorem asAssignE (w : World) : (ReflectliteType.relation "AssignableTo" ReflectliteType.assignableTo #[.agg #[.pointer (some ⟨5, 87, none⟩)], .iface 142 (.agg #[.pointer (some ⟨5, 87, none⟩)])]).run Tryz.prog w = .ok (.bool true) w := by kernel_rfl
theorem asValueOfE (r : Int) (s : ByteArray) (d : Bool) (w : World) : (ReflectliteValue.unpack (.iface 87 (.agg #[.int .i64 r, .string s, .bool d]))).run Tryz.prog w
    = .ok (.agg #[.pointer (some ⟨5, 87, none⟩), .pointer (some ⟨w.heap.size, 0, none⟩), .int .u64 153]) (w.alloc (.cells #[.int .i64 r, .string s, .bool d] 87)) := by kernel_rfl

theorem asElemOfP (w : World) : (Rtype.elem? 92).run Tryz.prog w = .ok (some 87) w := by kernel_rfl
theorem asMkE (p : Addr) (w : World) : (ReflectliteValue.mk 87 p ReflectliteValue.flagAddr).run Tryz.prog w = .ok (.agg #[.pointer (some ⟨5, 87, none⟩), .pointer (some p), .int .u64 409]) w := by kernel_rfl
theorem asElemVP (a p : Addr) (W : World) (ha : W.cell? a = some (.pointer (some p))) :
    (ReflectliteValue.method (ReflectliteValue.valueError "reflectlite.Value.Elem" 0) ReflectliteValue.elem #[.agg #[.pointer (some ⟨5, 92, none⟩), .pointer (some a), .int .u64 150]]).run Tryz.prog W
      = .ok (.agg #[.pointer (some ⟨5, 87, none⟩), .pointer (some p), .int .u64 409]) W := by
  rw [rlm]
  simp only [Sem.run_bind, asPartsP, Result.andThen]
  simp [ReflectliteValue.elem, loadVar, isAgg, underlying, Tryz.underlying92, ha, Result.andThen, asElemOfP, asMkE]
theorem rls (v x : Value) : ReflectliteValue.set #[v, x] = (do
    let (some (dst, a, fl), some (src, b, _)) := (← ReflectliteValue.parts v, ← ReflectliteValue.parts x)
      | unsupported (.noEntry "extern/(internal/reflectlite.Value).Set.zeroValue")
    if fl / ReflectliteValue.flagAddr % 2 == 0 then unsupported (.noEntry "extern/(internal/reflectlite.Value).Set.unaddressable")
    let val ← loadVar src b
    if ← Rtype.directlyAssignable dst src then storeVar dst a val
    else if ← Rtype.implements dst src then
      if (← Rtype.kind src) == 20 then
        match val with
        | .nilIface => unsupported (.noEntry "extern/reflectlite: a nil value of one interface type handed on as a value of another")
        | _ => storeVar dst a val
      else storeVar dst a (.iface src val)
    else panicString ("reflectlite.Set: value of type " ++ (← Rtype.spelt src) ++ " is not assignable to type " ++ (← Rtype.spelt dst))
    pure (.tuple #[])) := rfl
theorem asPartsEa (a : Addr) (w : World) : (ReflectliteValue.parts (.agg #[.pointer (some ⟨5, 87, none⟩), .pointer (some a), .int .u64 409])).run Tryz.prog w = .ok (some (87, a, 409)) w := by kernel_rfl
theorem asPartsE (a : Addr) (w : World) : (ReflectliteValue.parts (.agg #[.pointer (some ⟨5, 87, none⟩), .pointer (some a), .int .u64 153])).run Tryz.prog w = .ok (some (87, a, 153)) w := by kernel_rfl
theorem asDirectE (w : World) : (Rtype.directlyAssignable 87 87).run Tryz.prog w = .ok true w := by kernel_rfl
theorem asSetE (g b : Nat) (r : Int) (s : ByteArray) (d : Bool) (old : Array Value) (ho : old.size = 3) (W : World) (hb : Blk W b 87 #[.int .i64 r, .string s, .bool d]) (ht : Blk W g 87 old) :
    (ReflectliteValue.set #[.agg #[.pointer (some ⟨5, 87, none⟩), .pointer (some ⟨g, 0, none⟩), .int .u64 409], .agg #[.pointer (some ⟨5, 87, none⟩), .pointer (some ⟨b, 0, none⟩), .int .u64 153]]).run Tryz.prog W
      = .ok (.tuple #[]) (W.setRow g #[.int .i64 r, .string s, .bool d]) := by
  rw [rls]
  simp only [Sem.run_bind, asPartsEa, asPartsE, Result.andThen]
  have c0 := hb.cell 0
  have c1 := hb.cell 1
  have c2 := hb.cell 2
  simp at c0 c1 c2
  have h1 : (loadVar 87 ⟨b, 0, none⟩).run Tryz.prog W = .ok (.agg #[.int .i64 r, .string s, .bool d]) W := run_loadVar_mid W b 0 87 [.int .i64 r, .string s, .bool d] _ (fun j v hv => by
    match j, hv with
    | 0, hv => obtain rfl := Option.some.inj hv; exact c0
    | 1, hv => obtain rfl := Option.some.inj hv; exact c1
    | 2, hv => obtain rfl := Option.some.inj hv; exact c2) Tryz.underlying87 rfl (by kernel_rfl)
  have h2 : (storeVar 87 ⟨g, 0, none⟩ (.agg #[.int .i64 r, .string s, .bool d])).run Tryz.prog W = .ok () (W.setRow g #[.int .i64 r, .string s, .bool d]) := by
    rw [run_storeVar_part W g 0 87 87 old #[.int .i64 r, .string s, .bool d] ht (by kernel_rfl) (by simp [ho]) (by simp [Value.oneCell'])]
    have hl : old.toList.length = 3 := by simpa using ho
    simp
    rw [List.drop_of_length_le (by omega)]
  simp [ReflectliteValue.flagAddr, h1, h2, Result.andThen, asDirectE]

set_option maxHeartbeats 4000000 in
theorem as_hit (r : Int) (s : ByteArray) (d : Bool) (g : Nat) (old : Array Value) (ho : old.size = 3) (w : World) (hg : w.cell? ⟨0, 0, none⟩ = some (.iface 142 (.agg #[.pointer (some ⟨5, 89, none⟩)]))) (ht0 : Blk w g 87 old) :
    Calls Tryz.prog 36 #[.iface 87 (.agg #[.int .i64 r, .string s, .bool d]), .iface 92 (.pointer (some ⟨g, 0, none⟩))] w fun ev w' => ev = .returned (.bool true) ∧ w' = ((((w.alloc (.cells #[.pointer (some ⟨g, 0, none⟩)] 92)).alloc (.cells #[.pointer (some ⟨5, 92, none⟩), .pointer (some ⟨w.heap.size, 0, none⟩), .int .u64 150] 118)).alloc (.cells #[.pointer (some ⟨5, 92, none⟩), .pointer (some ⟨w.heap.size, 0, none⟩), .int .u64 150] 118)).alloc (.cells #[.int .i64 r, .string s, .bool d] 87)).setRow g #[.int .i64 r, .string s, .bool d] := by
  have h6 := @run_callFunc_extern Tryz.prog 50 _ (fun args => ReflectliteValue.unpack (args.getD 0 (.tuple #[]))) Tryz.func50 (by kernel_rfl) (by kernel_rfl) (by kernel_rfl) (by kernel_rfl)
  have h7 := @run_callFunc_extern Tryz.prog 51 _ (ReflectliteValue.methodAny (ReflectliteValue.valueError "reflectlite.Value.Type" 0) (fun t _ _ _ => ReflectliteType.toType t)) Tryz.func51 (by kernel_rfl) (by kernel_rfl) (by kernel_rfl) (by kernel_rfl)
  have h8 := @run_callFunc_extern Tryz.prog 52 _ (ReflectliteValue.method (ReflectliteValue.valueError "reflectlite.Value.IsNil" 0) ReflectliteValue.isNil) Tryz.func52 (by kernel_rfl) (by kernel_rfl) (by kernel_rfl) (by kernel_rfl)
  have h27 := @run_callFunc_extern Tryz.prog 111 _ (ReflectliteType.abiMethod fun t => do pure (.int .u8 (← Rtype.kind t))) Tryz.func111 (by kernel_rfl) (by kernel_rfl) (by kernel_rfl) (by kernel_rfl)
  have h37 := @run_callFunc_extern Tryz.prog 122 _ (ReflectliteType.method ReflectliteType.elem) Tryz.func122 (by kernel_rfl) (by kernel_rfl) (by kernel_rfl) (by kernel_rfl)
  have h38 := @run_callFunc_extern Tryz.prog 123 _ (ReflectliteType.relation "Implements" ReflectliteType.implements_) Tryz.func123 (by kernel_rfl) (by kernel_rfl) (by kernel_rfl) (by kernel_rfl)
  have h10 := @run_callFunc_extern Tryz.prog 65 _ ReflectliteType.typeOf Tryz.func65 (by kernel_rfl) (by kernel_rfl) (by kernel_rfl) (by kernel_rfl)
  have h35 := @run_callFunc_extern Tryz.prog 120 _ (ReflectliteType.relation "AssignableTo" ReflectliteType.assignableTo) Tryz.func120 (by kernel_rfl) (by kernel_rfl) (by kernel_rfl) (by kernel_rfl)
  have h11 := @run_callFunc_extern Tryz.prog 66 _ (ReflectliteValue.method (ReflectliteValue.valueError "reflectlite.Value.Elem" 0) ReflectliteValue.elem) Tryz.func66 (by kernel_rfl) (by kernel_rfl) (by kernel_rfl) (by kernel_rfl)
  have h12 := @run_callFunc_extern Tryz.prog 67 _ ReflectliteValue.set Tryz.func67 (by kernel_rfl) (by kernel_rfl) (by kernel_rfl) (by kernel_rfl)
  have tO := asTypeOfE
  have mA := asMethodAssignableTo
  have a25 := asAssignE
  have v25 := asValueOfE
  have f6 := asValueOfP
  have f7 := asTypeP
  have mK := asMethodKind
  have mE := asMethodElem
  have mI := asMethodImplements
  have k27 := asKindP
  have k25 := asKindE
  have e27 := asElemP
  have i25 := asImplE
  have n8 := asIsNilP ⟨w.heap.size, 0, none⟩ ⟨g, 0, none⟩ ((w.alloc (.cells #[.pointer (some ⟨g, 0, none⟩)] 92)).alloc (.cells #[.pointer (some ⟨5, 92, none⟩), .pointer (some ⟨w.heap.size, 0, none⟩), .int .u64 150] 118)) (by simp)
  have hlt : 0 < w.heap.size := by
    rcases Nat.lt_or_ge 0 w.heap.size with h | h
    · exact h
    · simp [World.cell?, Array.getElem?_eq_none h] at hg
  have hg2 : ((w.alloc (.cells #[.pointer (some ⟨g, 0, none⟩)] 92)).alloc (.cells #[.pointer (some ⟨5, 92, none⟩), .pointer (some ⟨w.heap.size, 0, none⟩), .int .u64 150] 118)).cell? ⟨0, 0, none⟩ = some (.iface 142 (.agg #[.pointer (some ⟨5, 89, none⟩)])) := by
    rw [World.cell?_alloc_lt _ _ ⟨0, 0, none⟩ (by simp <;> omega), World.cell?_alloc_lt _ _ ⟨0, 0, none⟩ hlt]; exact hg
  have el := asElemVP ⟨w.heap.size, 0, none⟩ ⟨g, 0, none⟩ (((w.alloc (.cells #[.pointer (some ⟨g, 0, none⟩)] 92)).alloc (.cells #[.pointer (some ⟨5, 92, none⟩), .pointer (some ⟨w.heap.size, 0, none⟩), .int .u64 150] 118)).alloc (.cells #[.pointer (some ⟨5, 92, none⟩), .pointer (some ⟨w.heap.size, 0, none⟩), .int .u64 150] 118)) (by rw [World.cell?_alloc_lt _ _ ⟨w.heap.size, 0, none⟩ (by simp <;> omega)]; simp)
  have hW : Below w.heap.size w (((((w.alloc (.cells #[.pointer (some ⟨g, 0, none⟩)] 92)).alloc (.cells #[.pointer (some ⟨5, 92, none⟩), .pointer (some ⟨w.heap.size, 0, none⟩), .int .u64 150] 118)).alloc (.cells #[.pointer (some ⟨5, 92, none⟩), .pointer (some ⟨w.heap.size, 0, none⟩), .int .u64 150] 118)).alloc (.cells #[.int .i64 r, .string s, .bool d] 87))) := by go_grown
  have st := asSetE g (w.heap.size + 1 + 1 + 1) r s d old ho (((((w.alloc (.cells #[.pointer (some ⟨g, 0, none⟩)] 92)).alloc (.cells #[.pointer (some ⟨5, 92, none⟩), .pointer (some ⟨w.heap.size, 0, none⟩), .int .u64 150] 118)).alloc (.cells #[.pointer (some ⟨5, 92, none⟩), .pointer (some ⟨w.heap.size, 0, none⟩), .int .u64 150] 118)).alloc (.cells #[.int .i64 r, .string s, .bool d] 87))) (by
    have hn := Blk.new ((((w.alloc (.cells #[.pointer (some ⟨g, 0, none⟩)] 92)).alloc (.cells #[.pointer (some ⟨5, 92, none⟩), .pointer (some ⟨w.heap.size, 0, none⟩), .int .u64 150] 118)).alloc (.cells #[.pointer (some ⟨5, 92, none⟩), .pointer (some ⟨w.heap.size, 0, none⟩), .int .u64 150] 118))) 87 #[.int .i64 r, .string s, .bool d]
    simpa using hn) (ht0.after hW)
  clear hW
  go_enter Tryz.func36, Tryz.ntmps36
  go_wp2
  refine wp_loop_rounds 1 ?_
  rw [rounds_succ]
  go_wp2
  go_ret
  exact ⟨rfl, rfl⟩
end Go.Proofs.YtooanejiadbngaaGreatDoor

/- TakeText: the panic of take, recovered in a deferred closure. -/
namespace Go.Proofs.YtooanejiadbngaaGreatDoor
open Go.RowKit
set_option linter.unusedVariables false
set_option linter.unusedSimpArgs false

set_option maxRecDepth 100000 in
set_option maxHeartbeats 1000000 in
theorem failed_no (w : World) :
    Calls Tryz.prog 26 #[.nilIface] w fun e w' => e = .returned (.tuple #[.agg #[.int .i64 0, .string ⟨#[]⟩, .bool false], .bool false]) ∧ Below w.heap.size w w' := by
  have hta : ∀ W : World, (Instr.typeAssert .nilIface 20 89 true).run Tryz.prog W = .ok (.tuple #[.nilIface, .bool false]) W := fun W => by kernel_rfl
  go_enter Tryz.func26, Tryz.ntmps26
  go_wp2
  refine bodyPost_ret (v := .tuple #[.agg #[.int .i64 0, .string ⟨#[]⟩, .bool false], .bool false]) (by simp [results, Tryz.results26, go_sem]) rfl ?_
  refine ⟨rfl, ?_⟩
  go_grown
theorem as_kept (r : Int) (s : ByteArray) (d : Bool) (g : Nat) (old : Array Value) (ho : old.size = 3) (w : World) (hE : ErrT w) (hg : Blk w g 87 old) :
    Calls Tryz.prog 36 #[.iface 87 (.agg #[.int .i64 r, .string s, .bool d]), .iface 92 (.pointer (some ⟨g, 0, none⟩))] w fun e w' => e = .returned (.bool true) ∧ Blk w' g 87 #[.int .i64 r, .string s, .bool d] ∧ Below g w w' := by
  refine (as_hit r s d g old ho w hE hg).mono ?_
  rintro e w' ⟨rfl, rfl⟩
  generalize hX : (World.alloc _ _ : World) = X
  have hb : Below w.heap.size w X := by rw [← hX]; go_grown
  clear hX
  exact ⟨rfl, (hg.after hb).row, below_setRow (hb.mono (Nat.le_of_lt hg.lt)) (Nat.le_refl _) _⟩
set_option maxRecDepth 100000 in
set_option maxHeartbeats 1000000 in
theorem failed_yes (k : Snk) (w : World) (hE : ErrT w) :
    Calls Tryz.prog 26 #[sinkPV k] w fun e w' => e = .returned (.tuple #[.agg (snkV k), .bool true]) ∧ Below w.heap.size w w' := by
  obtain ⟨r, t, d⟩ := k
  unfold sinkPV snkV
  simp only
  have hb2 : Below w.heap.size w ((w.alloc (.cells #[.int .i64 0, .string ⟨#[]⟩, .bool false] 35)).alloc (.cells #[.int .i64 0, .string ⟨#[]⟩, .bool false] 87)) := by go_grown
  have hn := Blk.new (w.alloc (.cells #[.int .i64 0, .string ⟨#[]⟩, .bool false] 35)) 87 #[.int .i64 0, .string ⟨#[]⟩, .bool false]
  rw [show (w.alloc (.cells #[.int .i64 0, .string ⟨#[]⟩, .bool false] 35)).heap.size = w.heap.size + 1 by simp] at hn
  have HA := Lib.hid (as_kept r t d (w.heap.size + 1) _ rfl ((w.alloc (.cells #[.int .i64 0, .string ⟨#[]⟩, .bool false] 35)).alloc (.cells #[.int .i64 0, .string ⟨#[]⟩, .bool false] 87)) (hE.below hb2) hn)
  clear hb2 hn
  have hta : ∀ W : World, (Instr.typeAssert (.iface 87 (.agg #[.int .i64 r, .string t, .bool d])) 20 89 true).run Tryz.prog W = .ok (.tuple #[.iface 87 (.agg #[.int .i64 r, .string t, .bool d]), .bool true]) W := fun W => by kernel_rfl
  go_enter Tryz.func26, Tryz.ntmps26
  go_wp2_with fail
  refine HA.out.mono ?_
  rintro e w1 ⟨rfl, hf1, hb1⟩
  have hN := ((Blk.new w 35 #[.int .i64 0, .string ⟨#[]⟩, .bool false]).after ((Below.refl _ _).alloc (Nat.le_refl _) (.cells #[.int .i64 0, .string ⟨#[]⟩, .bool false] 87)))
  have hN1 := hN.below hb1 (by omega)
  have B1 := Lib.hid (((by go_grown : Below w.heap.size w ((w.alloc (.cells #[.int .i64 0, .string ⟨#[]⟩, .bool false] 35)).alloc (.cells #[.int .i64 0, .string ⟨#[]⟩, .bool false] 87)))).trans (hb1.mono (by omega)))
  have c0 := hf1.cell 0
  have c1 := hf1.cell 1
  have c2 := hf1.cell 2
  simp at c0 c1 c2
  clear hb1 hN
  go_wp2_with (refine wpList_store_row rfl _ _ _ rfl w.heap.size #[.int .i64 r, .string t, .bool d] rfl rfl 35 _ hN1 size_snkT rfl (by simp [Value.oneCell']) ?_)
  have hR := hN1.row (cs' := #[.int .i64 r, .string t, .bool d])
  have d0 := hR.cell 0
  have d1 := hR.cell 1
  have d2 := hR.cell 2
  simp at d0 d1 d2
  exact bodyPost_ret (v := .tuple #[.agg #[.int .i64 r, .string t, .bool d], .bool true]) (by simp [results, Tryz.results26, go_sem, d0, d1, d2]) rfl ⟨rfl, below_setRow B1.out (Nat.le_refl _) _⟩
end Go.Proofs.YtooanejiadbngaaGreatDoor

/- The program's RunOp: an operation on a session whose sink may fail. -/
namespace Go.Proofs.YtooanejiadbngaaGreatDoor
open Go.RowKit
set_option linter.unusedVariables false
set_option linter.unusedSimpArgs false

theorem size_sesR : (Tryz.prog.info? 37).map (·.size) = some 13 := by kernel_rfl
theorem size_wrR : (Tryz.prog.info? 33).map (·.size) = some 10 := by kernel_rfl
theorem one_wrR (m t p d : Int) (fr fd fl fe fm : Bool) (h : ByteArray) : (#[.int .i64 m, .int .i64 t, .int .i64 p, .int .i64 d, .bool fr, .bool fd, .bool fl, .bool fe, .bool fm, .string h] : Array Value).all (·.oneCell') = true := by simp [Value.oneCell']
theorem Blk.elevenR {W : World} {g : Nat} {T : TypeId} {x0 x1 x2 x3 x4 : Int} {x5 x6 x7 x8 x9 : Bool} {x10 : ByteArray} (hb : Blk W g T #[.int .i64 x0, .int .i64 x1, .int .i64 x2, .int .i64 x3, .int .i64 x4, .bool x5, .bool x6, .bool x7, .bool x8, .bool x9, .string x10]) :
    W.cell? ⟨g, 0, none⟩ = some (.int .i64 x0) ∧ W.cell? ⟨g, 1, none⟩ = some (.int .i64 x1) ∧ W.cell? ⟨g, 2, none⟩ = some (.int .i64 x2) ∧ W.cell? ⟨g, 3, none⟩ = some (.int .i64 x3) ∧ W.cell? ⟨g, 4, none⟩ = some (.int .i64 x4) ∧ W.cell? ⟨g, 5, none⟩ = some (.bool x5) ∧ W.cell? ⟨g, 6, none⟩ = some (.bool x6) ∧ W.cell? ⟨g, 7, none⟩ = some (.bool x7) ∧ W.cell? ⟨g, 8, none⟩ = some (.bool x8) ∧ W.cell? ⟨g, 9, none⟩ = some (.bool x9) ∧ W.cell? ⟨g, 10, none⟩ = some (.string x10) :=
  ⟨hb.cell 0, hb.cell 1, hb.cell 2, hb.cell 3, hb.cell 4, hb.cell 5, hb.cell 6, hb.cell 7, hb.cell 8, hb.cell 9, hb.cell 10⟩
/-- A row laid anew leaves other blocks. -/
theorem Blk.rowElse {W : World} {g q : Nat} {T : TypeId} {cs ds : Array Value} (h : Blk W g T cs) (hq : g ≠ q) : Blk (W.setRow q ds) g T cs := by
  unfold Blk at h ⊢
  rw [setRow_other _ _ _ _ hq]
  exact h

set_option maxRecDepth 100000 in
set_option maxHeartbeats 2000000 in
theorem catchRun_panicking (k : Snk) (ga go : Nat) (x : Int) (c : Cfg) (h : ByteArray) (k0 : Snk) (older : List PanicEntry) (w : World) (ha : Blk w ga 37 (sesV c h k0)) (ho : Blk w go 3 #[.int .i64 x]) (hag : ga < go) (hE : ErrT w) :
    CallsD Tryz.prog 25 #[.pointer (some ⟨ga, 0, none⟩), .pointer (some ⟨go, 0, none⟩)] (.panicking ({ v := sinkPV k, recovered := false } :: older)) w fun e u' w' =>
      e = .returned (.tuple #[]) ∧ u' = .panicking ({ v := sinkPV k, recovered := true } :: older) ∧ Blk w' ga 37 (sesV c h k) ∧ Blk w' go 3 #[.int .i64 3] ∧ Below ga w w' := by
  have HF := Lib.hid (failed_yes k w hE)
  obtain ⟨m, t, p, d, fr, fd, fl, fe, fm⟩ := c
  obtain ⟨r, tk, dd⟩ := k
  obtain ⟨r0, tk0, dd0⟩ := k0
  unfold sinkPV snkV sesV at *
  simp only at *
  refine callsD_of_wpS Tryz.func25 rfl fun c₀ cs hu => ?_
  apply wpS_seq
  apply wpS_region
  simp [wpOpsS, go_sem, recoverD, hu, Tryz.ntmps25, Exit.thenS]
  refine HF.out.mono ?_
  rintro e w1 ⟨rfl, hb1⟩
  have ha1 := ha.after hb1
  have ho1 := ho.after hb1
  clear HF
  simp [go_sem, Oper.upon, wpOpsS, Exit.thenS]
  refine wpS_of_wp ?_
  rw [show (Array.replicate 10 undef : Array Value) = #[undef, undef, undef, undef, undef, undef, undef, undef, undef, undef] from rfl]
  simp only [List.setIfInBounds_toArray, List.set_cons_zero, List.set_cons_succ, List.append_toArray, List.cons_append, List.nil_append]
  have hD : Below w1.heap.size w1 (w1.alloc (.cells #[.int .i64 r, .string tk, .bool dd] 35)) := (Below.refl _ _).alloc (Nat.le_refl _) _
  have ha2 := ha1.after hD
  have ho2 := ho1.after hD
  have hB2 : Below ga w (w1.alloc (.cells #[.int .i64 r, .string tk, .bool dd] 35)) := (hb1.trans (hD.mono hb1.size)).mono (Nat.le_of_lt ha.lt)
  clear hD ha1 ho1 hb1
  have ho3 := ho2.rowElse (q := ga) (ds := #[.int .i64 m, .int .i64 t, .int .i64 p, .int .i64 d, .bool fr, .bool fd, .bool fl, .bool fe, .bool fm, .string h, .int .i64 r, .string tk, .bool dd]) (by omega)
  have o0 := ho3.cell 0
  have of := ho3.free 0
  simp at o0
  go_wp2_with (refine wpList_store_part rfl _ _ _ rfl ga 10 #[.int .i64 r, .string tk, .bool dd] rfl rfl 37 _ #[.int .i64 m, .int .i64 t, .int .i64 p, .int .i64 d, .bool fr, .bool fd, .bool fl, .bool fe, .bool fm, .string h, .int .i64 r, .string tk, .bool dd] ha2 size_snkT (by simp) (one_snk _ _ _) rfl ?_)
  have hof := ho3.set 0 (.int .i64 3)
  have hag2 := (ha2.row (cs' := #[.int .i64 m, .int .i64 t, .int .i64 p, .int .i64 d, .bool fr, .bool fd, .bool fl, .bool fe, .bool fm, .string h, .int .i64 r, .string tk, .bool dd])).other (g' := go) (j := 0) (u := .int .i64 3) (by omega)
  have hbw := ((below_setRow hB2 (Nat.le_refl _) #[.int .i64 m, .int .i64 t, .int .i64 p, .int .i64 d, .bool fr, .bool fd, .bool fl, .bool fe, .bool fm, .string h, .int .i64 r, .string tk, .bool dd]).setCell (p := ⟨go, 0, none⟩) (Nat.le_of_lt hag) (.int .i64 3))
  exact ⟨rfl, _, rfl, .tuple #[], by simp [results, Tryz.results25, go_sem], rfl, rfl, hag2, hof, hbw⟩
set_option maxRecDepth 100000 in
set_option maxHeartbeats 2000000 in
theorem catchRun_idle (p q : Value) (w : World) :
    CallsD Tryz.prog 25 #[p, q] .returning w fun e u' w' => e = .returned (.tuple #[]) ∧ u' = .returning ∧ Below w.heap.size w w' := by
  have HF := Lib.hid (failed_no w)
  refine callsD_of_wpS Tryz.func25 rfl fun c₀ cs hu => ?_
  apply wpS_seq
  apply wpS_region
  simp [wpOpsS, go_sem, recoverD, hu, Tryz.ntmps25, Exit.thenS]
  refine HF.out.mono ?_
  rintro e w1 ⟨rfl, hb1⟩
  clear HF
  simp [go_sem, Oper.upon, wpOpsS, Exit.thenS]
  refine wpS_of_wp ?_
  rw [show (Array.replicate 10 undef : Array Value) = #[undef, undef, undef, undef, undef, undef, undef, undef, undef, undef] from rfl]
  simp only [List.setIfInBounds_toArray, List.set_cons_zero, List.set_cons_succ, List.append_toArray, List.cons_append, List.nil_append]
  have hD : Below w.heap.size w (w1.alloc (.cells #[.int .i64 0, .string ⟨#[]⟩, .bool false] 35)) := hb1.alloc hb1.size _
  go_wp2_with fail
  cases c₀
  simp only at hu
  subst hu
  exact ⟨rfl, _, rfl, .tuple #[], by simp [results, Tryz.results25, go_sem], rfl, rfl, hD⟩
end Go.Proofs.YtooanejiadbngaaGreatDoor
