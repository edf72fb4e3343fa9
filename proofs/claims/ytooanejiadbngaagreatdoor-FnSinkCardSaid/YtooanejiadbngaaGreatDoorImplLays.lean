/- The program's LayLines: the lines laid one behind the other, each copied into its place. -/
import Derived.Test.YtooanejiadbngaaGreatDoorImplLay
import Derived.Test.YtooanejiadbngaaGreatDoorImplWid
import Derived.Test.YtooanejiadbngaaGreatDoorRowF
import Derived.Lib.BufferWrite
import Derived.Lib.SlBuf
import Derived.Laws.CopyOwn
namespace Go.Proofs.YtooanejiadbngaaGreatDoor
open Go.RowKit
set_option linter.unusedVariables false

/-! ### plain words -/
theorem widF_laid (c : Cfg) {ls : List Ln} (hv : validC c = true) (hf : fitsB ls = true) (i : Nat) : okWs (widF c ls i) = true := by
  unfold okWs
  rw [List.all_eq_true]
  intro n hn
  have h0 := widF_bd c ls hv i n hn
  obtain ⟨k, hk, he⟩ := List.mem_iff_getElem.1 hn
  rw [widF_size] at hk
  obtain ⟨s, _, _, _, hg⟩ := widF_blk c ls i k hk
  rw [List.getElem?_eq_getElem (by rw [widF_size]; exact hk)] at hg
  have h' : (widF c ls i)[k]'(by rw [widF_size]; exact hk) = (blkOf c ls s k).wid := by simpa using hg
  have h1 : n ≤ 100200 := by
    rw [← he, h']
    show blockW c (rmax k (ls.drop s)) ≤ _
    have hr := rmax_bdN 100000 (by omega) (ls.drop s) k (fun j => by rw [cellW_drop]; exact (cellW_pos hf _ _).2)
    have ht := (validC_iff c).1 hv
    unfold blockW
    split
    · rcases roundI_hi c (max c.cmin (rmax k (ls.drop s) + c.cpadding)) hv with h | h <;> omega
    · omega
  simp [h0, h1]
theorem fits_ok {ls : List Ln} (hf : fitsB ls = true) (i : Nat) (hi : i < ls.length) : okCs ls[i].cells = true := by
  unfold okCs
  rw [List.all_eq_true]
  intro y hy
  simpa using (fits_cel hf i hi y hy).1
/-- Line k laid with its blocks' widths. -/
def lineB (c : Cfg) (ls : List Ln) (k : Nat) : ByteArray := match ls[k]? with
  | some l => layLineB c l (widF c ls k)
  | none => ⟨#[]⟩
theorem lineB_at (c : Cfg) (ls : List Ln) (k : Nat) (h : k < ls.length) : lineB c ls k = layLineB c ls[k] (widF c ls k) := by
  unfold lineB
  rw [List.getElem?_eq_getElem h]
/-- What LayLines' walk has to carry. -/
theorem lay_lines_pack (c : Cfg) (ls : List Ln) (hm : FitL ls) : ∃ (n : Nat) (T : Nat → List UInt8), n = widN c ls ∧ n ≤ ls.length ∧ T 0 = [] ∧ (∀ k, k < n → T (k + 1) = T k ++ (lineB c ls k).data.toList) ∧ (∀ k, k ≤ n → (T k).length ≤ 2000000000000) ∧
    (∀ k, k ≤ n → ∃ r, T n = T k ++ r) ∧ (∀ k, k < n → ∃ r, T n = T k ++ (lineB c ls k).data.toList ++ r) ∧ layLinesB c ls = ⟨(T n).toArray⟩ ∧ (∀ k (h : k < ls.length), k < n → ∀ y ∈ ls[k].cells, y.wid ≤ 9223372036854775807) := by
  refine ⟨widN c ls, layTo c ls, rfl, widN_len c ls, rfl, ?_⟩
  cases hok : fitsB ls && validC c with
  | false =>
    have hn : widN c ls = 0 := by unfold widN; rw [hok]; rfl
    rw [hn]
    refine ⟨fun k h => by omega, fun k h => ?_, fun k h => ?_, fun k h => by omega, ?_, fun k h h' => by omega⟩
    · obtain rfl : k = 0 := by omega
      exact Nat.zero_le _
    · obtain rfl : k = 0 := by omega
      exact ⟨[], rfl⟩
    · unfold layLinesB
      rw [hok]
      rfl
  | true =>
    have hn : widN c ls = ls.length := by unfold widN; rw [hok]; rfl
    have hall : layLinesB c ls = ⟨(layTo c ls ls.length).toArray⟩ := by unfold layLinesB; rw [hok, layTo_all]; rfl
    rw [hn]
    simp only [Bool.and_eq_true] at hok
    obtain ⟨hf, hv⟩ := hok
    have hline : ∀ k, k < ls.length → layTo c ls (k + 1) = layTo c ls k ++ (lineB c ls k).data.toList := by
      intro k hk
      rw [layTo_succ c ls k hk, lineB_at c ls k hk, layLineB_yes hv (by rw [widF_size, cellsN_lt ls k hk]) (widF_laid c hv hf k) (fits_ok hf k hk)]
    have hpre : ∀ m, m ≤ ls.length → ∀ k, k ≤ m → ∃ r, layTo c ls m = layTo c ls k ++ r := by
      intro m
      induction m with
      | zero => intro _ k hk; obtain rfl : k = 0 := by omega
                exact ⟨[], by simp⟩
      | succ m ih =>
        intro hm' k hk
        by_cases he : k = m + 1
        · subst he; exact ⟨[], by simp⟩
        · obtain ⟨r, hr⟩ := ih (by omega) k (by omega)
          exact ⟨r ++ (lineB c ls m).data.toList, by rw [hline m (by omega), hr, List.append_assoc]⟩
    refine ⟨hline, fun k hk => layTo_bd c hv hf hm k hk, fun k hk => hpre _ (Nat.le_refl _) k hk, fun k hk => ?_, hall, fun k h _ y hy => by have := fits_cel hf k h y hy; omega⟩
    obtain ⟨r, hr⟩ := hpre _ (Nat.le_refl _) (k + 1) hk
    exact ⟨r, by rw [hr, hline k hk]⟩
theorem Blk.rd {W : World} {g : Nat} {T : TypeId} {cs : Array Value} {xs : List Value} (h : Blk W g T cs) (hx : cs.toList = xs) (c : Nat) : Rd W (.slice (some ⟨g, 0, none⟩) xs.length c) xs :=
  ⟨_, c, rfl, fun _ => ⟨g, 0, rfl, h.lt, fun j u hu => by rw [Nat.zero_add, h.cell j, ← hu, ← hx, Array.getElem?_toList]⟩⟩
/-- A part of a block, no capacity beyond it. -/
def partV (g a n : Nat) : Value := .slice (some (if n = 0 then ⟨g, 0, none⟩ else ⟨g, a, none⟩)) n n
theorem run_part {P : Program} (w : World) (t e : TypeId) (ht : P.underlying t = some (.slice e)) (hz : ∀ w, (Go.sizeOf e).run P w = .ok 1 w) (g a n N : Nat) (i j : Int) (hi : i = (a : Int)) (hj : j = ((a + n : Nat) : Int)) (h : a + n ≤ N) :
    (Instr.slice t (.slice (some ⟨g, 0, none⟩) N N) (some (.int .i64 i)) (some (.int .i64 j)) (some (.int .i64 j))).run P w = .ok (partV g a n) w := by
  subst hi hj
  have ht' : P.underlying t = some (.slice (P.elem t)) := by simp [Program.elem, ht]
  have he : P.elem t = e := by simp [Program.elem, ht]
  rw [run_slice_lhm w t _ _ _ ht' .i64 .i64 .i64 _ _ _ (by omega) (by omega) (Int.le_refl _) (by omega), he, hz]
  unfold partV
  by_cases h0 : n = 0
  · subst h0; simp [Result.andThen, sliced]
  · have h1 : ¬ a + n = a := by omega
    have h2 : a + n - a = n := by omega
    have h3 : ((a : Int) + (n : Int)).toNat = a + n := by omega
    by_cases h4 : a = 0
    · subst h4; simp [Result.andThen, sliced, Addr.add, h0]
    · simp [Result.andThen, sliced, Addr.add, h0, h2, h3, h4]
/-- What 'copy' leaves. -/
def spliceA (cur : Array Value) (a : Nat) (s : ByteArray) : Array Value := (cur.toList.take a ++ u8s s.data.toList ++ cur.toList.drop (a + s.size)).toArray
theorem run_copy_part {P : Program} {w : World} {dT sT ty elem t : TypeId} {g a : Nat} {s : ByteArray} {cur : Array Value} (hu : P.underlying dT = some (.slice elem)) (hs : (P.info? elem).map (·.size) = some 1) (hg : Blk w g t cur) (hfit : a + s.size ≤ cur.size) :
    (Builtin.copy_ #[dT, sT] ty #[partV g a s.size, .string s]).run P w = .ok (.int .i64 (s.size : Int)) (w.setRow g (spliceA cur a s)) := by
  by_cases h0 : s.size = 0
  · have hsp : spliceA cur a s = cur := by
      unfold spliceA
      have : s.data.toList = [] := List.length_eq_zero_iff.1 h0
      rw [this, h0]
      simp [u8s]
    rw [hsp, setRow_self w g cur t _ hg]
    have := Lib.run_copy_empty_string (P := P) w dT sT ty elem (some ⟨g, 0, none⟩) 0 0 s hu (by cases hq : P.info? elem with
      | none => simp [hq] at hs
      | some i => rfl) h0
    unfold partV
    rw [if_pos h0, h0]
    exact this
  · have := Lib.run_copy_row_string (P := P) w dT sT ty elem g a s.size s.size s cur t hu hs hg (Nat.le_refl _) hfit
    unfold partV
    rw [if_neg h0]
    exact this
theorem splice_list (cur : Array Value) (T : List UInt8) (s : ByteArray) (Z : List Value) (h : cur.toList = u8s T ++ Z.drop T.length) (hz : T.length + s.size ≤ Z.length) : (spliceA cur T.length s).toList = u8s (T ++ s.data.toList) ++ Z.drop (T ++ s.data.toList).length := by
  have hl : (u8s T).length = T.length := u8s_len T
  have hs : s.data.toList.length = s.size := rfl
  unfold spliceA
  rw [List.toList_toArray, h, u8s_app, List.take_append_of_le_length (by omega), List.take_of_length_le (by omega), List.drop_append, List.drop_of_length_le (by omega), List.nil_append, List.drop_drop, List.length_append, hs, hl]
  congr 2
  omega
theorem Tryz.infoStrY : (Tryz.prog.info? 9).map (fun i => (i.zero, i.size, i.bytes)) = some (some (.string ByteArray.empty), 1, 16) := by kernel_rfl
theorem Tryz.infoByteY : (Tryz.prog.info? 5).map (fun i => (i.zero, i.size, i.bytes)) = some (some (.int .u8 0), 1, 1) := by kernel_rfl
/-- j cells turned, the others as they were. -/
def turnedTo (j : Nat) (xs ys : List Value) : List Value := xs.take j ++ ys.drop j
theorem turnedTo_zero (xs ys : List Value) : turnedTo 0 xs ys = ys := by simp [turnedTo]
theorem turnedTo_all (xs ys : List Value) (j : Nat) (h : ys.length = xs.length) (hj : j = xs.length) : turnedTo j xs ys = xs := by
  subst hj
  unfold turnedTo
  rw [List.take_length, List.drop_of_length_le (by omega), List.append_nil]
theorem turnedTo_step (j : Nat) (xs ys : List Value) (x : Value) (h : ys.length = xs.length) (hj : j < xs.length) (hx : xs[j]? = some x) : (turnedTo j xs ys).set j x = turnedTo (j + 1) xs ys := by
  unfold turnedTo
  have hl : (xs.take j).length = j := by rw [List.length_take]; omega
  have hx' : xs[j] = x := by rw [List.getElem?_eq_getElem hj] at hx; exact Option.some.inj hx
  rw [List.set_append_right _ _ (by omega), hl, Nat.sub_self, List.drop_eq_getElem_cons (by omega), List.set_cons_zero, List.take_succ_eq_append_getElem hj, List.append_assoc, hx']
  rfl
theorem turnedTo_len (j : Nat) (xs ys : List Value) (h : ys.length = xs.length) (hj : j ≤ xs.length) : (turnedTo j xs ys).length = xs.length := by
  unfold turnedTo
  rw [List.length_append, List.length_take, List.length_drop]
  omega
/-- A text stored into the list of texts. -/
theorem Blk.turn {W : World} {g k : Nat} {T : TypeId} {cs : Array Value} {xs ys : List Value} {x : Value} (h : Blk W g T cs) (hc : cs.toList = turnedTo k xs ys) (hl : ys.length = xs.length) (hk : k < xs.length) (hx : xs[k]? = some x) :
    (∃ y, W.cell? ⟨g, k, none⟩ = some y) ∧ W.frozen? ⟨g, k, none⟩ = false ∧ ∃ cs', Blk (W.setCell ⟨g, k, none⟩ x) g T cs' ∧ cs'.toList = turnedTo (k + 1) xs ys := by
  refine ⟨?_, h.free k, cs.setIfInBounds k x, h.set k x, ?_⟩
  · have hs : k < cs.size := by
      have := turnedTo_len k xs ys hl (by omega)
      rw [← hc, Array.length_toList] at this
      omega
    exact ⟨cs[k], by rw [h.cell k, Array.getElem?_eq_getElem hs]⟩
  · rw [Array.toList_setIfInBounds, hc]
    exact turnedTo_step k xs ys x hl hk hx
theorem set_self (cs : Array Value) (k : Nat) (h : k < cs.size) : cs.setIfInBounds k cs[k] = cs := by
  apply Array.toList_inj.1
  rw [Array.toList_setIfInBounds]
  apply List.ext_getElem?
  intro i
  rw [List.getElem?_set]
  by_cases hi : k = i
  · subst hi
    rw [if_pos rfl, if_pos (by simpa using h)]
    simp [h]
  · rw [if_neg hi]
theorem set_set (cs : Array Value) (k : Nat) (y u : Value) : (cs.setIfInBounds k y).setIfInBounds k u = cs.setIfInBounds k u := by
  apply Array.toList_inj.1
  simp
theorem llS_below {X W W' : World} {H ga ja go k Bl : Nat} {T : TypeId} {cs : Array Value} {m t p d m' f : Int} {fr fd fl fe fm : Bool} {va vr : Value} {x : ByteArray} (hb : Below W.heap.size W W') (h : W.cell? ⟨H, 0, none⟩ = some (.int .i64 m) ∧ W.cell? ⟨H, 1, none⟩ = some (.int .i64 t) ∧ W.cell? ⟨H, 2, none⟩ = some (.int .i64 p) ∧ W.cell? ⟨H, 3, none⟩ = some (.int .i64 d) ∧ W.cell? ⟨H, 4, none⟩ = some (.bool fr) ∧ W.cell? ⟨H, 5, none⟩ = some (.bool fd) ∧ W.cell? ⟨H, 6, none⟩ = some (.bool fl) ∧ W.cell? ⟨H, 7, none⟩ = some (.bool fe) ∧ W.cell? ⟨H, 8, none⟩ = some (.bool fm) ∧ W.cell? ⟨ga, ja, none⟩ = some va ∧ W.cell? ⟨ga, ja + 1, none⟩ = some (.string x) ∧ W.cell? ⟨ga, ja + 2, none⟩ = some (.int .i64 m') ∧ W.cell? ⟨ga, ja + 3, none⟩ = some (.int .i64 f) ∧ W.cell? ⟨go, k, none⟩ = some vr ∧ H < Bl ∧ ga < Bl ∧ go < Bl ∧ Bl ≤ W.heap.size ∧ Below Bl X W ∧ ∃ y, Blk W Bl T (cs.setIfInBounds k y)) : W'.cell? ⟨H, 0, none⟩ = some (.int .i64 m) ∧ W'.cell? ⟨H, 1, none⟩ = some (.int .i64 t) ∧ W'.cell? ⟨H, 2, none⟩ = some (.int .i64 p) ∧ W'.cell? ⟨H, 3, none⟩ = some (.int .i64 d) ∧ W'.cell? ⟨H, 4, none⟩ = some (.bool fr) ∧ W'.cell? ⟨H, 5, none⟩ = some (.bool fd) ∧ W'.cell? ⟨H, 6, none⟩ = some (.bool fl) ∧ W'.cell? ⟨H, 7, none⟩ = some (.bool fe) ∧ W'.cell? ⟨H, 8, none⟩ = some (.bool fm) ∧ W'.cell? ⟨ga, ja, none⟩ = some va ∧ W'.cell? ⟨ga, ja + 1, none⟩ = some (.string x) ∧ W'.cell? ⟨ga, ja + 2, none⟩ = some (.int .i64 m') ∧ W'.cell? ⟨ga, ja + 3, none⟩ = some (.int .i64 f) ∧ W'.cell? ⟨go, k, none⟩ = some vr ∧ H < Bl ∧ ga < Bl ∧ go < Bl ∧ Bl ≤ W'.heap.size ∧ Below Bl X W' ∧ ∃ y, Blk W' Bl T (cs.setIfInBounds k y) := by
  obtain ⟨c0, c1, c2, c3, c4, c5, c6, c7, c8, a0, a1, a2, a3, r0, h1, h2, h3, h4, hx, y, hy⟩ := h
  have hs := hb.size
  refine ⟨(hb.cell (p := ⟨H, 0, none⟩) (by show H < _; omega)).trans c0, (hb.cell (p := ⟨H, 1, none⟩) (by show H < _; omega)).trans c1, (hb.cell (p := ⟨H, 2, none⟩) (by show H < _; omega)).trans c2, (hb.cell (p := ⟨H, 3, none⟩) (by show H < _; omega)).trans c3, (hb.cell (p := ⟨H, 4, none⟩) (by show H < _; omega)).trans c4, (hb.cell (p := ⟨H, 5, none⟩) (by show H < _; omega)).trans c5, (hb.cell (p := ⟨H, 6, none⟩) (by show H < _; omega)).trans c6, (hb.cell (p := ⟨H, 7, none⟩) (by show H < _; omega)).trans c7, (hb.cell (p := ⟨H, 8, none⟩) (by show H < _; omega)).trans c8, (hb.cell (p := ⟨ga, ja, none⟩) (by show ga < _; omega)).trans a0, (hb.cell (p := ⟨ga, ja + 1, none⟩) (by show ga < _; omega)).trans a1, (hb.cell (p := ⟨ga, ja + 2, none⟩) (by show ga < _; omega)).trans a2, (hb.cell (p := ⟨ga, ja + 3, none⟩) (by show ga < _; omega)).trans a3, (hb.cell (p := ⟨go, k, none⟩) (by show go < _; omega)).trans r0, h1, h2, h3, by omega, hx.trans (hb.mono h4), y, hy.after hb⟩
theorem llS_set {X W : World} {H ga ja go k Bl : Nat} {T : TypeId} {cs : Array Value} {m t p d m' f : Int} {fr fd fl fe fm : Bool} {va vr : Value} {x : ByteArray} (u : Value) (h : W.cell? ⟨H, 0, none⟩ = some (.int .i64 m) ∧ W.cell? ⟨H, 1, none⟩ = some (.int .i64 t) ∧ W.cell? ⟨H, 2, none⟩ = some (.int .i64 p) ∧ W.cell? ⟨H, 3, none⟩ = some (.int .i64 d) ∧ W.cell? ⟨H, 4, none⟩ = some (.bool fr) ∧ W.cell? ⟨H, 5, none⟩ = some (.bool fd) ∧ W.cell? ⟨H, 6, none⟩ = some (.bool fl) ∧ W.cell? ⟨H, 7, none⟩ = some (.bool fe) ∧ W.cell? ⟨H, 8, none⟩ = some (.bool fm) ∧ W.cell? ⟨ga, ja, none⟩ = some va ∧ W.cell? ⟨ga, ja + 1, none⟩ = some (.string x) ∧ W.cell? ⟨ga, ja + 2, none⟩ = some (.int .i64 m') ∧ W.cell? ⟨ga, ja + 3, none⟩ = some (.int .i64 f) ∧ W.cell? ⟨go, k, none⟩ = some vr ∧ H < Bl ∧ ga < Bl ∧ go < Bl ∧ Bl ≤ W.heap.size ∧ Below Bl X W ∧ ∃ y, Blk W Bl T (cs.setIfInBounds k y)) : (W.setCell ⟨Bl, k, none⟩ u).cell? ⟨H, 0, none⟩ = some (.int .i64 m) ∧ (W.setCell ⟨Bl, k, none⟩ u).cell? ⟨H, 1, none⟩ = some (.int .i64 t) ∧ (W.setCell ⟨Bl, k, none⟩ u).cell? ⟨H, 2, none⟩ = some (.int .i64 p) ∧ (W.setCell ⟨Bl, k, none⟩ u).cell? ⟨H, 3, none⟩ = some (.int .i64 d) ∧ (W.setCell ⟨Bl, k, none⟩ u).cell? ⟨H, 4, none⟩ = some (.bool fr) ∧ (W.setCell ⟨Bl, k, none⟩ u).cell? ⟨H, 5, none⟩ = some (.bool fd) ∧ (W.setCell ⟨Bl, k, none⟩ u).cell? ⟨H, 6, none⟩ = some (.bool fl) ∧ (W.setCell ⟨Bl, k, none⟩ u).cell? ⟨H, 7, none⟩ = some (.bool fe) ∧ (W.setCell ⟨Bl, k, none⟩ u).cell? ⟨H, 8, none⟩ = some (.bool fm) ∧ (W.setCell ⟨Bl, k, none⟩ u).cell? ⟨ga, ja, none⟩ = some va ∧ (W.setCell ⟨Bl, k, none⟩ u).cell? ⟨ga, ja + 1, none⟩ = some (.string x) ∧ (W.setCell ⟨Bl, k, none⟩ u).cell? ⟨ga, ja + 2, none⟩ = some (.int .i64 m') ∧ (W.setCell ⟨Bl, k, none⟩ u).cell? ⟨ga, ja + 3, none⟩ = some (.int .i64 f) ∧ (W.setCell ⟨Bl, k, none⟩ u).cell? ⟨go, k, none⟩ = some vr ∧ H < Bl ∧ ga < Bl ∧ go < Bl ∧ Bl ≤ (W.setCell ⟨Bl, k, none⟩ u).heap.size ∧ Below Bl X (W.setCell ⟨Bl, k, none⟩ u) ∧ ∃ y, Blk (W.setCell ⟨Bl, k, none⟩ u) Bl T (cs.setIfInBounds k y) := by
  obtain ⟨c0, c1, c2, c3, c4, c5, c6, c7, c8, a0, a1, a2, a3, r0, h1, h2, h3, h4, hx, y, hy⟩ := h
  have hb : Below Bl W (W.setCell ⟨Bl, k, none⟩ u) := (Below.refl _ _).setCell (p := ⟨Bl, k, none⟩) (Nat.le_refl _) u
  refine ⟨(hb.cell (p := ⟨H, 0, none⟩) h1).trans c0, (hb.cell (p := ⟨H, 1, none⟩) h1).trans c1, (hb.cell (p := ⟨H, 2, none⟩) h1).trans c2, (hb.cell (p := ⟨H, 3, none⟩) h1).trans c3, (hb.cell (p := ⟨H, 4, none⟩) h1).trans c4, (hb.cell (p := ⟨H, 5, none⟩) h1).trans c5, (hb.cell (p := ⟨H, 6, none⟩) h1).trans c6, (hb.cell (p := ⟨H, 7, none⟩) h1).trans c7, (hb.cell (p := ⟨H, 8, none⟩) h1).trans c8, (hb.cell (p := ⟨ga, ja, none⟩) h2).trans a0, (hb.cell (p := ⟨ga, ja + 1, none⟩) h2).trans a1, (hb.cell (p := ⟨ga, ja + 2, none⟩) h2).trans a2, (hb.cell (p := ⟨ga, ja + 3, none⟩) h2).trans a3, (hb.cell (p := ⟨go, k, none⟩) h3).trans r0, h1, h2, h3, Nat.le_trans h4 hb.size, hx.trans hb, u, ?_⟩
  have hh := hy.set k u
  rw [set_set] at hh
  exact hh
theorem llS_bel {X W : World} {H ga ja go k Bl : Nat} {T : TypeId} {cs : Array Value} {m t p d m' f : Int} {fr fd fl fe fm : Bool} {va vr : Value} {x : ByteArray} (h : W.cell? ⟨H, 0, none⟩ = some (.int .i64 m) ∧ W.cell? ⟨H, 1, none⟩ = some (.int .i64 t) ∧ W.cell? ⟨H, 2, none⟩ = some (.int .i64 p) ∧ W.cell? ⟨H, 3, none⟩ = some (.int .i64 d) ∧ W.cell? ⟨H, 4, none⟩ = some (.bool fr) ∧ W.cell? ⟨H, 5, none⟩ = some (.bool fd) ∧ W.cell? ⟨H, 6, none⟩ = some (.bool fl) ∧ W.cell? ⟨H, 7, none⟩ = some (.bool fe) ∧ W.cell? ⟨H, 8, none⟩ = some (.bool fm) ∧ W.cell? ⟨ga, ja, none⟩ = some va ∧ W.cell? ⟨ga, ja + 1, none⟩ = some (.string x) ∧ W.cell? ⟨ga, ja + 2, none⟩ = some (.int .i64 m') ∧ W.cell? ⟨ga, ja + 3, none⟩ = some (.int .i64 f) ∧ W.cell? ⟨go, k, none⟩ = some vr ∧ H < Bl ∧ ga < Bl ∧ go < Bl ∧ Bl ≤ W.heap.size ∧ Below Bl X W ∧ ∃ y, Blk W Bl T (cs.setIfInBounds k y)) : Below Bl X W := by
  obtain ⟨_, _, _, _, _, _, _, _, _, _, _, _, _, _, _, _, _, _, h, _⟩ := h
  exact h
theorem llS_blk {X W W' : World} {H ga ja go k Bl : Nat} {T : TypeId} {cs : Array Value} {m t p d m' f : Int} {fr fd fl fe fm : Bool} {va vr : Value} {x : ByteArray} (hb : Below W.heap.size W W') (hk : k < cs.size) (h : W.cell? ⟨H, 0, none⟩ = some (.int .i64 m) ∧ W.cell? ⟨H, 1, none⟩ = some (.int .i64 t) ∧ W.cell? ⟨H, 2, none⟩ = some (.int .i64 p) ∧ W.cell? ⟨H, 3, none⟩ = some (.int .i64 d) ∧ W.cell? ⟨H, 4, none⟩ = some (.bool fr) ∧ W.cell? ⟨H, 5, none⟩ = some (.bool fd) ∧ W.cell? ⟨H, 6, none⟩ = some (.bool fl) ∧ W.cell? ⟨H, 7, none⟩ = some (.bool fe) ∧ W.cell? ⟨H, 8, none⟩ = some (.bool fm) ∧ W.cell? ⟨ga, ja, none⟩ = some va ∧ W.cell? ⟨ga, ja + 1, none⟩ = some (.string x) ∧ W.cell? ⟨ga, ja + 2, none⟩ = some (.int .i64 m') ∧ W.cell? ⟨ga, ja + 3, none⟩ = some (.int .i64 f) ∧ W.cell? ⟨go, k, none⟩ = some vr ∧ H < Bl ∧ ga < Bl ∧ go < Bl ∧ Bl ≤ W.heap.size ∧ Below Bl X W ∧ ∃ y, Blk W Bl T (cs.setIfInBounds k y)) : ∃ y, W'.cell? ⟨Bl, k, none⟩ = some y ∧ W'.frozen? ⟨Bl, k, none⟩ = false ∧ Below Bl X W' ∧ ∀ u, Blk (W'.setCell ⟨Bl, k, none⟩ u) Bl T (cs.setIfInBounds k u) := by
  obtain ⟨_, _, _, _, _, _, _, _, _, _, _, _, _, _, _, _, _, h4, hx, y, hy⟩ := h
  have hy' := hy.after hb
  refine ⟨y, by rw [hy'.cell k, Array.getElem?_setIfInBounds_self_of_lt hk], hy'.free k, hx.trans (hb.mono h4), fun u => ?_⟩
  have hh := hy'.set k u
  rw [set_set] at hh
  exact hh
set_option maxRecDepth 100000 in
set_option maxHeartbeats 1000000 in
theorem implLayLines (c : Cfg) (ls : List Ln) (v : Value) (w : World) (hv : RdL w v ls) (hm : FitL ls) :
    Calls Tryz.prog 20 #[.agg (cfgV c), v] w fun e w' => e = .returned (.string (layLinesB c ls)) ∧ Below w.heap.size w w' := by
  have HWO := Lib.hid (fun W (hb : Below w.heap.size w W) => implWidthsOf c ls v W (hv.below hb) hm.wide)
  obtain ⟨n, T, hn, hnl, hT0, hTS, hTB, hTP, hTQ, hRES, hWB⟩ := lay_lines_pack c ls hm
  have HLW := Lib.hid (fun k (h : k < ls.length) => (by rw [widF_size c ls k, cellsN_lt ls k h] : (widF c ls k).length = ls[k].cells.length))
  have HLL := Lib.hid (fun k (h : k < ls.length) (hk : k < n) (va vw : Value) (W : World) (ha : RdC W va ls[k].cells) (hw : Rd W vw (ints (widF c ls k))) => (by
    have hmm := Nat.le_trans (totL_mem ls _ (List.getElem_mem h)) hm.2
    have h1 := implLayLine c ls[k].cells va vw (widF c ls k) ls[k].tail.txt ls[k].tail.wid ls[k].fin W ha hw (by omega) (by rw [widF_size, cellsN_lt ls k h]; omega) (hWB k h hk)
    rw [lineB_at c ls k h]
    exact h1 : Calls Tryz.prog 32 #[.agg (cfgV c), .agg #[va, .string ls[k].tail.txt, .int .i64 ls[k].tail.wid, .int .i64 ls[k].fin], vw] W fun e w' => e = .returned (.string (lineB c ls k)) ∧ Below W.heap.size W w'))
  rw [hRES]
  rw [← hn] at HWO
  have hnm : n ≤ 1048576 := by have := hm.1; omega
  obtain ⟨F, hF⟩ : ∃ F, F = widF c ls := ⟨_, rfl⟩
  obtain ⟨X, hX⟩ : ∃ X, X = lineB c ls := ⟨_, rfl⟩
  rw [← hF] at HWO HLW HLL
  rw [← hX] at HLL hTS hTQ
  obtain ⟨S, hS⟩ : ∃ S, S = strs ((List.range n).map X) := ⟨_, rfl⟩
  have hSl : S.length = n := by rw [hS, strs_length, List.length_map, List.length_range]
  have HSL := Lib.hid hSl
  have HSG : Hid (∀ k, k < n → S[k]? = some (.string (X k))) := Lib.hid (fun k hk => by
    rw [hS, strs_get _ k (by rw [List.length_map, List.length_range]; exact hk)]
    simp)
  have HT0 := Lib.hid hT0
  have HTS := Lib.hid hTS
  have HTB := Lib.hid hTB
  have HTP := Lib.hid hTP
  have HTQ := Lib.hid hTQ
  have hJ : (T n).length ≤ 2000000000000 := hTB n (Nat.le_refl _)
  have HC0 := Lib.hid (Blk.new w 24 (cfgV c))
  have B0 := Lib.hid (by go_grown : Below w.heap.size w (w.alloc (.cells (cfgV c) 24)))
  obtain ⟨iS, hiS, hzS0, hzS1, hzS2⟩ := info_parts Tryz.infoStrY
  obtain ⟨iB, hiB, hzB0, hzB1, hzB2⟩ := info_parts Tryz.infoByteY
  obtain ⟨A, ca, rfl, hA⟩ := hv
  have HA := Lib.hid hA
  obtain ⟨nl, hnl2⟩ : ∃ q, q = ls.length := ⟨_, rfl⟩
  have HNL : Hid (ls.length = nl) := Lib.hid hnl2.symm
  rw [← hnl2] at HWO hnl HA ⊢
  obtain ⟨J, hJ2⟩ : ∃ q, q = (T n).length := ⟨_, rfl⟩
  have HJ := Lib.hid hJ2
  rw [← hJ2] at hJ
  have HRES : Hid (ByteArray.mk (T n).toArray = ⟨(T n).toArray⟩) := Lib.hid rfl
  obtain ⟨res, hres⟩ : ∃ r : ByteArray, r = ⟨(T n).toArray⟩ := ⟨_, rfl⟩
  rw [← hres]
  have HR := Lib.hid hres
  obtain ⟨m, t, p, d, fr, fd, fl, fe, fm⟩ := c
  unfold cfgV at HWO HLL HC0 B0 ⊢
  simp only at HWO HLL HC0 B0 ⊢
  clear hA hm hn hT0 hTS hTB hTP hTQ hRES hWB hF hX hS hSl hnl2 hJ2 hres HRES
  go_enter Tryz.func20, Tryz.ntmps20
  go_wp2_with fail
  refine (HWO.out _ B0.out).mono ?_
  rintro e w1 ⟨u, rfl, ho1, hb1⟩
  have B1 := Lib.hid (B0.out.trans (hb1.mono B0.out.size))
  have HC1 := Lib.hid (HC0.out.after hb1)
  obtain ⟨Au, cu, hu⟩ := ho1.len
  subst hu
  have HO1 := Lib.hid ho1
  have hbw := B1.out.size
  have hcl : w.heap.size < w1.heap.size := HC1.out.lt
  clear hb1 ho1 HC0 B0 HWO
  obtain ⟨Bl, hBl⟩ : ∃ b, b = w1.heap.size := ⟨_, rfl⟩
  have HBL := Lib.hid hBl
  clear hBl
  obtain ⟨Z, hZ⟩ : ∃ Z, Z = (madeCells (Value.string ByteArray.empty).cells (n * 1)).toList := ⟨_, rfl⟩
  have HZL : Hid (Z.length = S.length) := Lib.hid (by rw [hZ, HSL.out]; simp [madeCells])
  have HZ := Lib.hid hZ
  clear hZ
  go_wp2_with (at_make; refine wpList_make_full _ rfl _ _ 30 rfl w1.heap.size 9 iS _ 1 Tryz.underlying30 hiS hzS0 hzS1 _ _ _ _ n rfl rfl rfl rfl (by rw [hzS2]; omega) (by unfold maxLen; omega) (Nat.le_refl _) ?_; intro w2 hown2 hgr2; have HO2 := Lib.hid hown2; have HD2 := Lib.hid ((Below.refl w1.heap.size w1).grown hgr2 (Nat.le_refl _) (fun k hk => by cases hk)); clear hown2 hgr2)
  obtain ⟨cs0, hcs0, hcl0, _⟩ := own_blk HO2.out rfl
  have HK0 := Lib.hid hcs0
  have HCL0 : Hid (cs0.toList = turnedTo 0 S Z) := Lib.hid (by rw [turnedTo_zero, HZ.out]; exact hcl0)
  clear hcs0 hcl0 HO2
  rw [← HBL.out] at HD2 HK0 ⊢
  go_loopw [7, 8, 22] (fun l _ i wr => ∃ (k : Nat) (cs : Array Value), k ≤ n ∧ i = .int .i64 (k : Int) ∧ l = .int .i64 ((T k).length : Int) ∧ Hid (Blk wr Bl 9 cs) ∧ Hid (cs.toList = turnedTo k S Z) ∧ Hid (Below Bl w1 wr)) (fun _ _ i _ => n - (intOf i).toNat)
  case atStart => exact ⟨0, cs0, Nat.zero_le _, rfl, by rw [HT0.out]; rfl, HK0, HCL0, HD2⟩
  case round =>
    obtain ⟨k, cs, hk, rfl, rfl, HK, HCL, HE⟩ := hrel
    have hblw : Bl ≤ wr.heap.size := by have := HE.out.size; rw [← HBL.out] at this; exact this
    by_cases hlt : k < n
    · have HBE : Hid (Below w.heap.size w wr) := Lib.hid (B1.out.trans (HE.out.mono (by rw [HBL.out]; exact hbw)))
      have hknl : k < nl := by omega
      have hkl : k < ls.length := by rw [HNL.out]; exact hknl
      obtain ⟨ga, oa, rfl, hga, hca⟩ := HA.out (by omega)
      obtain ⟨⟨va, p0, hra⟩, p1, p2, p3⟩ := hca k _ (List.getElem?_eq_getElem hkl)
      obtain ⟨go, co, uk, hgo, hg1, hg2, hg3⟩ := HO1.out.row k hlt
      injection hgo with e1 e2 e3
      subst e1 e3
      have HLK := Lib.hid (HLL.out k hkl hlt)
      have hwl := HLW.out k hkl
      have hTk := HTB.out k (by omega)
      have hTk1 := HTB.out (k + 1) (by omega)
      have HTK := Lib.hid (HTS.out k hlt)
      have hxl : (T (k + 1)).length = (T k).length + (X k).size := by rw [HTK.out, List.length_append]; rfl
      have HXL := Lib.hid hxl
      have hx2 : (X k).size ≤ 2000000000000 := by omega
      generalize ls[k] = l at p1 p2 p3 hra HLK hwl
      obtain ⟨cl, ⟨x, m'⟩, f⟩ := l
      simp only at p1 p2 p3 hra HLK hwl
      have HRA := Lib.hid hra
      obtain ⟨Ac, cc, hva, _⟩ := hra
      have HRW := Lib.hid hg3
      obtain ⟨Aw, cw, huk, _⟩ := hg3
      rw [ints_length, hwl] at huk
      subst hva huk
      have HG1 := Lib.hid hg1
      have hgl : go < Bl := by rw [HBL.out]; exact hg2
      have hgb : ga < Bl := by rw [HBL.out]; omega
      have hwb : w.heap.size < Bl := by rw [HBL.out]; exact hcl
      have HSX := Lib.hid (HSG.out k hlt)
      generalize X k = xk at HLK HSX HTK HXL hx2
      clear hca hg1 hg2 hxl hwl
      have HCA := Lib.hid (fun W (hb : Below Bl w1 W) => HLK.out _ _ W (HRA.out.below (B1.out.trans (hb.mono (by rw [HBL.out]; exact hbw)))) (HRW.out.keep hb.size (fun q hq => hb.cell (by rw [HBL.out]; exact hq))))
      have a0 := (HBE.out.cell (p := ⟨ga, oa + k * 4, none⟩) hga).trans p0
      have a1 := (HBE.out.cell (p := ⟨ga, oa + k * 4 + 1, none⟩) hga).trans p1
      have a2 := (HBE.out.cell (p := ⟨ga, oa + k * 4 + 2, none⟩) hga).trans p2
      have a3 := (HBE.out.cell (p := ⟨ga, oa + k * 4 + 3, none⟩) hga).trans p3
      have r0 := (HE.out.cell (p := ⟨go, k, none⟩) hgl).trans HG1.out
      obtain ⟨c0, c1, c2, c3, c4, c5, c6, c7, c8⟩ := (HC1.out.below HE.out hwb).boxed
      have hksz : k < cs.size := by
        have := turnedTo_len k S Z HZL.out (by rw [HSL.out]; omega)
        rw [← HCL.out, Array.length_toList, HSL.out] at this
        omega
      have HY0 : Hid (∃ y, Blk wr Bl 9 (cs.setIfInBounds k y)) := Lib.hid ⟨cs[k], by rw [set_self]; exact HK.out⟩
      clear p0 p1 p2 p3
      go_wp2_with fail
      go_region_held3 (fun W => W.cell? ⟨w.heap.size, 0, none⟩ = some (.int .i64 m) ∧ W.cell? ⟨w.heap.size, 1, none⟩ = some (.int .i64 t) ∧ W.cell? ⟨w.heap.size, 2, none⟩ = some (.int .i64 p) ∧ W.cell? ⟨w.heap.size, 3, none⟩ = some (.int .i64 d) ∧ W.cell? ⟨w.heap.size, 4, none⟩ = some (.bool fr) ∧ W.cell? ⟨w.heap.size, 5, none⟩ = some (.bool fd) ∧ W.cell? ⟨w.heap.size, 6, none⟩ = some (.bool fl) ∧ W.cell? ⟨w.heap.size, 7, none⟩ = some (.bool fe) ∧ W.cell? ⟨w.heap.size, 8, none⟩ = some (.bool fm) ∧ W.cell? ⟨ga, oa + k * 4, none⟩ = some (.slice Ac cl.length cc) ∧ W.cell? ⟨ga, oa + k * 4 + 1, none⟩ = some (.string x) ∧ W.cell? ⟨ga, oa + k * 4 + 2, none⟩ = some (.int .i64 m') ∧ W.cell? ⟨ga, oa + k * 4 + 3, none⟩ = some (.int .i64 f) ∧ W.cell? ⟨go, k, none⟩ = some (.slice Aw cl.length cw) ∧ w.heap.size < Bl ∧ ga < Bl ∧ go < Bl ∧ Bl ≤ W.heap.size ∧ Below Bl w1 W ∧ ∃ y, Blk W Bl 9 (cs.setIfInBounds k y))
        (first | exact ⟨c0, c1, c2, c3, c4, c5, c6, c7, c8, a0, a1, a2, a3, r0, hwb, hgb, hgl, hblw, HE.out.drew, HY0.out⟩ | exact llS_below (by assumption) (by assumption) | exact llS_set _ (by assumption))
        (first | (go_at_call 32; refine (HCA.out _ (llS_bel (by assumption))).mono ?_; rintro e w3 ⟨rfl, hb3⟩; obtain ⟨y3, hy3, hf3, he3, hk3⟩ := llS_blk hb3 hksz (by assumption)))
      all_goals
        have HK4 := Lib.hid (hk3 (.string xk))
        have HE4 : Hid (Below Bl w1 (w3.setCell ⟨Bl, k, none⟩ (.string xk))) := Lib.hid (he3.setCell (p := ⟨Bl, k, none⟩) (Nat.le_refl _) _)
        have HCL4 : Hid ((cs.setIfInBounds k (.string xk)).toList = turnedTo (k + 1) S Z) := Lib.hid (by
          rw [Array.toList_setIfInBounds, HCL.out]
          exact turnedTo_step k S Z _ HZL.out (by rw [HSL.out]; exact hlt) HSX.out)
        have z0 : (w3.setCell ⟨Bl, k, none⟩ (.string xk)).cell? ⟨Bl, k, none⟩ = some (.string xk) := by
          rw [(hk3 (.string xk)).cell k]
          simp [hksz]
        have hxn : ((T k).length : Int) + (xk.size : Int) = ((T (k + 1)).length : Int) := by have := HXL.out; omega
        clear a0 a1 a2 a3 r0 c0 c1 c2 c3 c4 c5 c6 c7 c8 hy3 hf3 he3 hk3 hb3
        go_wp2_with fail
        go_roundw
        case rel => exact ⟨k + 1, _, by omega, by go_num, rfl, Lib.hid HK4.out, HCL4, Lib.hid HE4.out⟩
        case measure => simp [intOf]; omega
    · obtain rfl : k = n := by omega
      have HBE : Hid (Below w.heap.size w wr) := Lib.hid (B1.out.trans (HE.out.mono (by rw [HBL.out]; exact hbw)))
      rw [turnedTo_all S Z k HZL.out HSL.out.symm] at HCL
      rw [← HJ.out]
      obtain ⟨we, rfl⟩ : ∃ we : World, we = wr := ⟨_, rfl⟩
      obtain ⟨By, hBy⟩ : ∃ b, b = we.heap.size := ⟨_, rfl⟩
      have HBY := Lib.hid hBy
      clear hBy
      obtain ⟨Z2, hZ2⟩ : ∃ Z, Z = (madeCells (Value.int .u8 0).cells (J * 1)).toList := ⟨_, rfl⟩
      have HZ2L : Hid (Z2.length = J) := Lib.hid (by rw [hZ2]; simp [madeCells])
      have HZ2 := Lib.hid hZ2
      clear hZ2
      go_wp2_with (at_make; refine wpList_make_full _ rfl _ _ 22 rfl we.heap.size 5 iB _ 1 Tryz.underlying22 hiB hzB0 hzB1 _ _ _ _ J rfl rfl rfl rfl (by rw [hzB2]; omega) (by unfold maxLen; omega) (Nat.le_refl _) ?_; intro w2' hown2 hgr2; have HO3 := Lib.hid hown2; have HD3 := Lib.hid ((Below.refl we.heap.size we).grown hgr2 (Nat.le_refl _) (fun k hk => by cases hk)); clear hown2 hgr2)
      obtain ⟨cy0, hcy0, hcyl0, _⟩ := own_blk HO3.out rfl
      have HY0 := Lib.hid hcy0
      have HYL0 : Hid (cy0.toList = u8s (T 0) ++ Z2.drop (T 0).length) := Lib.hid (by rw [HT0.out, HZ2.out]; exact hcyl0)
      clear hcy0 hcyl0 HO3
      rw [← HBY.out] at HD3 HY0 ⊢
      have hblb : Bl < By := by rw [HBY.out]; exact HK.out.lt
      go_loopw [10, 12, 13, 50] (fun o _ _ i wx => ∃ (q : Nat) (cy : Array Value), q ≤ k ∧ i = .int .i64 (q : Int) ∧ o = .int .i64 ((T q).length : Int) ∧ Hid (Blk wx By 5 cy) ∧ Hid (cy.toList = u8s (T q) ++ Z2.drop (T q).length) ∧ Hid (Below By we wx)) (fun _ _ _ i _ => k - (intOf i).toNat)
      case atStart => exact ⟨0, cy0, Nat.zero_le _, rfl, by rw [HT0.out]; rfl, HY0, HYL0, HD3⟩
      case round =>
        obtain ⟨q, cy, hq, rfl, rfl, HY, HYL, HEX⟩ := hrel
        by_cases hltq : q < k
        · have l0 : wr.cell? ⟨Bl, q, none⟩ = some (.string (X q)) := by
            rw [HEX.out.cell (p := ⟨Bl, q, none⟩) hblb, HK.out.cell q, ← Array.getElem?_toList, HCL.out]
            exact HSG.out q hltq
          have hTk := HTB.out q (by omega)
          have hTk1 := HTB.out (q + 1) (by omega)
          have HTK := Lib.hid (HTS.out q hltq)
          have hxl : (T (q + 1)).length = (T q).length + (X q).size := by rw [HTK.out, List.length_append]; rfl
          obtain ⟨r, hr⟩ := HTQ.out q hltq
          have hfitJ : (T q).length + (X q).size ≤ J := by
            rw [HJ.out, hr, List.length_append, List.length_append]
            show (T q).length + (X q).data.toList.length ≤ _
            omega
          have hcys : cy.size = J := by
            rw [← Array.length_toList, HYL.out, List.length_append, u8s_len, List.length_drop, HZ2L.out]
            omega
          have HSP := Lib.hid (splice_list cy (T q) (X q) Z2 HYL.out (by rw [HZ2L.out]; exact hfitJ))
          rw [← HTK.out] at HSP
          have hcp := fun ty => run_copy_part (P := Tryz.prog) (sT := 9) (ty := ty) Tryz.underlying22 (show (Tryz.prog.info? 5).map (·.size) = some 1 by kernel_rfl) HY.out (show (T q).length + (X q).size ≤ cy.size by rw [hcys]; exact hfitJ)
          have hsl := fun w => run_part (P := Tryz.prog) w 22 5 Tryz.underlying22 (fun w => by kernel_rfl) By (T q).length (X q).size J ((T q).length : Int) ((T q).length + (X q).size : Int) rfl (by omega) hfitJ
          have HYN := Lib.hid (HY.out.row (cs' := spliceA cy (T q).length (X q)))
          have HEN : Hid (Below By we (wr.setRow By (spliceA cy (T q).length (X q)))) := Lib.hid (below_setRow HEX.out (Nat.le_refl _) _)
          obtain ⟨pv, hpv⟩ : ∃ pv, pv = partV By (T q).length (X q).size := ⟨_, rfl⟩
          rw [← hpv] at hcp hsl
          generalize spliceA cy (T q).length (X q) = cyn at HSP hcp HYN HEN
          have HCP := Lib.hid hcp
          have hxn : ((T q).length : Int) + ((X q).size : Int) = ((T (q + 1)).length : Int) := by omega
          rw [hxn] at hsl
          have HXN := Lib.hid hxl
          generalize X q = xq at l0 HCP hsl hxn HTK HXN
          have hq2 : xq.size ≤ 2000000000000 := by have := HXN.out; omega
          have hcp := fun ty => HCP.out ty
          clear hpv hr hcys hxl hfitJ
          go_wp2_with fail
          go_roundw
          case rel => exact ⟨q + 1, cyn, by omega, by go_num, rfl, HYN, HSP, HEN⟩
          case measure => simp [intOf]; omega
        · obtain rfl : q = k := by omega
          have hyl : cy.toList = u8s (T q) := by rw [HYL.out, List.drop_of_length_le (by rw [HZ2L.out, HJ.out]; exact Nat.le_refl _), List.append_nil]
          have hrd := HY.out.rd hyl J
          rw [u8s_len, ← HJ.out] at hrd
          have hcv := conv_rd (T q) hrd
          rw [← HR.out] at hcv
          have HBX := Lib.hid (HBE.out.trans (HEX.out.mono (by rw [HBY.out]; exact HBE.out.size)))
          clear hyl hrd
          go_wp2_with fail
          go_ret
          exact ⟨rfl, HBX.out⟩
end Go.Proofs.YtooanejiadbngaaGreatDoor
