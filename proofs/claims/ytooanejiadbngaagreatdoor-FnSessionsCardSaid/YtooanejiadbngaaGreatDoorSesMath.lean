/- Sessions: plain words. No walk. -/
import Derived.Test.YtooanejiadbngaaGreatDoorSink
import Derived.Test.YtooanejiadbngaaGreatDoorOpnL
import Derived.Test.YtooanejiadbngaaGreatDoorWr
import Derived.Test.YtooanejiadbngaaGreatDoorWrMath
namespace Go.Proofs.YtooanejiadbngaaGreatDoor
open Go.RowKit
set_option linter.unusedVariables false

structure Ses where
  c : Cfg
  h : ByteArray
  k : Snk
/-- What is passed on goes to the sink, if it is anything. -/
def tellK (k : Snk) (t : ByteArray) : Snk := if t.size = 0 then k else takeK k t
def codeS (n : Int) (d : Bool) : Int := if n = 0 ∧ d = true then 3 else n
/-- One operation. -/
def stepS (s : Ses) (o : Opn) : Ses × Int :=
  if o.kind = 1 then (⟨newC o.c, ⟨#[]⟩, s.k⟩, codeS (newI o.c) s.k.dead)
  else if o.kind = 2 then
    if validC s.c = true then
      if (heldB s.c (s.h ++ o.txt)).size ≤ 400 then (⟨s.c, heldB s.c (s.h ++ o.txt), tellK s.k (toldB s.c (s.h ++ o.txt))⟩, codeS 0 (tellK s.k (toldB s.c (s.h ++ o.txt))).dead)
      else (s, 2)
    else (s, 1)
  else if o.kind = 3 then
    if validC s.c = true then (⟨s.c, ⟨#[]⟩, tellK s.k (layB s.c s.h)⟩, codeS 0 (tellK s.k (layB s.c s.h)).dead)
    else (s, 1)
  else (s, 1)
theorem stepS_init (s : Ses) (o : Opn) (h : o.kind = 1) : stepS s o = (⟨newC o.c, ⟨#[]⟩, s.k⟩, codeS (newI o.c) s.k.dead) := if_pos h
theorem stepS_write (s : Ses) (o : Opn) (h : o.kind = 2) (hv : validC s.c = true) (hh : (heldB s.c (s.h ++ o.txt)).size ≤ 400) :
    stepS s o = (⟨s.c, heldB s.c (s.h ++ o.txt), tellK s.k (toldB s.c (s.h ++ o.txt))⟩, codeS 0 (tellK s.k (toldB s.c (s.h ++ o.txt))).dead) := by
  unfold stepS
  rw [if_neg (by rw [h]; decide), if_pos h, if_pos hv, if_pos hh]
theorem stepS_flush (s : Ses) (o : Opn) (h : o.kind = 3) (hv : validC s.c = true) : stepS s o = (⟨s.c, ⟨#[]⟩, tellK s.k (layB s.c s.h)⟩, codeS 0 (tellK s.k (layB s.c s.h)).dead) := by
  unfold stepS
  rw [if_neg (by rw [h]; decide), if_neg (by rw [h]; decide), if_pos h, if_pos hv]
def runS : Ses → List Opn → Ses
  | s, [] => s
  | s, o :: r => runS (stepS s o).1 r
def codesS : Ses → List Opn → List Int
  | _, [] => []
  | s, o :: r => (stepS s o).2 :: codesS (stepS s o).1 r
theorem runS_append (s : Ses) (a b : List Opn) : runS s (a ++ b) = runS (runS s a) b := by
  induction a generalizing s with
  | nil => rfl
  | cons o r ih => exact ih _
theorem codesS_append (s : Ses) (a b : List Opn) : codesS s (a ++ b) = codesS s a ++ codesS (runS s a) b := by
  induction a generalizing s with
  | nil => rfl
  | cons o r ih => simp only [List.cons_append, codesS, runS, ih]
theorem codesS_len (s : Ses) (a : List Opn) : (codesS s a).length = a.length := by
  induction a generalizing s with
  | nil => rfl
  | cons o r ih => simp only [codesS, List.length_cons, ih]
theorem runS_take (s : Ses) (l : List Opn) (k : Nat) (h : k < l.length) : runS s (l.take (k + 1)) = (stepS (runS s (l.take k)) l[k]).1 := by
  rw [List.take_succ_eq_append_getElem h, runS_append]
  rfl
theorem codesS_take (s : Ses) (l : List Opn) (k : Nat) (h : k < l.length) : codesS s (l.take (k + 1)) = codesS s (l.take k) ++ [(stepS (runS s (l.take k)) l[k]).2] := by
  rw [List.take_succ_eq_append_getElem h, codesS_append]
  rfl
/-- A sink that had room for so many bytes and was given these. -/
def sinkOf (room : Nat) (P : ByteArray) : Snk := if P.size ≤ room then ⟨(room : Int) - P.size, P, false⟩ else ⟨0, P.extract 0 room, true⟩
theorem sinkOf_zero (room : Nat) : sinkOf room ⟨#[]⟩ = ⟨room, ⟨#[]⟩, false⟩ := by
  unfold sinkOf
  rw [if_pos (by simp [ByteArray.size])]
  simp [ByteArray.size]
theorem ext_app (P q : ByteArray) (n : Nat) (h : P.size ≤ n) : (P ++ q).extract 0 n = P ++ q.extract 0 (n - P.size) := bytes_ext (by
  have hl : P.data.toList.length = P.size := rfl
  rw [app_list, ByteArray.data_extract, ByteArray.data_extract, Array.toList_extract, Array.toList_extract, List.extract_eq_take_drop, List.extract_eq_take_drop, app_list]
  simp only [List.drop_zero, Nat.sub_zero]
  rw [List.take_append, hl, List.take_of_length_le (by omega)])
theorem ext_app0 (P q : ByteArray) (n : Nat) (h : n ≤ P.size) : (P ++ q).extract 0 n = P.extract 0 n := bytes_ext (by
  have hl : P.data.toList.length = P.size := rfl
  rw [ByteArray.data_extract, ByteArray.data_extract, Array.toList_extract, Array.toList_extract, List.extract_eq_take_drop, List.extract_eq_take_drop, app_list]
  simp only [List.drop_zero, Nat.sub_zero]
  rw [List.take_append_of_le_length (by omega)])
theorem tell_sink (room : Nat) (P q : ByteArray) : tellK (sinkOf room P) q = sinkOf room (P ++ q) := by
  unfold tellK
  by_cases h0 : q.size = 0
  · rw [if_pos h0]
    have : q = ⟨#[]⟩ := by
      apply ByteArray.ext
      exact Array.eq_empty_of_size_eq_zero h0
    rw [this]
    congr 1
    exact bytes_ext (by simp)
  · rw [if_neg h0]
    unfold takeK sinkOf
    rw [ByteArray.size_append]
    by_cases hP : P.size ≤ room
    · rw [if_pos hP]
      simp only
      rw [if_neg (by decide)]
      by_cases hq : P.size + q.size ≤ room
      · rw [if_pos (by omega), if_pos hq]
        congr 1
        omega
      · rw [if_neg (by omega), if_neg hq, ext_app P q room hP]
        congr 3
        omega
    · rw [if_neg hP]
      rw [if_pos rfl, if_neg (by omega), ext_app0 P q room (by omega)]
theorem sink_dead (room : Nat) (P : ByteArray) : (sinkOf room P).dead = decide (room < P.size) := by
  unfold sinkOf
  split
  · rename_i h
    rw [decide_eq_false (by omega)]
  · rename_i h
    rw [decide_eq_true (by omega)]
/-- The session behind k chunks. -/
def sesAt (c : Cfg) (room : Nat) (l : List ByteArray) (k : Nat) : Ses := ⟨c, heldB c (catB (l.take k)), sinkOf room (toldB c (catB (l.take k)))⟩
theorem step_write (c : Cfg) (room : Nat) (l : List ByteArray) (k : Nat) (hv : validC c = true) (hcat : (catB l).size ≤ 400) (h : k < l.length) : (stepS (sesAt c room l k) (opW l[k])).1 = sesAt c room l (k + 1) := by
  have hk := catB_take l k h
  have hsz : (catB (l.take (k + 1))).size ≤ 400 := by
    have h1 : catB l = catB (l.take (k + 1)) ++ catB (l.drop (k + 1)) := by rw [← catB_append, List.take_append_drop]
    have h2 := congrArg ByteArray.size h1
    rw [ByteArray.size_append] at h2
    omega
  have hh := heldB_size c (catB (l.take (k + 1)))
  have e1 : heldB c (heldB c (catB (l.take k)) ++ l[k]) = heldB c (catB (l.take (k + 1))) := by rw [held_step, ← hk]
  have e2 : toldB c (catB (l.take (k + 1))) = toldB c (catB (l.take k)) ++ toldB c (heldB c (catB (l.take k)) ++ l[k]) := by rw [hk]; exact told_step c _ _
  have hw := stepS_write (sesAt c room l k) (opW l[k]) rfl hv (by show (heldB c (heldB c (catB (l.take k)) ++ l[k])).size ≤ 400; rw [e1]; omega)
  rw [hw]
  show (⟨c, heldB c (heldB c (catB (l.take k)) ++ l[k]), tellK (sinkOf room (toldB c (catB (l.take k)))) (toldB c (heldB c (catB (l.take k)) ++ l[k]))⟩ : Ses) = _
  rw [e1, tell_sink, ← e2]
  rfl
theorem run_writes (c : Cfg) (room : Nat) (l : List ByteArray) (hv : validC c = true) (hcat : (catB l).size ≤ 400) : ∀ k, k ≤ l.length → runS (sesAt c room l 0) ((l.take k).map opW) = sesAt c room l k
  | 0, _ => rfl
  | k + 1, h => by
    rw [List.take_succ_eq_append_getElem (by omega), List.map_append, runS_append, run_writes c room l hv hcat k (by omega)]
    exact step_write c room l k hv hcat (by omega)
/-- All of it. -/
theorem run_all (c : Cfg) (room : Nat) (l : List ByteArray) (hv : validC c = true) (hcat : (catB l).size ≤ 400) (c0 : Cfg) (h0 : ByteArray) :
    runS ⟨c0, h0, ⟨room, ⟨#[]⟩, false⟩⟩ (opsL c l) = ⟨c, ⟨#[]⟩, sinkOf room (layB c (catB l))⟩ := by
  have e0 : (stepS ⟨c0, h0, ⟨room, ⟨#[]⟩, false⟩⟩ ⟨1, c, ⟨#[]⟩⟩).1 = sesAt c room l 0 := by
    rw [stepS_init _ _ rfl]
    unfold newC
    show (⟨if validC c = true then c else zeroC, ⟨#[]⟩, ⟨room, ⟨#[]⟩, false⟩⟩ : Ses) = ⟨c, heldB c ⟨#[]⟩, sinkOf room (toldB c ⟨#[]⟩)⟩
    rw [if_pos hv, held_zero, told_zero, sinkOf_zero]
  have ew := run_writes c room l hv hcat l.length (Nat.le_refl _)
  rw [List.take_length] at ew
  unfold opsL
  show runS (stepS _ _).1 _ = _
  rw [e0, runS_append, ew]
  show (stepS (sesAt c room l l.length) ⟨3, zeroC, ⟨#[]⟩⟩).1 = _
  rw [stepS_flush _ _ rfl hv]
  show (⟨c, ⟨#[]⟩, tellK (sinkOf room (toldB c (catB (l.take l.length)))) (layB c (heldB c (catB (l.take l.length))))⟩ : Ses) = _
  rw [List.take_length, tell_sink, told_end c _ hv]
theorem codes_last (c : Cfg) (room : Nat) (l : List ByteArray) (hv : validC c = true) (hcat : (catB l).size ≤ 400) (c0 : Cfg) (h0 : ByteArray) :
    (codesS ⟨c0, h0, ⟨room, ⟨#[]⟩, false⟩⟩ (opsL c l))[l.length + 1]? = some (codeS 0 (decide (room < (layB c (catB l)).size))) := by
  have hr := run_all c room l hv hcat c0 h0
  have hlen : (⟨1, c, ⟨#[]⟩⟩ :: l.map opW : List Opn).length = l.length + 1 := by simp
  have hs : opsL c l = (⟨1, c, ⟨#[]⟩⟩ :: l.map opW) ++ [⟨3, zeroC, ⟨#[]⟩⟩] := rfl
  rw [hs, runS_append] at hr
  rw [hs, codesS_append, List.getElem?_append_right (by rw [codesS_len, hlen]; exact Nat.le_refl _), codesS_len, hlen, Nat.sub_self]
  generalize hq : runS ⟨c0, h0, ⟨room, ⟨#[]⟩, false⟩⟩ (⟨1, c, ⟨#[]⟩⟩ :: l.map opW) = q at hr ⊢
  have e0 : q = sesAt c room l l.length := by
    rw [← hq]
    have e0 : (stepS ⟨c0, h0, ⟨room, ⟨#[]⟩, false⟩⟩ ⟨1, c, ⟨#[]⟩⟩).1 = sesAt c room l 0 := by
      rw [stepS_init _ _ rfl]
      unfold newC
      show (⟨if validC c = true then c else zeroC, ⟨#[]⟩, ⟨room, ⟨#[]⟩, false⟩⟩ : Ses) = ⟨c, heldB c ⟨#[]⟩, sinkOf room (toldB c ⟨#[]⟩)⟩
      rw [if_pos hv, held_zero, told_zero, sinkOf_zero]
    have ew := run_writes c room l hv hcat l.length (Nat.le_refl _)
    rw [List.take_length] at ew
    show runS (stepS _ _).1 _ = _
    rw [e0, ew]
  show some (stepS q ⟨3, zeroC, ⟨#[]⟩⟩).2 = _
  rw [e0]
  rw [stepS_flush _ _ rfl hv]
  show some (codeS 0 (tellK (sinkOf room (toldB c (catB (l.take l.length)))) (layB c (heldB c (catB (l.take l.length))))).dead) = _
  rw [List.take_length, tell_sink, told_end c _ hv, sink_dead]
/-- What the program needs of a session and an operation. -/
def okS (s : Ses) (o : Opn) : Prop := s.h.size ≤ 400 ∧ o.txt.size ≤ 400 ∧ s.k.taken.size ≤ 1000000 ∧ -1000000 ≤ s.k.room ∧ s.k.room ≤ 1000000 ∧
  ((o.kind = 1 ∧ validC o.c = true) ∨ (o.kind = 2 ∧ validC s.c = true ∧ (heldB s.c (s.h ++ o.txt)).size ≤ 400) ∨ (o.kind = 3 ∧ validC s.c = true))
def okR : Ses → List Opn → Prop
  | _, [] => True
  | s, o :: r => okS s o ∧ okR (stepS s o).1 r
theorem okR_append (s : Ses) (a b : List Opn) : okR s (a ++ b) ↔ okR s a ∧ okR (runS s a) b := by
  induction a generalizing s with
  | nil => exact ⟨fun h => ⟨trivial, h⟩, fun h => h.2⟩
  | cons o r ih =>
    simp only [List.cons_append, okR, runS, ih]
    exact and_assoc.symm
theorem okR_at (s : Ses) (l : List Opn) (k : Nat) (h : k < l.length) (hr : okR s l) : okS (runS s (l.take k)) l[k] := by
  have e : l = l.take k ++ (l[k] :: l.drop (k + 1)) := by rw [← List.drop_eq_getElem_cons h, List.take_append_drop]
  rw [e] at hr
  exact ((okR_append s _ _).1 hr).2.1
theorem sink_bd (room : Nat) (P : ByteArray) : (sinkOf room P).taken.size ≤ room ∧ 0 ≤ (sinkOf room P).room ∧ (sinkOf room P).room ≤ room := by
  unfold sinkOf
  split
  · exact ⟨by assumption, by show (0 : Int) ≤ (room : Int) - (P.size : Int); omega, by show (room : Int) - (P.size : Int) ≤ room; omega⟩
  · refine ⟨?_, by show (0 : Int) ≤ 0; omega, by show (0 : Int) ≤ (room : Int); omega⟩
    show (P.extract 0 room).size ≤ room
    simp
    omega
theorem okR_writes (c : Cfg) (room : Nat) (l : List ByteArray) (hv : validC c = true) (hcat : (catB l).size ≤ 400) (hroom : room ≤ 1000000) : ∀ k, k ≤ l.length → okR (sesAt c room l 0) ((l.take k).map opW)
  | 0, _ => trivial
  | k + 1, h => by
    rw [List.take_succ_eq_append_getElem (by omega), List.map_append, okR_append, run_writes c room l hv hcat k (by omega)]
    refine ⟨okR_writes c room l hv hcat hroom k (by omega), ?_, trivial⟩
    have hb := sink_bd room (toldB c (catB (l.take k)))
    have hsz : (catB (l.take (k + 1))).size ≤ 400 := by
      have h1 : catB l = catB (l.take (k + 1)) ++ catB (l.drop (k + 1)) := by rw [← catB_append, List.take_append_drop]
      have h2 := congrArg ByteArray.size h1
      rw [ByteArray.size_append] at h2
      omega
    rw [catB_take l k (by omega), ByteArray.size_append] at hsz
    have hh := heldB_size c (catB (l.take k))
    have hst := held_step c (catB (l.take k)) l[k]
    have hh2 := heldB_size c (catB (l.take k) ++ l[k])
    rw [ByteArray.size_append] at hh2
    refine ⟨?_, ?_, ?_, ?_, ?_, .inr (.inl ⟨rfl, hv, by show (heldB c (heldB c (catB (l.take k)) ++ l[k])).size ≤ 400; rw [hst]; omega⟩)⟩
    · show (heldB c (catB (l.take k))).size ≤ 400; omega
    · show l[k].size ≤ 400; omega
    · show (sinkOf room (toldB c (catB (l.take k)))).taken.size ≤ 1000000; omega
    · show -1000000 ≤ (sinkOf room (toldB c (catB (l.take k)))).room; omega
    · show (sinkOf room (toldB c (catB (l.take k)))).room ≤ 1000000; omega
theorem okR_all (c : Cfg) (room : Nat) (l : List ByteArray) (hv : validC c = true) (hcat : (catB l).size ≤ 400) (hroom : room ≤ 1000000) (c0 : Cfg) : okR ⟨c0, ⟨#[]⟩, ⟨room, ⟨#[]⟩, false⟩⟩ (opsL c l) := by
  have e0 : (stepS ⟨c0, ⟨#[]⟩, ⟨room, ⟨#[]⟩, false⟩⟩ ⟨1, c, ⟨#[]⟩⟩).1 = sesAt c room l 0 := by
    rw [stepS_init _ _ rfl]
    unfold newC
    show (⟨if validC c = true then c else zeroC, ⟨#[]⟩, ⟨room, ⟨#[]⟩, false⟩⟩ : Ses) = ⟨c, heldB c ⟨#[]⟩, sinkOf room (toldB c ⟨#[]⟩)⟩
    rw [if_pos hv, held_zero, told_zero, sinkOf_zero]
  have ew := run_writes c room l hv hcat l.length (Nat.le_refl _)
  have eo := okR_writes c room l hv hcat hroom l.length (Nat.le_refl _)
  rw [List.take_length] at ew eo
  refine ⟨⟨Nat.zero_le 400, Nat.zero_le 400, Nat.zero_le 1000000, by show (-1000000 : Int) ≤ (room : Int); omega, by show (room : Int) ≤ 1000000; omega, .inl ⟨rfl, hv⟩⟩, ?_⟩
  rw [e0, okR_append, ew]
  refine ⟨eo, ⟨?_, Nat.zero_le 400, ?_, ?_, ?_, .inr (.inr ⟨rfl, hv⟩)⟩, trivial⟩
  · show (heldB c (catB (l.take l.length))).size ≤ 400
    have := heldB_size c (catB (l.take l.length))
    rw [List.take_length] at this ⊢
    omega
  all_goals have hb := sink_bd room (toldB c (catB (l.take l.length)))
  · show (sinkOf room (toldB c (catB (l.take l.length)))).taken.size ≤ 1000000; omega
  · show -1000000 ≤ (sinkOf room (toldB c (catB (l.take l.length)))).room; omega
  · show (sinkOf room (toldB c (catB (l.take l.length)))).room ≤ 1000000; omega
end Go.Proofs.YtooanejiadbngaaGreatDoor
