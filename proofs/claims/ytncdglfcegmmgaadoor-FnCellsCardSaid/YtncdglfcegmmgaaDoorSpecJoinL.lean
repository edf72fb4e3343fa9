/- JoinLines: the model's. -/
import Derived.Test.YtncdglfcegmmgaaDoorLnLaws
import Derived.Test.YtncdglfcegmmgaaDoorSpecCfg
import Derived.Lib.AppendStr
import Derived.Test.YtncdglfcegmmgaaDoorBytes8
namespace Go.Proofs.YtncdglfcegmmgaaDoor
open Go.RowKit
set_option linter.unusedVariables false

/-- The bytes of a list of cells, of a line, of lines. -/
def celBytes (l : List Cel) : List UInt8 := l.flatMap fun c => c.txt.data.toList ++ [9]
def finBytes (f : Int) : List UInt8 := if f = 0 then [] else [UInt8.ofNat f.toNat]
def lnBytes (l : Ln) : List UInt8 := celBytes l.cells ++ l.tail.txt.data.toList ++ finBytes l.fin
def allBytes (ls : List Ln) : List UInt8 := ls.flatMap lnBytes
def okFin (l : Ln) : Prop := l.fin = 0 ∨ l.fin = 10 ∨ l.fin = 12
instance (l : Ln) : Decidable (okFin l) := by unfold okFin; infer_instance
/-- What JoinLines answers. -/
def joinLB (c : Cfg) (ls : List Ln) : ByteArray := if validC c = true ∧ (∀ l ∈ ls, okFin l) then ⟨(allBytes ls).toArray⟩ else ⟨#[]⟩
theorem joinLB_no {c : Cfg} (ls : List Ln) (h : validC c = false) : joinLB c ls = ⟨#[]⟩ := if_neg (by rw [h]; rintro ⟨h, _⟩; cases h)
theorem joinLB_bad (c : Cfg) (ls : List Ln) (l : Ln) (h : l ∈ ls) (hb : ¬ okFin l) : joinLB c ls = ⟨#[]⟩ := if_neg (fun k => hb (k.2 l h))
theorem joinLB_yes {c : Cfg} (ls : List Ln) (h : validC c = true) (hk : ∀ l ∈ ls, okFin l) : joinLB c ls = ⟨(allBytes ls).toArray⟩ := if_pos ⟨h, hk⟩
theorem celBytes_len (l : List Cel) : (celBytes l).length = totC l + l.length := by
  induction l with
  | nil => rfl
  | cons c r ih =>
    unfold celBytes at ih ⊢
    simp only [List.flatMap_cons, List.length_append, ih, totC, List.length_cons, List.length_nil, bytes_length]
    omega
theorem finBytes_len (f : Int) : (finBytes f).length ≤ 1 := by unfold finBytes; split <;> simp
theorem allBytes_len (ls : List Ln) : (allBytes ls).length ≤ totL ls + ls.length := by
  induction ls with
  | nil => exact Nat.le_refl _
  | cons l r ih =>
    have h1 := celBytes_len l.cells
    have h2 := finBytes_len l.fin
    unfold allBytes at ih ⊢
    simp only [List.flatMap_cons, lnBytes, List.length_append, totL, List.length_cons, h1, bytes_length]
    omega
theorem celBytes_take (l : List Cel) (j : Nat) (h : j < l.length) : celBytes (l.take (j + 1)) = celBytes (l.take j) ++ l[j].txt.data.toList ++ [9] := by
  unfold celBytes
  rw [List.take_succ_eq_append_getElem h, List.flatMap_append]
  simp
theorem allBytes_take (ls : List Ln) (k : Nat) (h : k < ls.length) : allBytes (ls.take (k + 1)) = allBytes (ls.take k) ++ lnBytes ls[k] := by
  unfold allBytes
  rw [List.take_succ_eq_append_getElem h, List.flatMap_append]
  simp
theorem totL_take (ls : List Ln) (k : Nat) : totL (ls.take k) ≤ totL ls := by
  induction ls generalizing k with
  | nil => simp [totL]
  | cons l r ih =>
    cases k with
    | zero => simp [totL]
    | succ k => have := ih k; simp only [List.take_succ_cons, totL]; omega
theorem celBytes_take_len (l : List Cel) (j : Nat) : (celBytes (l.take j)).length ≤ totC l + l.length := by
  rw [← celBytes_len l]
  conv => rhs; rw [← List.take_append_drop j l]
  unfold celBytes
  rw [List.flatMap_append, List.length_append]
  omega
theorem allBytes_take_len (ls : List Ln) (k : Nat) : (allBytes (ls.take k)).length ≤ totL ls + ls.length := by
  have h1 := allBytes_len (ls.take k)
  have h2 := totL_take ls k
  have h3 : (ls.take k).length ≤ ls.length := List.length_take_le' ..
  omega
theorem Tryd.infoByteJ : (Tryd.prog.info? 5).map (fun i => (i.zero, i.size, i.bytes)) = some (some (.int .u8 0), 1, 1) := by kernel_rfl
end Go.Proofs.YtncdglfcegmmgaaDoor
