/- Bytes that a call owns, and what is added to them. No walk. -/
import Derived.Test.YtjdbkpckhgncbaaBB
namespace Go.Proofs.Ytjdbkpckhgncbaa
open Go.RowKit
set_option linter.unusedVariables false

def OwnU (W : World) (base : Nat) (v : Value) (l : List UInt8) : Prop := W.ownsRow base 5 1 v l.length (u8s l)
theorem u8s_cells (x : ByteArray) : Lib.strCells x = u8s x.data.toList := rfl
theorem OwnU.keeps {W W' : World} {base : Nat} {v : Value} {l : List UInt8} (h : OwnU W base v l) (hk : Keeps W W' 5) : OwnU W' base v l := own_keeps h hk
theorem OwnU.lit (W : World) (base : Nat) (hb : base ≤ W.heap.size) : OwnU (W.alloc (.cells #[] 5)) base (.slice (some ⟨W.heap.size, 0, none⟩) 0 0) [] :=
  World.ownsRow_lit (base := base) (e := 5) (size := 1) W #[] 0 hb (by unfold maxLen; omega) rfl
theorem OwnU.conv {W : World} {base : Nat} {v : Value} {l : List UInt8} (h : OwnU W base v l) : (convert 61 9 v).run Try.prog W = .ok (.string ⟨l.toArray⟩) W := conv_own l h
theorem OwnU.grown {W W' : World} {base A : Nat} {v : Value} {l : List UInt8} {w : World} (h : OwnU W base v l) (hg : W.grownBy W' v.ownBlock) (hb : Below A w W) (hA : A ≤ base) (hs : A ≤ W.heap.size) : Below A w W' :=
  hb.trans ((Below.refl A W).grown hg hs fun k hk => Nat.le_trans hA (World.ownsRow.lt h k hk).1)
theorem Try.infoByteU : (Try.prog.info? 5).map (fun i => (i.zero, i.size, i.bytes)) = some (some (.int .u8 0), 1, 1) := by kernel_rfl
/-- 'append(b, s...)'. -/
theorem add_str {ops : Array Oper} {rest : List Oper} {o : Oper} {a : Act} {Q : Exit → Act → World → Prop} (hgd : o.guard = none) (sl x : Operand)
    (ho : o.op = .call { callee := .builtin .append, args := #[sl, x], argTypes := #[61, 9] })
    (base : Nat) (W : World) (v : Value) (l : List UInt8) (hs : a.eval sl = v) (hown : OwnU W base v l) (s : ByteArray) (hx : a.eval x = .string s) (hsz : l.length + s.size ≤ 100000000000000) (hbase : base ≤ W.heap.size)
    (h : ∀ v' w', OwnU w' base v' (l ++ s.data.toList) → W.grownBy w' v.ownBlock → wpList Try.prog ops Q rest (a.put o.dst v') w') : wpList Try.prog ops Q (o :: rest) a W := by
  obtain ⟨i0, hi0, hz0, hz1, hz2⟩ := info_parts Try.infoByteU
  refine Lib.wpList_append_own_string W hgd sl x 61 9 ho base 5 i0 Try.underlying61 Try.underlying9 hi0 hz0 hz1 hz2 v l.length (u8s l) hs hown s hx (by unfold maxLen; omega) (by omega) hbase ?_
  intro v' w' h1 h2 _
  refine h v' w' ?_ h2
  have e : (l ++ s.data.toList).length = l.length + s.size := by rw [List.length_append]; rfl
  unfold OwnU
  rw [e, u8s_app, ← u8s_cells]
  exact h1
/-- 'append(b, x)', x one byte. -/
theorem add_byte {ops : Array Oper} {rest : List Oper} {o : Oper} {a : Act} {Q : Exit → Act → World → Prop} (hgd : o.guard = none) (sl x : Operand)
    (ho : o.op = .call { callee := .builtin .append, args := #[sl, x], argTypes := #[61, 61] })
    (base : Nat) (W : World) (v : Value) (l : List UInt8) (hs : a.eval sl = v) (hown : OwnU W base v l) (b : UInt8) (z : Int) (hz : (b.toNat : Int) = z) (hx : a.eval x = .slice (some ⟨W.heap.size, 0, none⟩) 1 1) (hsz : l.length + 1 ≤ 100000000000000) (hbase : base ≤ W.heap.size)
    (h : ∀ v' w', OwnU w' base v' (l ++ [b]) → W.grownBy w' v.ownBlock → wpList Try.prog ops Q rest (a.put o.dst v') w') : wpList Try.prog ops Q (o :: rest) a (W.alloc (.cells #[.int .u8 z] 5)) := by
  obtain ⟨i0, hi0, hz0, hz1, hz2⟩ := info_parts Try.infoByteU
  refine append_el hgd sl x 61 ho base 5 i0 _ 1 1 Try.underlying61 hi0 hz0 hz1 hz2 rfl (by decide) v l.length (u8s l) hs W #[.int .u8 z] hx rfl (by simp [Value.oneCell']) hown (by omega) (by omega) hbase ?_
  intro v' w' h1 h2 _
  refine h v' w' ?_ h2
  unfold OwnU
  rw [List.length_append, u8s_app]
  have e : u8s [b] = [Value.int .u8 z] := by rw [← hz]; rfl
  rw [e]
  exact h1
end Go.Proofs.Ytjdbkpckhgncbaa
