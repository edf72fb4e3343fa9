/- Bytes in memory: what reads as a list of bytes, and as a text; a row's own block. -/
import Derived.Test.YtncdglfcegmmgaaDoorMem
import Derived.Lib.AppendStr
namespace Go.Proofs.YtncdglfcegmmgaaDoor
open Go.RowKit
set_option linter.unusedVariables false

/-- The cells of a list of bytes. -/
def u8s (l : List UInt8) : List Value := l.map fun b => Value.int .u8 b.toNat
theorem u8s_len (l : List UInt8) : (u8s l).length = l.length := List.length_map _
theorem u8s_app (a b : List UInt8) : u8s (a ++ b) = u8s a ++ u8s b := List.map_append
theorem conv_rd {W : World} {v : Value} (l : List UInt8) (h : Rd W v (u8s l)) :
    (convert 22 9 v).run Tryd.prog W = .ok (.string ⟨l.toArray⟩) W := by
  obtain ⟨A, c, hv, hc⟩ := h
  rw [u8s_len] at hv hc
  subst hv
  by_cases h0 : 0 < l.length
  · obtain ⟨g, o, rfl, _, hcc⟩ := hc h0
    refine run_convert_bytes_back (P := Tryd.prog) W 22 9 5 ⟨g, o, none⟩ c l Tryd.underlying22 Tryd.underlying5 Tryd.underlying9 ?_
    intro j hj
    have e1 : ((⟨g, o, none⟩ : Addr).add j) = ⟨g, o + j, none⟩ := by simp [Addr.add_lit]
    rw [e1]
    refine hcc j _ ?_
    simp [u8s, hj]
  · have : l = [] := List.length_eq_zero_iff.1 (by omega)
    subst this
    cases A with
    | none =>
      rw [show ([] : List UInt8).length = 0 from rfl, run_convert_bytes_string W 22 9 5 none 0 c Tryd.underlying22 Tryd.underlying5 Tryd.underlying9]
      rfl
    | some a => exact run_convert_bytes_back (P := Tryd.prog) W 22 9 5 a c [] Tryd.underlying22 Tryd.underlying5 Tryd.underlying9 (fun j hj => by cases hj)
theorem conv_own {W : World} {base : Nat} {v : Value} {n : Nat} (l : List UInt8) (h : W.ownsRow base 5 1 v n (u8s l)) :
    (convert 22 9 v).run Tryd.prog W = .ok (.string ⟨l.toArray⟩) W := conv_rd l (Rd.of_own h)
theorem own_u8 {W : World} {base : Nat} {e : TypeId} {v : Value} {n : Nat} {xs : List Value} {l : List UInt8} (h : W.ownsRow base e 1 v n xs) (hx : xs = u8s l) : W.ownsRow base e 1 v l.length (u8s l) := by
  subst hx
  have := own_len h
  rw [u8s_len] at this
  rw [this]
  exact h
theorem own_more {W : World} {base : Nat} {e : TypeId} {v : Value} {n m : Nat} {xs ys : List Value} (h : W.ownsRow base e 1 v n xs) (hn : n = m) (hx : xs = ys) : W.ownsRow base e 1 v m ys := by subst hn; subst hx; exact h
/-- A block of another type is not the row's own. -/
theorem own_not_blk {W : World} {base g : Nat} {e T : TypeId} {size : Nat} {v : Value} {n : Nat} {xs : List Value} {cs : Array Value} (h : W.ownsRow base e size v n xs) (hb : Blk W g T cs) (hne : e ≠ T) : ¬ v.ownBlock = some g := by
  intro he
  rcases h.2 with ⟨rfl, _⟩ | ⟨g', cap, cur, rfl, _, hg, _⟩
  · cases he
  · have : g' = g := by simpa [Value.ownBlock] using he
    subst this
    have := hg.symm.trans hb
    simp at this
    exact hne this.2
theorem Blk.grows {W W' : World} {base g : Nat} {e T : TypeId} {size : Nat} {v : Value} {n : Nat} {xs : List Value} {cs : Array Value} (hb : Blk W g T cs) (h : W.ownsRow base e size v n xs) (hne : e ≠ T) (hg : W.grownBy W' v.ownBlock) : Blk W' g T cs :=
  (hg.block g hb.lt (fun he => own_not_blk h hb hne he.symm)).trans hb
end Go.Proofs.YtncdglfcegmmgaaDoor
