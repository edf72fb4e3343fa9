/- FormatInt of the model gives fmtB. -/
import Derived.Test.YtjdbkpckhgncbaaDoorProg
import Derived.Test.YtjdbkpckhgncbaaDoorBA
import Derived.Deep.RegionWith
import Derived.IntWalk
namespace Go.Proofs.YtjdbkpckhgncbaaDoor
open Go.RowKit Go.Lib

/-- 'string([]byte{b})': a text of one byte, wherever the cell lies. -/
theorem byteStr (W : World) (g : Nat) (n : Int) (h0 : 0 ≤ n) (h1 : n ≤ 255) (hc : W.cell? ⟨g, 0, none⟩ = some (.int .u8 n)) :
    (convert 22 9 (.slice (some ⟨g, 0, none⟩) 1 1)).run Tryd.prog W = .ok (.string ⟨[UInt8.ofNat n.toNat].toArray⟩) W := by
  refine run_convert_bytes_back (P := Tryd.prog) _ 22 9 5 ⟨g, 0, none⟩ 1 [UInt8.ofNat n.toNat] Tryd.underlying22 Tryd.underlying5 Tryd.underlying9 ?_
  intro j hj
  match j, hj with
  | 0, _ =>
    have : (⟨g, 0, none⟩ : Addr).add 0 = ⟨g, 0, none⟩ := by simp [Addr.add]
    rw [this, hc]
    simp
    omega

theorem byteStr_new (W : World) (n : Int) (h0 : 0 ≤ n) (h1 : n ≤ 255) :
    (convert 22 9 (.slice (some ⟨W.heap.size, 0, none⟩) 1 1)).run Tryd.prog (W.alloc (.cells #[.int .u8 n] 5)) = .ok (.string ⟨[UInt8.ofNat n.toNat].toArray⟩) (W.alloc (.cells #[.int .u8 n] 5)) :=
  byteStr _ _ n h0 h1 (by simp)

end Go.Proofs.YtjdbkpckhgncbaaDoor
