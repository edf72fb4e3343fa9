/- What the rows' lists of variables give the walks: the decoder's two tables. -/
import Derived.Test.YtaigjiiknmgclaaDoorRows
import Derived.Test.YtaigjiiknmgclaaDoorImplChars
import Derived.Lib.LaidU8T
namespace Go.Proofs.YtaigjiiknmgclaaDoor
open Go.RowKit

theorem first_data : (Rows.laid_unicode_utf8_first : DataW Unit) = Lib.firstData := by kernel_rfl
theorem accept_data : (Rows.laid_unicode_utf8_acceptRanges : DataW Unit) = Lib.acceptData := by kernel_rfl
/-- The numbers at which the bridge's types and variables stand here. -/
def uren : Go.Shelf.Ren := ⟨fun n => n, fun | 5 => 5 | 119 => 61 | 138 => 63 | 139 => 64 | n => n, fun | 3 => 0 | 4 => 1 | n => n⟩
theorem utypes : U8Types Tryd.prog uren := ⟨Tryd.underlying5, Tryd.underlying61, Tryd.underlying63, Tryd.underlying64⟩
theorem uextra : U8Extra Tryd.prog uren := ⟨by kernel_rfl, by kernel_rfl, by kernel_rfl, by kernel_rfl, by kernel_rfl, by kernel_rfl, by kernel_rfl⟩
theorem tabs_of {W : World} {l : List (String × DataW Unit)} (h : laidMet Tryd.prog l W) (h4 : ("unicode/utf8.acceptRanges", (Rows.laid_unicode_utf8_acceptRanges : DataW Unit)) ∈ l) (h3 : ("unicode/utf8.first", (Rows.laid_unicode_utf8_first : DataW Unit)) ∈ l) : Tabs W := by
  have r3 := Lib.laidMet.reads h h3
  have r4 := Lib.laidMet.reads h h4
  rw [first_data] at r3
  rw [accept_data] at r4
  have t := utf8Tabs_of_readsT utypes uextra r3 r4
  exact ⟨t, World.block_lt_of_cell? W _ (t.1 0 (by omega)), World.block_lt_of_cell? W _ (t.2 0 (by omega)).1⟩

theorem hyp_FnExactDecodeAt {W : World} (hL : laidMetH Tryd.prog Rows.fnExactDecodeAtRow.laid W) : Tabs W :=
  tabs_of (l := Rows.fnExactDecodeAtRow.laid) hL (List.mem_cons_self ..) (List.mem_cons_of_mem _ (List.mem_cons_self ..))
theorem hyp_FnExactRunesOf {W : World} (hL : laidMetH Tryd.prog Rows.fnExactRunesOfRow.laid W) : Tabs W :=
  tabs_of (l := Rows.fnExactRunesOfRow.laid) hL (List.mem_cons_self ..) (List.mem_cons_of_mem _ (List.mem_cons_self ..))
theorem hyp_FnExactCutRunes {W : World} (hL : laidMetH Tryd.prog Rows.fnExactCutRunesRow.laid W) : Tabs W :=
  tabs_of (l := Rows.fnExactCutRunesRow.laid) hL (List.mem_cons_self ..) (List.mem_cons_of_mem _ (List.mem_cons_self ..))
theorem hyp_FnExactIsText {W : World} (hL : laidMetH Tryd.prog Rows.fnExactIsTextRow.laid W) : Tabs W :=
  tabs_of (l := Rows.fnExactIsTextRow.laid) hL (List.mem_cons_self ..) (List.mem_cons_of_mem _ (List.mem_cons_self ..))
theorem hyp_FnExactCompleteLength {W : World} (hL : laidMetH Tryd.prog Rows.fnExactCompleteLengthRow.laid W) : Tabs W :=
  tabs_of (l := Rows.fnExactCompleteLengthRow.laid) hL (List.mem_cons_self ..) (List.mem_cons_of_mem _ (List.mem_cons_self ..))
theorem hyp_FnRunes {W : World} (hL : laidMetH Tryd.prog Rows.fnRunesRow.laid W) : Tabs W :=
  tabs_of (l := Rows.fnRunesRow.laid) hL (List.mem_cons_self ..) (List.mem_cons_of_mem _ (List.mem_cons_self ..))
theorem hyp_FnComplete {W : World} (hL : laidMetH Tryd.prog Rows.fnCompleteRow.laid W) : Tabs W :=
  tabs_of (l := Rows.fnCompleteRow.laid) hL (List.mem_cons_self ..) (List.mem_cons_of_mem _ (List.mem_cons_self ..))
end Go.Proofs.YtaigjiiknmgclaaDoor
