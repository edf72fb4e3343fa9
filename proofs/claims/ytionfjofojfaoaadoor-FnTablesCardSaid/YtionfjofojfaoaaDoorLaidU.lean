/- What the rows' lists of variables give the walks: the decoder's two tables. -/
import Derived.Test.YtionfjofojfaoaaDoorRows
import Derived.Test.YtionfjofojfaoaaDoorImplChars
import Derived.Lib.LaidU8T
namespace Go.Proofs.YtionfjofojfaoaaDoor
open Go.RowKit

theorem first_data : (Rows.laid_unicode_utf8_first : DataW Unit) = Lib.firstData := by kernel_rfl
theorem accept_data : (Rows.laid_unicode_utf8_acceptRanges : DataW Unit) = Lib.acceptData := by kernel_rfl
/-- The numbers at which the bridge's types and variables stand here. -/
def uren : Go.Shelf.Ren := ⟨fun n => n, fun | 5 => 5 | 119 => 96 | 138 => 98 | 139 => 99 | n => n, fun | 3 => 1 | 4 => 2 | n => n⟩
theorem utypes : U8Types Tryd.prog uren := ⟨Tryd.underlying5, Tryd.underlying96, Tryd.underlying98, Tryd.underlying99⟩
theorem uextra : U8Extra Tryd.prog uren := ⟨by kernel_rfl, by kernel_rfl, by kernel_rfl, by kernel_rfl, by kernel_rfl, by kernel_rfl, by kernel_rfl⟩
theorem tabs_of {W : World} {l : List (String × DataW Unit)} (h : laidMet Tryd.prog l W) (h4 : ("unicode/utf8.acceptRanges", (Rows.laid_unicode_utf8_acceptRanges : DataW Unit)) ∈ l) (h3 : ("unicode/utf8.first", (Rows.laid_unicode_utf8_first : DataW Unit)) ∈ l) : Tabs W := by
  have r3 := Lib.laidMet.reads h h3
  have r4 := Lib.laidMet.reads h h4
  rw [first_data] at r3
  rw [accept_data] at r4
  have t := utf8Tabs_of_readsT utypes uextra r3 r4
  exact ⟨t, World.block_lt_of_cell? W _ (t.1 0 (by omega)), World.block_lt_of_cell? W _ (t.2 0 (by omega)).1⟩

end Go.Proofs.YtionfjofojfaoaaDoor
