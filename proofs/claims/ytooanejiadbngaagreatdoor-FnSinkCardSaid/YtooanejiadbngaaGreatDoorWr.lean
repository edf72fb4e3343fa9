/- Writers: values, the model's NewWriter and WriterName, the law's comparison. -/
import Derived.Test.YtooanejiadbngaaGreatDoorBB
namespace Go.Proofs.YtooanejiadbngaaGreatDoor
open Go.RowKit
set_option linter.unusedVariables false

/-- A writer's value. -/
def wrV (c : Cfg) (h : ByteArray) : Array Value := #[.int .i64 c.cmin, .int .i64 c.ctab, .int .i64 c.cpadding, .int .i64 c.cpad, .bool c.fr, .bool c.fd, .bool c.fl, .bool c.fe, .bool c.fm, .string h]
/-- What NewWriter answers. -/
def newC (c : Cfg) : Cfg := if validC c = true then c else zeroC
def newI (c : Cfg) : Int := if validC c = true then 0 else 1
/-- What WriterName answers. -/
def wnameB (n : Int) : ByteArray := if n = 0 then ⟨#[111, 107]⟩ else if n = 1 then ⟨#[99, 111, 110, 102, 105, 103]⟩ else if n = 2 then ⟨#[104, 101, 108, 100]⟩ else ⟨#[63]⟩
/-- The cells of a writer in memory. -/
theorem Blk.ten {W : World} {g : Nat} {T : TypeId} {m t p d : Int} {fr fd fl fe fm : Bool} {h : ByteArray} (hb : Blk W g T #[.int .i64 m, .int .i64 t, .int .i64 p, .int .i64 d, .bool fr, .bool fd, .bool fl, .bool fe, .bool fm, .string h]) :
    W.cell? ⟨g, 0, none⟩ = some (.int .i64 m) ∧ W.cell? ⟨g, 1, none⟩ = some (.int .i64 t) ∧ W.cell? ⟨g, 2, none⟩ = some (.int .i64 p) ∧ W.cell? ⟨g, 3, none⟩ = some (.int .i64 d) ∧ W.cell? ⟨g, 4, none⟩ = some (.bool fr) ∧ W.cell? ⟨g, 5, none⟩ = some (.bool fd) ∧ W.cell? ⟨g, 6, none⟩ = some (.bool fl) ∧ W.cell? ⟨g, 7, none⟩ = some (.bool fe) ∧ W.cell? ⟨g, 8, none⟩ = some (.bool fm) ∧ W.cell? ⟨g, 9, none⟩ = some (.string h) :=
  ⟨hb.cell 0, hb.cell 1, hb.cell 2, hb.cell 3, hb.cell 4, hb.cell 5, hb.cell 6, hb.cell 7, hb.cell 8, hb.cell 9⟩
theorem one_wr (m t p d : Int) (fr fd fl fe fm : Bool) (h : ByteArray) : (#[.int .i64 m, .int .i64 t, .int .i64 p, .int .i64 d, .bool fr, .bool fd, .bool fl, .bool fe, .bool fm, .string h] : Array Value).all (·.oneCell') = true := by simp [Value.oneCell']
theorem size_wr : (Tryz.prog.info? 33).map (·.size) = some 10 := by kernel_rfl
end Go.Proofs.YtooanejiadbngaaGreatDoor
