/- What the rows' lists of variables give the walks: the decoder's two tables and the program's table of widths. -/
import Derived.Test.YtionfjofojfaoaaDoorRows
import Derived.Test.YtionfjofojfaoaaDoorImplPadW
import Derived.Test.YtionfjofojfaoaaDoorLaidU
import Derived.Lib.LaidU8T
import Derived.ChangeSame
namespace Go.Proofs.YtionfjofojfaoaaDoor
open Go.RowKit Go.ChangeShapes

theorem wdata : (Rows.laid_loop_example_g00819_impl_widthRanges : DataW Unit) = .slice (wrows.map fun x => .agg [.agg [.lit (.int .i64 x.1), .lit (.int .i64 x.2.1)], .lit (.int .i64 x.2.2)]) [] := by kernel_rfl
theorem c_row : Tryd.prog.cellsOf 81 = 3 := by kernel_rfl
theorem c_pair : Tryd.prog.cellsOf 78 = 2 := by kernel_rfl
theorem c_int : Tryd.prog.cellsOf 3 = 1 := by kernel_rfl
theorem cells_row {W : World} {n : Nat} {cs : List Value} {x : Int × Int × Int} {q : List MemPlace}
    (h : DataW.trod (fun _ => ()) Tryd.prog W 0 (fun _ => true) false n 81 cs = some ((.agg [.agg [.lit (.int .i64 x.1), .lit (.int .i64 x.2.1)], .lit (.int .i64 x.2.2)] : DataW Unit), q)) :
    cs = [.int .i64 x.1, .int .i64 x.2.1, .int .i64 x.2.2] := by
  obtain ⟨y0, y1, m, hx, hl, h0, h1⟩ := trod_struct2 Tryd.underlying81 h
  obtain ⟨d0, q0⟩ := y0
  obtain ⟨d1, q1⟩ := y1
  simp only [Prod.mk.injEq, DataW.agg.injEq, List.cons.injEq, and_true] at hx
  obtain ⟨⟨rfl, rfl⟩, _⟩ := hx
  rw [c_row] at hl
  simp only [c_pair, c_int, List.drop_zero] at h0 h1
  have e0 : cs.take 2 = [.int .i64 x.1, .int .i64 x.2.1] := Lib.cells_of_tab (zs := [x.1, x.2.1]) Tryd.underlying78 Tryd.underlying3 c_int c_pair h0
  obtain ⟨z, e1, e2, _⟩ := DataW.trod_int Tryd.underlying3 h1
  simp only [Prod.mk.injEq, DataW.lit.injEq, Lit.int.injEq, true_and] at e2
  obtain ⟨e2, _⟩ := e2
  subst e2
  match cs, hl with
  | [a, b, c], _ =>
    simp at e0 e1
    obtain ⟨rfl, rfl⟩ := e0
    rw [e1]
theorem wtab_of {W : World} (h : Lib.VarReads Tryd.prog W "loop.example/g00819/impl.widthRanges" Rows.laid_loop_example_g00819_impl_widthRanges) : WTab W := by
  obtain ⟨g, t, cs, fuel, p, hg, hty, hvar, hd⟩ := h
  obtain rfl := Option.some.inj ((show Tryd.prog.globalNamed "loop.example/g00819/impl.widthRanges" = some 0 by kernel_rfl).symm.trans hg)
  obtain rfl := Option.some.inj ((show (Tryd.prog.globals[0]?).map (·.type) = some 79 by kernel_rfl).symm.trans hty)
  rw [wdata] at hd
  have hcell := World.var?_cell hg hvar 0
  rcases DataW.trod_slice Tryd.underlying79 hd with ⟨_, hx⟩ | ⟨a, len, cap, elems, rest, n, _, hcs, hx, _, _, _, hel, hee, _, _⟩
  · simp at hx
  · simp only [Prod.mk.injEq, DataW.slice.injEq] at hx
    have hmap := hx.1.1
    have hl17 : elems.length = 17 := by
      have := congrArg List.length hmap
      rw [List.length_map, List.length_map] at this
      rw [← this]; rfl
    have hlen : len = 17 := by omega
    subst hlen
    have hrow : ∀ (j : Nat) (hj : j < wrows.length), W.cell? ((a.add (j * 3)).add 0) = some (.int .i64 wrows[j].1) ∧ W.cell? ((a.add (j * 3)).add 1) = some (.int .i64 wrows[j].2.1) ∧ W.cell? ((a.add (j * 3)).add 2) = some (.int .i64 wrows[j].2.2) := by
      intro j hj
      have hj17 : j < 17 := hj
      have he := hee j hj17
      rw [c_row, List.getElem?_eq_getElem (by omega)] at he
      obtain ⟨cs', hc', ht'⟩ := Option.bind_eq_some_iff.1 he
      obtain ⟨_, _, hat⟩ := World.cells?_some hc'
      have hdj : (elems[j]'(by omega)).1 = .agg [.agg [.lit (.int .i64 wrows[j].1), .lit (.int .i64 wrows[j].2.1)], .lit (.int .i64 wrows[j].2.2)] := by
        have e3 := congrArg (·[j]?) hmap
        simp only [List.getElem?_map, List.getElem?_eq_getElem hj, List.getElem?_eq_getElem (show j < elems.length by omega), Option.map_some, Option.some.injEq] at e3
        exact e3.symm
      obtain ⟨y, hy⟩ : ∃ y, y = elems[j]'(by omega) := ⟨_, rfl⟩
      rw [← hy] at ht' hdj
      obtain ⟨dj, qj⟩ := y
      simp only at hdj
      subst hdj
      have hcs' := cells_row ht'
      subst hcs'
      exact ⟨hat 0 (by omega), hat 1 (by omega), hat 2 (by omega)⟩
    obtain ⟨b, off, spot⟩ := a
    have h00 := (hrow 0 (by decide)).1
    have hspot : spot = none := by simpa [Addr.add] using World.cell?_spot h00
    subst hspot
    have hadd : ∀ o k, (⟨b, o, none⟩ : Addr).add k = ⟨b, o + k, none⟩ := fun o k => by unfold Addr.add; split <;> simp_all
    simp only [hadd] at hrow h00
    have hc0 : W.cell? ⟨0, 0, none⟩ = some (.slice (some ⟨b, off, none⟩) 17 cap) := by
      rw [hcell, ← Array.getElem?_toList, hcs]; rfl
    refine ⟨b, off, cap, hc0, World.block_lt_of_cell? W _ hc0, World.block_lt_of_cell? W _ h00, fun j hj => ?_⟩
    have := hrow j hj
    rwa [Nat.add_zero] at this
theorem hyp_FnExactNaturalWidths {W : World} (hL : laidMetH Tryd.prog Rows.fnExactNaturalWidthsRow.laid W) : WT W :=
  ⟨tabs_of (l := Rows.fnExactNaturalWidthsRow.laid) hL (List.mem_cons_self ..) (List.mem_cons_of_mem _ (List.mem_cons_of_mem _ (List.mem_cons_self ..))), wtab_of (Lib.laidMet.reads (l := Rows.fnExactNaturalWidthsRow.laid) hL (List.mem_cons_of_mem _ (List.mem_cons_self ..)))⟩
theorem hyp_FnTables {W : World} (hL : laidMetH Tryd.prog Rows.fnTablesRow.laid W) : WT W :=
  ⟨tabs_of (l := Rows.fnTablesRow.laid) hL (List.mem_cons_self ..) (List.mem_cons_of_mem _ (List.mem_cons_of_mem _ (List.mem_cons_self ..))), wtab_of (Lib.laidMet.reads (l := Rows.fnTablesRow.laid) hL (List.mem_cons_of_mem _ (List.mem_cons_self ..)))⟩
end Go.Proofs.YtionfjofojfaoaaDoor
