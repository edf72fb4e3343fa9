/- What the rows' lists of variables give the walks. -/
import Derived.Test.YtjdbkpckhgncbaaDoorRows
import Derived.Test.YtjdbkpckhgncbaaDoorImplFmt
import Derived.Test.YtjdbkpckhgncbaaDoorAtoi
import Derived.Lib.LaidTab
import Derived.LaidLaws
namespace Go.Proofs.YtjdbkpckhgncbaaDoor
open Go.RowKit

theorem laid_mem {P : Program} {w : World} {n : String} {d : DataW Unit} : ∀ {l : List (String × DataW Unit)} {ps : List MemPlace}, DataW.LaidVars P w l ps → (n, d) ∈ l →
    ∃ g t cs fuel p, P.globalNamed n = some g ∧ (P.globals[g]?).map (·.type) = some t ∧ w.var? P n = some cs ∧ DataW.trod (fun _ => ()) P w 0 (fun _ => true) false fuel t cs.toList = some (d, p)
  | [], _, _, hm => by cases hm
  | (n', d') :: r, ps, h, hm => by
    obtain ⟨g, t, cs, fuel, p, q, h1, h2, h3, h4, h5, _⟩ := h
    cases hm with
    | head => exact ⟨g, t, cs, fuel, p, h1, h2, h3, h4⟩
    | tail _ hm => exact laid_mem h5 hm

theorem pow_type : (Tryd.prog.globals[6]?).map (·.type) = some 182 := by kernel_rfl
theorem pow_cells : Tryd.prog.cellsOf 182 = 20 := by kernel_rfl
theorem pow_cell : Tryd.prog.cellsOf 150 = 1 := by kernel_rfl
theorem pow_data : (Rows.laid_internal_strconv_uint64pow10 : DataW Unit) = Lib.tabData .u64 Lib.pow10Tab := by rfl

theorem pow_of {W : World} {l : List (String × DataW Unit)} (h : laidMet Tryd.prog l W) (hm : ("internal/strconv.uint64pow10", (Rows.laid_internal_strconv_uint64pow10 : DataW Unit)) ∈ l) : Pow W := by
  obtain ⟨ps, hv, _⟩ := h
  obtain ⟨g, t, cs, fuel, p, h1, h2, h3, h4⟩ := laid_mem hv hm
  obtain rfl := Option.some.inj (gPow.symm.trans h1)
  obtain rfl := Option.some.inj (pow_type.symm.trans h2)
  rw [pow_data] at h4
  unfold Pow Lib.TabIs
  rw [h3, ← Lib.cells_of_tab Tryd.underlying182 Tryd.underlying150 pow_cell pow_cells h4]

theorem gSyn : Tryd.prog.globalNamed "strconv.ErrSyntax" = some 4 := by kernel_rfl
theorem gRan : Tryd.prog.globalNamed "strconv.ErrRange" = some 5 := by kernel_rfl
theorem syn_type : (Tryd.prog.globals[4]?).map (·.type) = some 84 := by kernel_rfl
theorem ran_type : (Tryd.prog.globals[5]?).map (·.type) = some 84 := by kernel_rfl
theorem err_of {W : World} {l : List (String × DataW Unit)} {nm : String} {g0 : Nat} {word : String} {d : DataW Unit} (hg : Tryd.prog.globalNamed nm = some g0) (ht : (Tryd.prog.globals[g0]?).map (·.type) = some 84)
    (h : laidMet Tryd.prog l W) (hm : (nm, DataW.iface word d) ∈ l) : ∃ tp p, W.var? Tryd.prog nm = some #[.iface tp p] := by
  obtain ⟨ps, hv, _⟩ := h
  obtain ⟨g, t, cs, fuel, p, h1, h2, h3, h4⟩ := laid_mem hv hm
  obtain rfl := Option.some.inj (hg.symm.trans h1)
  obtain rfl := Option.some.inj (ht.symm.trans h2)
  obtain ⟨_, u, v, hcs, _, _⟩ := iface_of_trod Tryd.underlying84 h4
  refine ⟨u, v, h3.trans (congrArg some ?_)⟩
  apply Array.ext'
  rw [hcs]
theorem errs_of {W : World} {l : List (String × DataW Unit)} (h : laidMet Tryd.prog l W) (h1 : ("strconv.ErrSyntax", (Rows.laid_strconv_ErrSyntax : DataW Unit)) ∈ l) (h2 : ("strconv.ErrRange", (Rows.laid_strconv_ErrRange : DataW Unit)) ∈ l) : Errs W :=
  ⟨err_of gSyn syn_type h h1, err_of gRan ran_type h h2⟩
theorem Errs.below {w w' : World} (h : Errs w) (hb : Below w.heap.size w w') : Errs w' := by
  obtain ⟨⟨a, b, h1⟩, c, d, h2⟩ := h
  exact ⟨⟨a, b, var_below hb gSyn (var_lt gSyn h1) h1⟩, c, d, var_below hb gRan (var_lt gRan h2) h2⟩

theorem hyp_FnConfigs {W : World} (hL : laidMetH Tryd.prog Rows.fnConfigsRow.laid W) : Pow W ∧ Errs W :=
  ⟨pow_of (l := Rows.fnConfigsRow.laid) hL (List.mem_cons_of_mem _ (List.mem_cons_of_mem _ (List.mem_cons_self ..))),
   errs_of (l := Rows.fnConfigsRow.laid) hL (List.mem_cons_of_mem _ (List.mem_cons_of_mem _ (List.mem_cons_of_mem _ (List.mem_cons_of_mem _ (List.mem_cons_self ..)))))
     (List.mem_cons_of_mem _ (List.mem_cons_of_mem _ (List.mem_cons_of_mem _ (List.mem_cons_self ..))))⟩
end Go.Proofs.YtjdbkpckhgncbaaDoor
