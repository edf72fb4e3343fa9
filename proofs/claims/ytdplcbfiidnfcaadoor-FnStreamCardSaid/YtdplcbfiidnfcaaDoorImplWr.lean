/- The program's NewWriter and WriterName. -/
import Derived.Test.YtdplcbfiidnfcaaDoorWr
import Derived.Test.YtdplcbfiidnfcaaDoorBB
namespace Go.Proofs.YtdplcbfiidnfcaaDoor
open Go.RowKit
set_option linter.unusedVariables false

set_option maxRecDepth 100000 in
set_option maxHeartbeats 1000000 in
theorem implNewWriter (c : Cfg) (w : World) :
    Calls Tryd.prog 7 #[.agg (cfgV c)] w fun e w' => e = .returned (.tuple #[.agg (wrV (newC c) ⟨#[]⟩), .int .i64 (newI c)]) ∧ Below w.heap.size w w' := by
  have hS := fun W => implIsConfig c W
  have hC := fun (h : validC c = true) => (by unfold newC newI; rw [if_pos h, if_pos h]; exact ⟨rfl, rfl⟩ : newC c = c ∧ newI c = 0)
  have hD := fun (h : validC c = false) => (by unfold newC newI; rw [if_neg (by rw [h]; decide), if_neg (by rw [h]; decide)]; exact ⟨rfl, rfl⟩ : newC c = zeroC ∧ newI c = 1)
  have hR := Blk.new (w.alloc (.cells (cfgV c) 24)) 28 #[.int .i64 0, .int .i64 0, .int .i64 0, .int .i64 0, .bool false, .bool false, .bool false, .bool false, .bool false, .string ⟨#[]⟩]
  rw [show (w.alloc (.cells (cfgV c) 24)).heap.size = w.heap.size + 1 by simp] at hR
  have HR0 := Lib.hid hR
  have HC0 := Lib.hid ((Blk.new w 24 (cfgV c)).after ((Below.refl _ _).alloc (Nat.le_refl _) (.cells #[.int .i64 0, .int .i64 0, .int .i64 0, .int .i64 0, .bool false, .bool false, .bool false, .bool false, .bool false, .string ⟨#[]⟩] 28)))
  have B0 := Lib.hid (by go_grown : Below w.heap.size w ((w.alloc (.cells (cfgV c) 24)).alloc (.cells #[.int .i64 0, .int .i64 0, .int .i64 0, .int .i64 0, .bool false, .bool false, .bool false, .bool false, .bool false, .string ⟨#[]⟩] 28)))
  clear hR
  cases hv : validC c with
  | false =>
    obtain ⟨e1, e2⟩ := hD hv
    rw [e1, e2]
    rw [hv] at hS
    have HS := Lib.hid hS
    clear hS hv hC hD e1 e2
    obtain ⟨m, t, p, d, fr, fd, fl, fe, fm⟩ := c
    unfold cfgV at HS HR0 HC0 B0 ⊢
    simp only at HS HR0 HC0 B0 ⊢
    go_enter Tryd.func7, Tryd.ntmps7
    go_wp2_with fail
    refine (HS.out _).mono ?_
    rintro e w1 ⟨rfl, hb1⟩
    have B1 := Lib.hid (B0.out.trans (hb1.mono B0.out.size))
    have hz := HR0.out.after hb1
    have HZ := Lib.hid ((hz.row (cs' := #[.int .i64 0, .int .i64 0, .int .i64 0, .int .i64 0, .bool false, .bool false, .bool false, .bool false, .bool false, .string ⟨#[]⟩])).ten)
    clear hb1
    go_wp2_with (refine wpList_store_row rfl _ _ _ rfl (w.heap.size + 1) #[.int .i64 0, .int .i64 0, .int .i64 0, .int .i64 0, .bool false, .bool false, .bool false, .bool false, .bool false, .string ⟨#[]⟩] rfl rfl 28 _ hz size_wr rfl (one_wr _ _ _ _ _ _ _ _ _ _) ?_)
    obtain ⟨c0, c1, c2, c3, c4, c5, c6, c7, c8, c9⟩ := HZ.out
    exact bodyPost_ret (v := .tuple #[.agg (wrV zeroC ⟨#[]⟩), .int .i64 1]) (by simp [results, Tryd.results7, go_sem, c0, c1, c2, c3, c4, c5, c6, c7, c8, c9, wrV, zeroC]) rfl ⟨rfl, below_row B1.out (by omega)⟩
  | true =>
    obtain ⟨e1, e2⟩ := hC hv
    rw [e1, e2]
    rw [hv] at hS
    have HS := Lib.hid hS
    clear hS hv hC hD e1 e2
    obtain ⟨m, t, p, d, fr, fd, fl, fe, fm⟩ := c
    unfold cfgV at HS HR0 HC0 B0 ⊢
    simp only at HS HR0 HC0 B0 ⊢
    go_enter Tryd.func7, Tryd.ntmps7
    go_wp2_with fail
    refine (HS.out _).mono ?_
    rintro e w1 ⟨rfl, hb1⟩
    have B1 := Lib.hid (B0.out.trans (hb1.mono B0.out.size))
    have hz := HR0.out.after hb1
    have HZ := Lib.hid ((hz.row (cs' := #[.int .i64 m, .int .i64 t, .int .i64 p, .int .i64 d, .bool fr, .bool fd, .bool fl, .bool fe, .bool fm, .string ⟨#[]⟩])).ten)
    obtain ⟨d0, d1, d2, d3, d4, d5, d6, d7, d8⟩ := (HC0.out.after hb1).boxed
    clear hb1
    go_wp2_with (refine wpList_store_row rfl _ _ _ rfl (w.heap.size + 1) #[.int .i64 m, .int .i64 t, .int .i64 p, .int .i64 d, .bool fr, .bool fd, .bool fl, .bool fe, .bool fm, .string ⟨#[]⟩] rfl rfl 28 _ hz size_wr rfl (one_wr _ _ _ _ _ _ _ _ _ _) ?_)
    obtain ⟨c0, c1, c2, c3, c4, c5, c6, c7, c8, c9⟩ := HZ.out
    exact bodyPost_ret (v := .tuple #[.agg #[.int .i64 m, .int .i64 t, .int .i64 p, .int .i64 d, .bool fr, .bool fd, .bool fl, .bool fe, .bool fm, .string ⟨#[]⟩], .int .i64 0]) (by simp [results, Tryd.results7, go_sem, c0, c1, c2, c3, c4, c5, c6, c7, c8, c9]) rfl ⟨rfl, below_row B1.out (by omega)⟩
set_option maxRecDepth 100000 in
set_option maxHeartbeats 1000000 in
theorem implWriterName (n : Int) (w : World) :
    Calls Tryd.prog 15 #[.int .i64 n] w fun e w' => e = .returned (.string (wnameB n)) ∧ Below w.heap.size w w' := by
  by_cases h0 : n = 0
  · subst h0
    go_enter Tryd.func15, Tryd.ntmps15
    go_wp2
    go_ret
    exact ⟨rfl, Below.refl _ _⟩
  · by_cases h1 : n = 1
    · subst h1
      go_enter Tryd.func15, Tryd.ntmps15
      go_wp2
      go_ret
      exact ⟨rfl, Below.refl _ _⟩
    · by_cases h2 : n = 2
      · subst h2
        go_enter Tryd.func15, Tryd.ntmps15
        go_wp2
        go_ret
        exact ⟨rfl, Below.refl _ _⟩
      · have HE : Hid (wnameB n = ⟨#[63]⟩) := Lib.hid (by unfold wnameB; rw [if_neg h0, if_neg h1, if_neg h2])
        go_enter Tryd.func15, Tryd.ntmps15
        go_wp2
        go_ret
        exact ⟨ret_string HE.out.symm, Below.refl _ _⟩
end Go.Proofs.YtdplcbfiidnfcaaDoor
