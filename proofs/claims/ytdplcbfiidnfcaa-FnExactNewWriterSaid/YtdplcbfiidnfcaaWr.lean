/- Writers: values, the model's NewWriter and WriterName, the law's comparison. -/
import Derived.Test.YtdplcbfiidnfcaaOpenCfg
import Derived.Test.YtdplcbfiidnfcaaSpecCfg
import Derived.Test.YtdplcbfiidnfcaaCfgCells
namespace Go.Proofs.Ytdplcbfiidnfcaa
open Go.RowKit
set_option linter.unusedVariables false

/-- A writer's value. -/
def wrV (c : Cfg) (h : ByteArray) : Array Value := #[.int .i64 c.cmin, .int .i64 c.ctab, .int .i64 c.cpadding, .int .i64 c.cpad, .bool c.fr, .bool c.fd, .bool c.fl, .bool c.fe, .bool c.fm, .string h]
/-- What NewWriter answers. -/
def newC (c : Cfg) : Cfg := if validC c = true then c else zeroC
def newI (c : Cfg) : Int := if validC c = true then 0 else 1
/-- What WriterName answers. -/
def wnameB (n : Int) : ByteArray := if n = 0 then ⟨#[111, 107]⟩ else if n = 1 then ⟨#[99, 111, 110, 102, 105, 103]⟩ else if n = 2 then ⟨#[104, 101, 108, 100]⟩ else ⟨#[63]⟩
/-- The cells of a writer in memory. -/
theorem Blk.ten {W : World} {g : Nat} {T : TypeId} {m t p d : Int} {fr fd fl fe fm : Bool} {h : ByteArray} (hb : Blk W g T #[.int .i64 m, .int .i64 t, .int .i64 p, .int .i64 d, .bool fr, .bool fd, .bool fl, .bool fe, .bool fm, .string h]) :
    W.cell? ⟨g, 0, none⟩ = some (.int .i64 m) ∧ W.cell? ⟨g, 1, none⟩ = some (.int .i64 t) ∧ W.cell? ⟨g, 2, none⟩ = some (.int .i64 p) ∧ W.cell? ⟨g, 3, none⟩ = some (.int .i64 d) ∧ W.cell? ⟨g, 4, none⟩ = some (.bool fr) ∧ W.cell? ⟨g, 5, none⟩ = some (.bool fd) ∧ W.cell? ⟨g, 6, none⟩ = some (.bool fl) ∧ W.cell? ⟨g, 7, none⟩ = some (.bool fe) ∧ W.cell? ⟨g, 8, none⟩ = some (.bool fm) ∧ W.cell? ⟨g, 9, none⟩ = some (.string h) :=
  ⟨hb.cell 0, hb.cell 1, hb.cell 2, hb.cell 3, hb.cell 4, hb.cell 5, hb.cell 6, hb.cell 7, hb.cell 8, hb.cell 9⟩
theorem one_wr (m t p d : Int) (fr fd fl fe fm : Bool) (h : ByteArray) : (#[.int .i64 m, .int .i64 t, .int .i64 p, .int .i64 d, .bool fr, .bool fd, .bool fl, .bool fe, .bool fm, .string h] : Array Value).all (·.oneCell') = true := by simp [Value.oneCell']
theorem size_wr : (Try.prog.info? 26).map (·.size) = some 10 := by kernel_rfl
set_option maxRecDepth 100000 in
set_option maxHeartbeats 1000000 in
theorem specNewWriter (c : Cfg) (w : World) :
    Calls Try.prog 5 #[.agg (cfgV c)] w fun e w' => e = .returned (.tuple #[.agg (wrV (newC c) ⟨#[]⟩), .int .i64 (newI c)]) ∧ Below w.heap.size w w' := by
  have hS := fun W => specIsConfig c W
  have hC := fun (h : validC c = true) => (by unfold newC newI; rw [if_pos h, if_pos h]; exact ⟨rfl, rfl⟩ : newC c = c ∧ newI c = 0)
  have hD := fun (h : validC c = false) => (by unfold newC newI; rw [if_neg (by rw [h]; decide), if_neg (by rw [h]; decide)]; exact ⟨rfl, rfl⟩ : newC c = zeroC ∧ newI c = 1)
  have hR := Blk.new (w.alloc (.cells (cfgV c) 24)) 26 #[.int .i64 0, .int .i64 0, .int .i64 0, .int .i64 0, .bool false, .bool false, .bool false, .bool false, .bool false, .string ⟨#[]⟩]
  rw [show (w.alloc (.cells (cfgV c) 24)).heap.size = w.heap.size + 1 by simp] at hR
  have HR0 := Lib.hid hR
  have HC0 := Lib.hid ((Blk.new w 24 (cfgV c)).after ((Below.refl _ _).alloc (Nat.le_refl _) (.cells #[.int .i64 0, .int .i64 0, .int .i64 0, .int .i64 0, .bool false, .bool false, .bool false, .bool false, .bool false, .string ⟨#[]⟩] 26)))
  have B0 := Lib.hid (by go_grown : Below w.heap.size w ((w.alloc (.cells (cfgV c) 24)).alloc (.cells #[.int .i64 0, .int .i64 0, .int .i64 0, .int .i64 0, .bool false, .bool false, .bool false, .bool false, .bool false, .string ⟨#[]⟩] 26)))
  clear hR
  cases hv : validC c with
  | false =>
    obtain ⟨e1, e2⟩ := hD hv
    rw [e1, e2]
    rw [hv] at hS
    have HS := Lib.hid hS
    clear hS hv hC hD e1 e2
    obtain ⟨m, t, p, d, fr, fd, fl, fe, fm⟩ := c
    unfold cfgV at HS HR0 HC0 B0 ⊢
    simp only at HS HR0 HC0 B0 ⊢
    go_enter Try.func5, Try.ntmps5
    go_wp2_with fail
    refine (HS.out _).mono ?_
    rintro e w1 ⟨rfl, hb1⟩
    have B1 := Lib.hid (B0.out.trans (hb1.mono B0.out.size))
    have hz := HR0.out.after hb1
    have HZ := Lib.hid ((hz.row (cs' := #[.int .i64 0, .int .i64 0, .int .i64 0, .int .i64 0, .bool false, .bool false, .bool false, .bool false, .bool false, .string ⟨#[]⟩])).ten)
    clear hb1
    go_wp2_with (refine wpList_store_row rfl _ _ _ rfl (w.heap.size + 1) #[.int .i64 0, .int .i64 0, .int .i64 0, .int .i64 0, .bool false, .bool false, .bool false, .bool false, .bool false, .string ⟨#[]⟩] rfl rfl 26 _ hz size_wr rfl (one_wr _ _ _ _ _ _ _ _ _ _) ?_)
    obtain ⟨c0, c1, c2, c3, c4, c5, c6, c7, c8, c9⟩ := HZ.out
    exact bodyPost_ret (v := .tuple #[.agg (wrV zeroC ⟨#[]⟩), .int .i64 1]) (by simp [results, Try.results5, go_sem, c0, c1, c2, c3, c4, c5, c6, c7, c8, c9, wrV, zeroC]) rfl ⟨rfl, below_row B1.out (by omega)⟩
  | true =>
    obtain ⟨e1, e2⟩ := hC hv
    rw [e1, e2]
    rw [hv] at hS
    have HS := Lib.hid hS
    clear hS hv hC hD e1 e2
    obtain ⟨m, t, p, d, fr, fd, fl, fe, fm⟩ := c
    unfold cfgV at HS HR0 HC0 B0 ⊢
    simp only at HS HR0 HC0 B0 ⊢
    go_enter Try.func5, Try.ntmps5
    go_wp2_with fail
    refine (HS.out _).mono ?_
    rintro e w1 ⟨rfl, hb1⟩
    have B1 := Lib.hid (B0.out.trans (hb1.mono B0.out.size))
    have hz := HR0.out.after hb1
    have HZ := Lib.hid ((hz.row (cs' := #[.int .i64 m, .int .i64 t, .int .i64 p, .int .i64 d, .bool fr, .bool fd, .bool fl, .bool fe, .bool fm, .string ⟨#[]⟩])).ten)
    obtain ⟨d0, d1, d2, d3, d4, d5, d6, d7, d8⟩ := (HC0.out.after hb1).boxed
    clear hb1
    go_wp2_with (refine wpList_store_row rfl _ _ _ rfl (w.heap.size + 1) #[.int .i64 m, .int .i64 t, .int .i64 p, .int .i64 d, .bool fr, .bool fd, .bool fl, .bool fe, .bool fm, .string ⟨#[]⟩] rfl rfl 26 _ hz size_wr rfl (one_wr _ _ _ _ _ _ _ _ _ _) ?_)
    obtain ⟨c0, c1, c2, c3, c4, c5, c6, c7, c8, c9⟩ := HZ.out
    exact bodyPost_ret (v := .tuple #[.agg #[.int .i64 m, .int .i64 t, .int .i64 p, .int .i64 d, .bool fr, .bool fd, .bool fl, .bool fe, .bool fm, .string ⟨#[]⟩], .int .i64 0]) (by simp [results, Try.results5, go_sem, c0, c1, c2, c3, c4, c5, c6, c7, c8, c9]) rfl ⟨rfl, below_row B1.out (by omega)⟩
set_option maxRecDepth 100000 in
set_option maxHeartbeats 1000000 in
theorem specWriterName (n : Int) (w : World) :
    Calls Try.prog 9 #[.int .i64 n] w fun e w' => e = .returned (.string (wnameB n)) ∧ Below w.heap.size w w' := by
  have HI := Lib.hid (fun W => l01In_any n 0 2 W)
  by_cases h0 : n = 0
  · subst h0
    rw [inB_yes (by omega)] at HI
    go_enter Try.func9, Try.ntmps9
    go_wp2_with fail
    refine (HI.out _).mono ?_
    rintro e w1 ⟨rfl, rfl⟩
    go_wp2
    go_ret
    exact ⟨rfl, by go_grown⟩
  · by_cases h1 : n = 1
    · subst h1
      rw [inB_yes (by omega)] at HI
      go_enter Try.func9, Try.ntmps9
      go_wp2_with fail
      refine (HI.out _).mono ?_
      rintro e w1 ⟨rfl, rfl⟩
      go_wp2
      go_ret
      exact ⟨rfl, by go_grown⟩
    · by_cases h2 : n = 2
      · subst h2
        rw [inB_yes (by omega)] at HI
        go_enter Try.func9, Try.ntmps9
        go_wp2_with fail
        refine (HI.out _).mono ?_
        rintro e w1 ⟨rfl, rfl⟩
        go_wp2
        go_ret
        exact ⟨rfl, by go_grown⟩
      · rw [inB_no (by omega)] at HI
        have HE : Hid (wnameB n = ⟨#[63]⟩) := Lib.hid (by unfold wnameB; rw [if_neg h0, if_neg h1, if_neg h2])
        clear h0 h1 h2
        go_enter Try.func9, Try.ntmps9
        go_wp2_with fail
        refine (HI.out _).mono ?_
        rintro e w1 ⟨rfl, rfl⟩
        go_wp2
        go_ret
        exact ⟨ret_string HE.out.symm, Below.refl _ _⟩
set_option maxRecDepth 100000 in
set_option maxHeartbeats 1000000 in
theorem eqWriter_same (c : Cfg) (h : ByteArray) (w : World) :
    Calls Try.prog 8 #[.agg (wrV c h), .agg (wrV c h)] w fun e w' => e = .returned (.bool true) ∧ Below w.heap.size w w' := by
  have HE := Lib.hid (fun W => eqConfig_same c W)
  have HA := Lib.hid ((Blk.new w 26 (wrV c h)).after ((Below.refl _ _).alloc (Nat.le_refl _) (.cells (wrV c h) 26)))
  have hB := Blk.new (w.alloc (.cells (wrV c h) 26)) 26 (wrV c h)
  rw [show (w.alloc (.cells (wrV c h) 26)).heap.size = w.heap.size + 1 by simp] at hB
  have HB := Lib.hid hB
  have B0 := Lib.hid (by go_grown : Below w.heap.size w ((w.alloc (.cells (wrV c h) 26)).alloc (.cells (wrV c h) 26)))
  clear hB
  obtain ⟨m, t, p, d, fr, fd, fl, fe, fm⟩ := c
  unfold cfgV at HE
  unfold wrV at HA HB B0 ⊢
  simp only at HE HA HB B0 ⊢
  go_enter Try.func8, Try.ntmps8
  go_wp2_with fail
  refine (HE.out _).mono ?_
  rintro e w1 ⟨rfl, hb1⟩
  have B1 := Lib.hid (B0.out.trans (hb1.mono B0.out.size))
  have a9 := (HA.out.after hb1).cell 9
  have b9 := (HB.out.after hb1).cell 9
  simp at a9 b9
  clear hb1
  go_wp2_with fail
  go_ret
  exact ⟨rfl, B1.out⟩
end Go.Proofs.Ytdplcbfiidnfcaa
