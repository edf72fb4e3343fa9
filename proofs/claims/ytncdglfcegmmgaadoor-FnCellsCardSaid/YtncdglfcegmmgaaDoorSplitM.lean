/- What a splitter holds in memory, and what each of its steps does to it. No walk. -/
import Derived.Test.YtncdglfcegmmgaaDoorLnOwn
import Derived.Test.YtncdglfcegmmgaaDoorSpecCfg
namespace Go.Proofs.YtncdglfcegmmgaaDoor
open Go.RowKit
set_option linter.unusedVariables false

/-- What l05Split holds: the configuration's block, the line's, the cells, the bytes, the lines. -/
def SpM (w W : World) (c : Cfg) (gl : Nat) (vo vc vb : Value) (st : Sp) : Prop :=
  Below w.heap.size w W ∧ Blk W w.heap.size 24 (cfgV c) ∧ Blk W gl 34 #[vc, .string ⟨#[]⟩, .int .i64 0, .int .i64 0] ∧ OwnC W w.heap.size vc st.cells ∧ W.ownsRow w.heap.size 5 1 vb st.buf.length (u8s st.buf) ∧ OwnL W w.heap.size vc.ownBlock vo st.outs ∧ vo.ownBlock ≠ some gl ∧ w.heap.size < gl
theorem SpM.below {w W W' : World} {c : Cfg} {gl : Nat} {vo vc vb : Value} {st : Sp} (h : SpM w W c gl vo vc vb st) (hb : Below W.heap.size W W') : SpM w W' c gl vo vc vb st := by
  obtain ⟨h1, h2, h3, h4, h5, h6, h7, h8⟩ := h
  exact ⟨h1.trans (hb.mono h1.size), h2.after hb, h3.after hb, h4.keeps (.below _ hb), own_below h5 hb, h6.keeps (.below _ hb) (.below _ hb), h7, h8⟩
theorem grown_below {w W W' : World} {row : Option Nat} (h : Below w.heap.size w W) (hg : W.grownBy W' row) (hr : ∀ k, row = some k → w.heap.size ≤ k) : Below w.heap.size w W' := h.grown hg h.size hr
/-- One cell more. -/
theorem SpM.cell {w W W' : World} {c : Cfg} {gl : Nat} {vo vc vb vc' : Value} {st : Sp} {x : Cel} (h : SpM w W c gl vo vc vb st) (ho : W'.ownsRow w.heap.size 32 2 vc' (st.cells.length + 1) (celVals st.cells ++ [.string x.txt, .int .i64 x.wid])) (hg : W.grownBy W' vc.ownBlock) (hat : vc'.ownBlock = vc.ownBlock ∨ vc'.ownBlock = some (W.heap.size + 1)) :
    SpM w (W'.setCell ⟨gl, 0, none⟩ vc') c gl vo vc' (.slice none 0 0) ⟨st.outs, st.raw, st.cells ++ [x], []⟩ := by
  obtain ⟨h1, h2, h3, h4, h5, h6, h7, h8⟩ := h
  have k4 : W.ownsRow w.heap.size 32 2 vc st.cells.length (celVals st.cells) := h4
  have b1 := h2.keeps (.grown k4 (by decide) hg)
  have b2 := h3.keeps (.grown k4 (by decide) hg)
  have gs := grown_set W' gl 0 vc'
  have kc : Keeps W' (W'.setCell ⟨gl, 0, none⟩ vc') 32 := .blk b2 (by decide) gs
  refine ⟨(grown_below h1 hg (fun k hk => (World.ownsRow.lt k4 k hk).1)).setCell (Nat.le_of_lt h8) _, b1.keeps (.blk b2 (by decide) gs), b2.set 0 vc', (OwnC.snoc ho).keeps kc, World.ownsRow_nil _ _ _ _, ?_, h7, h8⟩
  exact (h6.celled (.grown k4 (by decide) hg) hg hat (Nat.le_succ _)).other gs h7 kc
/-- One byte more. -/
theorem SpM.byte {w W W' : World} {c : Cfg} {gl : Nat} {vo vc vb vb' : Value} {st : Sp} {x : UInt8} (h : SpM w W c gl vo vc vb st) (ho : W'.ownsRow w.heap.size 5 1 vb' (st.buf.length + 1) (u8s st.buf ++ [.int .u8 x.toNat])) (hg : W.grownBy W' vb.ownBlock) :
    SpM w W' c gl vo vc vb' ⟨st.outs, st.raw, st.cells, st.buf ++ [x]⟩ := by
  obtain ⟨h1, h2, h3, h4, h5, h6, h7, h8⟩ := h
  refine ⟨grown_below h1 hg (fun k hk => (World.ownsRow.lt h5 k hk).1), h2.keeps (.grown h5 (by decide) hg), h3.keeps (.grown h5 (by decide) hg), h4.keeps (.grown h5 (by decide) hg), ?_, h6.keeps (.grown h5 (by decide) hg) (.grown h5 (by decide) hg), h7, h8⟩
  exact own_more ho (by simp) (by simp [u8s])
/-- One line more: the line's block as it stands, put at the end, and cleared. -/
theorem SpM.fill {w W : World} {c : Cfg} {gl : Nat} {vo vc vb : Value} {st : Sp} (h : SpM w W c gl vo vc vb st) (x : Cel) (f : Int) :
    Below w.heap.size w (((W.setCell ⟨gl, 1, none⟩ (.string x.txt)).setCell ⟨gl, 2, none⟩ (.int .i64 x.wid)).setCell ⟨gl, 3, none⟩ (.int .i64 f)) ∧ Blk (((W.setCell ⟨gl, 1, none⟩ (.string x.txt)).setCell ⟨gl, 2, none⟩ (.int .i64 x.wid)).setCell ⟨gl, 3, none⟩ (.int .i64 f)) gl 34 #[vc, .string x.txt, .int .i64 x.wid, .int .i64 f]
    ∧ W.grownBy (((W.setCell ⟨gl, 1, none⟩ (.string x.txt)).setCell ⟨gl, 2, none⟩ (.int .i64 x.wid)).setCell ⟨gl, 3, none⟩ (.int .i64 f)) (some gl) := by
  obtain ⟨h1, h2, h3, h4, h5, h6, h7, h8⟩ := h
  exact ⟨((h1.setCell (Nat.le_of_lt h8) _).setCell (Nat.le_of_lt h8) _).setCell (Nat.le_of_lt h8) _, ((h3.set 1 _).set 2 _).set 3 _, grown_trans (grown_trans (grown_set W gl 1 _) (grown_set _ gl 2 _)) (grown_set _ gl 3 _)⟩
theorem SpM.fill2 {w W : World} {c : Cfg} {gl : Nat} {vo vc vb : Value} {st : Sp} (h : SpM w W c gl vo vc vb st) (x : Cel) :
    Below w.heap.size w ((W.setCell ⟨gl, 1, none⟩ (.string x.txt)).setCell ⟨gl, 2, none⟩ (.int .i64 x.wid)) ∧ Blk ((W.setCell ⟨gl, 1, none⟩ (.string x.txt)).setCell ⟨gl, 2, none⟩ (.int .i64 x.wid)) gl 34 #[vc, .string x.txt, .int .i64 x.wid, .int .i64 0]
    ∧ W.grownBy ((W.setCell ⟨gl, 1, none⟩ (.string x.txt)).setCell ⟨gl, 2, none⟩ (.int .i64 x.wid)) (some gl) := by
  obtain ⟨h1, h2, h3, h4, h5, h6, h7, h8⟩ := h
  exact ⟨(h1.setCell (Nat.le_of_lt h8) _).setCell (Nat.le_of_lt h8) _, (h3.set 1 _).set 2 _, grown_trans (grown_set W gl 1 _) (grown_set _ gl 2 _)⟩
/-- The same behind stores into the line's block. -/
theorem SpM.stored {w W W' : World} {c : Cfg} {gl : Nat} {vo vc vb : Value} {st : Sp} (h : SpM w W c gl vo vc vb st) (hg : W.grownBy W' (some gl)) :
    Blk W' w.heap.size 24 (cfgV c) ∧ OwnC W' w.heap.size vc st.cells ∧ W'.ownsRow w.heap.size 5 1 vb st.buf.length (u8s st.buf) ∧ OwnL W' w.heap.size vc.ownBlock vo st.outs := by
  obtain ⟨h1, h2, h3, h4, h5, h6, h7, h8⟩ := h
  have kc := Keeps.blk (e := 32) h3 (by decide) hg
  exact ⟨h2.keeps (.blk h3 (by decide) hg), h4.keeps kc, own_keeps h5 (.blk h3 (by decide) hg), h6.other hg h7 kc⟩
/-- The line's block behind an append to the lines. -/
theorem SpM.line_blk {w W W2 W3 : World} {c : Cfg} {gl : Nat} {vo vc vb : Value} {st : Sp} {cs : Array Value} (h : SpM w W c gl vo vc vb st) (hb2 : Blk W2 gl 34 cs) (hg : W2.grownBy W3 vo.ownBlock) : Blk W3 gl 34 cs := by
  obtain ⟨h1, h2, h3, h4, h5, h6, h7, h8⟩ := h
  exact (hg.block gl hb2.lt (fun e => h7 e.symm)).trans hb2
/-- The lines with one more. -/
theorem SpM.line_own {w W W2 W3 : World} {c : Cfg} {gl : Nat} {vo vc vb v3 : Value} {vs : List Value} {st : Sp} {x : Cel} {f : Int} (h : SpM w W c gl vo vc vb st) (hg2 : W.grownBy W2 (some gl)) (hvl : vs.length = st.outs.length) (how : W2.ownsRow w.heap.size 34 4 vo st.outs.length (lnVals vs st.outs))
    (hin : InC W2 w.heap.size vc.ownBlock vs st.outs)
    (ho : W3.ownsRow w.heap.size 34 4 v3 (st.outs.length + 1) (lnVals vs st.outs ++ [vc, .string x.txt, .int .i64 x.wid, .int .i64 f])) (hg : W2.grownBy W3 vo.ownBlock) :
    OwnL W3 w.heap.size none v3 (st.outs ++ [⟨st.cells, x, f⟩]) ∧ Below w.heap.size w W3 := by
  have hst := h.stored hg2
  obtain ⟨h1, h2, h3, h4, h5, h6, h7, h8⟩ := h
  have kc : Keeps W2 W3 32 := .grown how (by decide) hg
  have hb2 := grown_below h1 hg2 (fun k hk => by injection hk with hk; omega)
  exact ⟨OwnL.snoc (l := ⟨st.cells, x, f⟩) hvl ho hin kc hst.2.1, grown_below hb2 hg (fun k hk => (World.ownsRow.lt how k hk).1)⟩
/-- .. and the line's block cleared. -/
theorem SpM.line {w W W2 W3 : World} {c : Cfg} {gl : Nat} {vo vc vb v3 : Value} {vs : List Value} {st : Sp} {x : Cel} {f : Int} (h : SpM w W c gl vo vc vb st) (hg2 : W.grownBy W2 (some gl)) (hb2 : Blk W2 gl 34 #[vc, .string x.txt, .int .i64 x.wid, .int .i64 f]) (hvl : vs.length = st.outs.length) (how : W2.ownsRow w.heap.size 34 4 vo st.outs.length (lnVals vs st.outs))
    (hin : InC W2 w.heap.size vc.ownBlock vs st.outs)
    (ho : W3.ownsRow w.heap.size 34 4 v3 (st.outs.length + 1) (lnVals vs st.outs ++ [vc, .string x.txt, .int .i64 x.wid, .int .i64 f])) (hg : W2.grownBy W3 vo.ownBlock) (hat : v3.ownBlock = vo.ownBlock ∨ v3.ownBlock = some (W2.heap.size + 1))
    (vb' : Value) (hvb : W3.ownsRow w.heap.size 5 1 vb' 0 []) :
    SpM w ((((W3.setCell ⟨gl, 0, none⟩ (.slice none 0 0)).setCell ⟨gl, 1, none⟩ (.string ⟨#[]⟩)).setCell ⟨gl, 2, none⟩ (.int .i64 0)).setCell ⟨gl, 3, none⟩ (.int .i64 0)) c gl v3 (.slice none 0 0) vb' ⟨st.outs ++ [⟨st.cells, x, f⟩], st.raw, [], []⟩ := by
  obtain ⟨r1, r2⟩ := h.line_own hg2 hvl how hin ho hg
  have b3 := h.line_blk hb2 hg
  have hst := h.stored hg2
  obtain ⟨h1, h2, h3, h4, h5, h6, h7, h8⟩ := h
  have g4 : W3.grownBy ((((W3.setCell ⟨gl, 0, none⟩ (.slice none 0 0)).setCell ⟨gl, 1, none⟩ (.string ⟨#[]⟩)).setCell ⟨gl, 2, none⟩ (.int .i64 0)).setCell ⟨gl, 3, none⟩ (.int .i64 0)) (some gl) :=
    grown_trans (grown_trans (grown_trans (grown_set W3 gl 0 _) (grown_set _ gl 1 _)) (grown_set _ gl 2 _)) (grown_set _ gl 3 _)
  have hne : v3.ownBlock ≠ some gl := by
    rcases hat with hat | hat
    · rw [hat]; exact h7
    · rw [hat]
      intro he
      injection he with he
      have := hb2.lt
      omega
  refine ⟨grown_below r2 g4 (fun k hk => by injection hk with hk; omega), ((hst.1.keeps (.grown how (by decide) hg)).keeps (.blk b3 (by decide) g4)), (((b3.set 0 _).set 1 _).set 2 _).set 3 _, OwnC.nil _ _, own_keeps hvb (.blk b3 (by decide) g4), ?_, hne, h8⟩
  exact r1.other g4 hne (.blk b3 (by decide) g4)
theorem OwnC.one {W : World} {base : Nat} {v : Value} {l : List Cel} (h : OwnC W base v l) : v.oneCell' = true := by
  have h0 : W.ownsRow base 32 2 v l.length (celVals l) := h
  rcases h0.2 with ⟨rfl, _⟩ | ⟨g, cap, cur, rfl, _⟩ <;> rfl
theorem line_ones {vc : Value} (x : ByteArray) (z f : Int) (h : vc.oneCell' = true) : ∀ u ∈ (#[vc, .string x, .int .i64 z, .int .i64 f] : Array Value).toList, u.oneCell' = true := by
  intro u hu
  simp only [List.mem_cons, List.not_mem_nil, or_false] at hu
  rcases hu with rfl | rfl | rfl | rfl
  · exact h
  · rfl
  · rfl
  · rfl
theorem Tryd.infoCelS : (Tryd.prog.info? 32).map (fun i => (i.zero, i.size, i.bytes)) = some (some (.agg #[.string ByteArray.empty, .int .i64 0]), 2, 24) := by kernel_rfl
theorem Tryd.infoLnS : (Tryd.prog.info? 34).map (fun i => (i.zero, i.size, i.bytes)) = some (some (.agg #[.slice none 0 0, .string ByteArray.empty, .int .i64 0, .int .i64 0]), 4, 56) := by kernel_rfl
theorem Tryd.infoBytS : (Tryd.prog.info? 5).map (fun i => (i.zero, i.size, i.bytes)) = some (some (.int .u8 0), 1, 1) := by kernel_rfl
theorem sp_yes {x : UInt8} {n : Nat} (hn : n < 256) (h : x = UInt8.ofNat n) : ((x.toNat : Int) == (n : Int)) = true := by
  subst h
  rw [UInt8.toNat_ofNat']
  simp
  omega
theorem sp_no {x : UInt8} {n : Nat} (hn : n < 256) (h : x ≠ UInt8.ofNat n) : ((x.toNat : Int) == (n : Int)) = false := by
  have : x.toNat ≠ n := fun e => h (UInt8.toNat_inj.1 (by rw [e, UInt8.toNat_ofNat']; omega))
  simp; omega
theorem sp_next (esc : Bool) (Wf : ByteArray → Int) (s : ByteArray) (k : Nat) (h : k < s.size) : spRun esc Wf sp0 (s.data.toList.take (k + 1)) = spStep esc Wf (spRun esc Wf sp0 (s.data.toList.take k)) s[k] := by
  rw [take_snoc s k h, spRun_append]; rfl
theorem sp_esc (Wf : ByteArray → Int) (s : ByteArray) (k : Nat) (h : k < s.size) (o : List Ln) (raw : Bool) (cs : List Cel) (b : List UInt8) (hr : (⟨o, raw, cs, b⟩ : Sp) = spRun true Wf sp0 (s.data.toList.take k)) (hx : s[k] = 255) : (⟨o, !raw, cs, b⟩ : Sp) = spRun true Wf sp0 (s.data.toList.take (k + 1)) := by
  rw [sp_next true Wf s k h, ← hr, spStep, if_pos (by simp [hx])]
theorem sp_tab (esc : Bool) (Wf : ByteArray → Int) (s : ByteArray) (k : Nat) (h : k < s.size) (o : List Ln) (cs : List Cel) (b : List UInt8) (hr : (⟨o, false, cs, b⟩ : Sp) = spRun esc Wf sp0 (s.data.toList.take k)) (hx : s[k] = 9) : (⟨o, false, cs ++ [celOf Wf b], []⟩ : Sp) = spRun esc Wf sp0 (s.data.toList.take (k + 1)) := by
  rw [sp_next esc Wf s k h, ← hr, spStep, if_neg (by simp [hx]), if_pos (by simp [hx])]
theorem sp_end (esc : Bool) (Wf : ByteArray → Int) (s : ByteArray) (k : Nat) (h : k < s.size) (o : List Ln) (cs : List Cel) (b : List UInt8) (hr : (⟨o, false, cs, b⟩ : Sp) = spRun esc Wf sp0 (s.data.toList.take k)) (hx : s[k] = 10 ∨ s[k] = 12) : (⟨o ++ [⟨cs, celOf Wf b, (s[k].toNat : Int)⟩], false, [], []⟩ : Sp) = spRun esc Wf sp0 (s.data.toList.take (k + 1)) := by
  rw [sp_next esc Wf s k h, ← hr, spStep, if_neg (by rcases hx with hx | hx <;> simp [hx]), if_neg (by rcases hx with hx | hx <;> simp [hx]), if_pos (by rcases hx with hx | hx <;> simp [hx])]
theorem sp_raw (esc : Bool) (Wf : ByteArray → Int) (s : ByteArray) (k : Nat) (h : k < s.size) (o : List Ln) (cs : List Cel) (b : List UInt8) (hr : (⟨o, true, cs, b⟩ : Sp) = spRun esc Wf sp0 (s.data.toList.take k)) (hx : esc = false ∨ s[k] ≠ 255) : (⟨o, true, cs, b ++ [s[k]]⟩ : Sp) = spRun esc Wf sp0 (s.data.toList.take (k + 1)) := by
  rw [sp_next esc Wf s k h, ← hr, spStep, if_neg (by rcases hx with h | h <;> simp [h]), if_neg (by simp), if_neg (by simp)]
theorem sp_else (esc : Bool) (Wf : ByteArray → Int) (s : ByteArray) (k : Nat) (h : k < s.size) (o : List Ln) (cs : List Cel) (b : List UInt8) (hr : (⟨o, false, cs, b⟩ : Sp) = spRun esc Wf sp0 (s.data.toList.take k)) (hx : esc = false ∨ s[k] ≠ 255) (h9 : s[k] ≠ 9) (h10 : s[k] ≠ 10) (h12 : s[k] ≠ 12) : (⟨o, false, cs, b ++ [s[k]]⟩ : Sp) = spRun esc Wf sp0 (s.data.toList.take (k + 1)) := by
  rw [sp_next esc Wf s k h, ← hr, spStep, if_neg (by rcases hx with h | h <;> simp [h]), if_neg (by simp [h9]), if_neg (by simp [h10, h12])]
end Go.Proofs.YtncdglfcegmmgaaDoor
