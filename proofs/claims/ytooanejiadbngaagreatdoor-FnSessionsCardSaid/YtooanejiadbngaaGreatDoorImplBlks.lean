/- The program's BlocksOf. -/
import Derived.Test.YtooanejiadbngaaGreatDoorImplBlk
import Derived.Deep.DeepCutAuto
import Derived.Deep.RegionWith
namespace Go.Proofs.YtooanejiadbngaaGreatDoor
open Go.RowKit
set_option linter.unusedVariables false

theorem zeroInt (w : World) : (zeroValue 3).run Tryz.prog w = .ok (.int .i64 0) w := by kernel_rfl
theorem own_not_map {W : World} {base : Nat} {e : TypeId} {size : Nat} {v : Value} {n : Nat} {xs : List Value} {B k : Nat} {D : DataW Unit} (hm : OwnMap W B k D) (h : W.ownsRow base e size v n xs) : some B ≠ v.ownBlock := by
  intro he
  obtain ⟨es, clock, hb, _⟩ := hm
  rcases h.2 with ⟨rfl, _⟩ | ⟨g, cap, cur, rfl, _, hg, _⟩
  · cases he
  · have he' : B = g := by injection he
    subst he'
    have := hb.symm.trans hg
    simp at this
theorem keeps_map {W W' : World} {B n : Nat} {D : DataW Unit} (e : TypeId) (h : OwnMap W B n D) (hg : W.grownBy W' (some B)) : Keeps W W' e := fun g cs hc => (hg.block g (Array.getElem?_eq_some_iff.1 hc).1 (fun he => by
  obtain ⟨es, clock, hb, _⟩ := h
  injection he with he
  subst he
  have := hb.symm.trans hc
  simp at this)).trans hc
theorem map_own {W W' : World} {base : Nat} {e : TypeId} {size : Nat} {v : Value} {n : Nat} {xs : List Value} {B k : Nat} {D : DataW Unit} (hm : OwnMap W B k D) (h : W.ownsRow base e size v n xs) (hg : W.grownBy W' v.ownBlock) : OwnMap W' B k D :=
  World.ownsMap.kept hm hg (own_not_map hm h)
theorem map_below {W W' : World} {B k : Nat} {D : DataW Unit} (hm : OwnMap W B k D) (hb : Below W.heap.size W W') : OwnMap W' B k D := by
  have hlt := World.ownsMap.lt hm
  obtain ⟨es, clock, h, r⟩ := hm
  exact ⟨es, clock, (hb.block B hlt).trans h, r⟩
theorem below_map {W W' : World} {A B n : Nat} {D : DataW Unit} (h : OwnMap W B n D) (hA : A ≤ B) (hg : W.grownBy W' (some B)) : Below A W W' :=
  (Below.refl A W).grown hg (Nat.le_trans hA (Nat.le_of_lt (World.ownsMap.lt h))) fun k hk => by
    injection hk with hk
    omega
theorem bkVals_setTo : ∀ (l : List Bk) (j : Nat) (b : Bk) (x : Int), l[j]? = some b → bkVals (l.set j ⟨b.col, b.frm, x, b.wid⟩) = (bkVals l).set (j * 4 + 2) (.int .i64 x)
  | [], j, b, x, h => by simp at h
  | a :: r, 0, b, x, h => by
    simp at h
    subst h
    rfl
  | a :: r, j + 1, b, x, h => by
    have hx := bkVals_setTo r j b x (by simpa using h)
    have e1 : (j + 1) * 4 + 2 = j * 4 + 2 + 1 + 1 + 1 + 1 := by omega
    rw [List.set_cons_succ, bkVals_cons, bkVals_cons, hx, e1]
    rfl
theorem bkVals_setWid : ∀ (l : List Bk) (j : Nat) (b : Bk) (x : Int), l[j]? = some b → bkVals (l.set j ⟨b.col, b.frm, b.to, x⟩) = (bkVals l).set (j * 4 + 3) (.int .i64 x)
  | [], j, b, x, h => by simp at h
  | a :: r, 0, b, x, h => by
    simp at h
    subst h
    rfl
  | a :: r, j + 1, b, x, h => by
    have hx := bkVals_setWid r j b x (by simpa using h)
    have e1 : (j + 1) * 4 + 3 = j * 4 + 3 + 1 + 1 + 1 + 1 := by omega
    rw [List.set_cons_succ, bkVals_cons, bkVals_cons, hx, e1]
    rfl
/-- Where a block of a list that the call owns lies, and what stores into it leave. -/
theorem OwnB.at {W : World} {base : Nat} {v : Value} {l : List Bk} (h : OwnB W base v l) (j : Nat) (b : Bk) (hj : l[j]? = some b) :
    ∃ g o cap, v = .slice (some ⟨g, o, none⟩) l.length cap ∧ base ≤ g ∧ v.ownBlock = some g ∧ (∃ cur, Blk W g 100 cur) ∧ BkAt W g (o + j * 4) b ∧ (∀ t, W.frozen? ⟨g, t, none⟩ = false) ∧ g < W.heap.size ∧
      (∀ (W' : World) (l' : List Bk) (b' : Bk) (x : Int), OwnB W' base v l' → l'[j]? = some b' → OwnB (W'.setCell ⟨g, o + j * 4 + 2, none⟩ (.int .i64 x)) base v (l'.set j ⟨b'.col, b'.frm, x, b'.wid⟩)) ∧
      (∀ (W' : World) (l' : List Bk) (b' : Bk) (x : Int), OwnB W' base v l' → l'[j]? = some b' → OwnB (W'.setCell ⟨g, o + j * 4 + 3, none⟩ (.int .i64 x)) base v (l'.set j ⟨b'.col, b'.frm, b'.to, x⟩)) := by
  have hjl : j < l.length := (List.getElem?_eq_some_iff.1 hj).1
  have h0 : W.ownsRow base 100 4 v l.length (bkVals l) := h
  rcases h0.2 with ⟨_, hn⟩ | ⟨g, cap, cur, rfl, hb, hg, _⟩
  · omega
  have hrow : ∀ (W' : World) (l' : List Bk), OwnB W' base (.slice (some ⟨g, 0, none⟩) l.length cap) l' → l'.length = l.length := by
    intro W' l' h'
    have h1 : W'.ownsRow base 100 4 (.slice (some ⟨g, 0, none⟩) l.length cap) l'.length (bkVals l') := h'
    rcases h1.2 with ⟨hx, _⟩ | ⟨_, _, _, hx, _⟩
    · cases hx
    · injection hx with _ hx _
      exact hx.symm
  refine ⟨g, 0, cap, rfl, hb, rfl, ⟨cur, hg⟩, ?_, fun t => h0.frozenAt t, (Array.getElem?_eq_some_iff.1 hg).1, fun W' l' b' x h' hb' => ?_, fun W' l' b' x h' hb' => ?_⟩
  · obtain ⟨a0, a1, a2, a3⟩ := bkVals_get l j b hj
    refine ⟨?_, ?_, ?_, ?_⟩ <;> rw [Nat.zero_add, World.ownsRow.cellAt h0 _ (by omega)] <;> assumption
  · have hl := hrow W' l' h'
    have h1 : W'.ownsRow base 100 4 (.slice (some ⟨g, 0, none⟩) l'.length cap) l'.length (bkVals l') := by rw [hl]; exact (by unfold OwnB at h'; rw [hl] at h'; exact h')
    have h2 := (h1.stored (0 + j * 4 + 2) (.int .i64 x)).1
    unfold OwnB
    rw [List.length_set, bkVals_setTo l' j b' x hb', ← hl]
    rw [Nat.zero_add] at h2 ⊢
    exact h2
  · have hl := hrow W' l' h'
    have h1 : W'.ownsRow base 100 4 (.slice (some ⟨g, 0, none⟩) l'.length cap) l'.length (bkVals l') := by rw [hl]; exact (by unfold OwnB at h'; rw [hl] at h'; exact h')
    have h2 := (h1.stored (0 + j * 4 + 3) (.int .i64 x)).1
    unfold OwnB
    rw [List.length_set, bkVals_setWid l' j b' x hb', ← hl]
    rw [Nat.zero_add] at h2 ⊢
    exact h2
theorem OwnB.shape {W : World} {base : Nat} {v : Value} {l : List Bk} (h : OwnB W base v l) : ∃ A cap, v = .slice A l.length cap := by
  have h0 : W.ownsRow base 100 4 v l.length (bkVals l) := h
  rcases h0.2 with ⟨rfl, hn⟩ | ⟨g, cap, cur, rfl, _⟩
  · exact ⟨none, 0, by rw [hn]⟩
  · exact ⟨_, cap, rfl⟩
/-- The open columns ahead of a line. -/
def OpnA (ls : List Ln) (f : Nat → Nat) : Nat → Prop
  | 0 => True
  | i + 1 => OpnS ls f i
theorem OpnA.line {ls : List Ln} {f : Nat → Nat} {i : Nat} (h : OpnA ls f i) : OpnK ls f i 0 := by
  cases i with
  | zero => exact OpnK.first ls f
  | succ i => exact OpnS.line h
theorem cell_side {W : World} {a p : Addr} {u x : Value} (h : W.cell? p = some x) (hne : a.block ≠ p.block) : (W.setCell a u).cell? p = some x := by
  have : (W.setCell a u).heap[p.block]? = W.heap[p.block]? := Below.heap_setCell _ _ _ _ (Ne.symm hne)
  unfold World.cell? at h ⊢
  rw [this]
  exact h
theorem cellS_below {W W' : World} {H HC : Nat} {m t p d yw : Int} {fr fd fl fe fm : Bool} {yt : ByteArray} (h : W.cell? ⟨H, 0, none⟩ = some (.int .i64 m) ∧ W.cell? ⟨H, 1, none⟩ = some (.int .i64 t) ∧ W.cell? ⟨H, 2, none⟩ = some (.int .i64 p) ∧ W.cell? ⟨H, 3, none⟩ = some (.int .i64 d) ∧ W.cell? ⟨H, 4, none⟩ = some (.bool fr) ∧ W.cell? ⟨H, 5, none⟩ = some (.bool fd) ∧ W.cell? ⟨H, 6, none⟩ = some (.bool fl) ∧ W.cell? ⟨H, 7, none⟩ = some (.bool fe) ∧ W.cell? ⟨H, 8, none⟩ = some (.bool fm) ∧ W.cell? ⟨HC, 0, none⟩ = some (.string yt) ∧ W.cell? ⟨HC, 1, none⟩ = some (.int .i64 yw) ∧ HC < W.heap.size ∧ H < W.heap.size) (hb : Below W.heap.size W W') : W'.cell? ⟨H, 0, none⟩ = some (.int .i64 m) ∧ W'.cell? ⟨H, 1, none⟩ = some (.int .i64 t) ∧ W'.cell? ⟨H, 2, none⟩ = some (.int .i64 p) ∧ W'.cell? ⟨H, 3, none⟩ = some (.int .i64 d) ∧ W'.cell? ⟨H, 4, none⟩ = some (.bool fr) ∧ W'.cell? ⟨H, 5, none⟩ = some (.bool fd) ∧ W'.cell? ⟨H, 6, none⟩ = some (.bool fl) ∧ W'.cell? ⟨H, 7, none⟩ = some (.bool fe) ∧ W'.cell? ⟨H, 8, none⟩ = some (.bool fm) ∧ W'.cell? ⟨HC, 0, none⟩ = some (.string yt) ∧ W'.cell? ⟨HC, 1, none⟩ = some (.int .i64 yw) ∧ HC < W'.heap.size ∧ H < W'.heap.size := by
  obtain ⟨h0, h1, h2, h3, h4, h5, h6, h7, h8, h9, h10, h11, h12⟩ := h
  have hs := hb.size
  exact ⟨(hb.cell (p := ⟨H, 0, none⟩) h12).trans h0, (hb.cell (p := ⟨H, 1, none⟩) h12).trans h1, (hb.cell (p := ⟨H, 2, none⟩) h12).trans h2, (hb.cell (p := ⟨H, 3, none⟩) h12).trans h3, (hb.cell (p := ⟨H, 4, none⟩) h12).trans h4, (hb.cell (p := ⟨H, 5, none⟩) h12).trans h5, (hb.cell (p := ⟨H, 6, none⟩) h12).trans h6, (hb.cell (p := ⟨H, 7, none⟩) h12).trans h7, (hb.cell (p := ⟨H, 8, none⟩) h12).trans h8, (hb.cell (p := ⟨HC, 0, none⟩) h11).trans h9, (hb.cell (p := ⟨HC, 1, none⟩) h11).trans h10, by omega, by omega⟩
theorem cellS_set {W : World} {H HC go j : Nat} {u : Value} {m t p d yw : Int} {fr fd fl fe fm : Bool} {yt : ByteArray} (h : W.cell? ⟨H, 0, none⟩ = some (.int .i64 m) ∧ W.cell? ⟨H, 1, none⟩ = some (.int .i64 t) ∧ W.cell? ⟨H, 2, none⟩ = some (.int .i64 p) ∧ W.cell? ⟨H, 3, none⟩ = some (.int .i64 d) ∧ W.cell? ⟨H, 4, none⟩ = some (.bool fr) ∧ W.cell? ⟨H, 5, none⟩ = some (.bool fd) ∧ W.cell? ⟨H, 6, none⟩ = some (.bool fl) ∧ W.cell? ⟨H, 7, none⟩ = some (.bool fe) ∧ W.cell? ⟨H, 8, none⟩ = some (.bool fm) ∧ W.cell? ⟨HC, 0, none⟩ = some (.string yt) ∧ W.cell? ⟨HC, 1, none⟩ = some (.int .i64 yw) ∧ HC < W.heap.size ∧ H < W.heap.size) (n1 : go ≠ H) (n2 : go ≠ HC) : (W.setCell ⟨go, j, none⟩ u).cell? ⟨H, 0, none⟩ = some (.int .i64 m) ∧ (W.setCell ⟨go, j, none⟩ u).cell? ⟨H, 1, none⟩ = some (.int .i64 t) ∧ (W.setCell ⟨go, j, none⟩ u).cell? ⟨H, 2, none⟩ = some (.int .i64 p) ∧ (W.setCell ⟨go, j, none⟩ u).cell? ⟨H, 3, none⟩ = some (.int .i64 d) ∧ (W.setCell ⟨go, j, none⟩ u).cell? ⟨H, 4, none⟩ = some (.bool fr) ∧ (W.setCell ⟨go, j, none⟩ u).cell? ⟨H, 5, none⟩ = some (.bool fd) ∧ (W.setCell ⟨go, j, none⟩ u).cell? ⟨H, 6, none⟩ = some (.bool fl) ∧ (W.setCell ⟨go, j, none⟩ u).cell? ⟨H, 7, none⟩ = some (.bool fe) ∧ (W.setCell ⟨go, j, none⟩ u).cell? ⟨H, 8, none⟩ = some (.bool fm) ∧ (W.setCell ⟨go, j, none⟩ u).cell? ⟨HC, 0, none⟩ = some (.string yt) ∧ (W.setCell ⟨go, j, none⟩ u).cell? ⟨HC, 1, none⟩ = some (.int .i64 yw) ∧ HC < (W.setCell ⟨go, j, none⟩ u).heap.size ∧ H < (W.setCell ⟨go, j, none⟩ u).heap.size := by
  obtain ⟨h0, h1, h2, h3, h4, h5, h6, h7, h8, h9, h10, h11, h12⟩ := h
  have hs : (W.setCell ⟨go, j, none⟩ u).heap.size = W.heap.size := by simp
  exact ⟨cell_side h0 n1, cell_side h1 n1, cell_side h2 n1, cell_side h3 n1, cell_side h4 n1, cell_side h5 n1, cell_side h6 n1, cell_side h7 n1, cell_side h8 n1, cell_side h9 n2, cell_side h10 n2, by omega, by omega⟩
theorem blk_ne {W : World} {g g' : Nat} {T T' : TypeId} {cs cs' : Array Value} (h : Blk W g T cs) (h' : Blk W g' T' cs') (hT : T ≠ T') : g ≠ g' := by
  intro he
  subst he
  have := h.symm.trans h'
  simp at this
  exact hT this.2
theorem map_ne {W : World} {B n g : Nat} {T : TypeId} {cs : Array Value} {D : DataW Unit} (hm : OwnMap W B n D) (h : Blk W g T cs) : some B ≠ some g := by
  intro he
  obtain ⟨es, clock, hb, _⟩ := hm
  have he' : B = g := by injection he
  subst he'
  have := hb.symm.trans h
  simp at this
theorem stored_next {W W1 : World} {g t2 t3 : Nat} {T : TypeId} {cs : Array Value} {u y : Value} (h : Blk W g T cs) (hy : W.cell? ⟨g, t3, none⟩ = some y) (hne : t2 ≠ t3) (hW : W1 = W.setCell ⟨g, t2, none⟩ u) : W1.cell? ⟨g, t3, none⟩ = some y ∧ W1.frozen? ⟨g, t3, none⟩ = false ∧ g < W1.heap.size := by
  have h1 : Blk W1 g T (cs.setIfInBounds t2 u) := by rw [hW]; exact h.set t2 u
  refine ⟨?_, h1.free t3, h1.lt⟩
  rw [h1.cell, Array.getElem?_setIfInBounds_ne hne, ← h.cell]
  exact hy
theorem more_kept {WA W1 W3 : World} {go t2 t3 : Nat} {u2 u3 : Value} {T : TypeId} {cur : Array Value} (hb : Blk WA go T cur) (h1 : W1 = WA.setCell ⟨go, t2, none⟩ u2) (hb3 : Below W1.heap.size W1 W3) :
    (∀ e, T ≠ e → Keeps WA (W3.setCell ⟨go, t3, none⟩ u3) e) ∧ (∀ B n D, OwnMap WA B n D → OwnMap (W3.setCell ⟨go, t3, none⟩ u3) B n D) ∧ (∀ A, A ≤ go → A ≤ WA.heap.size → Below A WA (W3.setCell ⟨go, t3, none⟩ u3)) := by
  have k1 : Blk W1 go T (cur.setIfInBounds t2 u2) := by rw [h1]; exact hb.set t2 u2
  have k3 := k1.after hb3
  have g1 : WA.grownBy W1 (some go) := by rw [h1]; exact grown_set _ _ _ _
  have g3 := grown_set W3 go t3 u3
  refine ⟨fun e he => ((Keeps.blk hb he g1).trans (Keeps.below e hb3)).trans (Keeps.blk k3 he g3), fun B n D hm => ?_, fun A ha hA => ?_⟩
  · have m1 : OwnMap W1 B n D := World.ownsMap.kept hm g1 (map_ne hm hb)
    have m3 := map_below m1 hb3
    exact World.ownsMap.kept m3 g3 (map_ne m3 k3)
  · have b1 : Below A WA W1 := by rw [h1]; exact (Below.refl _ _).setCell (p := ⟨go, t2, none⟩) ha _
    exact (b1.trans (hb3.mono (Nat.le_trans hA b1.size))).setCell (p := ⟨go, t3, none⟩) ha _
/-- A block that the call owns, its line and its width stored one after the other. -/
theorem two_stores {W W1 W3 : World} {base g o j : Nat} {v : Value} {l : List Bk} {b : Bk} {x y : Int} (h1 : OwnB W base v l) (hj : l[j]? = some b)
    (s1 : ∀ (W' : World) (l' : List Bk) (b' : Bk) (x : Int), OwnB W' base v l' → l'[j]? = some b' → OwnB (W'.setCell ⟨g, o + j * 4 + 2, none⟩ (.int .i64 x)) base v (l'.set j ⟨b'.col, b'.frm, x, b'.wid⟩))
    (s2 : ∀ (W' : World) (l' : List Bk) (b' : Bk) (x : Int), OwnB W' base v l' → l'[j]? = some b' → OwnB (W'.setCell ⟨g, o + j * 4 + 3, none⟩ (.int .i64 x)) base v (l'.set j ⟨b'.col, b'.frm, b'.to, x⟩))
    (hW1 : W1 = W.setCell ⟨g, o + j * 4 + 2, none⟩ (.int .i64 x)) (hb : Below W1.heap.size W1 W3) : OwnB (W3.setCell ⟨g, o + j * 4 + 3, none⟩ (.int .i64 y)) base v (l.set j ⟨b.col, b.frm, x, y⟩) := by
  have hjl : j < l.length := (List.getElem?_eq_some_iff.1 hj).1
  have h2 := s1 W l b x h1 hj
  rw [← hW1] at h2
  have h3 := s2 W3 _ ⟨b.col, b.frm, x, b.wid⟩ y (h2.keeps (.below _ hb)) (List.getElem?_set_self hjl)
  rw [List.set_set] at h3
  exact h3
set_option maxRecDepth 100000 in
set_option maxHeartbeats 8000000 in
theorem implBlocksOf (c : Cfg) (ls : List Ln) (v : Value) (w : World) (hv : RdL w v ls) (hm : FitW ls) :
    Calls Tryz.prog 41 #[.agg (cfgV c), v] w fun e w' => ∃ u, e = .returned u ∧ OwnB w' w.heap.size u (bksB c ls) ∧ Below w.heap.size w w' := by
  have HF := Lib.hid (fun W (hb : Below w.heap.size w W) => implCanAlign c ls v W (hv.below hb) hm)
  have HNEW := Lib.hid (Blk.new w 24 (cfgV c))
  have B0 := Lib.hid (by go_grown : Below w.heap.size w (w.alloc (.cells (cfgV c) 24)))
  have hmm := @run_makeMap Tryz.prog
  cases hok : fitsB ls && validC c with
  | false =>
    obtain ⟨A, ca, rfl, _⟩ := hv
    rw [hok] at HF
    have HE : Hid (bksB c ls = []) := Lib.hid (by unfold bksB; rw [hok]; rfl)
    rw [HE.out]
    obtain ⟨n, hn⟩ : ∃ n, n = ls.length := ⟨_, rfl⟩
    rw [← hn] at HF ⊢
    obtain ⟨m, t, p, d, fr, fd, fl, fe, fm⟩ := c
    unfold cfgV at HF B0 ⊢
    simp only at HF B0 ⊢
    clear hok hn HE
    go_enter Tryz.func41, Tryz.ntmps41
    go_wp2_with fail
    refine (HF.out _ B0.out).mono ?_
    rintro e w1 ⟨rfl, hb1⟩
    have B1 := Lib.hid (B0.out.trans (hb1.mono B0.out.size))
    clear hb1
    go_wp2_with fail
    go_ret
    exact ⟨_, rfl, OwnB.nil _ _, B1.out⟩
  | true =>
    rw [hok] at HF
    simp only [Bool.and_eq_true] at hok
    obtain ⟨hfit, hval⟩ := hok
    have HE : Hid (bksB c ls = bksL c ls) := Lib.hid (bksB_yes hfit hval)
    rw [HE.out]
    obtain ⟨i0, hi0, hz0, hz1, hz2⟩ := info_parts Tryz.infoBlk
    have HBW := Lib.hid (fun (n : Int) (h0 : 0 ≤ n) (h1 : n ≤ 100000) W => implBlockWidth c n W hval h0 h1)
    have HTM := Lib.hid (fun l (h : l ∈ ls) => totL_mem ls l h)
    have HCN := Lib.hid (fun T h => cellsN_lt ls T h)
    have HFN := Lib.hid (fun T h => finN_lt ls T h)
    have HCW := Lib.hid (fun i k hi hk => cellW_at (ls := ls) (i := i) (k := k) hi hk)
    have HCP := Lib.hid (fun i k => cellW_pos hfit i k)
    have HBN := Lib.hid (fun i k h => curB_new c hval hfit i k h)
    have HBM := Lib.hid (fun i k j hb h => curB_more c ls i k j hb h)
    have HBX := Lib.hid (fun i => curB_next c ls i)
    have HBL := Lib.hid (fun i k => curB_len c ls i k)
    have HBA : Hid (curB c ls ls.length 0 = bksL c ls) := Lib.hid (curB_all c hval hfit)
    have HPB := Lib.hid (fun i k hi hk => curP_bd ls i k hi hk)
    have hlen := hm.1
    have HTOT : Hid (totL ls ≤ 100000000) := Lib.hid hm.2
    have HOM := Lib.hid (fun i => opnM_le ls i)
    obtain ⟨A, ca, rfl, hA⟩ := hv
    have HA := Lib.hid hA
    obtain ⟨n, hn⟩ : ∃ n, n = ls.length := ⟨_, rfl⟩
    rw [← hn] at HA hlen HF HBA ⊢
    have HN := Lib.hid hn
    obtain ⟨RES, hRES⟩ : ∃ r, r = bksL c ls := ⟨_, rfl⟩
    rw [← hRES] at HBA ⊢
    obtain ⟨cb, hcb⟩ : ∃ f : Nat → Nat → List Bk, f = curB c ls := ⟨_, rfl⟩
    have HCB0 : Hid (cb 0 0 = []) := Lib.hid (by rw [hcb]; rfl)
    rw [← hcb] at HBN HBM HBX HBL HBA
    obtain ⟨bw, hbw⟩ : ∃ f : Int → Int, f = blockW c := ⟨_, rfl⟩
    rw [← hbw] at HBN HBM HBW
    obtain ⟨m, t, p, d, fr, fd, fl, fe, fm⟩ := c
    unfold cfgV at HF HNEW B0 HBW ⊢
    simp only at HF HNEW B0 HBW ⊢
    clear hA hn hm hcb hbw hRES hfit hval HE
    go_enter Tryz.func41, Tryz.ntmps41
    go_wp2_with fail
    refine (HF.out _ B0.out).mono ?_
    rintro e w1 ⟨rfl, hb1⟩
    have B1 := Lib.hid (B0.out.trans (hb1.mono B0.out.size))
    have HC1 := Lib.hid (HNEW.out.after hb1)
    clear hb1
    have M0 := Lib.hid (World.ownsMap_made (H := Unit) w1 Tryz.prog 3 (plainElem Tryz.prog 3))
    have D0 := Lib.hid ((Below.refl w1.heap.size w1).alloc (Nat.le_refl _) (.map #[] 0))
    have B2 := Lib.hid (B1.out.trans (D0.out.mono B1.out.size))
    have HC2 := Lib.hid (HC1.out.after D0.out)
    obtain ⟨Bm, hBm⟩ : ∃ b, b = w1.heap.size := ⟨_, rfl⟩
    have hbm0 : w.heap.size ≤ Bm := by rw [hBm]; exact B1.out.size
    have M1 : Hid (OwnMap (w1.alloc (.map #[] 0)) Bm 0 (.map [])) := Lib.hid (by rw [hBm]; exact M0.out)
    have HBm := Lib.hid hBm
    clear hBm
    go_wp2_with fail
    rw [← HBm.out]
    clear HBm
    go_loopw [5, 7, 8, 9, 10, 11, 12, 13, 21] (fun o _ _ _ _ _ _ _ i wr => ∃ (k : Nat) (vo : Value) (D : DataW Unit) (f : Nat → Nat), k ≤ n ∧ vo = o ∧ i = .int .i64 (k : Int) ∧ Hid (OwnB wr w.heap.size vo (cb k 0)) ∧ Hid (OwnMap wr Bm (cb k 0).length D) ∧ Hid (MapF D (opnM ls k) f) ∧ Hid (OpnA ls f k) ∧ Hid (Below w.heap.size w wr) ∧ Hid (Blk wr w.heap.size 24 #[.int .i64 m, .int .i64 t, .int .i64 p, .int .i64 d, .bool fr, .bool fd, .bool fl, .bool fe, .bool fm])) (fun _ _ _ _ _ _ _ _ i _ => n - (intOf i).toNat)
    case atStart => exact ⟨0, _, _, fun _ => 0, Nat.zero_le _, rfl, rfl, Lib.hid (by rw [HCB0.out]; exact OwnB.nil _ _), Lib.hid (by rw [HCB0.out]; exact M1.out), Lib.hid (MapF.nil _), Lib.hid trivial, B2, HC2⟩
    case round =>
      obtain ⟨k, vo, D, f, hk, rfl, rfl, HO, HM, HMF, HOP, HBE, HBC⟩ := hrel
      by_cases hlt : k < n
      · obtain ⟨ga, oa, rfl, hga, hca⟩ := HA.out (by omega)
        have hkl : k < ls.length := by rw [← HN.out]; exact hlt
        obtain ⟨⟨va, p0, hra⟩, p1, p2, p3⟩ := hca k _ (List.getElem?_eq_getElem hkl)
        have a0 := (HBE.out.cell (p := ⟨ga, oa + k * 4, none⟩) hga).trans p0
        have a1 := (HBE.out.cell (p := ⟨ga, oa + k * 4 + 1, none⟩) hga).trans p1
        have a2 := (HBE.out.cell (p := ⟨ga, oa + k * 4 + 2, none⟩) hga).trans p2
        have a3 := (HBE.out.cell (p := ⟨ga, oa + k * 4 + 3, none⟩) hga).trans p3
        have hmem := HTM.out _ (List.getElem_mem hkl)
        have HCK := Lib.hid (HCN.out k hkl)
        have HFK := Lib.hid (HFN.out k hkl)
        have HWK := Lib.hid (fun q hq => HCW.out k q hkl hq)
        have HPK := Lib.hid (fun q hq => HPB.out k q hkl hq)
        have hopm : opnM ls k ≤ 100000000 := Nat.le_trans (HOM.out k) HTOT.out
        generalize ls[k] = l at a1 a2 a3 hra hmem HCK HFK HWK
        obtain ⟨cl, ⟨x, m'⟩, fin⟩ := l
        simp only at a1 a2 a3 hra hmem HCK HFK HWK
        obtain ⟨Ac, cc, rfl, hin⟩ := hra
        have HIC := Lib.hid hin
        obtain ⟨z, hz⟩ : ∃ z, z = cl.length := ⟨_, rfl⟩
        have hzl : z ≤ 100000000 := by have := HTOT.out; omega
        rw [← hz] at a0 HIC HCK
        have HZ2 := Lib.hid hz
        obtain ⟨wo, rfl⟩ : ∃ wo : World, wo = wr := ⟨_, rfl⟩
        have D1 := Lib.hid ((Below.refl wo.heap.size wo).alloc (Nat.le_refl _) (.cells #[.slice Ac z cc, .string x, .int .i64 m', .int .i64 fin] 79))
        have HBO := Lib.hid (HBE.out.trans (D1.out.mono HBE.out.size))
        have HBC2 := Lib.hid (HBC.out.after D1.out)
        have HO2 := Lib.hid (HO.out.keeps (.below _ D1.out))
        have HM2 := Lib.hid (map_below HM.out D1.out)
        obtain ⟨HL, hHL⟩ : ∃ H, H = wo.heap.size := ⟨_, rfl⟩
        have HLN : Hid (Blk (wo.alloc (.cells #[.slice Ac z cc, .string x, .int .i64 m', .int .i64 fin] 79)) HL 79 #[.slice Ac z cc, .string x, .int .i64 m', .int .i64 fin]) := Lib.hid (by rw [hHL]; exact Blk.new _ _ _)
        have HHL := Lib.hid hHL
        clear hca p0 p1 p2 p3 hin hz hmem hHL
        go_wp2_with fail
        rw [← HHL.out]
        clear HHL
        refine (implEndFrom Bm _ _ z f D _ HM2.out HMF.out hopm hzl).mono ?_
        rintro e w5 ⟨rfl, D5, hm5, hf5, ht5⟩
        have HM5 := Lib.hid hm5
        have HMF5 : Hid (MapF D5 (opnK ls k 0) f) := Lib.hid (by rw [opnK_zero, HCK.out]; exact hf5)
        have HB5 := Lib.hid (HBO.out.trans (below_map HM2.out hbm0 ht5.grown))
        have HO5 := Lib.hid (HO2.out.keeps (keeps_map _ HM2.out ht5.grown))
        have HBC5 := Lib.hid (HBC2.out.keeps (keeps_map _ HM2.out ht5.grown))
        have HLN5 := Lib.hid (HLN.out.keeps (keeps_map _ HM2.out ht5.grown))
        have n0 := HLN5.out.cell 0
        have n3 := HLN5.out.cell 3
        simp at n0 n3
        have HOP5 := Lib.hid HOP.out.line
        clear hm5 hf5 ht5 a0 a1 a2 a3
        go_wp2_with fail
        clear n0 n3
        go_loopw [5, 9, 10, 11, 12, 13, 34] (fun o _ _ _ _ _ j wx => ∃ (q : Nat) (vq : Value) (E : DataW Unit) (g : Nat → Nat), q ≤ z ∧ vq = o ∧ j = .int .i64 (q : Int) ∧ Hid (OwnB wx w.heap.size vq (cb k q)) ∧ Hid (OwnMap wx Bm (cb k q).length E) ∧ Hid (MapF E (opnK ls k q) g) ∧ Hid (OpnK ls g k q) ∧ Hid (Below w.heap.size w wx) ∧ Hid (Blk wx w.heap.size 24 #[.int .i64 m, .int .i64 t, .int .i64 p, .int .i64 d, .bool fr, .bool fd, .bool fl, .bool fe, .bool fm]) ∧ Hid (Blk wx HL 79 #[.slice Ac z cc, .string x, .int .i64 m', .int .i64 fin])) (fun _ _ _ _ _ _ j _ => z - (intOf j).toNat)
        case atStart => exact ⟨0, _, _, _, Nat.zero_le _, rfl, rfl, HO5, HM5, HMF5, HOP5, HB5, HBC5, HLN5⟩
        case round =>
          obtain ⟨q, vq, E, g, hq, rfl, rfl, HOQ, HMQ, HMFQ, HOPQ, HBX', HBCX, HLNX⟩ := hrel
          by_cases hltq : q < z
          · have hqc : q < cellsN ls k := by rw [HCK.out]; exact hltq
            obtain ⟨gi, oi, rfl, hgi, hci⟩ := HIC.out (by omega)
            have hql : q < cl.length := by rw [← HZ2.out]; exact hltq
            obtain ⟨b0, b1⟩ := (hci q _ (List.getElem?_eq_getElem hql)).keep (fun p hp => HBX'.out.cell hp) hgi
            have HCWQ := Lib.hid (HWK.out q hql)
            have hcp := HCP.out k q
            generalize cl[q] = ce at b0 b1 HCWQ
            obtain ⟨yt, yw⟩ := ce
            simp only at b0 b1 HCWQ
            rw [HCWQ.out] at hcp
            obtain ⟨hy0, hy1⟩ := hcp
            have HBWQ := Lib.hid (HBW.out yw hy0 hy1)
            have hkk : k ≤ 100000000 := by omega
            have hqq : q ≤ 100000000 := by omega
            have hpl : (cb k q).length ≤ 100000000 := by rw [HBL.out]; exact Nat.le_trans (HPK.out q (Nat.le_of_lt hqc)) HTOT.out
            obtain ⟨wx, rfl⟩ : ∃ wx : World, wx = wr := ⟨_, rfl⟩
            have DX := Lib.hid ((Below.refl wx.heap.size wx).alloc (Nat.le_refl _) (.cells #[.string yt, .int .i64 yw] 77))
            obtain ⟨HC, hHC⟩ : ∃ H, H = wx.heap.size := ⟨_, rfl⟩
            obtain ⟨WA, hWA⟩ : ∃ W, W = wx.alloc (.cells #[.string yt, .int .i64 yw] 77) := ⟨_, rfl⟩
            have KC : Hid (Blk WA HC 77 #[.string yt, .int .i64 yw]) := Lib.hid (by rw [hHC, hWA]; exact Blk.new _ _ _)
            have HBA' : Hid (Below w.heap.size w WA) := Lib.hid (by rw [hWA]; exact HBX'.out.trans (DX.out.mono HBX'.out.size))
            have HBCA : Hid (Blk WA w.heap.size 24 #[.int .i64 m, .int .i64 t, .int .i64 p, .int .i64 d, .bool fr, .bool fd, .bool fl, .bool fe, .bool fm]) := Lib.hid (by rw [hWA]; exact HBCX.out.after DX.out)
            have HLNA : Hid (Blk WA HL 79 #[.slice (some ⟨gi, oi, none⟩) z cc, .string x, .int .i64 m', .int .i64 fin]) := Lib.hid (by rw [hWA]; exact HLNX.out.after DX.out)
            have HMA : Hid (OwnMap WA Bm (cb k q).length E) := Lib.hid (by rw [hWA]; exact map_below HMQ.out DX.out)
            have HOA : Hid (OwnB WA w.heap.size vq (cb k q)) := Lib.hid (by rw [hWA]; exact HOQ.out.keeps (.below _ DX.out))
            have HHC := Lib.hid hHC
            have HWA := Lib.hid hWA
            clear hci hHC hWA
            have hbv : ∃ x, x = bw yw := ⟨_, rfl⟩
            obtain ⟨bv, hbv⟩ := hbv
            rw [← hbv] at HBWQ
            cases hbeg : begB ls k q with
            | false =>
              obtain ⟨hopn, hopn2⟩ := opnK_no ls k q hqc hbeg
              have hhas : Maps.has E (.int .i64 (q : Int)) = true := by rw [HMFQ.out.has q]; exact decide_eq_true hopn
              have hat' := HMFQ.out.at' q hopn
              have hholds := HOPQ.out q hopn
              obtain ⟨b, hbj, hbn⟩ := HBM.out k q (g q) hbeg hholds
              have HOPN := Lib.hid (HOPQ.out.no hqc hbeg)
              have HMFN : Hid (MapF E (opnK ls k (q + 1)) g) := Lib.hid (by rw [hopn2]; exact HMFQ.out)
              obtain ⟨j, hj⟩ : ∃ j, j = g q := ⟨_, rfl⟩
              rw [← hj] at hbj hbn hat'
              have hjl : j < (cb k q).length := (List.getElem?_eq_some_iff.1 hbj).1
              obtain ⟨go, o, cap, rfl, hbo, hown, ⟨cur, hblk⟩, hcells, hfz, hgl, s1, s2⟩ := HOA.out.at j b hbj
              have HHAS := Lib.hid hhas
              have HAT : Hid (∀ x : Int, E.atKey (.int .i64 (q : Int)) (.lit (.int .i64 0)) = .lit (.int .i64 x) → (j : Int) = x) := Lib.hid (fun x hx => by
                have := hat'.symm.trans hx
                simpa using this)
              rw [HCWQ.out, ← hbv, show ((k + 1 : Nat) : Int) = (k : Int) + 1 by omega] at hbn
              have HFINL := Lib.hid hbn
              have HBJ := Lib.hid hbj
              have HS1 := Lib.hid s1
              have HS2 := Lib.hid s2
              have HBO := Lib.hid hbo
              have HBLK := Lib.hid hblk
              have HLEN : Hid ((cb k q).length = (cb k (q + 1)).length) := Lib.hid (by rw [hbn, List.length_set])
              have HMW : Hid (OwnMap WA Bm (cb k (q + 1)).length E) := Lib.hid (by rw [← HLEN.out]; exact HMA.out)
              have HOW := HOA
              have HBW0 := HBA'
              have HBCW := HBCA
              have HLNW := HLNA
              have KCW := KC
              obtain ⟨bc, bf, bt, bwid⟩ := b
              obtain ⟨q0, q1, q2, q3⟩ := hcells
              simp only at q0 q1 q2 q3 HFINL
              obtain ⟨lx, hlx⟩ : ∃ x, x = (cb k q).length := ⟨_, rfl⟩
              rw [← hlx] at hjl hpl HMA HMQ HOA HOW HOQ HS1 HS2 ⊢
              clear hhas hat' hholds hbn hj hbj hbo s1 s2 hopn hopn2 hbeg hown hlx hbv hblk HOA HOQ HMQ HBA' HBCA HLNA KC
              have f2 := hfz (o + j * 4 + 2)
              obtain ⟨W1, hW1⟩ : ∃ W, W = WA.setCell ⟨go, o + j * 4 + 2, none⟩ (.int .i64 ((k : Int) + 1)) := ⟨_, rfl⟩
              obtain ⟨d3, f3, hgl1⟩ := stored_next HBLK.out q3 (by omega) hW1
              have gW1 : WA.grownBy W1 (some go) := by rw [hW1]; exact grown_set _ _ _ _
              have hC1 := HBCW.out.keeps (Keeps.blk HBLK.out (by decide) gW1)
              have hY1 := KCW.out.keeps (Keeps.blk HBLK.out (by decide) gW1)
              have hl1 := hC1.lt
              have hl2 := hY1.lt
              have hne1 : go ≠ w.heap.size := blk_ne HBLK.out HBCW.out (by decide)
              have hne2 : go ≠ HC := blk_ne HBLK.out KCW.out (by decide)
              have HC1' := Lib.hid hC1
              have HY1' := Lib.hid hY1
              have HW1 := Lib.hid hW1
              clear hfz hW1 hC1 hY1 gW1
              have hmx := fun ts ty w => max_any (P := Tryz.prog) ts ty bwid bv w
              obtain ⟨mx, hmx0⟩ : ∃ x, x = max bwid bv := ⟨_, rfl⟩
              rw [← hmx0] at hmx HFINL
              clear hmx0
              go_upto_region 12 with (fail)
              rw [← HWA.out, ← HHC.out]
              go_wp2_with (at_lookup; refine wpList_lookup_own_ok_int _ rfl _ _ 132 rfl 3 3 .i64 key_law Tryz.underlying132 Tryz.underlying3 (zeroInt _) Bm lx E rfl HMA.out _ _ rfl (Maps.keyOf_int_mk Tryz.underlying3 (wf_nat q (by omega))) ?_; intro x0 hat0 _; rw [HHAS.out]; obtain rfl := HAT.out _ hat0; clear hat0)
              rw [← HW1.out]
              obtain ⟨e0, e1, e2, e3, e4, e5, e6, e7, e8⟩ := HC1'.out.boxed
              have y0 := HY1'.out.cell 0
              have y1 := HY1'.out.cell 1
              simp at y0 y1
              go_region_with ((go_at_call 58; refine (HBWQ.out _).mono ?_; rintro e w3 ⟨rfl, hb3⟩; have u3 := (hb3.cell (p := ⟨go, o + j * 4 + 3, none⟩) hgl1).trans d3; have g3 := (hb3.frozen (p := ⟨go, o + j * 4 + 3, none⟩) hgl1).trans f3))
              all_goals
                have hb4 : Below W1.heap.size W1 w3 := by first | exact hb3 | exact (Below.drew (Below.refl W1.heap.size W1)).trans hb3
                obtain ⟨hk1, hmk, hbk⟩ := more_kept (t3 := o + j * 4 + 3) (u3 := .int .i64 mx) HBLK.out HW1.out hb4
                have N1 : Hid (OwnB (w3.setCell ⟨go, o + j * 4 + 3, none⟩ (.int .i64 mx)) w.heap.size _ (cb k (q + 1))) := Lib.hid (by rw [HFINL.out]; exact two_stores HOW.out HBJ.out HS1.out HS2.out HW1.out hb4)
                have N2 := Lib.hid (hmk _ _ _ HMW.out)
                have N3 := Lib.hid (HBW0.out.trans (hbk w.heap.size HBO.out HBW0.out.size))
                have N4 := Lib.hid (HBCW.out.keeps (hk1 _ (by decide)))
                have N5 := Lib.hid (HLNW.out.keeps (hk1 _ (by decide)))
                clear hk1 hmk hbk hb4 hb3 u3 g3 hmx d3 f3 f2 q0 q1 q2 q3
                go_wp2_with fail
                go_roundw
                case rel => exact ⟨q + 1, _, _, _, by omega, rfl, by go_num, N1, N2, HMFN, HOPN, Lib.hid (by first | exact N3.out | exact N3.out.drew), N4, N5⟩
                case measure => simp [intOf]; omega
            | true =>
              obtain ⟨hopn, hopn2⟩ := opnK_yes ls k q hqc hbeg
              have hhas : Maps.has E (.int .i64 (q : Int)) = false := by rw [HMFQ.out.has q]; exact decide_eq_false (by omega)
              have HHAS := Lib.hid hhas
              have hbn := HBN.out k q hbeg
              rw [HCWQ.out, ← hbv, show ((k + 1 : Nat) : Int) = (k : Int) + 1 by omega] at hbn
              have hopnk := HOPQ.out.yes hqc hbeg
              obtain ⟨j, hjx⟩ : ∃ x, x = (cb k q).length := ⟨_, rfl⟩
              rw [← HBL.out, ← hjx] at hopnk
              have HOPN := Lib.hid hopnk
              have HMF1 : Hid (MapF (E.put (.int .i64 (q : Int)) (.lit (.int .i64 (j : Int)))) (opnK ls k (q + 1)) (putF g q j)) := Lib.hid (by
                have h := HMFQ.out
                rw [hopn] at h
                rw [hopn2]
                exact h.put j (fun x => rfl))
              obtain ⟨Aq, cq, rfl⟩ := HOA.out.shape
              obtain ⟨L, hL⟩ : ∃ L, L = cb k q := ⟨_, rfl⟩
              rw [← hL] at HOA HOQ hbn hjx ⊢
              rw [← hL, ← hjx] at HMA HMQ hpl
              rw [← hjx] at HOA HOQ ⊢
              have HMFN := HMF1
              have HJX := Lib.hid hjx
              have HBND := Lib.hid hbn
              have HOA' : Hid (WA.ownsRow w.heap.size 100 4 (.slice Aq j cq) j (bkVals L)) := Lib.hid (by
                have h := HOA.out
                unfold OwnB at h
                rw [← hjx] at h
                exact h)
              clear hhas hopn hopn2 hbeg hbn hopnk hL hjx hbv HOA HOQ HMQ
              go_upto_region 12 with (fail)
              rw [← HWA.out, ← HHC.out]
              go_upto_region 15 with (at_lookup; refine wpList_lookup_own_ok_int _ rfl _ _ 132 rfl 3 3 .i64 key_law Tryz.underlying132 Tryz.underlying3 (zeroInt _) Bm j E rfl HMA.out _ _ rfl (Maps.keyOf_int_mk Tryz.underlying3 (wf_nat q (by omega))) ?_; intro x0 hat0 _; rw [HHAS.out]; clear hat0)
              go_upto_region 16 with (at_mapUpdate; refine wpList_mapUpdate_own _ rfl _ _ _ 132 rfl 3 3 key_law Tryz.underlying132 _ Bm j E rfl HMA.out (by unfold maxLen; omega) _ _ _ rfl rfl (Maps.keyOf_int_mk Tryz.underlying3 (wf_nat q (by omega))) _ [] (plainElem_int Tryz.underlying3 (wf_nat j (by omega))) ?_; intro w1' hm1 hg1; have HM1 := Lib.hid hm1; have HG1 := Lib.hid hg1; clear hm1 hg1)
              have KO := Lib.hid (own_keeps HOA'.out (keeps_map _ HMA.out HG1.out))
              have KB := Lib.hid (HBA'.out.trans (below_map HMA.out hbm0 HG1.out))
              have KBC := Lib.hid (HBCA.out.keeps (keeps_map _ HMA.out HG1.out))
              have KLN := Lib.hid (HLNA.out.keeps (keeps_map _ HMA.out HG1.out))
              have KCE := Lib.hid (KC.out.keeps (keeps_map _ HMA.out HG1.out))
              have hbase : w.heap.size ≤ w1'.heap.size := KB.out.size
              go_upto_region 17 with (at_builtin; refine append_el rfl _ _ 97 rfl w.heap.size 100 i0 _ 4 32 Tryz.underlying97 hi0 hz0 hz1 hz2 rfl (by decide) (.slice Aq j cq) _ _ rfl w1' #[.int .i64 (q : Int), .int .i64 (k : Int), .int .i64 0, .int .i64 0] rfl rfl (blkCells_one (q : Int) (k : Int) 0 0) KO.out (by omega) (by omega) hbase ?_; intro v2 w2 ho2 hg2 _; have HO2' := Lib.hid ho2; have HG2 := Lib.hid hg2; clear ho2 hg2)
              have HBW0 := Lib.hid (grown_below KB.out HG2.out (fun k hk => (World.ownsRow.lt KO.out k hk).1))
              have HBCW := Lib.hid (KBC.out.grows KO.out (by decide) HG2.out)
              have HLNW := Lib.hid (KLN.out.grows KO.out (by decide) HG2.out)
              have KCW := Lib.hid (KCE.out.grows KO.out (by decide) HG2.out)
              have HMW0 := Lib.hid (map_own HM1.out KO.out HG2.out)
              have hLn : (L ++ [(⟨(q : Int), (k : Int), 0, 0⟩ : Bk)]).length = j + 1 := by rw [List.length_append, HJX.out]; rfl
              have hOW : OwnB w2 w.heap.size v2 (L ++ [⟨(q : Int), (k : Int), 0, 0⟩]) := by
                unfold OwnB
                rw [bkVals_snoc, hLn]
                exact HO2'.out
              have hbj : (L ++ [(⟨(q : Int), (k : Int), 0, 0⟩ : Bk)])[j]? = some ⟨(q : Int), (k : Int), 0, 0⟩ := by rw [List.getElem?_append_right (by rw [HJX.out]; exact Nat.le_refl _), HJX.out, Nat.sub_self]; rfl
              obtain ⟨go, o, cap, rfl, hbo, hown, ⟨cur, hblk⟩, hcells, hfz, hgl, s1, s2⟩ := hOW.at j _ hbj
              have hfin : cb k (q + 1) = (L ++ [(⟨(q : Int), (k : Int), 0, 0⟩ : Bk)]).set j ⟨(q : Int), (k : Int), (k : Int) + 1, max 0 bv⟩ := by
                rw [HBND.out, List.set_append_right _ _ (by rw [HJX.out]; exact Nat.le_refl _), HJX.out, Nat.sub_self]
                rfl
              have HMW : Hid (OwnMap w2 Bm (cb k (q + 1)).length (E.put (.int .i64 (q : Int)) (.lit (.int .i64 (j : Int))))) := Lib.hid (by rw [hfin, List.length_set, hLn]; exact HMW0.out)
              rw [hLn] at hOW s1 s2 ⊢
              have HFINL := Lib.hid hfin
              have HOW := Lib.hid hOW
              have HBJ := Lib.hid hbj
              have HS1 := Lib.hid s1
              have HS2 := Lib.hid s2
              have HBO := Lib.hid hbo
              have HBLK := Lib.hid hblk
              obtain ⟨q0, q1, q2, q3⟩ := hcells
              simp only at q0 q1 q2 q3
              obtain ⟨bwid, hbwid⟩ : ∃ b : Int, b = 0 := ⟨_, rfl⟩
              have hjl : j < j + 1 := by omega
              rw [← hbwid] at q3
              have HFIN2 : Hid (cb k (q + 1) = (L ++ [(⟨(q : Int), (k : Int), 0, 0⟩ : Bk)]).set j ⟨(q : Int), (k : Int), (k : Int) + 1, max bwid bv⟩) := Lib.hid (by rw [hbwid]; exact HFINL.out)
              have hpl1 : j + 1 ≤ 100000001 := by omega
              clear hLn hOW hbj hfin s1 s2 hbo hblk hown hbwid HFINL HOA'
              have HFINL := HFIN2
              have f2 := hfz (o + j * 4 + 2)
              obtain ⟨W1, hW1⟩ : ∃ W, W = w2.setCell ⟨go, o + j * 4 + 2, none⟩ (.int .i64 ((k : Int) + 1)) := ⟨_, rfl⟩
              obtain ⟨d3, f3, hgl1⟩ := stored_next HBLK.out q3 (by omega) hW1
              have gW1 : w2.grownBy W1 (some go) := by rw [hW1]; exact grown_set _ _ _ _
              have hC1 := HBCW.out.keeps (Keeps.blk HBLK.out (by decide) gW1)
              have hY1 := KCW.out.keeps (Keeps.blk HBLK.out (by decide) gW1)
              have hl1 := hC1.lt
              have hl2 := hY1.lt
              have hne1 : go ≠ w.heap.size := blk_ne HBLK.out HBCW.out (by decide)
              have hne2 : go ≠ HC := blk_ne HBLK.out KCW.out (by decide)
              have HC1' := Lib.hid hC1
              have HY1' := Lib.hid hY1
              have HW1 := Lib.hid hW1
              clear hfz hW1 hC1 hY1 gW1
              have hmx := fun ts ty w => max_any (P := Tryz.prog) ts ty bwid bv w
              obtain ⟨mx, hmx0⟩ : ∃ x, x = max bwid bv := ⟨_, rfl⟩
              rw [← hmx0] at hmx HFINL
              clear hmx0
              go_wp2_with fail
              rw [← HW1.out]
              obtain ⟨e0, e1, e2, e3, e4, e5, e6, e7, e8⟩ := HC1'.out.boxed
              have y0 := HY1'.out.cell 0
              have y1 := HY1'.out.cell 1
              simp at y0 y1
              go_region_with ((go_at_call 58; refine (HBWQ.out _).mono ?_; rintro e w3 ⟨rfl, hb3⟩; have u3 := (hb3.cell (p := ⟨go, o + j * 4 + 3, none⟩) hgl1).trans d3; have g3 := (hb3.frozen (p := ⟨go, o + j * 4 + 3, none⟩) hgl1).trans f3))
              all_goals
                have hb4 : Below W1.heap.size W1 w3 := by first | exact hb3 | exact (Below.drew (Below.refl W1.heap.size W1)).trans hb3
                obtain ⟨hk1, hmk, hbk⟩ := more_kept (t3 := o + j * 4 + 3) (u3 := .int .i64 mx) HBLK.out HW1.out hb4
                have N1 : Hid (OwnB (w3.setCell ⟨go, o + j * 4 + 3, none⟩ (.int .i64 mx)) w.heap.size _ (cb k (q + 1))) := Lib.hid (by rw [HFINL.out]; exact two_stores HOW.out HBJ.out HS1.out HS2.out HW1.out hb4)
                have N2 := Lib.hid (hmk _ _ _ HMW.out)
                have N3 := Lib.hid (HBW0.out.trans (hbk w.heap.size HBO.out HBW0.out.size))
                have N4 := Lib.hid (HBCW.out.keeps (hk1 _ (by decide)))
                have N5 := Lib.hid (HLNW.out.keeps (hk1 _ (by decide)))
                clear hk1 hmk hbk hb4 hb3 u3 g3 hmx d3 f3 f2 q0 q1 q2 q3
                go_wp2_with fail
                go_roundw
                case rel => exact ⟨q + 1, _, _, _, by omega, rfl, by go_num, N1, N2, HMFN, HOPN, Lib.hid (by first | exact N3.out | exact N3.out.drew), N4, N5⟩
                case measure => simp [intOf]; omega
          · obtain rfl : q = z := by omega
            have hnx := HBX.out k
            rw [HCK.out] at hnx
            have HNX := Lib.hid hnx
            have hmk : MapF E q g := by
              have h := HMFQ.out
              rw [← HCK.out, opnK_end, HCK.out] at h
              exact h
            have HMK := Lib.hid hmk
            have hcl : OpnA ls g (k + 1) := by
              have h := HOPQ.out
              rw [← HCK.out] at h
              exact h.close
            have HCL := Lib.hid hcl
            have hom := opnM_succ ls k
            rw [HFK.out, HCK.out] at hom
            have n3 := HLNX.out.cell 3
            simp at n3
            clear hnx hmk hcl
            by_cases h12 : fin = 12
            · rw [if_pos h12] at hom
              have HOM1 := Lib.hid hom
              have e12 : (fin == 12) = true := by simp [h12]
              clear h12 hom
              go_wp2_with fail
              refine (implEndFrom Bm _ _ 0 g E _ HMQ.out HMK.out hzl (by omega)).mono ?_
              rintro e w6 ⟨rfl, D6, hm6, hf6, ht6⟩
              have N1 := Lib.hid (HOQ.out.keeps (keeps_map _ HMQ.out ht6.grown))
              have N2 := Lib.hid hm6
              have N3 : Hid (MapF D6 (opnM ls (k + 1)) g) := Lib.hid (by rw [HOM1.out]; rw [Nat.min_zero] at hf6; exact hf6)
              have N4 := Lib.hid (HBX'.out.trans (below_map HMQ.out hbm0 ht6.grown))
              have N5 := Lib.hid (HBCX.out.keeps (keeps_map _ HMQ.out ht6.grown))
              clear hm6 hf6 ht6 n3 e12
              go_wp2_with fail
              go_roundw
              case rel => exact ⟨k + 1, vq, D6, g, by omega, rfl, by go_num, Lib.hid (by rw [HNX.out]; exact N1.out), Lib.hid (by rw [HNX.out]; exact N2.out), N3, HCL, N4, N5⟩
              case measure => simp [intOf]; omega
            · rw [if_neg h12] at hom
              have HOM1 := Lib.hid hom
              have e12 : (fin == 12) = false := by simp [h12]
              clear h12 hom
              go_wp2_with fail
              go_roundw
              case rel => exact ⟨k + 1, vq, E, g, by omega, rfl, by go_num, Lib.hid (by rw [HNX.out]; exact HOQ.out), Lib.hid (by rw [HNX.out]; exact HMQ.out), Lib.hid (by rw [HOM1.out]; exact HMK.out), HCL, HBX', HBCX⟩
              case measure => simp [intOf]; omega
      · obtain rfl : k = n := by omega
        go_wp2_with fail
        go_ret
        exact ⟨_, rfl, by rw [← HBA.out]; exact HO.out, HBE.out⟩
end Go.Proofs.YtooanejiadbngaaGreatDoor
