/- Tables (head and rows) by value: what reads as one, how much it is, its copy, equality. -/
import Derived.Test.YtionfjofojfaoaaDoorTextsIn
import Derived.Test.YtionfjofojfaoaaDoorTexts2
import Derived.Handy
namespace Go.Proofs.YtionfjofojfaoaaDoor
open Go.RowKit
set_option linter.unusedVariables false

def szTab (h : List ByteArray) (n : Nat) (f : Nat → List ByteArray) (l : Int) : Int := if szL h l < 0 then -1 else if szT n f (szL h l) < 0 then -1 else szT n f (szL h l)
/-- A table that a call owns: its head lies below m, its rows from m on. -/
def OwnTab (W : World) (base top : Nat) (hv rv : Value) (h : List ByteArray) (n : Nat) (f : Nat → List ByteArray) : Prop :=
  ∃ m, base ≤ m ∧ m ≤ top ∧ W.ownsRow base 9 1 hv h.length (strs h) ∧ (∀ k, hv.ownBlock = some k → k < m) ∧ OwnT W m top rv n f
theorem OwnTab.below {W W' : World} {base top : Nat} {hv rv : Value} {h : List ByteArray} {n : Nat} {f : Nat → List ByteArray} (ho : OwnTab W base top hv rv h n f) (hb : Below top W W') : OwnTab W' base top hv rv h n f := by
  obtain ⟨m, h1, h2, h3, h4, h5⟩ := ho
  exact ⟨m, h1, h2, own_topT h3 (fun k hk => Nat.lt_of_lt_of_le (h4 k hk) h2) hb, h4, h5.below hb⟩
theorem OwnTab.head {W : World} {base top : Nat} {hv rv : Value} {h : List ByteArray} {n : Nat} {f : Nat → List ByteArray} (ho : OwnTab W base top hv rv h n f) : W.ownsRow base 9 1 hv h.length (strs h) := by
  obtain ⟨m, _, _, h3, _⟩ := ho
  exact h3
theorem OwnTab.rows {W : World} {base top : Nat} {hv rv : Value} {h : List ByteArray} {n : Nat} {f : Nat → List ByteArray} (ho : OwnTab W base top hv rv h n f) : OwnT W base top rv n f := by
  obtain ⟨m, h1, _, _, _, h5⟩ := ho
  exact h5.rebase h1
theorem OwnTab.retop {W : World} {base top : Nat} {hv rv : Value} {h : List ByteArray} {n : Nat} {f : Nat → List ByteArray} (ho : OwnTab W base top hv rv h n f) (ht : top ≤ W.heap.size) : OwnTab W base W.heap.size hv rv h n f := by
  obtain ⟨m, h1, h2, h3, h4, h5⟩ := ho
  exact ⟨m, h1, Nat.le_trans h2 ht, h3, h4, h5.retop⟩
/-- What is owned from base on stands where the blocks from base on stand. -/
theorem own_from {W W' : World} {base : Nat} {e : TypeId} {size : Nat} {v : Value} {n : Nat} {xs : List Value} (h : W.ownsRow base e size v n xs) (hk : ∀ g, base ≤ g → W'.heap[g]? = W.heap[g]?) : W'.ownsRow base e size v n xs :=
  ⟨h.1, h.2.imp id fun ⟨g, cap, cur, h1, h2, h3, h4⟩ => ⟨g, cap, cur, h1, h2, (hk g h2).trans h3, h4⟩⟩
theorem OwnT.from {W W' : World} {base top : Nat} {v : Value} {n : Nat} {f : Nat → List ByteArray} (h : OwnT W base top v n f) (hk : ∀ g, base ≤ g → W'.heap[g]? = W.heap[g]?) : OwnT W' base top v n f := by
  obtain ⟨vs, a, b, c, d⟩ := h
  exact ⟨vs, own_from a hk, b, fun i u hu => ⟨own_from (c i u hu).1 hk, (c i u hu).2⟩, d⟩
theorem heap_set {W : World} {p : Addr} {u : Value} {g : Nat} (h : p.block < g) : (W.setCell p u).heap[g]? = W.heap[g]? := by
  have hne : p.block ≠ g := by omega
  simp [World.setCell, Array.getElem?_modify, hne]
theorem heap_setRow {W : World} {q g : Nat} {cs : Array Value} (h : q < g) : (W.setRow q cs).heap[g]? = W.heap[g]? := by
  have hne : q ≠ g := by omega
  simp [World.setRow, Array.getElem?_modify, hne]
set_option maxRecDepth 100000 in
set_option maxHeartbeats 2000000 in
theorem szTable_any (h : List ByteArray) (n : Nat) (f : Nat → List ByteArray) (left : Int) (hv rv : Value) (w : World) (hh : Rd w hv (strs h)) (hr : RdT w rv n f) (h0 : 0 ≤ left) (h1 : left ≤ 1048576) (hm : h.length ≤ 9223372036854775807) (hx : ∀ x ∈ h, x.size ≤ 9223372036854775807)
    (hn : n ≤ 9223372036854775807) (hf : ∀ i, i < n → (f i).length ≤ 9223372036854775807 ∧ ∀ x ∈ f i, x.size ≤ 9223372036854775807) :
    Calls Tryd.prog 15 #[.agg #[hv, rv], .int .i64 left] w fun e w' => e = .returned (.int .i64 (szTab h n f left)) ∧ Below w.heap.size w w' := by
  have HL := Lib.hid (fun W (hb : Below w.heap.size w W) => szStringS_any h left hv W (hh.below hb) h0 h1 hm hx)
  have HT := Lib.hid (fun (l : Int) W (hb : Below w.heap.size w W) (a : 0 ≤ l) (b : l ≤ 1048576) => szStringSS_any n f l rv W (hr.below hb) a b hn hf)
  obtain ⟨A, c, rfl, _⟩ := hh
  obtain ⟨B, d, rfl⟩ := hr.slc
  have B0 := Lib.hid (by go_grown : Below w.heap.size w (w.alloc (.cells #[.slice A (strs h).length c, .slice B n d] 40)))
  have hU : 0 ≤ szL h left → szL h left ≤ left := fun hz => by have := szL_up h left hz; omega
  have hS : szTab h n f left = if szL h left < 0 then -1 else if szT n f (szL h left) < 0 then -1 else szT n f (szL h left) := rfl
  obtain ⟨x, hxe⟩ : ∃ x, x = szL h left := ⟨_, rfl⟩
  rw [← hxe] at HL hU hS
  rw [hS]
  clear hS hxe hr hm hx hn hf
  by_cases hs : x < 0
  · rw [if_pos hs]
    go_enter Tryd.func15, Tryd.ntmps15
    go_wp2_with fail
    refine (HL.out _ B0.out).mono ?_
    rintro e w1 ⟨rfl, rfl⟩
    go_wp2_with fail
    go_ret
    exact ⟨rfl, B0.out⟩
  · rw [if_neg hs]
    have hxl := hU (by omega)
    have HT2 := Lib.hid (fun W hb => HT.out x W hb (by omega) (by omega))
    obtain ⟨y, hye⟩ : ∃ y, y = szT n f x := ⟨_, rfl⟩
    rw [← hye] at HT2 ⊢
    clear hye hU
    by_cases hy : y < 0
    · rw [if_pos hy]
      go_enter Tryd.func15, Tryd.ntmps15
      go_wp2_with fail
      refine (HL.out _ B0.out).mono ?_
      rintro e w1 ⟨rfl, rfl⟩
      go_wp2_with fail
      refine (HT2.out _ B0.out).mono ?_
      rintro e w1 ⟨rfl, rfl⟩
      go_wp2_with fail
      go_ret
      exact ⟨rfl, B0.out⟩
    · rw [if_neg hy]
      go_enter Tryd.func15, Tryd.ntmps15
      go_wp2_with fail
      refine (HL.out _ B0.out).mono ?_
      rintro e w1 ⟨rfl, rfl⟩
      go_wp2_with fail
      refine (HT2.out _ B0.out).mono ?_
      rintro e w1 ⟨rfl, rfl⟩
      go_wp2_with fail
      go_ret
      exact ⟨rfl, B0.out⟩
theorem size_tab : (Tryd.prog.info? 26).map (·.size) = some 2 := by kernel_rfl
theorem Blk.two {W : World} {g : Nat} {T : TypeId} {a b : Value} (hb : Blk W g T #[a, b]) : W.cell? ⟨g, 0, none⟩ = some a ∧ W.cell? ⟨g, 1, none⟩ = some b := ⟨hb.cell 0, hb.cell 1⟩
theorem one_tab (A B : Option Addr) (a b c d : Nat) : (#[.slice A a c, .slice B b d] : Array Value).all (·.oneCell') = true := by simp [Value.oneCell']
set_option maxRecDepth 100000 in
set_option maxHeartbeats 4000000 in
theorem toTable_any (h : List ByteArray) (n : Nat) (f : Nat → List ByteArray) (hv rv : Value) (w : World) (hh : Rd w hv (strs h)) (hr : RdT w rv n f) (hm : h.length ≤ 1048576) (hn : n ≤ 1048576) (hf : ∀ i, i < n → (f i).length ≤ 1048576) :
    Calls Tryd.prog 17 #[.agg #[hv, rv]] w fun e w' => ∃ hv' rv', e = .returned (.agg #[hv', rv']) ∧ OwnTab w' w.heap.size w'.heap.size hv' rv' h n f ∧ Below w.heap.size w w' := by
  have HL := Lib.hid (fun W (hb : Below w.heap.size w W) => toStringS_any h hv W (hh.below hb) hm)
  have HT := Lib.hid (fun W (hb : Below w.heap.size w W) => toStringSS_any n f rv W (hr.below hb) hn hf)
  obtain ⟨A, c, rfl, _⟩ := hh
  obtain ⟨B, d, rfl⟩ := hr.slc
  obtain ⟨hl, hhl⟩ : ∃ k, k = (strs h).length := ⟨_, rfl⟩
  rw [← hhl] at HL ⊢
  clear hhl hr hm hn hf
  have s1 : Below (w.alloc (.cells #[.slice A hl c, .slice B n d] 40)).heap.size (w.alloc (.cells #[.slice A hl c, .slice B n d] 40)) ((w.alloc (.cells #[.slice A hl c, .slice B n d] 40)).alloc (.cells #[.slice none 0 0, .slice none 0 0] 26)) := (Below.refl _ _).alloc (Nat.le_refl _) _
  have s2 : Below ((w.alloc (.cells #[.slice A hl c, .slice B n d] 40)).alloc (.cells #[.slice none 0 0, .slice none 0 0] 26)).heap.size ((w.alloc (.cells #[.slice A hl c, .slice B n d] 40)).alloc (.cells #[.slice none 0 0, .slice none 0 0] 26)) (((w.alloc (.cells #[.slice A hl c, .slice B n d] 40)).alloc (.cells #[.slice none 0 0, .slice none 0 0] 26)).alloc (.cells #[.slice none 0 0, .slice none 0 0] 26)) := (Below.refl _ _).alloc (Nat.le_refl _) _
  have hA := ((Blk.new w 40 #[.slice A hl c, .slice B n d]).after s1).after s2
  have hR := (Blk.new (w.alloc (.cells #[.slice A hl c, .slice B n d] 40)) 26 #[.slice none 0 0, .slice none 0 0]).after s2
  have hO := Blk.new ((w.alloc (.cells #[.slice A hl c, .slice B n d] 40)).alloc (.cells #[.slice none 0 0, .slice none 0 0] 26)) 26 #[.slice none 0 0, .slice none 0 0]
  rw [show (w.alloc (.cells #[.slice A hl c, .slice B n d] 40)).heap.size = w.heap.size + 1 by simp] at hR
  rw [show ((w.alloc (.cells #[.slice A hl c, .slice B n d] 40)).alloc (.cells #[.slice none 0 0, .slice none 0 0] 26)).heap.size = w.heap.size + 1 + 1 by simp] at hO
  have HA := Lib.hid hA
  have HR := Lib.hid hR
  have HO := Lib.hid hO
  have B0 := Lib.hid (by go_grown : Below w.heap.size w (((w.alloc (.cells #[.slice A hl c, .slice B n d] 40)).alloc (.cells #[.slice none 0 0, .slice none 0 0] 26)).alloc (.cells #[.slice none 0 0, .slice none 0 0] 26)))
  obtain ⟨a0, a1⟩ := hA.two
  clear hA hR hO s1 s2
  go_enter Tryd.func17, Tryd.ntmps17
  go_wp2_with fail
  refine (HL.out _ B0.out).mono ?_
  rintro e w1 ⟨hv', rfl, ho1, hb1⟩
  have hz1 := hb1.size
  simp at hz1
  have ho1 := own_base ho1 (show w.heap.size + 1 + 1 + 1 ≤ _ by simp)
  obtain ⟨A1, c1, hv1, _⟩ := Rd.of_own ho1
  obtain ⟨l1, hl1⟩ : ∃ k, k = (strs h).length := ⟨_, rfl⟩
  rw [← hl1] at hv1
  subst hv1
  clear hl1
  have B1 := Lib.hid (B0.out.trans (hb1.mono B0.out.size))
  have hA1 := HA.out.after hb1
  have hR1 := HR.out.after hb1
  have hO1 := HO.out.after hb1
  have HO2 := Lib.hid (hO1.set 0 (.slice A1 l1 c1))
  have HA2 := Lib.hid (hA1.other (g' := w.heap.size + 1 + 1) (j := 0) (u := .slice A1 l1 c1) (by omega))
  have HR2 := Lib.hid (hR1.other (g' := w.heap.size + 1 + 1) (j := 0) (u := .slice A1 l1 c1) (by omega))
  have B2 := Lib.hid (B1.out.setCell (p := ⟨w.heap.size + 1 + 1, 0, none⟩) (show w.heap.size ≤ w.heap.size + 1 + 1 by omega) (.slice A1 l1 c1))
  have HW1 := Lib.hid (own_from ho1 (W' := w1.setCell ⟨w.heap.size + 1 + 1, 0, none⟩ (.slice A1 l1 c1)) fun g hg => heap_set (by show w.heap.size + 1 + 1 < g; omega))
  have o0 := hO1.cell 0
  have f0 := hO1.free 0
  obtain ⟨a0, a1⟩ := HA2.out.two
  simp at o0
  clear hb1 hA1 hR1 hO1 ho1
  go_wp2_with fail
  refine (HT.out _ B2.out).mono ?_
  rintro e w2 ⟨rv', rfl, ho2, hb2⟩
  obtain ⟨B1', d1, rfl⟩ := ho2.len
  have HW2 := Lib.hid (own_below HW1.out hb2)
  have B3 := Lib.hid (B2.out.trans (hb2.mono B2.out.size))
  have hO3 := HO2.out.after hb2
  have hR3 := HR2.out.after hb2
  have hO4 := hO3.set 1 (.slice B1' n d1)
  have hR4 := hR3.other (g' := w.heap.size + 1 + 1) (j := 1) (u := .slice B1' n d1) (by omega)
  have HZ := Lib.hid ((hR4.row (cs' := #[.slice A1 l1 c1, .slice B1' n d1])).two)
  have hsz : w.heap.size + 1 + 1 + 1 ≤ (w1.setCell ⟨w.heap.size + 1 + 1, 0, none⟩ (.slice A1 l1 c1)).heap.size := by
    simp [World.setCell]
    omega
  have HF : Hid (OwnTab ((w2.setCell ⟨w.heap.size + 1 + 1, 1, none⟩ (.slice B1' n d1)).setRow (w.heap.size + 1) #[.slice A1 l1 c1, .slice B1' n d1]) w.heap.size _ (.slice A1 l1 c1) (.slice B1' n d1) h n f) := Lib.hid (OwnTab.retop ⟨_, Nat.le_trans (by omega) hsz, hb2.size, own_base (own_from HW2.out fun g hg => (heap_setRow (by omega)).trans (heap_set (by show w.heap.size + 1 + 1 < g; omega))) (by omega), fun k hk => (World.ownsRow.lt HW1.out k hk).2, ho2.from fun g hg => (heap_setRow (by omega)).trans (heap_set (by show w.heap.size + 1 + 1 < g; omega))⟩ (by simp [World.setRow, World.setCell]))
  have B4 := Lib.hid (below_row (B3.out.setCell (p := ⟨w.heap.size + 1 + 1, 1, none⟩) (show w.heap.size ≤ w.heap.size + 1 + 1 by omega) (.slice B1' n d1)) (g := w.heap.size + 1) (cs := #[.slice A1 l1 c1, .slice B1' n d1]) (by omega))
  have o1 := hO3.cell 1
  have f1 := hO3.free 1
  simp at o1 hO4
  obtain ⟨d0, d1'⟩ := hO4.two
  clear a0 a1 hb2 hO3 hR3 hO4 ho2
  go_wp2_with (refine wpList_store_row rfl _ _ _ rfl (w.heap.size + 1) #[.slice A1 l1 c1, .slice B1' n d1] rfl rfl 26 _ hR4 size_tab rfl (one_tab _ _ _ _ _ _) ?_)
  obtain ⟨c0, c1'⟩ := HZ.out
  exact bodyPost_ret (v := .agg #[.slice A1 l1 c1, .slice B1' n d1]) (by simp [results, Tryd.results17, go_sem, c0, c1']) rfl ⟨_, _, rfl, HF.out, B4.out⟩
set_option maxRecDepth 100000 in
set_option maxHeartbeats 2000000 in
theorem eqTable_same (n b1 b2 t1 t2 : Nat) (h : List ByteArray) (f : Nat → List ByteArray) (ha va hb vb : Value) (w : World) (oa : OwnTab w b1 t1 ha va h n f) (ob : OwnTab w b2 t2 hb vb h n f) (hm : h.length ≤ 1000000000) (hn : n ≤ 100000000) (hf : ∀ i, (f i).length ≤ 1000000000) :
    Calls Tryd.prog 19 #[.agg #[ha, va], .agg #[hb, vb]] w fun e w' => e = .returned (.bool true) ∧ Below w.heap.size w w' := by
  have HL := Lib.hid (fun W (h' : Below w.heap.size w W) => eqStringS_self h ha hb W ((Rd.of_own oa.head).below h') ((Rd.of_own ob.head).below h') (by omega))
  have oa2 := oa.rows.retop
  have ob2 := ob.rows.retop
  have HT := Lib.hid (fun W (h' : Below w.heap.size w W) => eqStringSS_same n _ _ _ _ f va vb W (oa2.below h') (ob2.below h') hn hf)
  obtain ⟨A, c, rfl, _⟩ := Rd.of_own oa.head
  obtain ⟨B, d, rfl, _⟩ := Rd.of_own ob.head
  obtain ⟨A1, c1, rfl⟩ := oa2.len
  obtain ⟨B1, d1, rfl⟩ := ob2.len
  obtain ⟨hl, hhl⟩ : ∃ k, k = (strs h).length := ⟨_, rfl⟩
  rw [← hhl] at HL ⊢
  clear hhl hm hn hf oa2 ob2 oa ob
  have s1 : Below (w.alloc (.cells #[.slice A hl c, .slice A1 n c1] 26)).heap.size (w.alloc (.cells #[.slice A hl c, .slice A1 n c1] 26)) ((w.alloc (.cells #[.slice A hl c, .slice A1 n c1] 26)).alloc (.cells #[.slice B hl d, .slice B1 n d1] 26)) := (Below.refl _ _).alloc (Nat.le_refl _) _
  have hA := (Blk.new w 26 #[.slice A hl c, .slice A1 n c1]).after s1
  have hB := Blk.new (w.alloc (.cells #[.slice A hl c, .slice A1 n c1] 26)) 26 #[.slice B hl d, .slice B1 n d1]
  rw [show (w.alloc (.cells #[.slice A hl c, .slice A1 n c1] 26)).heap.size = w.heap.size + 1 by simp] at hB
  have HA := Lib.hid hA
  have HB := Lib.hid hB
  have B0 := Lib.hid (by go_grown : Below w.heap.size w ((w.alloc (.cells #[.slice A hl c, .slice A1 n c1] 26)).alloc (.cells #[.slice B hl d, .slice B1 n d1] 26)))
  obtain ⟨a0, a1⟩ := hA.two
  obtain ⟨b0, b1⟩ := hB.two
  clear hA hB s1
  go_enter Tryd.func19, Tryd.ntmps19
  go_wp2_with fail
  refine (HL.out _ B0.out).mono ?_
  rintro e w1 ⟨rfl, hb1⟩
  have B1 := Lib.hid (B0.out.trans (hb1.mono B0.out.size))
  have hA1 := HA.out.after hb1
  have hB1 := HB.out.after hb1
  clear a0 a1 b0 b1 hb1
  obtain ⟨a0, a1⟩ := hA1.two
  obtain ⟨b0, b1⟩ := hB1.two
  clear hA1 hB1
  go_wp2_with fail
  refine (HT.out _ B1.out).mono ?_
  rintro e w2 ⟨rfl, hb2⟩
  have B2 := Lib.hid (B1.out.trans (hb2.mono B1.out.size))
  clear hb2 a0 a1 b0 b1
  go_wp2_with fail
  go_ret
  exact ⟨rfl, B2.out⟩
end Go.Proofs.YtionfjofojfaoaaDoor
