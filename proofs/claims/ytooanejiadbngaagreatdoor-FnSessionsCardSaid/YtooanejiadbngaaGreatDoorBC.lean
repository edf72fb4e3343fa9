/- Merged texts: ImplChars ReadChars ImplWidth ImplPadW. -/
import Derived.Test.YtooanejiadbngaaGreatDoorBA
import Derived.Test.YtooanejiadbngaaGreatDoorShelf
import Derived.Maps.AppendAt
import Derived.Deep.RegionHeld3
import Derived.WalkLawsBesides
import Derived.Handy
import Derived.Lib.Repeat
/- The program's decoder gives the character at an index; the reading loop gives all codes and all ends. -/
namespace Go.Proofs.YtooanejiadbngaaGreatDoor
open Go.RowKit
set_option linter.unusedVariables false

/-- The two tables of the decoder are as they are laid. -/
def Tabs (w : World) : Prop := Lib.Utf8Tabs 3 4 w ∧ 3 < w.heap.size ∧ 4 < w.heap.size
theorem Tabs.below {w w' : World} (h : Tabs w) (hb : Below w.heap.size w w') : Tabs w' := by
  obtain ⟨⟨h1, h2⟩, g1, g2⟩ := h
  have hs := hb.size
  refine ⟨⟨fun c hc => (hb.cell (p := ⟨_, c, none⟩) g1).trans (h1 c hc), fun i hi => ⟨(hb.cell (p := ⟨_, 2 * i, none⟩) g2).trans (h2 i hi).1, (hb.cell (p := ⟨_, 2 * i + 1, none⟩) g2).trans (h2 i hi).2⟩⟩, by omega, by omega⟩

theorem extract_size (s : ByteArray) (i : Nat) : (s.extract i s.size).size = s.size - i := by
  rw [ByteArray.size_extract]; omega
theorem extract_by8 (s : ByteArray) (i k : Nat) : by8 (s.extract i s.size) k = by8 s (i + k) := by
  by_cases h : i + k < s.size
  · rw [by8_of s _ h, by8_of _ _ (by rw [extract_size]; omega)]
    simp [ByteArray.getElem_extract]
  · have e1 : ∀ (t : ByteArray) (j : Nat), ¬ j < t.size → by8 t j = 0 := by
      intro t j hj
      unfold by8
      cases t with
      | mk d =>
        have : (ByteArray.mk d).get! j = default := getElem!_neg d j hj
        rw [this]; rfl
    rw [e1 _ _ h, e1 _ _ (by rw [extract_size]; omega)]
theorem ch_tail (s : ByteArray) (i : Nat) (h : i < s.size) : ch (s.extract i s.size) 0 = ch s i := by
  rw [ch_eq, ch_eq, extract_size, extract_by8, extract_by8, extract_by8, extract_by8]; rfl
theorem goDecode_tail (s : ByteArray) (i : Nat) (h : i < s.size) : chOf (Lib.decodeGo (s.extract i s.size)) = ch s i := by
  unfold Lib.decodeGo
  rw [extract_size, if_neg (by omega)]
  exact ch_tail s i h
theorem chOf_cases (d : Nat × Nat) : (d.1 = 65533 ∧ d.2 = 1 ∧ chOf d = (-1, 1)) ∨ (¬ (d.1 = 65533 ∧ d.2 = 1) ∧ chOf d = ((d.1 : Int), d.2)) := by
  by_cases h : d.1 = 65533 ∧ d.2 = 1
  · exact .inl ⟨h.1, h.2, if_pos h⟩
  · exact .inr ⟨h, if_neg h⟩

set_option maxRecDepth 100000 in
set_option maxHeartbeats 1000000 in
theorem charAt_in (s : ByteArray) (i : Nat) (w : World) (h : i < s.size) (hs : s.size ≤ 1000000000) (hT : Tabs w) :
    Calls Tryz.prog 85 #[.string s, .int .i64 (i : Int)] w fun e w' => e = .returned (.tuple #[.int .i64 (ch s i).1, .int .i64 ((ch s i).2 : Int)]) ∧ Below w.heap.size w w' := by
  have hd := Tryz.utf8_DecodeRuneInString (s.extract i s.size) w hT.1
  have hc := goDecode_tail s i h
  have hcode := ch_code s i
  have hlen := ch_len s i h
  have HT := Lib.hid hT
  clear hT
  generalize Lib.decodeGo (s.extract i s.size) = d at hd hc
  rw [← hc] at hcode hlen ⊢
  have h0 : ¬ (i : Int) < 0 := by omega
  have h1 : ¬ (s.size : Int) ≤ (i : Int) := by omega
  have hz0 : (0 : Int) ≤ (i : Int) := by omega
  have hz1 : (i : Int) ≤ (s.size : Int) := by omega
  rcases chOf_cases d with ⟨a, b, c⟩ | ⟨a, c⟩
  · rw [c]
    have ha : (((d.1 : Nat) : Int) == 65533) = true := by simp; omega
    have hb : (((d.2 : Nat) : Int) == 1) = true := by simp; omega
    obtain ⟨x, hx⟩ : ∃ x : Int, x = ((d.1 : Nat) : Int) := ⟨_, rfl⟩
    obtain ⟨y, hy⟩ : ∃ y : Int, y = ((d.2 : Nat) : Int) := ⟨_, rfl⟩
    rw [← hx] at ha hd
    rw [← hy] at hb hd
    have HD := Lib.hid hd
    clear hd hc hcode hlen a b c hx hy h
    go_enter Tryz.func85, Tryz.ntmps85
    go_wp2_with fail
    refine HD.out.mono ?_
    rintro e w1 ⟨rfl, hb1⟩
    go_wp2_with fail
    go_ret2
    exact ⟨rfl, hb1⟩
  · rw [c] at hcode hlen ⊢
    simp only at hcode hlen ⊢
    obtain ⟨x, hx⟩ : ∃ x : Int, x = ((d.1 : Nat) : Int) := ⟨_, rfl⟩
    obtain ⟨y, hy⟩ : ∃ y : Int, y = ((d.2 : Nat) : Int) := ⟨_, rfl⟩
    rw [← hx] at hcode hd ⊢
    rw [← hy] at hd ⊢
    have hx0 : 0 ≤ x := by omega
    have HD := Lib.hid hd
    by_cases hxa : x = 65533
    · have ha : (x == 65533) = true := by simp [hxa]
      have hb : (y == 1) = false := by
        rw [beq_eq_false_iff_ne]; intro hy1; exact a ⟨by omega, by omega⟩
      clear hd hc hlen a c hx hy hxa h
      go_enter Tryz.func85, Tryz.ntmps85
      go_wp2_with fail
      refine HD.out.mono ?_
      rintro e w1 ⟨rfl, hb1⟩
      go_wp2_with fail
      go_ret2
      exact ⟨rfl, hb1⟩
    · have ha : (x == 65533) = false := by rw [beq_eq_false_iff_ne]; exact hxa
      clear hd hc hlen a c hx hy hxa h
      go_enter Tryz.func85, Tryz.ntmps85
      go_wp2_with fail
      refine HD.out.mono ?_
      rintro e w1 ⟨rfl, hb1⟩
      go_wp2_with fail
      go_ret2
      exact ⟨rfl, hb1⟩

set_option maxRecDepth 100000 in
set_option maxHeartbeats 1000000 in
theorem charAt_out (s : ByteArray) (i : Int) (w : World) (h : i < 0 ∨ (s.size : Int) ≤ i) :
    Calls Tryz.prog 85 #[.string s, .int .i64 i] w fun e w' => e = .returned (.tuple #[.int .i64 (-1), .int .i64 0]) ∧ w = w' := by
  by_cases h0 : i < 0
  · clear h
    go_enter Tryz.func85, Tryz.ntmps85
    go_wp2
    go_ret2
    exact ⟨rfl, rfl⟩
  · have h1 : (s.size : Int) ≤ i := by omega
    clear h
    go_enter Tryz.func85, Tryz.ntmps85
    go_wp2
    go_ret2
    exact ⟨rfl, rfl⟩

end Go.Proofs.YtooanejiadbngaaGreatDoor

/- The program's reading loop: RunesOf, CutRunes, IsText. -/
namespace Go.Proofs.YtooanejiadbngaaGreatDoor
open Go.RowKit
set_option linter.unusedVariables false

theorem Tryz.infoInt : (Tryz.prog.info? 3).map (fun i => (i.zero, i.size, i.bytes)) = some (some (.int .i64 0), 1, 8) := by kernel_rfl
theorem Tryz.infoStr2 : (Tryz.prog.info? 9).map (fun i => (i.zero, i.size, i.bytes)) = some (some (.string ByteArray.empty), 1, 16) := by kernel_rfl

/-- Two slices of the call's own lie in different blocks. -/
def Apart (a b : Value) : Prop := a.ownBlock = none ∨ a.ownBlock ≠ b.ownBlock
theorem Apart.symm {a b : Value} (h : Apart a b) : Apart b a := by
  unfold Apart at *
  cases hb : b.ownBlock with
  | none => exact .inl rfl
  | some k =>
    refine .inr ?_
    rcases h with h | h
    · rw [h]; simp
    · intro e; exact h (by rw [hb]; exact e.symm)
theorem Apart.new {W : World} {base : Nat} {e : TypeId} {v v' u : Value} {n : Nat} {ys : List Value} (h : Apart v u) (hu : W.ownsRow base e 1 u n ys) (hat : v'.ownBlock = v.ownBlock ∨ v'.ownBlock = some (W.heap.size + 1)) : Apart v' u := by
  unfold Apart at *
  rcases hat with hat | hat
  · rw [hat]; exact h
  · refine .inr fun e => ?_
    rw [hat] at e
    have := (hu.lt _ e.symm).2
    omega
theorem apart_nil (u : Value) : Apart (.slice none 0 0) u := .inl rfl

/-- 'out = append(out, u)', u of one cell, out the call's own; where the result lies. -/
theorem append_one_at {P : Program} {ops : Array Oper} {rest : List Oper} {o : Oper} {a : Act} {Q : Exit → Act → World → Prop} (hgd : o.guard = none) (s x : Operand) (t : TypeId)
    (ho : o.op = .call { callee := .builtin .append, args := #[s, x], argTypes := #[t, t] })
    (base : Nat) (e : TypeId) (i : TypeInfo) (z : Value) (bytes : Nat) (ht : P.underlying t = some (.slice e)) (hi : P.info? e = some i) (hz : i.zero = some z)
    (hsize : i.size = 1) (hby : i.bytes = bytes) (hzs : z.cells.size = 1) (v : Value) (n : Nat) (xs : List Value) (hs : a.eval s = v) (W : World) (u : Value)
    (hx : a.eval x = .slice (some ⟨W.heap.size, 0, none⟩) 1 1) (h1 : u.oneCell' = true) (hown : W.ownsRow base e 1 v n xs) (hbytes : (n + 1) * bytes ≤ 140737488355328) (hn : n + 1 ≤ 9223372036854775807) (hbase : base ≤ W.heap.size)
    (h : ∀ v' w', w'.ownsRow base e 1 v' (n + 1) (xs ++ [u]) → Below base W w' → W.grownBy w' v.ownBlock → (v'.ownBlock = v.ownBlock ∨ v'.ownBlock = some (W.heap.size + 1)) → wpList P ops Q rest (a.put o.dst v') w') : wpList P ops Q (o :: rest) a (W.alloc (.cells #[u] e)) := by
  refine wpList_append_own_at _ hgd s x t ho base e i z 1 bytes ht hi hz hsize hby hzs (by decide) v n xs hs (hown.alloc _) ⟨W.heap.size, 0, none⟩ 1 1 [u] hx rfl ?_ ?_ (by unfold maxLen; omega) hbytes (by simp; omega) ?_
  · intro j y hj
    match j, hj with
    | 0, hj => simp at hj; subst hj; simp [Addr.add]
  · intro y hy
    simp at hy
    subst hy
    exact h1
  · intro v' w' hown' hg _ hat
    have hg2 : W.grownBy w' v.ownBlock := ionly_trans (World.grownBy_alloc W _ _) hg
    refine h v' w' hown' ?_ hg2 (by simpa using hat)
    exact below_of_grown hown hg2 hbase

set_option maxRecDepth 100000 in
set_option maxHeartbeats 1000000 in
theorem readChars (s : ByteArray) (w : World) (hs : s.size ≤ 100000000) (hT : Tabs w) :
    Calls Tryz.prog 87 #[.func (.func 85) #[.string s] #[]] w fun e w' => ∃ v1 v2, e = .returned (.tuple #[v1, v2]) ∧
      w'.ownsRow w.heap.size 3 1 v1 (runesB s).length (ints (runesB s)) ∧ w'.ownsRow w.heap.size 3 1 v2 (endsB s).length (ints (endsB s)) ∧ Apart v1 v2 ∧ Below w.heap.size w w' := by
  obtain ⟨i0, hi0, hz0, hz1, hz2⟩ := info_parts Tryz.infoInt
  have HT := Lib.hid hT
  clear hT
  go_enter Tryz.func87, Tryz.ntmps87
  go_wp2
  go_loopw [4, 5, 6] (fun c e a wr => ∃ (i : Nat) (oc oe : List Int) (vc ve : Value), i ≤ s.size ∧ a = .int .i64 (i : Int) ∧ vc = c ∧ ve = e ∧ wr.ownsRow w.heap.size 3 1 vc oc.length (ints oc) ∧ wr.ownsRow w.heap.size 3 1 ve oe.length (ints oe) ∧ Apart vc ve ∧ Below w.heap.size w wr ∧ Hid (oc ++ runesFrom s i = runesB s) ∧ Hid (oe ++ endsFrom s i = endsB s)) (fun _ _ a _ => s.size - (intOf a).toNat)
  case atStart => exact ⟨0, [], [], _, _, Nat.zero_le _, rfl, rfl, rfl, World.ownsRow_nil _ _ _ _, World.ownsRow_nil _ _ _ _, .inl rfl, Below.refl _ _, Lib.hid rfl, Lib.hid rfl⟩
  case round =>
    obtain ⟨i, oc, oe, vc, ve, hi, rfl, rfl, rfl, hoc, hoe, hap, hbel, HC, HE⟩ := hrel
    have l1 : oc.length ≤ s.size := by have := out_length HC.out; have := runesB_length s; omega
    have l2 : oe.length ≤ s.size := by have := out_length HE.out; have := endsB_length s; have := runesB_length s; omega
    by_cases hlt : i < s.size
    · have hcl := ch_len s i hlt
      have hca := fun W (hw : Tabs W) => charAt_in s i W hlt (by omega) hw
      have hr := runes_step s i oc hlt HC.out
      have he := ends_step s i oe hlt HE.out
      obtain ⟨c, hc⟩ : ∃ c, c = (ch s i).1 := ⟨_, rfl⟩
      obtain ⟨m, hm⟩ : ∃ m, m = (ch s i).2 := ⟨_, rfl⟩
      rw [← hc, ← hm] at hca
      rw [← hc, ← hm] at hr
      rw [← hm] at hcl he
      have HR := Lib.hid hr
      have HE2 := Lib.hid he
      have HCA := Lib.hid hca
      have hm0 : ((m : Int) == 0) = false := by simp; omega
      have OC := Lib.hid hoc
      have OE := Lib.hid hoe
      have AP := Lib.hid hap
      have BE := Lib.hid hbel
      clear hr he hca hc hm hoc hoe hap hbel
      go_wp2_with fail
      refine (HCA.out _ (HT.out.below BE.out)).mono ?_
      rintro e w1 ⟨rfl, hb1⟩
      have OC1 := own_below OC.out hb1
      have OE1 := Lib.hid (own_below OE.out hb1)
      have B1 := Lib.hid (BE.out.trans (hb1.mono BE.out.size))
      have hbase : w.heap.size ≤ w1.heap.size := B1.out.size
      clear hb1
      go_wp2_with (first
        | (at_builtin; refine append_one_at rfl _ _ 38 rfl w.heap.size 3 i0 _ 8 Tryz.underlying38 hi0 hz0 hz1 hz2 rfl vc _ _ rfl w1 (.int .i64 c) rfl rfl OC1 (by omega) (by omega) hbase ?_; intro v1 w2 hown2 hbel2 hg2 hat2; have AP2 := Lib.hid (AP.out.new OE1.out hat2); have OE2 := Lib.hid (OE1.out.kept hg2 AP.out.symm); have OC2 := Lib.hid hown2; have B2 := Lib.hid (B1.out.trans hbel2); have hbase2 : w.heap.size ≤ w2.heap.size := B2.out.size; clear hown2 hbel2 hg2 hat2 OC1)
        | (at_builtin; refine append_one_at rfl _ _ 38 rfl w.heap.size 3 i0 _ 8 Tryz.underlying38 hi0 hz0 hz1 hz2 rfl ve _ _ rfl w2 (.int .i64 ((i : Int) + (m : Int))) rfl rfl OE2.out (by omega) (by omega) hbase2 ?_; intro v2 w3 hown3 hbel3 hg3 hat3; have HAT3 := Lib.hid hat3; have HG3 := Lib.hid hg3; have HO3 := Lib.hid hown3; have HB3 := Lib.hid hbel3; clear hat3 hown3 hbel3 hg3))
      have AP3 := Lib.hid (AP2.out.symm.new OC2.out HAT3.out)
      have OC3 := Lib.hid (OC2.out.kept HG3.out AP2.out)
      have OE3 := HO3
      have B3 := Lib.hid (B2.out.trans HB3.out)
      go_roundw
      case rel => exact ⟨i + m, oc ++ [c], oe ++ [((i + m : Nat) : Int)], v1, v2, by omega, by go_num, rfl, rfl, by rw [ints_snoc, List.length_append]; exact OC3.out, by rw [ints_snoc, List.length_append]; exact OE3.out, AP3.out.symm, B3.out, HR, HE2⟩
      case measure => simp [intOf]; omega
    · have hout := Lib.hid (fun W => charAt_out s (i : Int) W (.inr (by omega)))
      have HR := Lib.hid (runes_done s i oc hlt HC.out)
      have HEE := Lib.hid (ends_done s i oe hlt HE.out)
      have OC := Lib.hid hoc
      have OE := Lib.hid hoe
      have AP := Lib.hid hap
      have BE := Lib.hid hbel
      clear hoc hoe hap hbel
      go_wp2_with fail
      refine (hout.out _).mono ?_
      rintro e w1 ⟨rfl, rfl⟩
      go_wp2_with fail
      go_ret2
      have a := HR.out
      have b := HEE.out
      subst a
      subst b
      exact ⟨_, _, rfl, OC.out, OE.out, AP.out, BE.out⟩

theorem implDecodeAt_in (s : ByteArray) (i : Nat) (w : World) (h : i < s.size) (hs : s.size ≤ 100000000) (hT : Tabs w) :
    Calls Tryz.prog 76 #[.string s, .int .i64 (i : Int)] w fun e w' => e = .returned (.tuple #[.int .i64 (ch s i).1, .int .i64 ((ch s i).2 : Int)]) ∧ Below w.heap.size w w' := by
  have HC := Lib.hid (charAt_in s i w h (by omega) hT)
  obtain ⟨c, hc⟩ : ∃ c, c = (ch s i).1 := ⟨_, rfl⟩
  obtain ⟨m, hm⟩ : ∃ m, m = (ch s i).2 := ⟨_, rfl⟩
  rw [← hc, ← hm] at HC
  rw [← hc, ← hm]
  clear hc hm hT
  go_enter Tryz.func76, Tryz.ntmps76
  go_wp2_with fail
  refine HC.out.mono ?_
  rintro e w1 ⟨rfl, hb1⟩
  go_wp2_with fail
  go_ret2
  exact ⟨rfl, hb1⟩
theorem implDecodeAt_out (s : ByteArray) (i : Int) (w : World) (h : i < 0 ∨ (s.size : Int) ≤ i) :
    Calls Tryz.prog 76 #[.string s, .int .i64 i] w fun e w' => e = .returned (.tuple #[.int .i64 (-1), .int .i64 0]) ∧ w = w' := by
  have HC := Lib.hid (charAt_out s i w h)
  clear h
  go_enter Tryz.func76, Tryz.ntmps76
  go_wp2_with fail
  refine HC.out.mono ?_
  rintro e w1 ⟨rfl, rfl⟩
  go_wp2_with fail
  go_ret2
  exact ⟨rfl, rfl⟩

theorem implRunesOf (s : ByteArray) (w : World) (hs : s.size ≤ 100000000) (hT : Tabs w) :
    Calls Tryz.prog 78 #[.string s] w fun e w' => ∃ v, e = .returned v ∧ w'.ownsRow w.heap.size 3 1 v (runesB s).length (ints (runesB s)) ∧ Below w.heap.size w w' := by
  have hmf : ∀ (fn : Fn) (first cap : Array Value) (w : World), (Instr.makeFunc fn first cap).run Tryz.prog w = .ok (.func fn first cap) w := fun _ _ _ _ => rfl
  have HC := Lib.hid (readChars s w hs hT)
  clear hT
  go_enter Tryz.func78, Tryz.ntmps78
  go_wp2_with fail
  refine HC.out.mono ?_
  rintro e w1 ⟨v1, v2, rfl, h1, h2, h3, h4⟩
  have H1 := Lib.hid h1
  have H4 := Lib.hid h4
  clear h1 h2 h3 h4
  go_wp2_with fail
  go_ret
  exact ⟨_, rfl, H1.out, H4.out⟩

end Go.Proofs.YtooanejiadbngaaGreatDoor

/- The program's RuneWidth: a range contains a code; the table of ranges. -/
namespace Go.Proofs.YtooanejiadbngaaGreatDoor
open Go.RowKit
set_option linter.unusedVariables false

set_option maxRecDepth 100000 in
set_option maxHeartbeats 400000 in
theorem common_any (a b c d : Int) (w : World) :
    Calls Tryz.prog 94 #[.agg #[.int .i64 a, .int .i64 b], .agg #[.int .i64 c, .int .i64 d]] w fun e w' => e = .returned (.agg #[.int .i64 (max a c), .int .i64 (min b d)]) ∧ Below w.heap.size w w' := by
  go_enter Tryz.func94, Tryz.ntmps94
  go_wp2
  refine bodyPost_ret (v := .agg #[.int .i64 (max a c), .int .i64 (min b d)]) (by simp [results, Tryz.results94, go_sem]) rfl ⟨rfl, ?_⟩
  go_grown
theorem sizeInt (w : World) : (sizeOf 3).run Tryz.prog w = .ok 1 w := by kernel_rfl
theorem eqPair (x0 x1 y0 y1 : Int) (w : World) : (Op.equalIn 10000 170 (.agg #[.int .i64 x0, .int .i64 x1]) (.agg #[.int .i64 y0, .int .i64 y1])).run Tryz.prog w = .ok (x0 == y0 && x1 == y1) w := by
  have px : ∀ (z0 z1 : Int), (part 3 #[.int .i64 z0, .int .i64 z1] 0).run Tryz.prog w = .ok (.int .i64 z0) w := fun z0 z1 => by kernel_rfl
  have py : ∀ (z0 z1 : Int), (part 3 #[.int .i64 z0, .int .i64 z1] 1).run Tryz.prog w = .ok (.int .i64 z1) w := fun z0 z1 => by kernel_rfl
  rw [show (10000 : Nat) = 9998 + 2 from rfl, Op.equalIn]
  simp only [Sem.run_bind, run_underlying Tryz.underlying170, Result.andThen_ok, sizeInt, Std.Legacy.Range.forIn_eq_forIn_range', Std.Legacy.Range.size, Nat.sub_zero, Nat.add_sub_cancel, Nat.div_one]
  simp only [List.range', List.forIn_cons, List.forIn_nil, Sem.run_bind, Result.andThen_ok, Nat.zero_add, Nat.mul_one, px, run_equalIn_int w 9998 3 .i64 .i64 _ _ Tryz.underlying3]
  cases h0 : (x0 == y0) <;> cases h1 : (x1 == y1) <;> simp [py, run_equalIn_int w 9998 3 .i64 .i64 _ _ Tryz.underlying3, h1]
theorem pair_step {w W W' : World} {B : Nat} {a b r : Value} (hb : Below W.heap.size W W')
    (h : W.cell? ⟨B, 0, none⟩ = some a ∧ W.cell? ⟨B, 1, none⟩ = some b ∧ W.cell? ⟨B + 1, 0, none⟩ = some r ∧ W.cell? ⟨B + 1, 1, none⟩ = some r ∧ Below w.heap.size w W ∧ B + 2 ≤ W.heap.size) :
    W'.cell? ⟨B, 0, none⟩ = some a ∧ W'.cell? ⟨B, 1, none⟩ = some b ∧ W'.cell? ⟨B + 1, 0, none⟩ = some r ∧ W'.cell? ⟨B + 1, 1, none⟩ = some r ∧ Below w.heap.size w W' ∧ B + 2 ≤ W'.heap.size := by
  obtain ⟨h1, h2, h3, h4, h5, h6⟩ := h
  have hs := hb.size
  exact ⟨(hb.cell (p := ⟨B, 0, none⟩) (by show B < _; omega)).trans h1, (hb.cell (p := ⟨B, 1, none⟩) (by show B < _; omega)).trans h2, (hb.cell (p := ⟨B + 1, 0, none⟩) (by show B + 1 < _; omega)).trans h3, (hb.cell (p := ⟨B + 1, 1, none⟩) (by show B + 1 < _; omega)).trans h4, h5.trans (hb.mono h5.size), by omega⟩
theorem pair_start {w : World} (a b r : Value) (t : TypeId) : ((w.alloc (.cells #[a, b] t)).alloc (.cells #[r, r] t)).drew.cell? ⟨w.heap.size, 0, none⟩ = some a ∧ ((w.alloc (.cells #[a, b] t)).alloc (.cells #[r, r] t)).drew.cell? ⟨w.heap.size, 1, none⟩ = some b ∧
    ((w.alloc (.cells #[a, b] t)).alloc (.cells #[r, r] t)).drew.cell? ⟨w.heap.size + 1, 0, none⟩ = some r ∧ ((w.alloc (.cells #[a, b] t)).alloc (.cells #[r, r] t)).drew.cell? ⟨w.heap.size + 1, 1, none⟩ = some r ∧
    Below w.heap.size w ((w.alloc (.cells #[a, b] t)).alloc (.cells #[r, r] t)).drew ∧ w.heap.size + 2 ≤ ((w.alloc (.cells #[a, b] t)).alloc (.cells #[r, r] t)).drew.heap.size :=
  ⟨by go_simp, by go_simp, by go_simp, by go_simp, by go_grown, by simp⟩
set_option maxRecDepth 100000 in
set_option maxHeartbeats 1000000 in
theorem contains_any (a b r : Int) (w : World) :
    Calls Tryz.prog 86 #[.agg #[.int .i64 a, .int .i64 b], .agg #[.int .i64 r, .int .i64 r]] w fun e w' => e = .returned (.bool (inB r a b)) ∧ Below w.heap.size w w' := by
  have HC := Lib.hid (fun W => common_any a b r r W)
  have hq : (max a r == r && min b r == r) = inB r a b := by
    unfold inB
    rw [Bool.eq_iff_iff]
    simp only [Bool.and_eq_true, beq_iff_eq, decide_eq_true_iff]
    omega
  have HQ := Lib.hid hq
  have hep := fun W => eqPair (max a r) (min b r) r r W
  clear hq
  obtain ⟨x, hx⟩ : ∃ x, x = max a r := ⟨_, rfl⟩
  obtain ⟨y, hy⟩ : ∃ y, y = min b r := ⟨_, rfl⟩
  rw [← hx, ← hy] at HC hep HQ
  clear hx hy
  obtain ⟨q, hq⟩ : ∃ q, q = (x == r && y == r) := ⟨_, rfl⟩
  rw [← hq] at HQ hep
  clear hq
  go_enter Tryz.func86, Tryz.ntmps86
  go_wp2_with fail
  go_region_held3 (fun W => W.cell? ⟨w.heap.size, 0, none⟩ = some (.int .i64 a) ∧ W.cell? ⟨w.heap.size, 1, none⟩ = some (.int .i64 b) ∧ W.cell? ⟨w.heap.size + 1, 0, none⟩ = some (.int .i64 r) ∧ W.cell? ⟨w.heap.size + 1, 1, none⟩ = some (.int .i64 r) ∧ Below w.heap.size w W ∧ w.heap.size + 2 ≤ W.heap.size)
    (first | exact pair_start _ _ _ _ | exact pair_step (by assumption) (by assumption))
    (first | (go_at_call 94; refine (HC.out _).mono ?_; rintro e w1 ⟨rfl, hb1⟩))
  all_goals
    have HB := Lib.hid (And.left (And.right (And.right (And.right (And.right (by assumption : World.cell? _ ⟨w.heap.size, 0, none⟩ = some (Value.int .i64 a) ∧ World.cell? _ ⟨w.heap.size, 1, none⟩ = some (Value.int .i64 b) ∧ World.cell? _ ⟨w.heap.size + 1, 0, none⟩ = some (Value.int .i64 r) ∧ World.cell? _ ⟨w.heap.size + 1, 1, none⟩ = some (Value.int .i64 r) ∧ Below w.heap.size w _ ∧ w.heap.size + 2 ≤ _))))))
    go_wp2
    go_ret
    exact ⟨ret_bool HQ.out, HB.out⟩
/-- The program's table: the first and the last code of a range, and their width. -/
def wrows : List (Int × Int × Int) := [(0, 31, 0), (127, 159, 0), (768, 879, 0), (1155, 1161, 0), (8203, 8207, 0), (8400, 8447, 0), (65024, 65039, 0), (65279, 65279, 0), (4352, 4447, 2), (11904, 42191, 2), (44032, 55203, 2), (63744, 64255, 2), (65280, 65376, 2), (65504, 65510, 2), (127744, 128591, 2), (129280, 129535, 2), (131072, 262141, 2)]
/-- The width by the first row that holds the code. -/
def rowW (r : Int) : List (Int × Int × Int) → Int
  | [] => 1
  | x :: t => if inB r x.1 x.2.1 = true then x.2.2 else rowW r t
theorem rowW_eq (r : Int) : rowW r wrows = (rw1 r : Int) := by
  unfold rw1
  simp only [wrows, rowW, zeroL, wideL, inAny, Bool.or_false]
  generalize inB r 0 31 = b0
  generalize inB r 127 159 = b1
  generalize inB r 768 879 = b2
  generalize inB r 1155 1161 = b3
  generalize inB r 8203 8207 = b4
  generalize inB r 8400 8447 = b5
  generalize inB r 65024 65039 = b6
  generalize inB r 65279 65279 = b7
  generalize inB r 4352 4447 = b8
  generalize inB r 11904 42191 = b9
  generalize inB r 44032 55203 = b10
  generalize inB r 63744 64255 = b11
  generalize inB r 65280 65376 = b12
  generalize inB r 65504 65510 = b13
  generalize inB r 127744 128591 = b14
  generalize inB r 129280 129535 = b15
  generalize inB r 131072 262141 = b16
  cases b0 with
  | true => rfl
  | false =>
    cases b1 with
    | true => rfl
    | false =>
      cases b2 with
      | true => rfl
      | false =>
        cases b3 with
        | true => rfl
        | false =>
          cases b4 with
          | true => rfl
          | false =>
            cases b5 with
            | true => rfl
            | false =>
              cases b6 with
              | true => rfl
              | false =>
                cases b7 with
                | true => rfl
                | false =>
                  cases b8 with
                  | true => rfl
                  | false =>
                    cases b9 with
                    | true => rfl
                    | false =>
                      cases b10 with
                      | true => rfl
                      | false =>
                        cases b11 with
                        | true => rfl
                        | false =>
                          cases b12 with
                          | true => rfl
                          | false =>
                            cases b13 with
                            | true => rfl
                            | false =>
                              cases b14 with
                              | true => rfl
                              | false =>
                                cases b15 with
                                | true => rfl
                                | false =>
                                  cases b16 with
                                  | true => rfl
                                  | false =>
                                    rfl
theorem rowW_yes (r : Int) (xs : List (Int × Int × Int)) (j : Nat) (h : j < xs.length) (hi : inB r xs[j].1 xs[j].2.1 = true) : rowW r (xs.drop j) = xs[j].2.2 := by
  rw [List.drop_eq_getElem_cons h, rowW, if_pos hi]
theorem rowW_no (r : Int) (xs : List (Int × Int × Int)) (j : Nat) (h : j < xs.length) (hi : inB r xs[j].1 xs[j].2.1 = false) : rowW r (xs.drop j) = rowW r (xs.drop (j + 1)) := by
  rw [List.drop_eq_getElem_cons h, rowW, if_neg (by rw [hi]; decide)]
theorem rowW_end (r : Int) (xs : List (Int × Int × Int)) (j : Nat) (h : ¬ j < xs.length) : rowW r (xs.drop j) = 1 := by
  rw [List.drop_eq_nil_of_le (by omega)]; rfl
/-- The table of ranges is as it is laid. -/
def WTab (w : World) : Prop := ∃ (g o c : Nat), w.cell? ⟨1, 0, none⟩ = some (.slice (some ⟨g, o, none⟩) 17 c) ∧ 1 < w.heap.size ∧ g < w.heap.size ∧
  ∀ (j : Nat) (h : j < wrows.length), w.cell? ⟨g, o + j * 3, none⟩ = some (.int .i64 wrows[j].1) ∧ w.cell? ⟨g, o + j * 3 + 1, none⟩ = some (.int .i64 wrows[j].2.1) ∧ w.cell? ⟨g, o + j * 3 + 2, none⟩ = some (.int .i64 wrows[j].2.2)
theorem WTab.below {w w' : World} (h : WTab w) (hb : Below w.heap.size w w') : WTab w' := by
  obtain ⟨g, o, c, h1, h2, h3, h4⟩ := h
  have hs := hb.size
  exact ⟨g, o, c, (hb.cell (p := ⟨_, 0, none⟩) h2).trans h1, by omega, by omega, fun j hj => ⟨(hb.cell (p := ⟨g, _, none⟩) h3).trans (h4 j hj).1, (hb.cell (p := ⟨g, _, none⟩) h3).trans (h4 j hj).2.1, (hb.cell (p := ⟨g, _, none⟩) h3).trans (h4 j hj).2.2⟩⟩

set_option maxRecDepth 100000 in
set_option maxHeartbeats 1000000 in
theorem implRuneWidth (r : Int) (w : World) (hT : WTab w) :
    Calls Tryz.prog 77 #[.int .i64 r] w fun e w' => e = .returned (.int .i64 (rw1 r : Int)) ∧ Below w.heap.size w w' := by
  rw [← rowW_eq r]
  obtain ⟨g, o, c, hg, hgl, hbl, hrows⟩ := hT
  have hlen : wrows.length = 17 := rfl
  have hro := hrows
  have HRO := Lib.hid hro
  have HL := Lib.hid hlen
  obtain ⟨X, hX⟩ : ∃ X, X = wrows := ⟨_, rfl⟩
  rw [← hX] at HRO HL ⊢
  clear hrows hro hlen hX
  go_enter Tryz.func77, Tryz.ntmps77
  go_wp2
  go_loopw [11] (fun k wr => ∃ q : Nat, q ≤ 17 ∧ k = .int .i64 (q : Int) ∧ Below (w.heap.size + 1) (w.alloc (.cells #[.int .i64 r, .int .i64 r] 170)) wr ∧ Hid (rowW r (X.drop q) = rowW r X)) (fun k _ => 17 - (intOf k).toNat)
  case atStart => exact ⟨0, Nat.zero_le _, rfl, Below.refl _ _, Lib.hid rfl⟩
  case round =>
    obtain ⟨q, hq, rfl, hbel, HD⟩ := hrel
    by_cases hlt : q < 17
    · have hqX : q < X.length := by rw [HL.out]; exact hlt
      obtain ⟨c1, c2, c3⟩ := HRO.out q hqX
      have hold : ∀ off, wr.cell? ⟨g, off, none⟩ = w.cell? ⟨g, off, none⟩ := fun off => (hbel.cell (p := ⟨g, off, none⟩) (by show g < _; omega)).trans (World.cell?_alloc_lt _ _ _ hbl)
      rw [← hold] at c1 c2 c3
      have a1 : wr.cell? ⟨w.heap.size, 0, none⟩ = some (.int .i64 r) := (hbel.cell (p := ⟨w.heap.size, 0, none⟩) (by show w.heap.size < _; omega)).trans (by go_simp)
      have a2 : wr.cell? ⟨w.heap.size, 1, none⟩ = some (.int .i64 r) := (hbel.cell (p := ⟨w.heap.size, 1, none⟩) (by show w.heap.size < _; omega)).trans (by go_simp)
      have hws : w.heap.size < wr.heap.size := by have := hbel.size; simp at this; omega
      have hgs : g < wr.heap.size := by omega
      obtain ⟨x, hx⟩ : ∃ x, x = X[q].1 := ⟨_, rfl⟩
      obtain ⟨y, hy⟩ : ∃ y, y = X[q].2.1 := ⟨_, rfl⟩
      obtain ⟨z, hz⟩ : ∃ z, z = X[q].2.2 := ⟨_, rfl⟩
      rw [← hx] at c1
      rw [← hy] at c2
      rw [← hz] at c3
      have HX := Lib.hid hx
      have HY := Lib.hid hy
      have HZ := Lib.hid hz
      have BE := Lib.hid hbel
      clear hold hx hy hz hbel
      cases hin : inB r x y with
      | true =>
        have hca := fun W => contains_any x y r W
        rw [hin] at hca
        have HCA := Lib.hid hca
        have HIN := Lib.hid hin
        clear hca hin
        go_wp2_with fail
        refine (HCA.out _).mono ?_
        rintro e w1 ⟨rfl, hb1⟩
        have hz1 : w1.cell? ⟨wr.heap.size, 2, none⟩ = some (.int .i64 z) := (hb1.cell (p := ⟨wr.heap.size, 2, none⟩) (by simp)).trans (by go_simp)
        have B1 := Lib.hid (BE.out.trans (((Below.refl _ _).alloc (Nat.le_refl _) _ |>.trans (hb1.mono (by simp))).mono (by show w.heap.size + 1 ≤ wr.heap.size; omega)))
        clear hb1
        go_wp2_with fail
        go_ret
        exact ⟨ret_int (by rw [← HD.out, rowW_yes r X q hqX (by rw [← HX.out, ← HY.out]; exact HIN.out), ← HZ.out]), ((Below.refl _ _).alloc (Nat.le_refl _) _).trans (B1.out.mono (Nat.le_succ _))⟩
      | false =>
        have hca := fun W => contains_any x y r W
        rw [hin] at hca
        have HCA := Lib.hid hca
        have HIN := Lib.hid hin
        clear hca hin
        go_wp2_with fail
        refine (HCA.out _).mono ?_
        rintro e w1 ⟨rfl, hb1⟩
        have hz1 : w1.cell? ⟨wr.heap.size, 2, none⟩ = some (.int .i64 z) := (hb1.cell (p := ⟨wr.heap.size, 2, none⟩) (by simp)).trans (by go_simp)
        have B1 := Lib.hid (BE.out.trans (((Below.refl _ _).alloc (Nat.le_refl _) _ |>.trans (hb1.mono (by simp))).mono (by show w.heap.size + 1 ≤ wr.heap.size; omega)))
        clear hb1
        go_wp2_with fail
        go_roundw
        case rel => exact ⟨q + 1, by omega, by go_num, B1.out, Lib.hid ((rowW_no r X q hqX (by rw [← HX.out, ← HY.out]; exact HIN.out)).symm.trans HD.out)⟩
        case measure => simp [intOf]; omega
    · have HE := Lib.hid (rowW_end r X q (by rw [HL.out]; exact hlt))
      have BE := Lib.hid hbel
      clear hbel
      go_wp2
      go_ret
      exact ⟨ret_int (by rw [← HD.out, HE.out]), ((Below.refl _ _).alloc (Nat.le_refl _) _).trans (BE.out.mono (Nat.le_succ _))⟩
end Go.Proofs.YtooanejiadbngaaGreatDoor

/- The program's TextWidth, FitWidth and paddings. -/
namespace Go.Proofs.YtooanejiadbngaaGreatDoor
open Go.RowKit
set_option linter.unusedVariables false

/-- The decoder's tables and the table of widths are as they are laid. -/
def WT (w : World) : Prop := Tabs w ∧ WTab w
theorem WT.below {w w' : World} (h : WT w) (hb : Below w.heap.size w w') : WT w' := ⟨h.1.below hb, h.2.below hb⟩

set_option maxRecDepth 100000 in
set_option maxHeartbeats 1000000 in
theorem implTextWidth (s : ByteArray) (w : World) (hs : s.size ≤ 100000000) (hT : WT w) :
    Calls Tryz.prog 64 #[.string s] w fun e w' => e = .returned (.int .i64 (textW s : Int)) ∧ Below w.heap.size w w' := by
  have HC := Lib.hid (implRunesOf s w hs hT.1)
  have hlen := runesB_length s
  have hRW := fun r W (h : WTab W) => implRuneWidth r W h
  have HRW := Lib.hid hRW
  have HT := Lib.hid hT.2
  clear hRW hT
  unfold textW
  obtain ⟨L, hL⟩ : ∃ L, L = runesB s := ⟨_, rfl⟩
  rw [← hL] at HC hlen ⊢
  obtain ⟨n, hn⟩ : ∃ n, n = L.length := ⟨_, rfl⟩
  have HN := Lib.hid hn
  rw [← hn] at HC hlen
  clear hL hn
  go_enter Tryz.func64, Tryz.ntmps64
  go_wp2_with fail
  refine HC.out.mono ?_
  rintro e w1 ⟨v, rfl, h1, h2⟩
  obtain ⟨A, c, hv, hcell⟩ := Rd.of_own h1
  rw [ints_length, ← HN.out] at hv
  rw [ints_length, ← HN.out] at hcell
  subst hv
  have HCE := Lib.hid hcell
  have H2 := Lib.hid h2
  have hw1 : w.heap.size ≤ w1.heap.size := h2.size
  clear h1 h2 hcell
  go_wp2_with fail
  go_loopw [3, 9] (fun a k wr => ∃ (q : Nat), q ≤ n ∧ k = .int .i64 (q : Int) ∧ a = .int .i64 (widthL (L.take q) : Int) ∧ Below w1.heap.size w1 wr) (fun _ k _ => n - (intOf k).toNat)
  case atStart => exact ⟨0, Nat.zero_le _, rfl, rfl, Below.refl _ _⟩
  case round =>
    obtain ⟨q, hq, rfl, rfl, hbel⟩ := hrel
    by_cases hlt : q < n
    · have hqL : q < L.length := by rw [← HN.out]; exact hlt
      obtain ⟨g, o, rfl, hgl, hcc⟩ := HCE.out (by omega)
      have hcw : wr.cell? ⟨g, o + q, none⟩ = some (.int .i64 L[q]) := (hbel.cell (p := ⟨g, o + q, none⟩) hgl).trans (hcc q _ (ints_get L q hqL))
      have hst := widthL_take L q hqL
      have hle := widthL_take_le L q
      have hle2 := rw1_le L[q]
      have hle3 : widthL (L.take q) ≤ 200000000 := by have := HN.out; omega
      obtain ⟨x, hx⟩ : ∃ x, x = L[q] := ⟨_, rfl⟩
      rw [← hx] at hcw hst hle2
      obtain ⟨z, hz⟩ : ∃ z, z = rw1 x := ⟨_, rfl⟩
      have hcall := fun W h => HRW.out x W h
      rw [← hz] at hst hle2 hcall
      obtain ⟨t, ht⟩ : ∃ t, t = widthL (L.take q) := ⟨_, rfl⟩
      rw [← ht] at hst hle hle3
      rw [← ht]
      have HST := Lib.hid hst
      have HCL := Lib.hid hcall
      have BE := Lib.hid hbel
      clear hst hcall hx hz ht hcc hbel
      go_wp2_with fail
      refine (HCL.out _ (HT.out.below (H2.out.trans (BE.out.mono hw1)))).mono ?_
      rintro e w2 ⟨rfl, hb2⟩
      have B2 := Lib.hid (BE.out.trans (hb2.mono BE.out.size))
      clear hb2
      go_wp2_with fail
      go_roundw
      case rel => exact ⟨q + 1, by omega, by go_num, by rw [HST.out]; go_num, B2.out⟩
      case measure => simp [intOf]; omega
    · have hw := Lib.hid (widthL_whole L q (by rw [← HN.out]; exact hlt))
      have BE := Lib.hid hbel
      clear hbel
      go_wp2
      go_ret
      exact ⟨ret_int (by rw [hw.out]), H2.out.trans (BE.out.mono hw1)⟩

end Go.Proofs.YtooanejiadbngaaGreatDoor
