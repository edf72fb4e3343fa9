/- The program's reading loop: RunesOf, CutRunes, IsText. -/
import Derived.Test.YtionfjofojfaoaaDoorImplChars
import Derived.Maps.AppendAt
namespace Go.Proofs.YtionfjofojfaoaaDoor
open Go.RowKit
set_option linter.unusedVariables false

theorem Tryd.infoInt : (Tryd.prog.info? 3).map (fun i => (i.zero, i.size, i.bytes)) = some (some (.int .i64 0), 1, 8) := by kernel_rfl
theorem Tryd.infoStr2 : (Tryd.prog.info? 9).map (fun i => (i.zero, i.size, i.bytes)) = some (some (.string ByteArray.empty), 1, 16) := by kernel_rfl

/-- Two slices of the call's own lie in different blocks. -/
def Apart (a b : Value) : Prop := a.ownBlock = none ∨ a.ownBlock ≠ b.ownBlock
theorem Apart.symm {a b : Value} (h : Apart a b) : Apart b a := by
  unfold Apart at *
  cases hb : b.ownBlock with
  | none => exact .inl rfl
  | some k =>
    refine .inr ?_
    rcases h with h | h
    · rw [h]; simp
    · intro e; exact h (by rw [hb]; exact e.symm)
theorem Apart.new {W : World} {base : Nat} {e : TypeId} {v v' u : Value} {n : Nat} {ys : List Value} (h : Apart v u) (hu : W.ownsRow base e 1 u n ys) (hat : v'.ownBlock = v.ownBlock ∨ v'.ownBlock = some (W.heap.size + 1)) : Apart v' u := by
  unfold Apart at *
  rcases hat with hat | hat
  · rw [hat]; exact h
  · refine .inr fun e => ?_
    rw [hat] at e
    have := (hu.lt _ e.symm).2
    omega
theorem apart_nil (u : Value) : Apart (.slice none 0 0) u := .inl rfl

/-- 'out = append(out, u)', u of one cell, out the call's own; where the result lies. -/
theorem append_one_at {P : Program} {ops : Array Oper} {rest : List Oper} {o : Oper} {a : Act} {Q : Exit → Act → World → Prop} (hgd : o.guard = none) (s x : Operand) (t : TypeId)
    (ho : o.op = .call { callee := .builtin .append, args := #[s, x], argTypes := #[t, t] })
    (base : Nat) (e : TypeId) (i : TypeInfo) (z : Value) (bytes : Nat) (ht : P.underlying t = some (.slice e)) (hi : P.info? e = some i) (hz : i.zero = some z)
    (hsize : i.size = 1) (hby : i.bytes = bytes) (hzs : z.cells.size = 1) (v : Value) (n : Nat) (xs : List Value) (hs : a.eval s = v) (W : World) (u : Value)
    (hx : a.eval x = .slice (some ⟨W.heap.size, 0, none⟩) 1 1) (h1 : u.oneCell' = true) (hown : W.ownsRow base e 1 v n xs) (hbytes : (n + 1) * bytes ≤ 140737488355328) (hn : n + 1 ≤ 9223372036854775807) (hbase : base ≤ W.heap.size)
    (h : ∀ v' w', w'.ownsRow base e 1 v' (n + 1) (xs ++ [u]) → Below base W w' → W.grownBy w' v.ownBlock → (v'.ownBlock = v.ownBlock ∨ v'.ownBlock = some (W.heap.size + 1)) → wpList P ops Q rest (a.put o.dst v') w') : wpList P ops Q (o :: rest) a (W.alloc (.cells #[u] e)) := by
  refine wpList_append_own_at _ hgd s x t ho base e i z 1 bytes ht hi hz hsize hby hzs (by decide) v n xs hs (hown.alloc _) ⟨W.heap.size, 0, none⟩ 1 1 [u] hx rfl ?_ ?_ (by unfold maxLen; omega) hbytes (by simp; omega) ?_
  · intro j y hj
    match j, hj with
    | 0, hj => simp at hj; subst hj; simp [Addr.add]
  · intro y hy
    simp at hy
    subst hy
    exact h1
  · intro v' w' hown' hg _ hat
    have hg2 : W.grownBy w' v.ownBlock := ionly_trans (World.grownBy_alloc W _ _) hg
    refine h v' w' hown' ?_ hg2 (by simpa using hat)
    exact below_of_grown hown hg2 hbase

set_option maxRecDepth 100000 in
set_option maxHeartbeats 1000000 in
theorem readChars (s : ByteArray) (w : World) (hs : s.size ≤ 100000000) (hT : Tabs w) :
    Calls Tryd.prog 53 #[.func (.func 54) #[.string s] #[]] w fun e w' => ∃ v1 v2, e = .returned (.tuple #[v1, v2]) ∧
      w'.ownsRow w.heap.size 3 1 v1 (runesB s).length (ints (runesB s)) ∧ w'.ownsRow w.heap.size 3 1 v2 (endsB s).length (ints (endsB s)) ∧ Apart v1 v2 ∧ Below w.heap.size w w' := by
  obtain ⟨i0, hi0, hz0, hz1, hz2⟩ := info_parts Tryd.infoInt
  have HT := Lib.hid hT
  clear hT
  go_enter Tryd.func53, Tryd.ntmps53
  go_wp2
  go_loopw [4, 5, 6] (fun c e a wr => ∃ (i : Nat) (oc oe : List Int) (vc ve : Value), i ≤ s.size ∧ a = .int .i64 (i : Int) ∧ vc = c ∧ ve = e ∧ wr.ownsRow w.heap.size 3 1 vc oc.length (ints oc) ∧ wr.ownsRow w.heap.size 3 1 ve oe.length (ints oe) ∧ Apart vc ve ∧ Below w.heap.size w wr ∧ Hid (oc ++ runesFrom s i = runesB s) ∧ Hid (oe ++ endsFrom s i = endsB s)) (fun _ _ a _ => s.size - (intOf a).toNat)
  case atStart => exact ⟨0, [], [], _, _, Nat.zero_le _, rfl, rfl, rfl, World.ownsRow_nil _ _ _ _, World.ownsRow_nil _ _ _ _, .inl rfl, Below.refl _ _, Lib.hid rfl, Lib.hid rfl⟩
  case round =>
    obtain ⟨i, oc, oe, vc, ve, hi, rfl, rfl, rfl, hoc, hoe, hap, hbel, HC, HE⟩ := hrel
    have l1 : oc.length ≤ s.size := by have := out_length HC.out; have := runesB_length s; omega
    have l2 : oe.length ≤ s.size := by have := out_length HE.out; have := endsB_length s; have := runesB_length s; omega
    by_cases hlt : i < s.size
    · have hcl := ch_len s i hlt
      have hca := fun W (hw : Tabs W) => charAt_in s i W hlt (by omega) hw
      have hr := runes_step s i oc hlt HC.out
      have he := ends_step s i oe hlt HE.out
      obtain ⟨c, hc⟩ : ∃ c, c = (ch s i).1 := ⟨_, rfl⟩
      obtain ⟨m, hm⟩ : ∃ m, m = (ch s i).2 := ⟨_, rfl⟩
      rw [← hc, ← hm] at hca
      rw [← hc, ← hm] at hr
      rw [← hm] at hcl he
      have HR := Lib.hid hr
      have HE2 := Lib.hid he
      have HCA := Lib.hid hca
      have hm0 : ((m : Int) == 0) = false := by simp; omega
      have OC := Lib.hid hoc
      have OE := Lib.hid hoe
      have AP := Lib.hid hap
      have BE := Lib.hid hbel
      clear hr he hca hc hm hoc hoe hap hbel
      go_wp2_with fail
      refine (HCA.out _ (HT.out.below BE.out)).mono ?_
      rintro e w1 ⟨rfl, hb1⟩
      have OC1 := own_below OC.out hb1
      have OE1 := Lib.hid (own_below OE.out hb1)
      have B1 := Lib.hid (BE.out.trans (hb1.mono BE.out.size))
      have hbase : w.heap.size ≤ w1.heap.size := B1.out.size
      clear hb1
      go_wp2_with (first
        | (at_builtin; refine append_one_at rfl _ _ 28 rfl w.heap.size 3 i0 _ 8 Tryd.underlying28 hi0 hz0 hz1 hz2 rfl vc _ _ rfl w1 (.int .i64 c) rfl rfl OC1 (by omega) (by omega) hbase ?_; intro v1 w2 hown2 hbel2 hg2 hat2; have AP2 := Lib.hid (AP.out.new OE1.out hat2); have OE2 := Lib.hid (OE1.out.kept hg2 AP.out.symm); have OC2 := Lib.hid hown2; have B2 := Lib.hid (B1.out.trans hbel2); have hbase2 : w.heap.size ≤ w2.heap.size := B2.out.size; clear hown2 hbel2 hg2 hat2 OC1)
        | (at_builtin; refine append_one_at rfl _ _ 28 rfl w.heap.size 3 i0 _ 8 Tryd.underlying28 hi0 hz0 hz1 hz2 rfl ve _ _ rfl w2 (.int .i64 ((i : Int) + (m : Int))) rfl rfl OE2.out (by omega) (by omega) hbase2 ?_; intro v2 w3 hown3 hbel3 hg3 hat3; have HAT3 := Lib.hid hat3; have HG3 := Lib.hid hg3; have HO3 := Lib.hid hown3; have HB3 := Lib.hid hbel3; clear hat3 hown3 hbel3 hg3))
      have AP3 := Lib.hid (AP2.out.symm.new OC2.out HAT3.out)
      have OC3 := Lib.hid (OC2.out.kept HG3.out AP2.out)
      have OE3 := HO3
      have B3 := Lib.hid (B2.out.trans HB3.out)
      go_roundw
      case rel => exact ⟨i + m, oc ++ [c], oe ++ [((i + m : Nat) : Int)], v1, v2, by omega, by go_num, rfl, rfl, by rw [ints_snoc, List.length_append]; exact OC3.out, by rw [ints_snoc, List.length_append]; exact OE3.out, AP3.out.symm, B3.out, HR, HE2⟩
      case measure => simp [intOf]; omega
    · have hout := Lib.hid (fun W => charAt_out s (i : Int) W (.inr (by omega)))
      have HR := Lib.hid (runes_done s i oc hlt HC.out)
      have HEE := Lib.hid (ends_done s i oe hlt HE.out)
      have OC := Lib.hid hoc
      have OE := Lib.hid hoe
      have AP := Lib.hid hap
      have BE := Lib.hid hbel
      clear hoc hoe hap hbel
      go_wp2_with fail
      refine (hout.out _).mono ?_
      rintro e w1 ⟨rfl, rfl⟩
      go_wp2_with fail
      go_ret2
      have a := HR.out
      have b := HEE.out
      subst a
      subst b
      exact ⟨_, _, rfl, OC.out, OE.out, AP.out, BE.out⟩

theorem implRunesOf (s : ByteArray) (w : World) (hs : s.size ≤ 100000000) (hT : Tabs w) :
    Calls Tryd.prog 33 #[.string s] w fun e w' => ∃ v, e = .returned v ∧ w'.ownsRow w.heap.size 3 1 v (runesB s).length (ints (runesB s)) ∧ Below w.heap.size w w' := by
  have hmf : ∀ (fn : Fn) (first cap : Array Value) (w : World), (Instr.makeFunc fn first cap).run Tryd.prog w = .ok (.func fn first cap) w := fun _ _ _ _ => rfl
  have HC := Lib.hid (readChars s w hs hT)
  clear hT
  go_enter Tryd.func33, Tryd.ntmps33
  go_wp2_with fail
  refine HC.out.mono ?_
  rintro e w1 ⟨v1, v2, rfl, h1, h2, h3, h4⟩
  have H1 := Lib.hid h1
  have H4 := Lib.hid h4
  clear h1 h2 h3 h4
  go_wp2_with fail
  go_ret
  exact ⟨_, rfl, H1.out, H4.out⟩

end Go.Proofs.YtionfjofojfaoaaDoor
