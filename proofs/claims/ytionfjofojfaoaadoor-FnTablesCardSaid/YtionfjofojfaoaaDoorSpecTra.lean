/- The model's TransposeRows, l10Column, ColumnOf. -/
import Derived.Test.YtionfjofojfaoaaDoorImplCol
import Derived.Test.YtionfjofojfaoaaDoorSpecTab
namespace Go.Proofs.YtionfjofojfaoaaDoor
open Go.RowKit
set_option linter.unusedVariables false

theorem strs_more (f : Nat → List ByteArray) (m k q : Nat) (h : q < m) (hk : k < (f q).length) : strs ((colT f m k).take (q + 1)) = strs ((colT f m k).take q) ++ [.string (f q)[k]] := by
  have hl : q < (colT f m k).length := by rw [colT_length]; exact h
  rw [List.take_succ_eq_append_getElem hl, colT_get f m k q h, getD_col _ _ hk, strs_snoc2]
theorem own_empty (W : World) (base : Nat) (e : TypeId) (hb : base ≤ W.heap.size) : (W.alloc (.cells #[] e)).ownsRow base e 1 (.slice (some ⟨W.heap.size, 0, none⟩) 0 0) 0 [] := by
  have h := World.ownsRow_lit (base := base) (e := e) (size := 1) W #[] 0 hb (by unfold maxLen; omega) rfl
  exact h
set_option maxRecDepth 100000 in
set_option maxHeartbeats 2000000 in
theorem specColumn (h : List ByteArray) (n : Nat) (f : Nat → List ByteArray) (hv rv : Value) (k : Nat) (w : World) (hh : Rd w hv (strs h)) (hr : RdT w rv n f) (hn : n ≤ 1048576) (hk : ∀ i, i < n → k < (f i).length) (hf : ∀ i, (f i).length ≤ 1048576) :
    Calls Tryd.prog 39 #[.agg #[hv, rv], .int .i64 (k : Int)] w fun e w' => ∃ v, e = .returned v ∧ w'.ownsRow w.heap.size 9 1 v n (strs (colT f n k)) ∧ Below w.heap.size w w' := by
  obtain ⟨i0, hi0, hz0, hz1, hz2⟩ := info_parts Tryd.infoStrCo
  obtain ⟨A, c, rfl, _⟩ := hh
  obtain ⟨B, d, rfl, hc⟩ := hr
  obtain ⟨hl, hhl⟩ : ∃ k, k = (strs h).length := ⟨_, rfl⟩
  rw [← hhl]
  have HC := Lib.hid hc
  have HKL := Lib.hid hk
  have HFL := Lib.hid hf
  have hO := own_empty (w.alloc (.cells #[.slice A hl c, .slice B n d] 26)) w.heap.size 9 (by simp)
  rw [show (w.alloc (.cells #[.slice A hl c, .slice B n d] 26)).heap.size = w.heap.size + 1 by simp] at hO
  have HO := Lib.hid hO
  have B0 := Lib.hid (by go_grown : Below w.heap.size w ((w.alloc (.cells #[.slice A hl c, .slice B n d] 26)).alloc (.cells #[] 9)))
  have HK := Lib.hid ((Blk.new w 26 #[.slice A hl c, .slice B n d]).after ((Below.refl _ _).alloc (Nat.le_refl _) (.cells #[] 9)))
  clear hhl hc hk hf hO
  obtain ⟨k0, k1⟩ := HK.out.two
  go_enter Tryd.func39, Tryd.ntmps39
  go_wp2_with fail
  go_loopw [5, 12] (fun v i wr => ∃ q : Nat, q ≤ n ∧ i = .int .i64 (q : Int) ∧ Hid (wr.ownsRow w.heap.size 9 1 v q (strs ((colT f n k).take q))) ∧ Hid (Below w.heap.size w wr)) (fun _ i _ => n - (intOf i).toNat)
  case atStart => exact ⟨0, Nat.zero_le _, rfl, HO, B0⟩
  case round =>
    obtain ⟨q, hq, rfl, HOW, HBE⟩ := hrel
    obtain ⟨Av, cv, rfl⟩ : ∃ A c, u5 = .slice A q c := by
      obtain ⟨A, c, h, _⟩ := Rd.of_own HOW.out
      exact ⟨A, c, by rw [h, own_len HOW.out]⟩
    by_cases hlt : q < n
    · obtain ⟨g, o, rfl, hg, hcell⟩ := HC.out (by omega)
      obtain ⟨u, hu, hru⟩ := hcell q hlt
      have hcu := (HBE.out.cell (p := ⟨g, o + q, none⟩) hg).trans hu
      have hru := hru.below HBE.out
      have hkl := HKL.out q hlt
      have hfl := HFL.out q
      obtain ⟨A', c', rfl, hA'⟩ := hru
      rw [strs_length] at hcu hA'
      obtain ⟨g', o', rfl, hg', hcell'⟩ := hA' (by omega)
      have hcx := hcell' k _ (strs_get _ k hkl)
      have HMO := Lib.hid (strs_more f n k q hlt hkl)
      obtain ⟨x, hxe⟩ : ∃ x, x = (f q)[k] := ⟨_, rfl⟩
      rw [← hxe] at hcx HMO
      obtain ⟨z, hz⟩ : ∃ z, z = (f q).length := ⟨_, rfl⟩
      rw [← hz] at hcu hkl hfl
      have hkl2 : (k : Int) < (z : Int) := by omega
      have hbs := HBE.out.size
      clear hxe hz hcell hcell' hA' hu
      go_wp2_with (at_builtin; refine append_one rfl _ _ 23 rfl w.heap.size 9 i0 _ 16 Tryd.underlying23 hi0 hz0 hz1 hz2 rfl (.slice Av q cv) _ _ rfl wr (.string x) rfl rfl HOW.out (by omega) (by omega) hbs ?_; intro v3 w3 hown3 hbel3; have HO3 := Lib.hid hown3; have HB3 := Lib.hid (HBE.out.trans hbel3); clear hown3 hbel3)
      go_roundw
      case rel => exact ⟨q + 1, by omega, by go_num, Lib.hid (by rw [HMO.out]; exact HO3.out), HB3⟩
      case measure => simp [intOf]; omega
    · obtain rfl : q = n := by omega
      have HFIN : Hid (strs ((colT f q k).take q) = strs (colT f q k)) := Lib.hid (by rw [List.take_of_length_le (by rw [colT_length]; exact Nat.le_refl _)])
      go_wp2_with fail
      go_ret
      exact ⟨_, rfl, by rw [← HFIN.out]; exact HOW.out, HBE.out⟩
end Go.Proofs.YtionfjofojfaoaaDoor
