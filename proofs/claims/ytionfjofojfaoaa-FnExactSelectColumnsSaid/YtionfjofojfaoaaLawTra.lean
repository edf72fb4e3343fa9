/- The exact law on TransposeRows. -/
import Derived.Test.YtionfjofojfaoaaSpecTra
import Derived.Test.YtionfjofojfaoaaTexts2
import Derived.Test.YtionfjofojfaoaaOpenTab
namespace Go.Proofs.Ytionfjofojfaoaa
open Go.RowKit
set_option linter.unusedVariables false

theorem OwnT.far {W W' : World} {base top b t : Nat} {v : Value} {n : Nat} {f : Nat → List ByteArray} (h : OwnT W b t v n f) (hf : FarKept base top W W') (hb : t ≤ base ∨ top ≤ b) : OwnT W' b t v n f := by
  obtain ⟨vs, a, l, c, d⟩ := h
  refine ⟨vs, hf _ _ _ _ _ _ a fun q hq => ?_, l, fun i u hu => ⟨hf _ _ _ _ _ _ (c i u hu).1 fun q hq => ?_, (c i u hu).2⟩, d⟩
  · have h1 := (World.ownsRow.lt a q hq).1
    have h2 := l q hq
    omega
  · have h1 := (World.ownsRow.lt (c i u hu).1 q hq).1
    have h2 := (c i u hu).2 q hq
    omega
theorem sumG_tot (f : Nat → List ByteArray) (n : Nat) : sumG f n ≤ totT f n := by
  induction n with
  | zero => exact Nat.le_refl _
  | succ n ih =>
    have e : totT f (n + 1) = totT f n + ((f n).length + tot (f n)) := rfl
    have e2 : sumG f (n + 1) = sumG f n + (f n).length := rfl
    omega
theorem sumG_col (f : Nat → List ByteArray) (m k : Nat) : sumG (colT f m) k = k * m := by
  induction k with
  | zero => simp [sumG]
  | succ k ih =>
    rw [sumG, ih, colT_length, Nat.succ_mul]
theorem least_sum (f : Nat → List ByteArray) (m : Nat) : leastT f m * m ≤ sumG f m := by
  have key : ∀ k, k ≤ m → leastT f m * k ≤ sumG f k := by
    intro k
    induction k with
    | zero => intro _; simp [sumG]
    | succ k ih =>
      intro hk
      have h1 := ih (by omega)
      have h2 := leastT_le f m k (by omega)
      rw [sumG, Nat.mul_succ]
      omega
  exact key m (Nat.le_refl _)
theorem rows_fit {n : Nat} {f : Nat → List ByteArray} (hz : 0 ≤ szT n f 1048576) (he : ∀ i, n ≤ i → f i = []) : n ≤ 1048576 ∧ (∀ i, (f i).length ≤ 1048576) ∧ (∀ i, ∀ x ∈ f i, x.size ≤ 1048576) ∧ sumG f n ≤ 1048576 := by
  have b := szT_le n f _ hz
  have s := sumG_tot f n
  refine ⟨by omega, fun i => ?_, fun i x hx => ?_, by omega⟩
  · rcases Nat.lt_or_ge i n with hi | hi
    · have c := totT_row f n i hi
      omega
    · rw [he i hi]; simp
  · rcases Nat.lt_or_ge i n with hi | hi
    · have c := totT_row f n i hi
      have := tot_mem (f i) x hx
      omega
    · rw [he i hi] at hx; cases hx
set_option maxRecDepth 100000 in
set_option maxHeartbeats 8000000 in
theorem law_FnExactTransposeRows (w : World) (A : Option Addr) (n d : Nat) (f : Nat → List ByteArray) (hr : RdT w (.slice A n d) n f) (hfit : RowsFit n f) :
    Calls Try.prog 7 #[.slice A n d] w fun e w' => e = .returned (.bool true) ∧ Below w.heap.size w w' := by
  have HSZ := Lib.hid (szStringSS_any n f 1048576 _ w hr (by omega) (by omega) hfit.1 (fun i _ => hfit.2.1 i))
  have HF := Lib.hid (fun (hz : 0 ≤ szT n f 1048576) => rows_fit hz hfit.2.2)
  have HRD := Lib.hid (fun W (hb : Below w.heap.size w W) => hr.below hb)
  obtain ⟨r, hre⟩ : ∃ r, r = szT n f 1048576 := ⟨_, rfl⟩
  rw [← hre] at HSZ HF
  clear hr hfit hre
  go_enter Try.func7, Try.ntmps7
  go_wp2_with fail
  refine HSZ.out.mono ?_
  rintro e w1 ⟨rfl, rfl⟩
  by_cases hneg : r < 0
  · go_wp2_with fail
    go_ret
    exact ⟨rfl, Below.refl _ _⟩
  · obtain ⟨hn, hf, _, hsum⟩ := HF.out (by omega)
    have hls := least_sum f n
    have hlt : leastT f n ≤ 1048576 := by
      rcases Nat.eq_zero_or_pos n with h0 | h0
      · subst h0; exact Nat.zero_le _
      · exact Nat.le_trans (leastT_le f n 0 h0) (hf 0)
    have hsc := sumG_col f n (leastT f n)
    have hnn : ∀ i, (colT f n i).length ≤ 1000000000 := fun i => by rw [colT_length]; omega
    have HTS := Lib.hid (fun W (hb : Below w.heap.size w W) => toStringSS_any n f _ W (HRD.out W hb) hn (fun i _ => hf i))
    have HSP := Lib.hid (fun v W (h : RdT W v n f) => specTranspose n f v W h (by omega) (fun i => by have := hf i; omega))
    have HIM := Lib.hid (fun v W (h : RdT W v n f) => implTranspose n f v W h (by omega) (fun i => by have := hf i; omega))
    have HEF := Lib.hid (fun b1 b2 t1 t2 va vb W (ha : OwnT W b1 t1 va n f) (hb : OwnT W b2 t2 vb n f) => eqStringSS_same n b1 b2 t1 t2 f va vb W ha hb (by omega) (fun i => by have := hf i; omega))
    have HEC := Lib.hid (fun b1 b2 t1 t2 va vb W (ha : OwnT W b1 t1 va (leastT f n) (colT f n)) (hb : OwnT W b2 t2 vb (leastT f n) (colT f n)) => eqStringSS_same (leastT f n) b1 b2 t1 t2 (colT f n) va vb W ha hb (by omega) hnn)
    have HMX := Lib.hid (fun b t v W (ho : OwnT W b t v n f) (hb : b ≤ W.heap.size) => markStringSS_any b t n 1 f v W ho hb (by omega) (by omega))
    have HMG := Lib.hid (fun b t v W (ho : OwnT W b t v (leastT f n) (colT f n)) (hb : b ≤ W.heap.size) => markStringSS_any b t (leastT f n) 1 (colT f n) v W ho hb (by omega) (by rw [hsc]; omega))
    have HHG := Lib.hid (fun b t v W (ho : OwnT W b t v (leastT f n) (markG 1 (colT f n))) => heldStringSS_any b t (leastT f n) 1 (colT f n) v W ho (by omega) (by rw [hsc]; omega))
    obtain ⟨sf, hsf⟩ : ∃ s, s = 1 + sumG f n := ⟨_, rfl⟩
    obtain ⟨sc, hsce⟩ : ∃ s, s = 1 + sumG (colT f n) (leastT f n) := ⟨_, rfl⟩
    obtain ⟨F1, hF1⟩ : ∃ F1, F1 = colT f n := ⟨_, rfl⟩
    obtain ⟨z, hz⟩ : ∃ z, z = leastT f n := ⟨_, rfl⟩
    rw [← hsf] at HMX
    rw [← hsce] at HMG HHG
    rw [← hF1, ← hz] at HSP HIM HEC HMG HHG
    have hsf0 : ¬ ((sf : Nat) : Int) < 0 := by omega
    have hsc0 : ¬ ((sc : Nat) : Int) < 0 := by omega
    clear hn hf hsum hls hlt hsc hnn hsf hsce hF1 hz HF HSZ
    go_wp2_with fail
    refine (HTS.out _ (Below.refl _ _)).mono ?_
    rintro e w2 ⟨v2, rfl, ho2, hb2⟩
    have B2 := Lib.hid hb2
    have O2 := Lib.hid ho2
    obtain ⟨A2, c2, rfl⟩ := ho2.len
    have z2 := hb2.size
    clear ho2 hb2
    go_wp2_with fail
    refine (HSP.out _ _ O2.out.rd).mono ?_
    rintro e w3 ⟨v3, rfl, ho3, hb3⟩
    have B3 := Lib.hid (B2.out.trans (hb3.mono B2.out.size))
    have O3 := Lib.hid ho3
    obtain ⟨A3, c3, rfl⟩ := ho3.len
    have z3 := hb3.size
    clear ho3 hb3 O2
    go_wp2_with fail
    refine (HTS.out _ B3.out).mono ?_
    rintro e w4 ⟨v4, rfl, ho4, hb4⟩
    have B4 := Lib.hid (B3.out.trans (hb4.mono B3.out.size))
    have O34 := Lib.hid (O3.out.below hb4)
    have O44 := Lib.hid ho4
    obtain ⟨A4, c4, rfl⟩ := ho4.len
    have z4 := hb4.size
    clear ho4 hb4 O3
    go_wp2_with fail
    refine (HIM.out _ _ O44.out.rd).mono ?_
    rintro e w5 ⟨v5, rfl, ho5, hb5⟩
    have B5 := Lib.hid (B4.out.trans (hb5.mono B4.out.size))
    have O35 := Lib.hid (O34.out.below (hb5.mono z4))
    have O45 := Lib.hid (O44.out.below hb5)
    have O55 := Lib.hid ho5
    obtain ⟨A5, c5, rfl⟩ := ho5.len
    have z5 := hb5.size
    clear ho5 hb5 O34 O44
    go_wp2_with fail
    refine (HEC.out _ _ _ _ _ _ _ O55.out O35.out).mono ?_
    rintro e w6 ⟨rfl, hb6⟩
    have B6 := Lib.hid (B5.out.trans (hb6.mono B5.out.size))
    have O36 := Lib.hid (O35.out.below (hb6.mono (by omega)))
    have O46 := Lib.hid (O45.out.below (hb6.mono z5))
    have O56 := Lib.hid (O55.out.below hb6)
    have z6 := hb6.size
    clear hb6 O35 O45 O55
    go_wp2_with fail
    refine (HTS.out _ B6.out).mono ?_
    rintro e w7 ⟨v7, rfl, ho7, hb7⟩
    have B7 := Lib.hid (B6.out.trans (hb7.mono B6.out.size))
    have O37 := Lib.hid (O36.out.below (hb7.mono (by omega)))
    have O47 := Lib.hid (O46.out.below (hb7.mono (by omega)))
    have O57 := Lib.hid (O56.out.below (hb7.mono z6))
    have O77 := Lib.hid ho7
    obtain ⟨A7, c7, rfl⟩ := ho7.len
    have z7 := hb7.size
    clear ho7 hb7 O36 O46 O56
    go_wp2_with fail
    refine (HEF.out _ _ _ _ _ _ _ O47.out O77.out).mono ?_
    rintro e w8 ⟨rfl, hb8⟩
    have B8 := Lib.hid (B7.out.trans (hb8.mono B7.out.size))
    have O38 := Lib.hid (O37.out.below (hb8.mono (by omega)))
    have O48 := Lib.hid (O47.out.below (hb8.mono (by omega)))
    have O58 := Lib.hid (O57.out.below (hb8.mono (by omega)))
    have z8 := hb8.size
    clear hb8 O37 O47 O57 O77
    go_wp2_with fail
    refine (HMX.out _ _ _ _ O48.out (by omega)).mono ?_
    rintro e w9 ⟨rfl, _, hb9, _, hf9⟩
    have B9 := Lib.hid (B8.out.trans (hb9.mono (by omega)))
    have O39 := Lib.hid (O38.out.far hf9 (.inl (Nat.le_refl _)))
    have O59 := Lib.hid (O58.out.far hf9 (.inr (Nat.le_refl _)))
    have z9 := hb9.size
    clear hb9 hf9 O38 O48 O58
    go_wp2_with fail
    refine (HEC.out _ _ _ _ _ _ _ O59.out O39.out).mono ?_
    rintro e w10 ⟨rfl, hb10⟩
    have B10 := Lib.hid (B9.out.trans (hb10.mono B9.out.size))
    have O310 := Lib.hid (O39.out.below (hb10.mono (by omega)))
    have O510 := Lib.hid (O59.out.below (hb10.mono (by omega)))
    have z10 := hb10.size
    clear hb10 O39 O59
    go_wp2_with fail
    refine (HMG.out _ _ _ _ O510.out (by omega)).mono ?_
    rintro e w11 ⟨rfl, ho11, hb11, _, hf11⟩
    have B11 := Lib.hid (B10.out.trans (hb11.mono (by omega)))
    have O311 := Lib.hid (O310.out.far hf11 (.inl (by omega)))
    have O511 := Lib.hid ho11
    have z11 := hb11.size
    clear hb11 hf11 ho11 O310 O510
    go_wp2_with fail
    refine (HHG.out _ _ _ _ O511.out).mono ?_
    rintro e w12 ⟨rfl, hb12⟩
    have B12 := Lib.hid (B11.out.trans (hb12.mono B11.out.size))
    have O312 := Lib.hid (O311.out.below (hb12.mono (by omega)))
    have O512 := Lib.hid (O511.out.below (hb12.mono (by omega)))
    have z12 := hb12.size
    clear hb12 O311 O511
    go_wp2_with fail
    refine (HTS.out _ B12.out).mono ?_
    rintro e w13 ⟨v13, rfl, ho13, hb13⟩
    have B13 := Lib.hid (B12.out.trans (hb13.mono B12.out.size))
    have O313 := Lib.hid (O312.out.below (hb13.mono (by omega)))
    have O513 := Lib.hid (O512.out.below (hb13.mono (by omega)))
    have O1313 := Lib.hid ho13
    obtain ⟨A13, c13, rfl⟩ := ho13.len
    have z13 := hb13.size
    clear ho13 hb13 O312 O512
    go_wp2_with fail
    refine (HIM.out _ _ O1313.out.rd).mono ?_
    rintro e w14 ⟨v14, rfl, ho14, hb14⟩
    have B14 := Lib.hid (B13.out.trans (hb14.mono B13.out.size))
    have O314 := Lib.hid (O313.out.below (hb14.mono (by omega)))
    have O514 := Lib.hid (O513.out.below (hb14.mono (by omega)))
    have O1414 := Lib.hid ho14
    obtain ⟨A14, c14, rfl⟩ := ho14.len
    have z14 := hb14.size
    clear ho14 hb14 O313 O513 O1313
    go_wp2_with fail
    refine (HEC.out _ _ _ _ _ _ _ O1414.out O314.out).mono ?_
    rintro e w15 ⟨rfl, hb15⟩
    have B15 := Lib.hid (B14.out.trans (hb15.mono B14.out.size))
    have O515 := Lib.hid (O514.out.below (hb15.mono (by omega)))
    have z15 := hb15.size
    clear hb15 O314 O514 O1414
    go_wp2_with fail
    refine (HHG.out _ _ _ _ O515.out).mono ?_
    rintro e w16 ⟨rfl, hb16⟩
    have B16 := Lib.hid (B15.out.trans (hb16.mono B15.out.size))
    clear hb16 O515
    go_wp2_with fail
    go_ret
    exact ⟨rfl, B16.out⟩
end Go.Proofs.Ytionfjofojfaoaa
