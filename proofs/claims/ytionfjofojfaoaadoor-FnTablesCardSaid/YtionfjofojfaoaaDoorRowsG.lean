/- Tables that read alike: the laws' eqStringSS, eqTable; rows of which each is owned: markStringSS, heldStringSS, markTable, heldTable. -/
import Derived.Test.YtionfjofojfaoaaDoorWalksSameT
import Derived.Test.YtionfjofojfaoaaDoorMarkTab
import Derived.Test.YtionfjofojfaoaaDoorImplTra
namespace Go.Proofs.YtionfjofojfaoaaDoor
open Go.RowKit
set_option linter.unusedVariables false

set_option maxRecDepth 100000 in
set_option maxHeartbeats 1000000 in
theorem eqStringSS_rd (n : Nat) (f : Nat → List ByteArray) (va vb : Value) (w : World) (ha : RdT w va n f) (hb : RdT w vb n f) (hn : n ≤ 100000000) (hf : ∀ i, i < n → (f i).length ≤ 1000000000) :
    Calls Tryd.prog 44 #[va, vb] w fun e w' => e = .returned (.bool true) ∧ Below w.heap.size w w' := by
  obtain ⟨A, ca, rfl, hA⟩ := ha
  obtain ⟨B, cb, rfl, hB⟩ := hb
  have HA := Lib.hid hA
  have HB := Lib.hid hB
  have HQ := Lib.hid (fun i (hi : i < n) va vb W (ha : Rd W va (strs (f i))) (hb : Rd W vb (strs (f i))) => eqStringS_self (f i) va vb W ha hb (by have := hf i hi; omega))
  clear hA hB hf
  have hne : ((n : Int) != (n : Int)) = false := by simp
  go_enter Tryd.func44, Tryd.ntmps44
  go_wp2
  clear hne
  go_loopw [5] (fun i wr => ∃ k : Nat, k ≤ n ∧ i = .int .i64 (k : Int) ∧ Hid (Below w.heap.size w wr)) (fun i _ => n - (intOf i).toNat)
  case atStart => exact ⟨0, Nat.zero_le _, rfl, Lib.hid (Below.refl _ _)⟩
  case round =>
    obtain ⟨k, hk, rfl, HBE⟩ := hrel
    by_cases hlt : k < n
    · obtain ⟨ga, oa, rfl, hga, hca⟩ := HA.out (by omega)
      obtain ⟨gb, ob, rfl, hgb, hcb⟩ := HB.out (by omega)
      obtain ⟨u, hua, hrx⟩ := hca k hlt
      obtain ⟨v, hub, hry⟩ := hcb k hlt
      have a0 := (HBE.out.cell (p := ⟨ga, oa + k, none⟩) hga).trans hua
      have b0 := (HBE.out.cell (p := ⟨gb, ob + k, none⟩) hgb).trans hub
      have HE := Lib.hid (fun W (hW : Below w.heap.size w W) => HQ.out k hlt u v W (hrx.below hW) (hry.below hW))
      clear hca hcb hua hub hrx hry
      go_wp2_with fail
      go_region_held3 (fun W => W.cell? ⟨ga, oa + k, none⟩ = some u ∧ W.cell? ⟨gb, ob + k, none⟩ = some v ∧ Below w.heap.size w W)
        (first | exact ⟨a0, b0, HBE.out.drew⟩ | exact heldT_step hga hgb (by assumption) (by assumption))
        (first | (go_at_call 43; refine (HE.out _ (last3T (w := w) (by assumption))).mono ?_; rintro e w1 ⟨rfl, hb1⟩))
      all_goals
        have HB9 := Lib.hid (last3T (w := w) (W := w1) (by assumption))
        go_wp2
        go_roundw
        case rel => exact ⟨k + 1, by omega, by go_num, HB9⟩
        case measure => simp [intOf]; omega
    · go_wp2
      go_ret
      exact ⟨rfl, HBE.out⟩
set_option maxRecDepth 100000 in
set_option maxHeartbeats 2000000 in
theorem eqTable_rd (n : Nat) (h : List ByteArray) (f : Nat → List ByteArray) (ha va hb vb : Value) (w : World) (oa : TRd w ha va h n f) (ob : TRd w hb vb h n f) (hm : h.length ≤ 1000000000) (hn : n ≤ 100000000) (hf : ∀ i, i < n → (f i).length ≤ 1000000000) :
    Calls Tryd.prog 19 #[.agg #[ha, va], .agg #[hb, vb]] w fun e w' => e = .returned (.bool true) ∧ Below w.heap.size w w' := by
  have HL := Lib.hid (fun W (h' : Below w.heap.size w W) => eqStringS_self h ha hb W (oa.1.below h') (ob.1.below h') (by omega))
  have HT := Lib.hid (fun W (h' : Below w.heap.size w W) => eqStringSS_rd n f va vb W (oa.2.below h') (ob.2.below h') hn hf)
  obtain ⟨A, c, rfl, _⟩ := oa.1
  obtain ⟨B, d, rfl, _⟩ := ob.1
  obtain ⟨A1, c1, rfl⟩ := oa.2.slc
  obtain ⟨B1, d1, rfl⟩ := ob.2.slc
  obtain ⟨hl, hhl⟩ : ∃ k, k = (strs h).length := ⟨_, rfl⟩
  rw [← hhl] at HL ⊢
  clear hhl hm hn hf oa ob
  have s1 : Below (w.alloc (.cells #[.slice A hl c, .slice A1 n c1] 26)).heap.size (w.alloc (.cells #[.slice A hl c, .slice A1 n c1] 26)) ((w.alloc (.cells #[.slice A hl c, .slice A1 n c1] 26)).alloc (.cells #[.slice B hl d, .slice B1 n d1] 26)) := (Below.refl _ _).alloc (Nat.le_refl _) _
  have hA := (Blk.new w 26 #[.slice A hl c, .slice A1 n c1]).after s1
  have hB := Blk.new (w.alloc (.cells #[.slice A hl c, .slice A1 n c1] 26)) 26 #[.slice B hl d, .slice B1 n d1]
  rw [show (w.alloc (.cells #[.slice A hl c, .slice A1 n c1] 26)).heap.size = w.heap.size + 1 by simp] at hB
  have HA := Lib.hid hA
  have HB := Lib.hid hB
  have B0 := Lib.hid (by go_grown : Below w.heap.size w ((w.alloc (.cells #[.slice A hl c, .slice A1 n c1] 26)).alloc (.cells #[.slice B hl d, .slice B1 n d1] 26)))
  obtain ⟨a0, a1⟩ := hA.two
  obtain ⟨b0, b1⟩ := hB.two
  clear hA hB s1
  go_enter Tryd.func19, Tryd.ntmps19
  go_wp2_with fail
  refine (HL.out _ B0.out).mono ?_
  rintro e w1 ⟨rfl, hb1⟩
  have B1 := Lib.hid (B0.out.trans (hb1.mono B0.out.size))
  have hA1 := HA.out.after hb1
  have hB1 := HB.out.after hb1
  clear a0 a1 b0 b1 hb1
  obtain ⟨a0, a1⟩ := hA1.two
  obtain ⟨b0, b1⟩ := hB1.two
  clear hA1 hB1
  go_wp2_with fail
  refine (HT.out _ B1.out).mono ?_
  rintro e w2 ⟨rfl, hb2⟩
  have B2 := Lib.hid (B1.out.trans (hb2.mono B1.out.size))
  clear hb2 a0 a1 b0 b1
  go_wp2_with fail
  go_ret
  exact ⟨rfl, B2.out⟩
/-- What is owned of texts and shares no block with these rows stands. -/
def ApartKept (vs : List Value) (w w' : World) : Prop := ∀ (b m : Nat) (z : Value) (xs : List Value), w.ownsRow b 9 1 z m xs → (∀ (i : Nat) (u : Value), vs[i]? = some u → z.ownBlock = none ∨ z.ownBlock ≠ u.ownBlock) → w'.ownsRow b 9 1 z m xs
set_option maxRecDepth 100000 in
set_option maxHeartbeats 1000000 in
theorem markRows_any (base n k : Nat) (f : Nat → List ByteArray) (v : Value) (vs : List Value) (w : World) (hvl : vs.length = n) (hslc : ∃ A c, v = .slice A n c) (hout : ∀ W, Keeps w W 23 → Rd W v vs) (hrows : ∀ (i : Nat) (u : Value), vs[i]? = some u → w.ownsRow base 9 1 u (f i).length (strs (f i))) (hdis : Distinct vs)
    (hn9 : n ≤ 9223372036854775807) (hbase : base ≤ w.heap.size) (h0 : 0 < k) (hk : k + sumG f n ≤ 900000000) :
    Calls Tryd.prog 46 #[v, .int .i64 (k : Int)] w fun e w' => e = .returned (.int .i64 ((k + sumG f n : Nat) : Int)) ∧ (∀ (i : Nat) (u : Value), vs[i]? = some u → w'.ownsRow base 9 1 u (markG k f i).length (strs (markG k f i))) ∧ Below base w w' ∧ (∀ e, 9 ≠ e → Keeps w w' e) ∧ ApartKept vs w w' := by
  have HSM := Lib.hid (fun i j (h : i ≤ j) => sumG_mono f i j h)
  have HVL := Lib.hid hvl
  have HD := Lib.hid hdis
  have HR0 := Lib.hid hrows
  have HOUT := Lib.hid hout
  obtain ⟨A, cap, rfl⟩ := hslc
  clear hrows hdis hvl hout
  go_enter Tryd.func46, Tryd.ntmps46
  go_wp2
  go_loopw [1, 5] (fun m i wr => ∃ j : Nat, j ≤ n ∧ i = .int .i64 (j : Int) ∧ m = .int .i64 ((k + sumG f j : Nat) : Int) ∧ Hid (∀ (i : Nat) (u : Value), vs[i]? = some u → wr.ownsRow base 9 1 u (mixG k f j i).length (strs (mixG k f j i))) ∧ Hid (Below base w wr) ∧ Hid (∀ e, 9 ≠ e → Keeps w wr e) ∧ Hid (ApartKept vs w wr)) (fun _ i _ => n - (intOf i).toNat)
  case atStart => exact ⟨0, Nat.zero_le _, rfl, rfl, HR0, Lib.hid (Below.refl _ _), Lib.hid (fun e _ g cs hg => hg), Lib.hid (fun _ _ _ _ h _ => h)⟩
  case round =>
    obtain ⟨j, hj, rfl, rfl, HI, HBE, HKP, HFK⟩ := hrel
    by_cases hlt : j < n
    · obtain ⟨u, hu⟩ : ∃ u, vs[j]? = some u := ⟨_, List.getElem?_eq_getElem (by rw [HVL.out]; exact hlt)⟩
      have hown := HI.out j u hu
      rw [mixG_here] at hown
      obtain ⟨A2, c2, he2, hc2⟩ := HOUT.out wr (HKP.out _ (by decide))
      simp at he2
      obtain ⟨rfl, -, rfl⟩ := he2
      obtain ⟨g, o, rfl, hgl, hc2⟩ := hc2 (by rw [HVL.out]; omega)
      have c0 : wr.cell? ⟨g, o + j, none⟩ = some u := hc2 j u hu
      have hq1 := HSM.out (j + 1) n hlt
      have HSS : Hid (sumG f (j + 1) = sumG f j + (f j).length) := Lib.hid rfl
      rw [HSS.out] at hq1
      have HMF : Hid (markG k f j = marks (k + sumG f j) (f j).length) := Lib.hid rfl
      obtain ⟨q, hq⟩ : ∃ q, q = k + sumG f j := ⟨_, rfl⟩
      obtain ⟨z, hz⟩ : ∃ z, z = (f j).length := ⟨_, rfl⟩
      have hq0 : 0 < q := by omega
      have hqz : q + z ≤ 900000000 := by omega
      have HMC := Lib.hid (fun (h : wr.ownsRow base 9 1 u z (strs (f j))) => markStringS_any base z q u (strs (f j)) wr h hq0 (by omega))
      rw [← hq, ← hz] at HMF
      rw [← hz] at hown
      rw [← hq]
      have HQ := Lib.hid hq
      have HZ := Lib.hid hz
      have HOWN := Lib.hid hown
      have HU := Lib.hid hu
      clear hq1 hq hz hu hown hc2
      go_wp2_with fail
      refine (HMC.out HOWN.out).mono ?_
      rintro e w1 ⟨rfl, ho1, hg1⟩
      have HB1 := Lib.hid (HBE.out.grown hg1 (Nat.le_trans hbase HBE.out.size) (fun k hk => (World.ownsRow.lt HOWN.out k hk).1))
      have HK1 := Lib.hid (fun e (h1 : 9 ≠ e) => (HKP.out e h1).trans (Keeps.grown HOWN.out h1 hg1))
      have HFK1 : Hid (ApartKept vs w w1) := Lib.hid (fun b m z xs ho hz => (HFK.out b m z xs ho hz).kept hg1 (hz j u HU.out))
      have HI1 : Hid (∀ (i : Nat) (x : Value), vs[i]? = some x → w1.ownsRow base 9 1 x (mixG k f (j + 1) i).length (strs (mixG k f (j + 1) i))) := Lib.hid (by
        intro i x hx
        by_cases hij : i = j
        · subst hij
          have hxu : u = x := by
            have := HU.out.symm.trans hx
            injection this
          subst hxu
          have e1 : mixG k f (i + 1) i = markG k f i := if_pos (Nat.lt_succ_self i)
          rw [e1, HMF.out, marks_length]
          exact ho1
        · have e1 : mixG k f (j + 1) i = mixG k f j i := by
            unfold mixG
            by_cases h : i < j
            · rw [if_pos h, if_pos (by omega)]
            · rw [if_neg h, if_neg (by omega)]
          rw [e1]
          exact (HI.out i x hx).kept hg1 (HD.out i j x u hij hx HU.out))
      clear ho1 hg1 c0
      go_wp2_with fail
      go_roundw
      case rel => exact ⟨j + 1, by omega, by go_num, by rw [HSS.out, ← HZ.out, ← Nat.add_assoc, ← HQ.out]; go_num, HI1, HB1, HK1, HFK1⟩
      case measure => simp [intOf]; omega
    · obtain rfl : j = n := by omega
      go_wp2_with fail
      go_ret
      refine ⟨rfl, fun i u hu => ?_, HBE.out, HKP.out, HFK.out⟩
      have hi : i < j := by rw [← HVL.out]; exact (List.getElem?_eq_some_iff.1 hu).1
      have h := HI.out i u hu
      have e1 : mixG k f j i = markG k f i := if_pos hi
      rw [e1] at h
      exact h
end Go.Proofs.YtionfjofojfaoaaDoor
