/- Rows of integers that a call puts together: the laws' eqIntSS, markIntSS, heldIntSS. A table of n rows is a function of the row's number. -/
import Derived.Test.YtdihoofhbkafoaaOwnF
import Derived.Test.YtdihoofhbkafoaaWidL
import Derived.Deep.RegionHeld3
namespace Go.Proofs.Ytdihoofhbkafoaa
open Go.RowKit
set_option linter.unusedVariables false

theorem last3 {w W : World} {p q : Prop} (h : p ∧ q ∧ Below w.heap.size w W) : Below w.heap.size w W := h.2.2
theorem heldF_step {w W w1 : World} {g j g' j' : Nat} {x y : Value} (hg : g < w.heap.size) (hg' : g' < w.heap.size) (hb : Below W.heap.size W w1) (hS : W.cell? ⟨g, j, none⟩ = some x ∧ W.cell? ⟨g', j', none⟩ = some y ∧ Below w.heap.size w W) :
    w1.cell? ⟨g, j, none⟩ = some x ∧ w1.cell? ⟨g', j', none⟩ = some y ∧ Below w.heap.size w w1 := by
  have hs := hS.2.2.size
  exact ⟨(hb.cell (p := ⟨g, j, none⟩) (by show g < _; omega)).trans hS.1, (hb.cell (p := ⟨g', j', none⟩) (by show g' < _; omega)).trans hS.2.1, hS.2.2.trans (hb.mono hs)⟩
theorem eqIntS_self (l : List Int) (va vb : Value) (w : World) (ha : Rd w va (ints l)) (hb : Rd w vb (ints l)) (hm : l.length ≤ 9223372036854775807) :
    Calls Try.prog 40 #[va, vb] w fun e w' => e = .returned (.bool true) ∧ Below w.heap.size w w' :=
  (eqIntS_any l l va vb w ha hb hm).mono fun _ _ ⟨h1, k, h2⟩ => ⟨by rw [h1, decide_eq_true rfl], by rw [h2]; exact below_drewN (Below.refl _ _) k⟩
set_option maxRecDepth 100000 in
set_option maxHeartbeats 1000000 in
theorem eqIntSS_same (n b1 b2 t1 t2 : Nat) (f : Nat → List Int) (va vb : Value) (w : World) (ha : OwnF w b1 t1 va n f) (hb : OwnF w b2 t2 vb n f) (hn : n ≤ 100000000) (hf : ∀ i, (f i).length ≤ 1000000000) :
    Calls Try.prog 20 #[va, vb] w fun e w' => e = .returned (.bool true) ∧ Below w.heap.size w w' := by
  obtain ⟨xs, ax, _, cx, _⟩ := ha
  obtain ⟨ys, ay, _, cy, _⟩ := hb
  have hxl : xs.length = n := own_len ax
  have hyl : ys.length = n := own_len ay
  obtain ⟨A, ca, rfl, hA⟩ := Rd.of_own ax
  obtain ⟨B, cb, rfl, hB⟩ := Rd.of_own ay
  rw [hxl] at hA ⊢
  rw [hyl] at hB ⊢
  have HA := Lib.hid hA
  have HB := Lib.hid hB
  have HX := Lib.hid cx
  have HY := Lib.hid cy
  have HXL := Lib.hid hxl
  have HYL := Lib.hid hyl
  have HQ := Lib.hid (fun i va vb W (ha : Rd W va (ints (f i))) (hb : Rd W vb (ints (f i))) => eqIntS_self (f i) va vb W ha hb (by have := hf i; omega))
  clear hA hB ax ay cx cy hxl hyl hf
  have hne : ((n : Int) != (n : Int)) = false := by simp
  go_enter Try.func20, Try.ntmps20
  go_wp2
  clear hne
  go_loopw [5] (fun i wr => ∃ k : Nat, k ≤ n ∧ i = .int .i64 (k : Int) ∧ Hid (Below w.heap.size w wr)) (fun i _ => n - (intOf i).toNat)
  case atStart => exact ⟨0, Nat.zero_le _, rfl, Lib.hid (Below.refl _ _)⟩
  case round =>
    obtain ⟨k, hk, rfl, HBE⟩ := hrel
    by_cases hlt : k < n
    · obtain ⟨ga, oa, rfl, hga, hca⟩ := HA.out (by omega)
      obtain ⟨gb, ob, rfl, hgb, hcb⟩ := HB.out (by omega)
      have hx := List.getElem?_eq_getElem (l := xs) (i := k) (by rw [HXL.out]; exact hlt)
      have hy := List.getElem?_eq_getElem (l := ys) (i := k) (by rw [HYL.out]; exact hlt)
      have a0 := (HBE.out.cell (p := ⟨ga, oa + k, none⟩) hga).trans (hca k _ hx)
      have b0 := (HBE.out.cell (p := ⟨gb, ob + k, none⟩) hgb).trans (hcb k _ hy)
      have hrx := (HX.out k _ hx).1
      have hry := (HY.out k _ hy).1
      generalize xs[k]'(by rw [HXL.out]; exact hlt) = u at a0 hrx
      generalize ys[k]'(by rw [HYL.out]; exact hlt) = v at b0 hry
      have HE := Lib.hid (fun W (hW : Below w.heap.size w W) => HQ.out k u v W (Rd.of_own (own_below hrx hW)) (Rd.of_own (own_below hry hW)))
      clear hca hcb hx hy hrx hry
      go_wp2_with fail
      go_region_held3 (fun W => W.cell? ⟨ga, oa + k, none⟩ = some u ∧ W.cell? ⟨gb, ob + k, none⟩ = some v ∧ Below w.heap.size w W)
        (first | exact ⟨a0, b0, HBE.out.drew⟩ | exact heldF_step hga hgb (by assumption) (by assumption))
        (first | (go_at_call 40; refine (HE.out _ (last3 (w := w) (by assumption))).mono ?_; rintro e w1 ⟨rfl, hb1⟩))
      all_goals
        have HB9 := Lib.hid (last3 (w := w) (W := w1) (by assumption))
        go_wp2
        go_roundw
        case rel => exact ⟨k + 1, by omega, by go_num, HB9⟩
        case measure => simp [intOf]; omega
    · go_wp2
      go_ret
      exact ⟨rfl, HBE.out⟩
def markF (k : Nat) (f : Nat → List Int) (i : Nat) : List Int := imarks (k + sumF f i) (f i).length
def mixF (k : Nat) (f : Nat → List Int) (j i : Nat) : List Int := if i < j then markF k f i else f i
theorem mixF_here (k : Nat) (f : Nat → List Int) (j : Nat) : mixF k f j j = f j := if_neg (Nat.lt_irrefl j)
set_option maxRecDepth 100000 in
set_option maxHeartbeats 1000000 in
theorem markIntSS_any (base top n k : Nat) (f : Nat → List Int) (v : Value) (w : World) (hown : OwnF w base top v n f) (hbase : base ≤ w.heap.size) (h0 : 0 < k) (hk : k + sumF f n ≤ 900000000) :
    Calls Try.prog 21 #[v, .int .i64 (k : Int)] w fun e w' => e = .returned (.int .i64 ((k + sumF f n : Nat) : Int)) ∧ OwnF w' base top v n (markF k f) ∧ Below base w w' ∧ (∀ e, 3 ≠ e → Keeps w w' e) := by
  have HSM := Lib.hid (fun i j (h : i ≤ j) => sumF_mono f i j h)
  obtain ⟨vs, how, htop, hrows, hdis⟩ := hown
  have hvl : vs.length = n := own_len how
  have HVL := Lib.hid hvl
  have HD := Lib.hid hdis
  have HR0 := Lib.hid hrows
  have HTP := Lib.hid htop
  rcases how.2 with ⟨rfl, rfl⟩ | ⟨g, cap, cur, rfl, hb, hh, hn, hc, hs, ht⟩
  · have HO := Lib.hid how
    clear how hrows hdis hvl htop
    go_enter Try.func21, Try.ntmps21
    go_wp2
    refine wp_loop_rounds 1 ?_
    rw [rounds_succ]
    go_wp2
    go_ret
    refine ⟨rfl, ⟨vs, HO.out, HTP.out, fun i u hu => ?_, HD.out⟩, Below.refl _ _, fun e _ g cs hg => hg⟩
    have : vs = [] := List.length_eq_zero_iff.1 HVL.out
    subst this
    simp at hu
  · have HOW := Lib.hid how
    have hmx : cap ≤ 9223372036854775807 := hc
    have hn9 : n ≤ 9223372036854775807 := by omega
    clear hh hs ht how hrows hdis hvl hc htop
    go_enter Try.func21, Try.ntmps21
    go_wp2
    go_loopw [1, 5] (fun m i wr => ∃ j : Nat, j ≤ n ∧ i = .int .i64 (j : Int) ∧ m = .int .i64 ((k + sumF f j : Nat) : Int) ∧ Hid (wr.ownsRow base 69 1 (.slice (some ⟨g, 0, none⟩) n cap) n vs) ∧ Hid (∀ (i : Nat) (u : Value), vs[i]? = some u → wr.ownsRow base 3 1 u (mixF k f j i).length (ints (mixF k f j i))) ∧ Hid (Below base w wr) ∧ Hid (∀ e, 3 ≠ e → Keeps w wr e)) (fun _ i _ => n - (intOf i).toNat)
    case atStart => exact ⟨0, Nat.zero_le _, rfl, rfl, HOW, Lib.hid (fun i u hu => (HR0.out i u hu).1), Lib.hid (Below.refl _ _), Lib.hid (fun e _ g cs hg => hg)⟩
    case round =>
      obtain ⟨j, hj, rfl, rfl, HO, HI, HBE, HKP⟩ := hrel
      by_cases hlt : j < n
      · obtain ⟨u, hu⟩ : ∃ u, vs[j]? = some u := ⟨_, List.getElem?_eq_getElem (by rw [HVL.out]; exact hlt)⟩
        have hown := HI.out j u hu
        rw [mixF_here] at hown
        have c0 : wr.cell? ⟨g, j, none⟩ = some u := (HO.out.cellAt j (by omega)).trans hu
        have hq1 := HSM.out (j + 1) n hlt
        have HSS : Hid (sumF f (j + 1) = sumF f j + (f j).length) := Lib.hid rfl
        rw [HSS.out] at hq1
        have HMF : Hid (markF k f j = imarks (k + sumF f j) (f j).length) := Lib.hid rfl
        obtain ⟨q, hq⟩ : ∃ q, q = k + sumF f j := ⟨_, rfl⟩
        obtain ⟨z, hz⟩ : ∃ z, z = (f j).length := ⟨_, rfl⟩
        have hq0 : 0 < q := by omega
        have hqz : q + z ≤ 900000000 := by omega
        have HMC := Lib.hid (fun (h : wr.ownsRow base 3 1 u z (ints (f j))) => markIntS_any base z q u (ints (f j)) wr h hq0 (by omega))
        rw [← hq, ← hz] at HMF
        rw [← hz] at hown
        rw [← hq]
        have HQ := Lib.hid hq
        have HZ := Lib.hid hz
        have HOWN := Lib.hid hown
        have HU := Lib.hid hu
        clear hq1 hq hz hu hown
        go_wp2_with fail
        refine (HMC.out HOWN.out).mono ?_
        rintro e w1 ⟨rfl, ho1, hg1⟩
        have HO1 := Lib.hid (own_keeps HO.out (Keeps.grown HOWN.out (by decide) hg1))
        have HB1 := Lib.hid (HBE.out.grown hg1 (Nat.le_trans hbase HBE.out.size) (fun k hk => (World.ownsRow.lt HOWN.out k hk).1))
        have HK1 := Lib.hid (fun e (h1 : 3 ≠ e) => (HKP.out e h1).trans (Keeps.grown HOWN.out h1 hg1))
        have HI1 : Hid (∀ (i : Nat) (x : Value), vs[i]? = some x → w1.ownsRow base 3 1 x (mixF k f (j + 1) i).length (ints (mixF k f (j + 1) i))) := Lib.hid (by
          intro i x hx
          by_cases hij : i = j
          · subst hij
            have hxu : u = x := by
              have := HU.out.symm.trans hx
              injection this
            subst hxu
            have e1 : mixF k f (i + 1) i = markF k f i := if_pos (Nat.lt_succ_self i)
            rw [e1, HMF.out, imarks_length]
            exact ho1
          · have e1 : mixF k f (j + 1) i = mixF k f j i := by
              unfold mixF
              by_cases h : i < j
              · rw [if_pos h, if_pos (by omega)]
              · rw [if_neg h, if_neg (by omega)]
            rw [e1]
            exact (HI.out i x hx).kept hg1 (HD.out i j x u hij hx HU.out))
        clear ho1 hg1 c0
        go_wp2_with fail
        go_roundw
        case rel => exact ⟨j + 1, by omega, by go_num, by rw [HSS.out, ← HZ.out, ← Nat.add_assoc, ← HQ.out]; go_num, HO1, HI1, HB1, HK1⟩
        case measure => simp [intOf]; omega
      · obtain rfl : j = n := by omega
        go_wp2_with fail
        go_ret
        refine ⟨rfl, ⟨vs, HO.out, HTP.out, fun i u hu => ⟨?_, (HR0.out i u hu).2⟩, HD.out⟩, HBE.out, HKP.out⟩
        have hi : i < j := by rw [← HVL.out]; exact (List.getElem?_eq_some_iff.1 hu).1
        have h := HI.out i u hu
        have e1 : mixF k f j i = markF k f i := if_pos hi
        rw [e1] at h
        exact h
theorem own_n {w : World} {base : Nat} {e : TypeId} {size : Nat} {v : Value} {n : Nat} {xs : List Value} (h : w.ownsRow base e size v n xs) : n ≤ 9223372036854775807 := by
  rcases h.2 with ⟨_, rfl⟩ | ⟨g, cap, cur, _, _, _, hn, hc, _⟩
  · exact Nat.zero_le _
  · have : cap ≤ 9223372036854775807 := hc
    exact Nat.le_trans hn this
set_option maxRecDepth 100000 in
set_option maxHeartbeats 1000000 in
theorem heldIntSS_any (base top n k : Nat) (f : Nat → List Int) (v : Value) (w : World) (hown : OwnF w base top v n (markF k f)) (h0 : 0 < k) (hk : k + sumF f n ≤ 900000000) :
    Calls Try.prog 22 #[v, .int .i64 (k : Int)] w fun e w' => e = .returned (.int .i64 ((k + sumF f n : Nat) : Int)) ∧ Below w.heap.size w w' := by
  have HSM := Lib.hid (fun i j (h : i ≤ j) => sumF_mono f i j h)
  obtain ⟨vs, how, _, hrows, _⟩ := hown
  have hvl : vs.length = n := own_len how
  have hn9 := own_n how
  obtain ⟨A, c, rfl, hA⟩ := Rd.of_own how
  rw [hvl] at hA ⊢
  have HVL := Lib.hid hvl
  have HA := Lib.hid hA
  have HR := Lib.hid (fun i u hu => (hrows i u hu).1)
  clear hA hrows hvl how
  go_enter Try.func22, Try.ntmps22
  go_wp2
  go_loopw [1, 5] (fun m i wr => ∃ j : Nat, j ≤ n ∧ i = .int .i64 (j : Int) ∧ m = .int .i64 ((k + sumF f j : Nat) : Int) ∧ Hid (Below w.heap.size w wr)) (fun _ i _ => n - (intOf i).toNat)
  case atStart => exact ⟨0, Nat.zero_le _, rfl, rfl, Lib.hid (Below.refl _ _)⟩
  case round =>
    obtain ⟨j, hj, rfl, rfl, HBE⟩ := hrel
    by_cases hlt : j < n
    · obtain ⟨g, o, rfl, hg, hca⟩ := HA.out (by omega)
      obtain ⟨u, hu⟩ : ∃ u, vs[j]? = some u := ⟨_, List.getElem?_eq_getElem (by rw [HVL.out]; exact hlt)⟩
      have hown := own_below (HR.out j u hu) HBE.out
      have e1 : markF k f j = imarks (k + sumF f j) (f j).length := rfl
      rw [e1, imarks_length] at hown
      have c0 : wr.cell? ⟨g, o + j, none⟩ = some u := (HBE.out.cell (p := ⟨g, o + j, none⟩) hg).trans (hca j u hu)
      have hq1 := HSM.out (j + 1) n hlt
      have HSS : Hid (sumF f (j + 1) = sumF f j + (f j).length) := Lib.hid rfl
      rw [HSS.out] at hq1
      obtain ⟨q, hq⟩ : ∃ q, q = k + sumF f j := ⟨_, rfl⟩
      obtain ⟨z, hz⟩ : ∃ z, z = (f j).length := ⟨_, rfl⟩
      have hq0 : 0 < q := by omega
      have hqz : q + z ≤ 900000000 := by omega
      rw [← hq, ← hz] at hown
      rw [← hq]
      have HMC := Lib.hid (heldIntS_any base z q u wr hown hq0 (by omega))
      have HQ := Lib.hid hq
      have HZ := Lib.hid hz
      clear hq1 hq hz hu hown hca e1
      go_wp2_with fail
      refine (HMC.out).mono ?_
      rintro e w1 ⟨rfl, hb1⟩
      have HB1 := Lib.hid (HBE.out.trans (hb1.mono HBE.out.size))
      have hneg : (((q + z : Nat) : Int) < 0) = False := by simp; omega
      clear hb1 c0
      go_wp2_with fail
      go_roundw
      case rel => exact ⟨j + 1, by omega, by go_num, by rw [HSS.out, ← HZ.out, ← Nat.add_assoc, ← HQ.out]; go_num, HB1⟩
      case measure => simp [intOf]; omega
    · obtain rfl : j = n := by omega
      go_wp2_with fail
      go_ret
      exact ⟨rfl, HBE.out⟩
end Go.Proofs.Ytdihoofhbkafoaa
