/- Rows of texts that a call puts together: the laws' eqStringSS, markStringSS, heldStringSS. A table of n rows is a function of the row's number. -/
import Derived.Test.YtionfjofojfaoaaDoorOwnT
import Derived.Test.YtionfjofojfaoaaDoorMark
import Derived.Deep.RegionHeld3
namespace Go.Proofs.YtionfjofojfaoaaDoor
open Go.RowKit
set_option linter.unusedVariables false

def sumG (f : Nat → List ByteArray) : Nat → Nat
  | 0 => 0
  | j + 1 => sumG f j + (f j).length
theorem sumG_mono (f : Nat → List ByteArray) (i j : Nat) (h : i ≤ j) : sumG f i ≤ sumG f j := by
  induction j with
  | zero => obtain rfl : i = 0 := by omega
            exact Nat.le_refl _
  | succ j ih =>
    rcases Nat.lt_or_ge i (j + 1) with h1 | h1
    · exact Nat.le_trans (ih (by omega)) (Nat.le_add_right _ _)
    · obtain rfl : i = j + 1 := by omega
      exact Nat.le_refl _
theorem last3T {w W : World} {p q : Prop} (h : p ∧ q ∧ Below w.heap.size w W) : Below w.heap.size w W := h.2.2
theorem heldT_step {w W w1 : World} {g j g' j' : Nat} {x y : Value} (hg : g < w.heap.size) (hg' : g' < w.heap.size) (hb : Below W.heap.size W w1) (hS : W.cell? ⟨g, j, none⟩ = some x ∧ W.cell? ⟨g', j', none⟩ = some y ∧ Below w.heap.size w W) :
    w1.cell? ⟨g, j, none⟩ = some x ∧ w1.cell? ⟨g', j', none⟩ = some y ∧ Below w.heap.size w w1 := by
  have hs := hS.2.2.size
  exact ⟨(hb.cell (p := ⟨g, j, none⟩) (by show g < _; omega)).trans hS.1, (hb.cell (p := ⟨g', j', none⟩) (by show g' < _; omega)).trans hS.2.1, hS.2.2.trans (hb.mono hs)⟩
theorem eqStringS_self (l : List ByteArray) (va vb : Value) (w : World) (ha : Rd w va (strs l)) (hb : Rd w vb (strs l)) (hm : l.length ≤ 9223372036854775807) :
    Calls Tryd.prog 43 #[va, vb] w fun e w' => e = .returned (.bool true) ∧ Below w.heap.size w w' :=
  (eqStringS_any l l va vb w ha hb hm).mono fun _ _ ⟨h1, k, h2⟩ => ⟨by rw [h1, decide_eq_true rfl], by rw [h2]; exact below_drewN (Below.refl _ _) k⟩
set_option maxRecDepth 100000 in
set_option maxHeartbeats 1000000 in
theorem eqStringSS_same (n b1 b2 t1 t2 : Nat) (f : Nat → List ByteArray) (va vb : Value) (w : World) (ha : OwnT w b1 t1 va n f) (hb : OwnT w b2 t2 vb n f) (hn : n ≤ 100000000) (hf : ∀ i, (f i).length ≤ 1000000000) :
    Calls Tryd.prog 44 #[va, vb] w fun e w' => e = .returned (.bool true) ∧ Below w.heap.size w w' := by
  obtain ⟨xs, ax, _, cx, _⟩ := ha
  obtain ⟨ys, ay, _, cy, _⟩ := hb
  have hxl : xs.length = n := own_len ax
  have hyl : ys.length = n := own_len ay
  obtain ⟨A, ca, rfl, hA⟩ := Rd.of_own ax
  obtain ⟨B, cb, rfl, hB⟩ := Rd.of_own ay
  rw [hxl] at hA ⊢
  rw [hyl] at hB ⊢
  have HA := Lib.hid hA
  have HB := Lib.hid hB
  have HX := Lib.hid cx
  have HY := Lib.hid cy
  have HXL := Lib.hid hxl
  have HYL := Lib.hid hyl
  have HQ := Lib.hid (fun i va vb W (ha : Rd W va (strs (f i))) (hb : Rd W vb (strs (f i))) => eqStringS_self (f i) va vb W ha hb (by have := hf i; omega))
  clear hA hB ax ay cx cy hxl hyl hf
  have hne : ((n : Int) != (n : Int)) = false := by simp
  go_enter Tryd.func44, Tryd.ntmps44
  go_wp2
  clear hne
  go_loopw [5] (fun i wr => ∃ k : Nat, k ≤ n ∧ i = .int .i64 (k : Int) ∧ Hid (Below w.heap.size w wr)) (fun i _ => n - (intOf i).toNat)
  case atStart => exact ⟨0, Nat.zero_le _, rfl, Lib.hid (Below.refl _ _)⟩
  case round =>
    obtain ⟨k, hk, rfl, HBE⟩ := hrel
    by_cases hlt : k < n
    · obtain ⟨ga, oa, rfl, hga, hca⟩ := HA.out (by omega)
      obtain ⟨gb, ob, rfl, hgb, hcb⟩ := HB.out (by omega)
      have hx := List.getElem?_eq_getElem (l := xs) (i := k) (by rw [HXL.out]; exact hlt)
      have hy := List.getElem?_eq_getElem (l := ys) (i := k) (by rw [HYL.out]; exact hlt)
      have a0 := (HBE.out.cell (p := ⟨ga, oa + k, none⟩) hga).trans (hca k _ hx)
      have b0 := (HBE.out.cell (p := ⟨gb, ob + k, none⟩) hgb).trans (hcb k _ hy)
      have hrx := (HX.out k _ hx).1
      have hry := (HY.out k _ hy).1
      generalize xs[k]'(by rw [HXL.out]; exact hlt) = u at a0 hrx
      generalize ys[k]'(by rw [HYL.out]; exact hlt) = v at b0 hry
      have HE := Lib.hid (fun W (hW : Below w.heap.size w W) => HQ.out k u v W (Rd.of_own (own_below hrx hW)) (Rd.of_own (own_below hry hW)))
      clear hca hcb hx hy hrx hry
      go_wp2_with fail
      go_region_held3 (fun W => W.cell? ⟨ga, oa + k, none⟩ = some u ∧ W.cell? ⟨gb, ob + k, none⟩ = some v ∧ Below w.heap.size w W)
        (first | exact ⟨a0, b0, HBE.out.drew⟩ | exact heldT_step hga hgb (by assumption) (by assumption))
        (first | (go_at_call 43; refine (HE.out _ (last3T (w := w) (by assumption))).mono ?_; rintro e w1 ⟨rfl, hb1⟩))
      all_goals
        have HB9 := Lib.hid (last3T (w := w) (W := w1) (by assumption))
        go_wp2
        go_roundw
        case rel => exact ⟨k + 1, by omega, by go_num, HB9⟩
        case measure => simp [intOf]; omega
    · go_wp2
      go_ret
      exact ⟨rfl, HBE.out⟩
def markG (k : Nat) (f : Nat → List ByteArray) (i : Nat) : List ByteArray := marks (k + sumG f i) (f i).length
def mixG (k : Nat) (f : Nat → List ByteArray) (j i : Nat) : List ByteArray := if i < j then markG k f i else f i
theorem mixG_here (k : Nat) (f : Nat → List ByteArray) (j : Nat) : mixG k f j j = f j := if_neg (Nat.lt_irrefl j)
/-- What is owned and lies in no block from base to top stands. -/
def FarKept (base top : Nat) (w w' : World) : Prop := ∀ (b e size m : Nat) (z : Value) (xs : List Value), w.ownsRow b e size z m xs → (∀ q, z.ownBlock = some q → q < base ∨ top ≤ q) → w'.ownsRow b e size z m xs
theorem FarKept.refl (base top : Nat) (w : World) : FarKept base top w w := fun _ _ _ _ _ _ h _ => h
theorem FarKept.step {base top : Nat} {w wr w1 : World} {u : Value} (h : FarKept base top w wr) (hu : ∀ q, u.ownBlock = some q → base ≤ q ∧ q < top) (hg : wr.grownBy w1 u.ownBlock) : FarKept base top w w1 := by
  intro b e size m z xs ho hz
  refine (h b e size m z xs ho hz).kept hg ?_
  cases hzb : z.ownBlock with
  | none => exact .inl rfl
  | some q =>
    refine .inr fun he => ?_
    have h1 := hz q hzb
    have h2 := hu q he.symm
    omega
set_option maxRecDepth 100000 in
set_option maxHeartbeats 1000000 in
theorem markStringSS_any (base top n k : Nat) (f : Nat → List ByteArray) (v : Value) (w : World) (hown : OwnT w base top v n f) (hbase : base ≤ w.heap.size) (h0 : 0 < k) (hk : k + sumG f n ≤ 900000000) :
    Calls Tryd.prog 46 #[v, .int .i64 (k : Int)] w fun e w' => e = .returned (.int .i64 ((k + sumG f n : Nat) : Int)) ∧ OwnT w' base top v n (markG k f) ∧ Below base w w' ∧ (∀ e, 9 ≠ e → Keeps w w' e) ∧ FarKept base top w w' := by
  have HSM := Lib.hid (fun i j (h : i ≤ j) => sumG_mono f i j h)
  obtain ⟨vs, how, htop, hrows, hdis⟩ := hown
  have hvl : vs.length = n := own_len how
  have HVL := Lib.hid hvl
  have HD := Lib.hid hdis
  have HR0 := Lib.hid hrows
  have HTP := Lib.hid htop
  rcases how.2 with ⟨rfl, rfl⟩ | ⟨g, cap, cur, rfl, hb, hh, hn, hc, hs, ht⟩
  · have HO := Lib.hid how
    clear how hrows hdis hvl htop
    go_enter Tryd.func46, Tryd.ntmps46
    go_wp2
    refine wp_loop_rounds 1 ?_
    rw [rounds_succ]
    go_wp2
    go_ret
    refine ⟨rfl, ⟨vs, HO.out, HTP.out, fun i u hu => ?_, HD.out⟩, Below.refl _ _, fun e _ g cs hg => hg, FarKept.refl _ _ _⟩
    have : vs = [] := List.length_eq_zero_iff.1 HVL.out
    subst this
    simp at hu
  · have HOW := Lib.hid how
    have hmx : cap ≤ 9223372036854775807 := hc
    have hn9 : n ≤ 9223372036854775807 := by omega
    clear hh hs ht how hrows hdis hvl hc htop
    go_enter Tryd.func46, Tryd.ntmps46
    go_wp2
    go_loopw [1, 5] (fun m i wr => ∃ j : Nat, j ≤ n ∧ i = .int .i64 (j : Int) ∧ m = .int .i64 ((k + sumG f j : Nat) : Int) ∧ Hid (wr.ownsRow base 23 1 (.slice (some ⟨g, 0, none⟩) n cap) n vs) ∧ Hid (∀ (i : Nat) (u : Value), vs[i]? = some u → wr.ownsRow base 9 1 u (mixG k f j i).length (strs (mixG k f j i))) ∧ Hid (Below base w wr) ∧ Hid (∀ e, 9 ≠ e → Keeps w wr e) ∧ Hid (FarKept base top w wr)) (fun _ i _ => n - (intOf i).toNat)
    case atStart => exact ⟨0, Nat.zero_le _, rfl, rfl, HOW, Lib.hid (fun i u hu => (HR0.out i u hu).1), Lib.hid (Below.refl _ _), Lib.hid (fun e _ g cs hg => hg), Lib.hid (FarKept.refl _ _ _)⟩
    case round =>
      obtain ⟨j, hj, rfl, rfl, HO, HI, HBE, HKP, HFK⟩ := hrel
      by_cases hlt : j < n
      · obtain ⟨u, hu⟩ : ∃ u, vs[j]? = some u := ⟨_, List.getElem?_eq_getElem (by rw [HVL.out]; exact hlt)⟩
        have hown := HI.out j u hu
        rw [mixG_here] at hown
        have c0 : wr.cell? ⟨g, j, none⟩ = some u := (HO.out.cellAt j (by omega)).trans hu
        have hq1 := HSM.out (j + 1) n hlt
        have HSS : Hid (sumG f (j + 1) = sumG f j + (f j).length) := Lib.hid rfl
        rw [HSS.out] at hq1
        have HMF : Hid (markG k f j = marks (k + sumG f j) (f j).length) := Lib.hid rfl
        obtain ⟨q, hq⟩ : ∃ q, q = k + sumG f j := ⟨_, rfl⟩
        obtain ⟨z, hz⟩ : ∃ z, z = (f j).length := ⟨_, rfl⟩
        have hq0 : 0 < q := by omega
        have hqz : q + z ≤ 900000000 := by omega
        have HMC := Lib.hid (fun (h : wr.ownsRow base 9 1 u z (strs (f j))) => markStringS_any base z q u (strs (f j)) wr h hq0 (by omega))
        rw [← hq, ← hz] at HMF
        rw [← hz] at hown
        rw [← hq]
        have HQ := Lib.hid hq
        have HZ := Lib.hid hz
        have HOWN := Lib.hid hown
        have HU := Lib.hid hu
        clear hq1 hq hz hu hown
        go_wp2_with fail
        refine (HMC.out HOWN.out).mono ?_
        rintro e w1 ⟨rfl, ho1, hg1⟩
        have HO1 := Lib.hid (own_keeps HO.out (Keeps.grown HOWN.out (by decide) hg1))
        have HB1 := Lib.hid (HBE.out.grown hg1 (Nat.le_trans hbase HBE.out.size) (fun k hk => (World.ownsRow.lt HOWN.out k hk).1))
        have HK1 := Lib.hid (fun e (h1 : 9 ≠ e) => (HKP.out e h1).trans (Keeps.grown HOWN.out h1 hg1))
        have HFK1 := Lib.hid (HFK.out.step (fun q hq => ⟨(World.ownsRow.lt HOWN.out q hq).1, (HR0.out j u HU.out).2 q hq⟩) hg1)
        have HI1 : Hid (∀ (i : Nat) (x : Value), vs[i]? = some x → w1.ownsRow base 9 1 x (mixG k f (j + 1) i).length (strs (mixG k f (j + 1) i))) := Lib.hid (by
          intro i x hx
          by_cases hij : i = j
          · subst hij
            have hxu : u = x := by
              have := HU.out.symm.trans hx
              injection this
            subst hxu
            have e1 : mixG k f (i + 1) i = markG k f i := if_pos (Nat.lt_succ_self i)
            rw [e1, HMF.out, marks_length]
            exact ho1
          · have e1 : mixG k f (j + 1) i = mixG k f j i := by
              unfold mixG
              by_cases h : i < j
              · rw [if_pos h, if_pos (by omega)]
              · rw [if_neg h, if_neg (by omega)]
            rw [e1]
            exact (HI.out i x hx).kept hg1 (HD.out i j x u hij hx HU.out))
        clear ho1 hg1 c0
        go_wp2_with fail
        go_roundw
        case rel => exact ⟨j + 1, by omega, by go_num, by rw [HSS.out, ← HZ.out, ← Nat.add_assoc, ← HQ.out]; go_num, HO1, HI1, HB1, HK1, HFK1⟩
        case measure => simp [intOf]; omega
      · obtain rfl : j = n := by omega
        go_wp2_with fail
        go_ret
        refine ⟨rfl, ⟨vs, HO.out, HTP.out, fun i u hu => ⟨?_, (HR0.out i u hu).2⟩, HD.out⟩, HBE.out, HKP.out, HFK.out⟩
        have hi : i < j := by rw [← HVL.out]; exact (List.getElem?_eq_some_iff.1 hu).1
        have h := HI.out i u hu
        have e1 : mixG k f j i = markG k f i := if_pos hi
        rw [e1] at h
        exact h
end Go.Proofs.YtionfjofojfaoaaDoor
