/- A table that a call answers with: each of its rows is owned, wherever the rows' list lies; marked, held. -/
import Derived.Test.YtionfjofojfaoaaDoorRowsG
namespace Go.Proofs.YtionfjofojfaoaaDoor
open Go.RowKit
set_option linter.unusedVariables false

def ResT (W : World) (base : Nat) (hv rv : Value) (h : List ByteArray) (n : Nat) (f : Nat → List ByteArray) : Prop :=
  ∃ us : List Value, us.length = n ∧ (∃ A c, rv = .slice A n c) ∧ (∀ W', Keeps W W' 23 → Rd W' rv us) ∧ OwnRs W base (hv :: us) (rowsA h f)
theorem ResT.keep {W W' : World} {base : Nat} {hv rv : Value} {h : List ByteArray} {n : Nat} {f : Nat → List ByteArray} (ho : ResT W base hv rv h n f) (k1 : Keeps W W' 23) (k2 : Keeps W W' 9) : ResT W' base hv rv h n f := by
  obtain ⟨us, h1, h2, h3, h4⟩ := ho
  exact ⟨us, h1, h2, fun W2 hk => h3 W2 (k1.trans hk), fun i u hu => own_keeps (h4.1 i u hu) k2, h4.2⟩
theorem ResT.below {W W' : World} {base : Nat} {hv rv : Value} {h : List ByteArray} {n : Nat} {f : Nat → List ByteArray} (ho : ResT W base hv rv h n f) (hb : Below W.heap.size W W') : ResT W' base hv rv h n f := ho.keep (Keeps.below _ hb) (Keeps.below _ hb)
theorem ResT.head {W : World} {base : Nat} {hv rv : Value} {h : List ByteArray} {n : Nat} {f : Nat → List ByteArray} (ho : ResT W base hv rv h n f) : W.ownsRow base 9 1 hv h.length (strs h) := by
  obtain ⟨us, _, _, _, h4⟩ := ho
  exact h4.1 0 hv rfl
theorem ResT.trd {W : World} {base : Nat} {hv rv : Value} {h : List ByteArray} {n : Nat} {f : Nat → List ByteArray} (ho : ResT W base hv rv h n f) : TRd W hv rv h n f := by
  refine ⟨Rd.of_own ho.head, ?_⟩
  obtain ⟨us, h1, _, h3, h4⟩ := ho
  obtain ⟨A, c, rfl, hc⟩ := h3 W (fun _ _ h => h)
  rw [h1] at hc ⊢
  refine ⟨A, c, rfl, fun h0 => ?_⟩
  obtain ⟨g, o, rfl, hg, hcell⟩ := hc h0
  refine ⟨g, o, rfl, hg, fun i hi => ?_⟩
  have hu := List.getElem?_eq_getElem (l := us) (i := i) (by omega)
  exact ⟨_, hcell i _ hu, Rd.of_own (h4.1 (i + 1) _ (by simp [hu]))⟩
theorem ResT.slc {W : World} {base : Nat} {hv rv : Value} {h : List ByteArray} {n : Nat} {f : Nat → List ByteArray} (ho : ResT W base hv rv h n f) : ∃ A c, rv = .slice A n c := by
  obtain ⟨us, _, h2, _⟩ := ho
  exact h2
theorem ResT.same {W : World} {base : Nat} {hv rv : Value} {h h' : List ByteArray} {n : Nat} {f f' : Nat → List ByteArray} (ho : ResT W base hv rv h n f) (e1 : h' = h) (e2 : ∀ i, i < n → f' i = f i) : ResT W base hv rv h' n f' := by
  subst e1
  obtain ⟨us, h1, h2, h3, h4⟩ := ho
  refine ⟨us, h1, h2, h3, fun i u hu => ?_, h4.2⟩
  cases i with
  | zero => exact h4.1 0 u hu
  | succ i =>
    have hi : i < n := by
      have := (List.getElem?_eq_some_iff.1 hu).1
      simp at this
      omega
    have := h4.1 (i + 1) u hu
    show W.ownsRow base 9 1 u (f' i).length (strs (f' i))
    rw [e2 i hi]
    exact this
theorem distinct_tail {v : Value} {vs : List Value} (h : Distinct (v :: vs)) : Distinct vs := fun i j u u' hij hi hj => h (i + 1) (j + 1) u u' (by omega) (by simpa using hi) (by simpa using hj)
theorem distinct_head {v : Value} {vs : List Value} (h : Distinct (v :: vs)) (i : Nat) (u : Value) (hu : vs[i]? = some u) : (v.ownBlock = none ∨ v.ownBlock ≠ u.ownBlock) ∧ (u.ownBlock = none ∨ u.ownBlock ≠ v.ownBlock) :=
  ⟨h 0 (i + 1) v u (by omega) rfl (by simpa using hu), h (i + 1) 0 u v (by omega) (by simpa using hu) rfl⟩
set_option maxRecDepth 100000 in
set_option maxHeartbeats 2000000 in
theorem markResT (base n k : Nat) (h : List ByteArray) (f : Nat → List ByteArray) (hv rv : Value) (w : World) (ho : ResT w base hv rv h n f) (hb : base ≤ w.heap.size) (hn9 : n ≤ 9223372036854775807) (h0 : 0 < k) (hk : k + h.length + sumG f n ≤ 900000000) :
    Calls Tryd.prog 20 #[.agg #[hv, rv], .int .i64 (k : Int)] w fun e w' => e = .returned (.int .i64 ((k + h.length + sumG f n : Nat) : Int)) ∧ ResT w' base hv rv (marks k h.length) n (markG (k + h.length) f) ∧ Below base w w' ∧ ∀ e, 9 ≠ e → Keeps w w' e := by
  have hhd := ho.head
  obtain ⟨us, hul, hsl, hrd, hrs⟩ := ho
  have HD := Lib.hid hrs.2
  have HR := Lib.hid hrs.1
  have HUL := Lib.hid hul
  have HRD := Lib.hid hrd
  have HL := Lib.hid (fun W (hw : W.ownsRow base 9 1 hv h.length (strs h)) => markStringS_any base h.length k hv (strs h) W hw h0 (by omega))
  have HT := Lib.hid (fun W (hout : ∀ W', Keeps W W' 23 → Rd W' rv us) (hrows : ∀ (i : Nat) (u : Value), us[i]? = some u → W.ownsRow base 9 1 u (f i).length (strs (f i))) (hbs : base ≤ W.heap.size) => markRows_any base n (k + h.length) f rv us W hul hsl hout hrows (distinct_tail hrs.2) hn9 hbs (by omega) hk)
  obtain ⟨A, c, rfl, _⟩ := Rd.of_own hhd
  obtain ⟨B, d, rfl⟩ := hsl
  obtain ⟨hl, hhl⟩ : ∃ k, k = (strs h).length := ⟨_, rfl⟩
  rw [← hhl] at HL HR HD hhd ⊢
  have HHD := Lib.hid hhd
  obtain ⟨z, hz⟩ : ∃ z, z = k + h.length := ⟨_, rfl⟩
  obtain ⟨y, hy⟩ : ∃ y, y = z + sumG f n := ⟨_, rfl⟩
  rw [← hz] at HL HT ⊢
  rw [← hy] at HT ⊢
  clear hhl hhd hul hrd hrs hz hy hk
  have HA := Lib.hid (Blk.new w 26 #[.slice A hl c, .slice B n d])
  have B0 := Lib.hid (by go_grown : Below w.heap.size w (w.alloc (.cells #[.slice A hl c, .slice B n d] 26)))
  obtain ⟨a0, a1⟩ := HA.out.two
  go_enter Tryd.func20, Tryd.ntmps20
  go_wp2_with fail
  refine (HL.out _ (own_below HHD.out B0.out)).mono ?_
  rintro e w1 ⟨rfl, hw1, hg1⟩
  have hO := own_below HHD.out B0.out
  have HW1 := Lib.hid hw1
  have HA1 : Hid (Blk w1 w.heap.size 26 #[.slice A hl c, .slice B n d]) := Lib.hid (Keeps.grown hO (by decide) hg1 _ _ HA.out)
  have HK1 : Hid (Keeps w w1 23) := Lib.hid ((Keeps.below _ B0.out).trans (Keeps.grown hO (by decide) hg1))
  have HKK1 : Hid (∀ e, 9 ≠ e → Keeps w w1 e) := Lib.hid (fun e he => (Keeps.below e B0.out).trans (Keeps.grown hO he hg1))
  have HR1 : Hid (∀ (i : Nat) (u : Value), us[i]? = some u → w1.ownsRow base 9 1 u (f i).length (strs (f i))) := Lib.hid (fun i u hu => (own_below (HR.out (i + 1) u (by simpa using hu)) B0.out).kept hg1 (distinct_head HD.out i u hu).2)
  have B1 := Lib.hid ((B0.out.mono (show base ≤ w.heap.size by omega)).grown hg1 (by have := B0.out.size; omega) (fun q hq => (World.ownsRow.lt hO q hq).1))
  have hs1 : base ≤ w1.heap.size := by
    have h1 := hg1.size
    have h2 := B0.out.size
    omega
  have HC := Lib.hid (HT.out w1 (fun W' hk' => HRD.out W' (HK1.out.trans hk')) HR1.out hs1)
  clear hw1 hg1 hO a0 a1
  obtain ⟨a0, a1⟩ := HA1.out.two
  go_wp2_with fail
  refine HC.out.mono ?_
  rintro e w2 ⟨rfl, hr2, hb2, hk2, hap2⟩
  have HFIN : Hid (ResT w2 base (.slice A hl c) (.slice B n d) (marks k h.length) n (markG z f)) := Lib.hid ⟨us, HUL.out, ⟨B, d, rfl⟩, fun W' hk' => HRD.out W' (HK1.out.trans ((hk2 _ (by decide)).trans hk')), fun i u hu => by
    cases i with
    | zero =>
      simp at hu
      subst hu
      show w2.ownsRow base 9 1 _ (marks k h.length).length (strs (marks k h.length))
      rw [marks_length]
      exact hap2 _ _ _ _ HW1.out (fun i u hu => (distinct_head HD.out i u hu).1)
    | succ i => exact hr2 i u (by simpa using hu), HD.out⟩
  have B2 := Lib.hid (B1.out.trans hb2)
  have HKK2 : Hid (∀ e, 9 ≠ e → Keeps w w2 e) := Lib.hid (fun e he => (HKK1.out e he).trans (hk2 e he))
  clear hr2 hb2 hk2 hap2 a0 a1
  go_wp2_with fail
  go_ret
  exact ⟨rfl, HFIN.out, B2.out, HKK2.out⟩
end Go.Proofs.YtionfjofojfaoaaDoor
