/- A table that a call owns: marked, held. -/
import Derived.Test.YtionfjofojfaoaaDoorTabT
import Derived.Test.YtionfjofojfaoaaDoorMark
namespace Go.Proofs.YtionfjofojfaoaaDoor
open Go.RowKit
set_option linter.unusedVariables false

theorem OwnT.kept {W W' : World} {base top : Nat} {v : Value} {n : Nat} {f : Nat → List ByteArray} {row : Option Nat} (h : OwnT W base top v n f) (hg : W.grownBy W' row) (hr : ∀ q, row = some q → q < base) : OwnT W' base top v n f := by
  obtain ⟨vs, a, b, c, d⟩ := h
  have key : ∀ {e : TypeId} {m : Nat} {u : Value} {xs : List Value}, W.ownsRow base e 1 u m xs → W'.ownsRow base e 1 u m xs := by
    intro e m u xs ho
    refine ho.kept hg ?_
    cases hu : u.ownBlock with
    | none => exact .inl rfl
    | some q =>
      refine .inr fun he => ?_
      have h1 := (World.ownsRow.lt ho q hu).1
      have h2 := hr q he.symm
      omega
  exact ⟨vs, key a, b, fun i u hu => ⟨key (c i u hu).1, (c i u hu).2⟩, d⟩
set_option maxRecDepth 100000 in
set_option maxHeartbeats 2000000 in
theorem markTable_all (base top n k : Nat) (h : List ByteArray) (f : Nat → List ByteArray) (hv rv : Value) (w : World) (ho : OwnTab w base top hv rv h n f) (ht : top ≤ w.heap.size) (h0 : 0 < k) (hk : k + h.length + sumG f n ≤ 900000000) :
    Calls Tryd.prog 20 #[.agg #[hv, rv], .int .i64 (k : Int)] w fun e w' => e = .returned (.int .i64 ((k + h.length + sumG f n : Nat) : Int)) ∧ OwnTab w' base top hv rv (marks k h.length) n (markG (k + h.length) f) ∧ Below base w w' ∧ FarKept base top w w' ∧ ∀ e, 9 ≠ e → Keeps w w' e := by
  obtain ⟨m, m1, m2, ho1, hlow, ho2⟩ := ho
  have HL := Lib.hid (fun W (hw : W.ownsRow base 9 1 hv h.length (strs h)) => markStringS_any base h.length k hv (strs h) W hw h0 (by omega))
  have HT := Lib.hid (fun W (hw : OwnT W m top rv n f) (hb : m ≤ W.heap.size) => markStringSS_any m top n (k + h.length) f rv W hw hb (by omega) hk)
  have HO1 := Lib.hid ho1
  have HO2 := Lib.hid ho2
  have HLOW := Lib.hid hlow
  obtain ⟨A, c, rfl, _⟩ := Rd.of_own ho1
  obtain ⟨B, d, rfl⟩ := ho2.len
  obtain ⟨hl, hhl⟩ : ∃ k, k = (strs h).length := ⟨_, rfl⟩
  rw [← hhl] at HL HO1 HLOW ⊢
  obtain ⟨z, hz⟩ : ∃ z, z = k + h.length := ⟨_, rfl⟩
  obtain ⟨y, hy⟩ : ∃ y, y = z + sumG f n := ⟨_, rfl⟩
  rw [← hz] at HL HT ⊢
  rw [← hy] at HT ⊢
  clear hhl ho1 ho2 hlow hz hy hk
  have hA := Blk.new w 26 #[.slice A hl c, .slice B n d]
  have HA := Lib.hid hA
  have B0 := Lib.hid (by go_grown : Below w.heap.size w (w.alloc (.cells #[.slice A hl c, .slice B n d] 26)))
  obtain ⟨a0, a1⟩ := hA.two
  clear hA
  go_enter Tryd.func20, Tryd.ntmps20
  go_wp2_with fail
  refine (HL.out _ (own_below HO1.out B0.out)).mono ?_
  rintro e w1 ⟨rfl, hw1, hg1⟩
  have hO := own_below HO1.out B0.out
  have HW1 := Lib.hid hw1
  have HA1 : Hid (Blk w1 w.heap.size 26 #[.slice A hl c, .slice B n d]) := Lib.hid (Keeps.grown hO (by decide) hg1 _ _ HA.out)
  have hrow := (HO2.out.below (B0.out.mono ht)).kept hg1 HLOW.out
  have HR1 := Lib.hid hrow
  have B1 := Lib.hid ((B0.out.mono (show base ≤ w.heap.size by omega)).grown hg1 (by have := B0.out.size; omega) (fun q hq => (World.ownsRow.lt hO q hq).1))
  have FK1 : Hid (FarKept base top w w1) := Lib.hid (FarKept.step (fun b e size m z xs hz _ => hz.alloc _) (fun q hq => ⟨(World.ownsRow.lt hO q hq).1, by have := HLOW.out q hq; omega⟩) hg1)
  have HKP1 : Hid (∀ e, 9 ≠ e → Keeps w w1 e) := Lib.hid (fun e he => (Keeps.below e B0.out).trans (Keeps.grown hO he hg1))
  have hs1 : m ≤ w1.heap.size := by
    have h1 := hg1.size
    have h2 := B0.out.size
    omega
  have hcall := HT.out w1 hrow hs1
  have HC := Lib.hid hcall
  clear hw1 hg1 hO hrow hcall a0 a1
  obtain ⟨a0, a1⟩ := HA1.out.two
  go_wp2_with fail
  refine HC.out.mono ?_
  rintro e w2 ⟨rfl, hr2, hb2, hkk2, hf2⟩
  have HKP2 : Hid (∀ e, 9 ≠ e → Keeps w w2 e) := Lib.hid (fun e he => (HKP1.out e he).trans (hkk2 e he))
  have HFIN : Hid (OwnTab w2 base top (.slice A hl c) (.slice B n d) (marks k h.length) n (markG z f)) := Lib.hid ⟨m, m1, m2, by rw [marks_length]; exact own_topT HW1.out HLOW.out hb2, HLOW.out, hr2⟩
  have B2 := Lib.hid (B1.out.trans (hb2.mono m1))
  have FK2 : Hid (FarKept base top w w2) := Lib.hid (fun b e size q z xs hz hq => hf2 b e size q z xs (FK1.out b e size q z xs hz hq) (fun p hp => (hq p hp).imp (fun h3 => by omega) id))
  clear hr2 hb2 hf2 hkk2 a0 a1
  go_wp2_with fail
  go_ret
  exact ⟨rfl, HFIN.out, B2.out, FK2.out, HKP2.out⟩
theorem markTable_any (base top n k : Nat) (h : List ByteArray) (f : Nat → List ByteArray) (hv rv : Value) (w : World) (ho : OwnTab w base top hv rv h n f) (ht : top ≤ w.heap.size) (h0 : 0 < k) (hk : k + h.length + sumG f n ≤ 900000000) :
    Calls Tryd.prog 20 #[.agg #[hv, rv], .int .i64 (k : Int)] w fun e w' => e = .returned (.int .i64 ((k + h.length + sumG f n : Nat) : Int)) ∧ OwnTab w' base top hv rv (marks k h.length) n (markG (k + h.length) f) ∧ Below base w w' ∧ FarKept base top w w' :=
  (markTable_all base top n k h f hv rv w ho ht h0 hk).mono fun _ _ ⟨a, b, c, d, _⟩ => ⟨a, b, c, d⟩
end Go.Proofs.YtionfjofojfaoaaDoor
