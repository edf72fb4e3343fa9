/- The law's marks: markText, markStringS, heldStringS. -/
import Derived.Test.YtionfjofojfaoaaDoorMem
import Derived.Deep.RegionHeld3
namespace Go.Proofs.YtionfjofojfaoaaDoor
open Go.RowKit

/-- The digits of j ahead of acc, f steps at most. -/
def mdig : Nat → Nat → List UInt8 → List UInt8
  | 0, _, acc => acc
  | f + 1, j, acc => if j = 0 then acc else mdig f (j / 10) (UInt8.ofNat (48 + j % 10) :: acc)
/-- The k-th mark. -/
def markB (k : Nat) : ByteArray := ⟨(109 :: mdig k k []).toArray⟩

theorem mdig_step (f j : Nat) (acc : List UInt8) (h : j ≠ 0) (hf : j ≤ f + 1) : mdig (f + 1) j acc = mdig f (j / 10) (UInt8.ofNat (48 + j % 10) :: acc) ∧ j / 10 ≤ f := by
  constructor
  · rw [mdig, if_neg h]
  · omega

theorem mdig_zero (f : Nat) (acc : List UInt8) : mdig f 0 acc = acc := by cases f <;> simp [mdig]
/-- 'string([]byte{b})': a text of one byte. -/
theorem oneByte (w : World) (n : Int) (h0 : 0 ≤ n) (h1 : n ≤ 255) :
    (convert 22 9 (.slice (some ⟨w.heap.size, 0, none⟩) 1 1)).run Tryd.prog (w.alloc (.cells #[.int .u8 n] 5)) = .ok (.string ⟨[UInt8.ofNat n.toNat].toArray⟩) (w.alloc (.cells #[.int .u8 n] 5)) := by
  refine run_convert_bytes_back (P := Tryd.prog) _ 22 9 5 ⟨w.heap.size, 0, none⟩ 1 [UInt8.ofNat n.toNat] Tryd.underlying22 Tryd.underlying5 Tryd.underlying9 ?_
  intro j hj
  match j, hj with
  | 0, _ =>
    simp [Addr.add]
    omega

set_option maxRecDepth 100000 in
set_option maxHeartbeats 400000 in
theorem markText_any (k : Nat) (w : World) (h0 : 0 < k) (hk : k ≤ 1000000000) :
    Calls Tryd.prog 59 #[.int .i64 k] w fun e w' => e = .returned (.string (markB k)) ∧ Below w.heap.size w w' := by
  go_enter Tryd.func59, Tryd.ntmps59
  go_wp2
  go_loopw [0, 3] (fun t o wr => ∃ (f j : Nat) (acc : List UInt8), t = .int .i64 j ∧ o = .string ⟨acc.toArray⟩ ∧ j ≤ f ∧ acc.length + f ≤ k ∧ Hid (mdig f j acc = mdig k k []) ∧ Below w.heap.size w wr) (fun t _ _ => (intOf t).toNat)
  case atStart => exact ⟨k, k, [], rfl, rfl, Nat.le_refl _, by simp, Lib.hid rfl, Below.refl _ _⟩
  case round =>
    obtain ⟨f, j, acc, rfl, rfl, hjf, hal, HM, hbel⟩ := hrel
    by_cases hj : 0 < j
    · obtain ⟨f, rfl⟩ : ∃ f', f = f' + 1 := ⟨f - 1, by omega⟩
      have hcv := oneByte wr (48 + (j : Int) % 10) (by omega) (by omega)
      have hst := mdig_step f j acc (by omega) hjf
      have HS := Lib.hid hst.1
      have hj10 := hst.2
      clear hst
      go_wp2
      go_roundw
      case rel =>
        refine ⟨f, j / 10, UInt8.ofNat (48 + j % 10) :: acc, by go_num, ?_, hj10, by simp; omega, Lib.hid (HS.out.symm.trans HM.out), hbel.alloc hbel.size _⟩
        simpa using congrArg Value.string (byte_cons (UInt8.ofNat (48 + j % 10)) acc)
      case measure => simp [intOf]; omega
    · go_wp2
      go_ret
      refine ⟨ret_string ?_, hbel⟩
      have hj0 : j = 0 := by omega
      subst hj0
      have hm := HM.out
      rw [mdig_zero] at hm
      unfold markB
      rw [← hm]
      exact byte_cons 109 acc

/-- The marks k, k + 1, .. of n cells. -/
def marks (k n : Nat) : List ByteArray := (List.range n).map fun j => markB (k + j)
theorem marks_length (k n : Nat) : (marks k n).length = n := by simp [marks]
theorem marks_get (k n j : Nat) (h : j < n) : (strs (marks k n))[j]? = some (.string (markB (k + j))) := by simp [strs, marks, h]

theorem markText_int (a : Int) (w : World) (h0 : 0 < a) (hk : a ≤ 1000000000) :
    Calls Tryd.prog 59 #[.int .i64 a] w fun e w' => e = .returned (.string (markB a.toNat)) ∧ Below w.heap.size w w' := by
  obtain ⟨k, rfl⟩ := Int.eq_ofNat_of_zero_le (show 0 ≤ a from by omega)
  exact markText_any k w (by omega) (by omega)

theorem only_trans {a b c : World} {row : Option Nat} (h : a.grownBy b row) (k : b.grownBy c row) : a.grownBy c row :=
  ⟨k.os.trans h.os, k.tape.trans h.tape, k.output.trans h.output, Nat.le_trans h.size k.size, fun i hi hn => (k.block i (Nat.lt_of_lt_of_le hi h.size) hn).trans (h.block i hi hn)⟩
theorem only_below {a b c : World} {row : Option Nat} (h : a.grownBy b row) (k : Below b.heap.size b c) : a.grownBy c row :=
  only_trans h ⟨k.os, k.tape, k.output, k.size, fun i hi _ => k.block i hi⟩

/-- j cells marked, the others as they were. -/
def marked (k j : Nat) (xs : List Value) : List Value := strs (marks k j) ++ xs.drop j
theorem marked_zero (k : Nat) (xs : List Value) : marked k 0 xs = xs := by simp [marked, marks, strs]
theorem marked_all (k : Nat) (xs : List Value) : marked k xs.length xs = strs (marks k xs.length) := by simp [marked]
theorem marked_step (k j : Nat) (xs : List Value) (h : j < xs.length) : (marked k j xs).set j (.string (markB (k + j))) = marked k (j + 1) xs := by
  unfold marked
  have hl : (strs (marks k j)).length = j := by rw [strs_length, marks_length]
  rw [List.set_append_right _ _ (by omega), hl, Nat.sub_self, List.drop_eq_getElem_cons h, List.set_cons_zero]
  have e : strs (marks k (j + 1)) = strs (marks k j) ++ [.string (markB (k + j))] := by simp [strs, marks, List.range_succ]
  rw [e]; simp

set_option maxRecDepth 100000 in
set_option maxHeartbeats 400000 in
theorem markStringS_any (base n k : Nat) (v : Value) (xs : List Value) (w : World) (hown : w.ownsRow base 9 1 v n xs) (h0 : 0 < k) (hk : k + n ≤ 1000000000) :
    Calls Tryd.prog 45 #[v, .int .i64 k] w fun e w' => e = .returned (.int .i64 ((k + n : Nat) : Int)) ∧ w'.ownsRow base 9 1 v n (strs (marks k n)) ∧ w.grownBy w' v.ownBlock := by
  have hlen := own_len hown
  rcases hown.2 with ⟨rfl, rfl⟩ | ⟨g, cap, cur, rfl, hb, hh, hn, hc, hs, ht⟩
  · have he : xs = [] := List.length_eq_zero_iff.1 hlen
    subst he
    have HO := Lib.hid hown
    clear hown
    go_enter Tryd.func45, Tryd.ntmps45
    go_wp2
    refine wp_loop_rounds 1 ?_
    rw [rounds_succ]
    go_wp2
    go_ret
    exact ⟨rfl, HO.out, World.grownBy.refl _ _⟩
  · have HL := Lib.hid hlen
    have hmx : cap ≤ 9223372036854775807 := hc
    clear hh hs ht hlen
    go_enter Tryd.func45, Tryd.ntmps45
    go_wp2
    go_loopw [1, 5] (fun m i wr => ∃ j : Nat, j ≤ n ∧ i = .int .i64 j ∧ m = .int .i64 ((k + j : Nat) : Int) ∧ wr.ownsRow base 9 1 (.slice (some ⟨g, 0, none⟩) n cap) n (marked k j xs) ∧ w.grownBy wr (some g)) (fun _ i _ => n - (intOf i).toNat)
    case atStart => exact ⟨0, Nat.zero_le _, rfl, rfl, by rw [marked_zero]; exact hown, World.grownBy.refl _ _⟩
    case round =>
      obtain ⟨j, hj, rfl, rfl, hownr, hgr⟩ := hrel
      by_cases hlt : j < n
      · go_wp2_with fail
        refine (markText_int _ _ (by omega) (by omega)).mono ?_
        rintro e w1 ⟨rfl, hb1⟩
        have own1 := own_below hownr hb1
        have hl1 := own_len own1
        obtain ⟨u, hc1⟩ : ∃ u, w1.cell? ⟨g, j, none⟩ = some u := ⟨_, (own1.cellAt j (by omega)).trans (List.getElem?_eq_getElem (by omega))⟩
        have hf1 : w1.frozen? ⟨g, j, none⟩ = false := own1.frozenAt j
        have hst := own1.stored j (.string (markB (k + j)))
        rw [marked_step k j xs (by have := HL.out; omega)] at hst
        have HST := Lib.hid hst
        have hg1 := only_below hgr hb1
        have HG := Lib.hid hg1
        clear hst hg1 hgr hownr own1 hl1 hb1
        go_wp2
        go_roundw
        case rel => exact ⟨j + 1, by omega, by go_num, by go_num, HST.out.1, only_trans HG.out HST.out.2⟩
        case measure => simp [intOf]; omega
      · have hjn : j = n := by omega
        have HJ := Lib.hid hjn
        have HO := Lib.hid hownr
        have HG := Lib.hid hgr
        clear hownr hgr hjn hown
        go_wp2
        go_ret
        obtain rfl := HJ.out
        have hf := HO.out
        have hl := HL.out
        subst hl
        rw [marked_all] at hf
        exact ⟨rfl, hf, HG.out⟩
theorem heldS_step {wr W w1 : World} {g j : Nat} {x : Value} (hg : g < wr.heap.size) (hb : Below W.heap.size W w1) (hS : W.cell? ⟨g, j, none⟩ = some x ∧ Below wr.heap.size wr W) :
    w1.cell? ⟨g, j, none⟩ = some x ∧ Below wr.heap.size wr w1 :=
  ⟨(hb.cell (p := ⟨g, j, none⟩) (Nat.lt_of_lt_of_le hg hS.2.size)).trans hS.1, hS.2.trans (hb.mono hS.2.size)⟩

end Go.Proofs.YtionfjofojfaoaaDoor
