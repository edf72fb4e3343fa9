/- PadZeros: the model's and the program's give the same text. -/
import Derived.Test.YtfbkefgabkiakaaShelf
import Derived.Lib.Repeat
import Derived.Test.YtfbkefgabkiakaaPre
namespace Go.Proofs.Ytfbkefgabkiakaa
open Go.RowKit

/-- k zeros ahead of a text. -/
def zpad (k : Nat) (s : ByteArray) : ByteArray := ⟨(List.replicate k 48 ++ s.data.toList).toArray⟩
theorem zpad_size (k : Nat) (s : ByteArray) : (zpad k s).size = k + s.size := by
  show (List.replicate k 48 ++ s.data.toList).toArray.size = _
  simp
theorem zpad_zero (s : ByteArray) : zpad 0 s = s := by
  apply ByteArray.ext; simp [zpad]
theorem zpad_succ (k : Nat) (s : ByteArray) : ByteArray.mk #[48] ++ zpad k s = zpad (k + 1) s := by
  show ByteArray.mk [48].toArray ++ _ = _
  unfold zpad
  rw [ByteArray.mk_append_mk]; rfl

/-- What PadZeros gives. -/
def padB (s : ByteArray) (n : Int) : ByteArray := if 2000 < n then s else zpad (n.toNat - s.size) s

set_option maxHeartbeats 400000 in
theorem specPadZeros (s : ByteArray) (n : Int) (w : World) (hs : s.size ≤ 1048576) :
    Calls Try.prog 24 #[.string s, .int .i64 n] w fun e w' => e = .returned (.string (padB s n)) ∧ w = w' := by
  by_cases h : 2000 < n
  · go_enter Try.func24, Try.ntmps24
    go_wp2
    go_ret
    exact ⟨ret_string (by unfold padB; rw [if_pos h]), rfl⟩
  · go_enter Try.func24, Try.ntmps24
    go_wp2
    go_loop [0] (fun t => ∃ k : Nat, t = .string (zpad k s) ∧ (k = 0 ∨ ((s.size + k : Nat) : Int) ≤ n)) (fun t => match t with | .string x => n.toNat - x.size | _ => 0)
    case atStart => exact ⟨0, by rw [zpad_zero], .inl rfl⟩
    case round =>
      obtain ⟨k, rfl, hb⟩ := hrel
      have hz := zpad_size k s
      by_cases hlt : ((zpad k s).size : Int) < n
      · have hadd : (Op.stringOp .add (ByteArray.mk #[48]) (zpad k s)).run Try.prog w = .ok (.string (zpad (k + 1) s)) w := by
          rw [run_string_add_sum _ _ _ (by rw [hz]; show 1 + _ ≤ _; omega), zpad_succ]
        have HZ := Lib.hid hz
        clear hz hb
        go_wp2
        go_round
        case rel => exact ⟨k + 1, rfl, .inr (by have := HZ.out; omega)⟩
        case measure => have := HZ.out; have := zpad_size (k + 1) s; simp; omega
      · have HZ := Lib.hid hz
        have HB := Lib.hid hb
        clear hz hb
        go_wp2
        go_ret
        refine ⟨ret_string ?_, rfl⟩
        have h1 := HZ.out
        have h2 := HB.out
        unfold padB
        rw [if_neg (by omega)]
        congr 1
        omega

/-- The texts of a list, joined. -/
def joinB (xs : List ByteArray) (sep : ByteArray) : ByteArray := ⟨(Lib.join (xs.map (·.data.toList)) sep.data.toList).toArray⟩

theorem impljoinTexts (bk o c : Nat) (xs : List ByteArray) (sep : ByteArray) (w : World) (hcells : ∀ (j : Nat) x, xs[j]? = some x → w.cell? ⟨bk, o + j, none⟩ = some (.string x))
    (hbk : bk < w.heap.size) (hN : xs.length ≤ 140737488355328) (hcap : xs.length ≤ c) (hlen : (joinB xs sep).size ≤ 140737488355328) :
    Calls Try.prog 30 #[.string sep, .slice (some ⟨bk, o, none⟩) xs.length c] w fun e w' => e = .returned (.string (joinB xs sep)) ∧ Below w.heap.size w w' := by
  have hj := Try.strings_Join bk o c xs sep w hcells hbk hN hcap hlen
  have HJ := Lib.hid hj
  clear hj hcells hN hcap hlen
  go_enter Try.func30, Try.ntmps30
  go_wp2_with (go_at_call 32; refine HJ.out.mono ?_; rintro e w' ⟨rfl, hb⟩)
  go_ret
  exact ⟨rfl, by assumption⟩

theorem joinB_two (a b : ByteArray) : joinB [a, b] ⟨#[]⟩ = a ++ b := by
  apply ByteArray.ext
  simp [joinB, Lib.join, List.intercalate]
theorem zeros_append (k : Nat) (s : ByteArray) : (⟨(Lib.repeatL [48] k).toArray⟩ : ByteArray) ++ s = zpad k s := by
  have e : ∀ j, Lib.repeatL [48] j = List.replicate j 48 := by
    intro j
    induction j with
    | zero => rfl
    | succ j ih => show [48] ++ Lib.repeatL [48] j = _; rw [ih]; rfl
  apply ByteArray.ext
  simp [zpad, e]

set_option maxHeartbeats 400000 in
theorem implPadZeros (s : ByteArray) (n : Int) (w : World) (hs : s.size ≤ 1048576) :
    Calls Try.prog 25 #[.string s, .int .i64 n] w fun e w' => e = .returned (.string (padB s n)) ∧ Below w.heap.size w w' := by
  by_cases h : n ≤ (s.size : Int)
  · go_enter Try.func25, Try.ntmps25
    go_wp2
    go_ret
    refine ⟨ret_string ?_, Below.refl _ _⟩
    unfold padB
    split
    · rfl
    · rw [show n.toNat - s.size = 0 from by omega, zpad_zero]
  · by_cases h2 : 2000 < n
    · go_enter Try.func25, Try.ntmps25
      go_wp2
      go_ret
      exact ⟨ret_string (by unfold padB; rw [if_pos h2]), Below.refl _ _⟩
    · obtain ⟨m, rfl⟩ := Int.eq_ofNat_of_zero_le (show 0 ≤ n from by omega)
      obtain ⟨k, hk⟩ : ∃ k, k = m - s.size := ⟨_, rfl⟩
      obtain ⟨z, hz⟩ : ∃ z : ByteArray, z = ⟨(Lib.repeatL [48] k).toArray⟩ := ⟨_, rfl⟩
      have hrep : ∀ w, Calls Try.prog 31 #[.string ⟨#[48]⟩, .int .i64 ((m : Int) - (s.size : Int))] w fun e w' => e = .returned (.string z) ∧ Below w.heap.size w w' := by
        intro w
        rw [show ((m : Int) - (s.size : Int)) = (k : Int) from by omega, hz]
        exact Try.strings_Repeat ⟨#[48]⟩ k w (by omega) (by show 1 * k ≤ _; omega)
      have hfin : z ++ s = padB s m := by
        rw [hz, zeros_append]
        unfold padB
        rw [if_neg h2, hk]; rfl
      have hjl : (joinB [z, s] ⟨#[]⟩).size ≤ 140737488355328 := by
        rw [joinB_two, hfin]
        unfold padB
        split
        · omega
        · rw [zpad_size]; omega
      have HR := Lib.hid hrep
      have HF := Lib.hid hfin
      have HL := Lib.hid hjl
      clear hrep hfin hjl hz hk
      go_enter Try.func25, Try.ntmps25
      go_wp2_with (go_at_call 31; refine (HR.out _).mono ?_; rintro e w1 ⟨rfl, hb⟩)
      refine (impljoinTexts w1.heap.size 0 2 [z, s] ⟨#[]⟩ _ ?_ ?_ (by simp) (by simp) HL.out).mono ?_
      · intro j x hj
        match j, hj with
        | 0, hj => simp at hj; subst hj; go_simp
        | 1, hj => simp at hj; subst hj; go_simp
      · simp
      · rintro e w2 ⟨rfl, hb2⟩
        go_wp2
        go_ret
        exact ⟨ret_string (by rw [joinB_two]; exact HF.out), hb.trans ((Below.refl _ _).alloc hb.size _ |>.trans (hb2.mono (by have := hb.size; simp; omega)))⟩

end Go.Proofs.Ytfbkefgabkiakaa
