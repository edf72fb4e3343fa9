/- EncodeRune: the model's and the program's give the same text. -/
import Derived.Test.YtaigjiiknmgclaaDoorMem
import Derived.Test.YtaigjiiknmgclaaDoorChars
import Derived.Test.YtaigjiiknmgclaaDoorShelf
namespace Go.Proofs.YtaigjiiknmgclaaDoor
open Go.RowKit
set_option linter.unusedVariables false

/-- What EncodeRune answers. -/
def encB (r : Int) : ByteArray := if pointB r = true then Utf8.encode r else ⟨#[]⟩
theorem valid_point (r : Int) (h : pointB r = true) : Utf8.valid r = true := by
  rw [pointB_iff] at h
  unfold Utf8.valid
  simp only [Bool.or_eq_true, Bool.and_eq_true, decide_eq_true_iff]
  omega
theorem enc_cases (n : Nat) (h : pointB (n : Int) = true) : Utf8.encode (n : Int) =
    if n < 128 then ⟨#[UInt8.ofNat n]⟩ else if n < 2048 then ⟨#[UInt8.ofNat (192 + n / 64), UInt8.ofNat (128 + n % 64)]⟩
    else if n < 65536 then ⟨#[UInt8.ofNat (224 + n / 4096), UInt8.ofNat (128 + n / 64 % 64), UInt8.ofNat (128 + n % 64)]⟩
    else ⟨#[UInt8.ofNat (240 + n / 262144), UInt8.ofNat (128 + n / 4096 % 64), UInt8.ofNat (128 + n / 64 % 64), UInt8.ofNat (128 + n % 64)]⟩ := by
  unfold Utf8.encode
  rw [if_pos (valid_point _ h), Int.toNat_natCast]
theorem encB_yes (r : Int) (h : pointB r = true) : encB r = Utf8.encode r := if_pos h
theorem encB_no (r : Int) (h : pointB r = false) : encB r = ⟨#[]⟩ := if_neg (by rw [h]; decide)

theorem validRune_eq (r : Int) (h0 : 0 ≤ r) (h1 : r ≤ 1114111) : Lib.validRune r = pointB r := by
  unfold Lib.validRune
  cases hp : pointB r with
  | true => rw [pointB_iff] at hp; exact decide_eq_true (by omega)
  | false => rw [pointB_not] at hp; exact decide_eq_false (by omega)
set_option maxHeartbeats 400000 in
theorem implEncodeRune (r : Int) (w : World) :
    Calls Tryd.prog 12 #[.int .i64 r] w fun e w' => e = .returned (.string (encB r)) ∧ w = w' := by
  by_cases h0 : r < 0
  · have e1 : encB r = ⟨#[]⟩ := encB_no r (by rw [pointB_not]; omega)
    rw [e1]
    clear e1
    go_enter Tryd.func12, Tryd.ntmps12
    go_wp2
    go_ret
    exact ⟨rfl, rfl⟩
  · by_cases h1 : 1114111 < r
    · have e1 : encB r = ⟨#[]⟩ := encB_no r (by rw [pointB_not]; omega)
      rw [e1]
      clear e1
      go_enter Tryd.func12, Tryd.ntmps12
      go_wp2
      go_ret
      exact ⟨rfl, rfl⟩
    · have hv := fun w => Tryd.utf8_ValidRune r w
      rw [validRune_eq r (by omega) (by omega)] at hv
      have h0' : 0 ≤ r := by omega
      have h1' : r ≤ 1114111 := by omega
      cases hp : pointB r with
      | true =>
        rw [encB_yes r hp]
        rw [hp] at hv
        have HV := Lib.hid hv
        clear hv hp
        go_enter Tryd.func12, Tryd.ntmps12
        go_wp2_with fail
        refine (HV.out _).mono ?_
        rintro e w1 ⟨rfl, rfl⟩
        go_wp2_with fail
        go_ret
        exact ⟨rfl, rfl⟩
      | false =>
        rw [encB_no r hp]
        rw [hp] at hv
        have HV := Lib.hid hv
        clear hv hp
        go_enter Tryd.func12, Tryd.ntmps12
        go_wp2_with fail
        refine (HV.out _).mono ?_
        rintro e w1 ⟨rfl, rfl⟩
        go_wp2_with fail
        go_ret
        exact ⟨rfl, rfl⟩
end Go.Proofs.YtaigjiiknmgclaaDoor
