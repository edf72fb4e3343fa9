/- EncodeRune: the model's and the program's give the same text. -/
import Derived.Test.YtjdbkpckhgncbaaDoorBA
import Derived.Test.YtjdbkpckhgncbaaDoorShelf
namespace Go.Proofs.YtjdbkpckhgncbaaDoor
open Go.RowKit
set_option linter.unusedVariables false

/-- What EncodeRune answers. -/
def encB (r : Int) : ByteArray := if pointB r = true then Utf8.encode r else ⟨#[]⟩
theorem valid_point (r : Int) (h : pointB r = true) : Utf8.valid r = true := by
  rw [pointB_iff] at h
  unfold Utf8.valid
  simp only [Bool.or_eq_true, Bool.and_eq_true, decide_eq_true_iff]
  omega
theorem enc_cases (n : Nat) (h : pointB (n : Int) = true) : Utf8.encode (n : Int) =
    if n < 128 then ⟨#[UInt8.ofNat n]⟩ else if n < 2048 then ⟨#[UInt8.ofNat (192 + n / 64), UInt8.ofNat (128 + n % 64)]⟩
    else if n < 65536 then ⟨#[UInt8.ofNat (224 + n / 4096), UInt8.ofNat (128 + n / 64 % 64), UInt8.ofNat (128 + n % 64)]⟩
    else ⟨#[UInt8.ofNat (240 + n / 262144), UInt8.ofNat (128 + n / 4096 % 64), UInt8.ofNat (128 + n / 64 % 64), UInt8.ofNat (128 + n % 64)]⟩ := by
  unfold Utf8.encode
  rw [if_pos (valid_point _ h), Int.toNat_natCast]
theorem encB_yes (r : Int) (h : pointB r = true) : encB r = Utf8.encode r := if_pos h
theorem encB_no (r : Int) (h : pointB r = false) : encB r = ⟨#[]⟩ := if_neg (by rw [h]; decide)

end Go.Proofs.YtjdbkpckhgncbaaDoor
