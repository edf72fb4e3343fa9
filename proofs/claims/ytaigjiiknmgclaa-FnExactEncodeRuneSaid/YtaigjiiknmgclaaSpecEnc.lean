/- The model's EncodeRune, and the walk of the law on it. -/
import Derived.Test.YtaigjiiknmgclaaEnc
import Derived.Test.YtaigjiiknmgclaaSpecChars
import Derived.IntWalk
namespace Go.Proofs.Ytaigjiiknmgclaa
open Go.RowKit
set_option linter.unusedVariables false

/-- A quotient of numbers that are not negative. -/
theorem quo_eq (t : TypeId) (n m : Int) (h0 : 0 ≤ n) (h1 : n ≤ 9223372036854775807) (hm : 1 ≤ m) : binOp .quo t (.int .i64 n) (.int .i64 m) = (pure (.int .i64 (n / m)) : Sem Value) := by
  have hne : ¬ m = 0 := by omega
  simp only [binOp_quo, Op.intDiv, if_neg hne, IntWalk.i64_quo n m ⟨h0, h1, hm⟩]

/-- 'string([]byte{..})': the text of these bytes. -/
theorem someBytes (w : World) (zs : List Int) (cs : Array Value) (hcs : cs = (zs.map (Value.int .u8)).toArray) (h : ∀ z ∈ zs, 0 ≤ z ∧ z ≤ 255) :
    (convert 24 9 (.slice (some ⟨w.heap.size, 0, none⟩) zs.length zs.length)).run Try.prog (w.alloc (.cells cs 5)) = .ok (.string ⟨(zs.map fun z => UInt8.ofNat z.toNat).toArray⟩) (w.alloc (.cells cs 5)) := by
  have hr := run_convert_bytes_back (P := Try.prog) (w.alloc (.cells cs 5)) 24 9 5 ⟨w.heap.size, 0, none⟩ zs.length (zs.map fun z => UInt8.ofNat z.toNat) Try.underlying24 Try.underlying5 Try.underlying9 (by
    intro j hj
    rw [List.length_map] at hj
    have hz := h zs[j] (List.getElem_mem hj)
    have e1 : ((⟨w.heap.size, 0, none⟩ : Addr).add j) = ⟨w.heap.size, j, none⟩ := by simp [Addr.add_lit]
    rw [e1, cell_of_row _ w.heap.size j cs 5 (0, 0) (heap_alloc_new w _), hcs]
    simp only [List.getElem?_toArray, List.getElem?_map, List.getElem?_eq_getElem hj, Option.map_some, List.getElem_map]
    simp
    omega)
  rw [List.length_map] at hr
  exact hr

set_option maxRecDepth 100000 in
set_option maxHeartbeats 1000000 in
theorem specEncodeRune (r : Int) (w : World) :
    Calls Try.prog 4 #[.int .i64 r] w fun e w' => e = .returned (.string (encB r)) ∧ Below w.heap.size w w' := by
  have hpt := fun w => l02Point_any r w
  cases hp : pointB r with
  | false =>
    rw [encB_no r hp]
    rw [hp] at hpt
    have HP := Lib.hid hpt
    clear hpt hp
    go_enter Try.func4, Try.ntmps4
    go_wp2_with fail
    refine (HP.out _).mono ?_
    rintro e w1 ⟨rfl, rfl⟩
    go_wp2_with fail
    go_ret
    exact ⟨rfl, Below.refl _ _⟩
  | true =>
    have hp2 := (pointB_iff r).1 hp
    obtain ⟨n, hn⟩ := Int.eq_ofNat_of_zero_le hp2.1.1
    have hr0 : 0 ≤ r := hp2.1.1
    have hr1 : r ≤ 1114111 := hp2.1.2
    rw [encB_yes _ hp]
    have he := enc_cases n (by rw [← hn]; exact hp)
    rw [← hn] at he
    obtain ⟨x, hx⟩ : ∃ x, x = Utf8.encode r := ⟨_, rfl⟩
    rw [← hx] at he ⊢
    rw [hp] at hpt
    have HP := Lib.hid hpt
    have HE := Lib.hid he
    have HN := Lib.hid hn
    clear hpt hp he hx hp2
    by_cases h1 : r < 128
    · have k1 : n < 128 := by omega
      clear hn
      have hcv := fun w => someBytes w [r] #[.int .u8 (r)] rfl (by intro z hz; simp only [List.mem_cons, List.not_mem_nil, or_false] at hz; omega)
      simp only [List.length_cons, List.length_nil, Nat.zero_add] at hcv
      have HX : Hid (x = ⟨([r].map fun z => UInt8.ofNat z.toNat).toArray⟩) := Lib.hid (by have hn := HN.out; subst hn; rw [HE.out, if_pos k1]; rfl)
      clear k1
      go_enter Try.func4, Try.ntmps4
      go_wp2_with fail
      refine (HP.out _).mono ?_
      rintro e w1 ⟨rfl, rfl⟩
      go_wp2_with fail
      go_ret
      exact ⟨ret_string (by rw [HX.out]; rfl), (Below.refl _ _).alloc (Nat.le_refl _) _⟩
    · by_cases h2 : r < 2048
      · have k1 : ¬ n < 128 := by omega
        have k2 : n < 2048 := by omega
        clear hn
        have hcv := fun w => someBytes w [192 + r / 64, 128 + r % 64] #[.int .u8 (192 + r / 64), .int .u8 (128 + r % 64)] rfl (by intro z hz; simp only [List.mem_cons, List.not_mem_nil, or_false] at hz; omega)
        simp only [List.length_cons, List.length_nil, Nat.zero_add, Nat.reduceAdd] at hcv
        have HX : Hid (x = ⟨([192 + r / 64, 128 + r % 64].map fun z => UInt8.ofNat z.toNat).toArray⟩) := Lib.hid (by have hn := HN.out; subst hn; rw [HE.out, if_neg k1, if_pos k2]; rfl)
        clear k1 k2
        go_enter Try.func4, Try.ntmps4
        go_wp2_with fail
        refine (HP.out _).mono ?_
        rintro e w1 ⟨rfl, rfl⟩
        go_wp2_with fail
        go_ret
        exact ⟨ret_string (by rw [HX.out]; rfl), (Below.refl _ _).alloc (Nat.le_refl _) _⟩
      · by_cases h3 : r < 65536
        · have k1 : ¬ n < 128 := by omega
          have k2 : ¬ n < 2048 := by omega
          have k3 : n < 65536 := by omega
          clear hn
          have hcv := fun w => someBytes w [224 + r / 4096, 128 + r / 64 % 64, 128 + r % 64] #[.int .u8 (224 + r / 4096), .int .u8 (128 + r / 64 % 64), .int .u8 (128 + r % 64)] rfl (by intro z hz; simp only [List.mem_cons, List.not_mem_nil, or_false] at hz; omega)
          simp only [List.length_cons, List.length_nil, Nat.zero_add, Nat.reduceAdd] at hcv
          have HX : Hid (x = ⟨([224 + r / 4096, 128 + r / 64 % 64, 128 + r % 64].map fun z => UInt8.ofNat z.toNat).toArray⟩) := Lib.hid (by have hn := HN.out; subst hn; rw [HE.out, if_neg k1, if_neg k2, if_pos k3]; rfl)
          clear k1 k2 k3
          go_enter Try.func4, Try.ntmps4
          go_wp2_with fail
          refine (HP.out _).mono ?_
          rintro e w1 ⟨rfl, rfl⟩
          go_wp2_with fail
          go_ret
          exact ⟨ret_string (by rw [HX.out]; rfl), (Below.refl _ _).alloc (Nat.le_refl _) _⟩
        · have k1 : ¬ n < 128 := by omega
          have k2 : ¬ n < 2048 := by omega
          have k3 : ¬ n < 65536 := by omega
          clear hn
          have hcv := fun w => someBytes w [240 + r / 262144, 128 + r / 4096 % 64, 128 + r / 64 % 64, 128 + r % 64] #[.int .u8 (240 + r / 262144), .int .u8 (128 + r / 4096 % 64), .int .u8 (128 + r / 64 % 64), .int .u8 (128 + r % 64)] rfl (by intro z hz; simp only [List.mem_cons, List.not_mem_nil, or_false] at hz; omega)
          simp only [List.length_cons, List.length_nil, Nat.zero_add, Nat.reduceAdd] at hcv
          have HX : Hid (x = ⟨([240 + r / 262144, 128 + r / 4096 % 64, 128 + r / 64 % 64, 128 + r % 64].map fun z => UInt8.ofNat z.toNat).toArray⟩) := Lib.hid (by have hn := HN.out; subst hn; rw [HE.out, if_neg k1, if_neg k2, if_neg k3]; rfl)
          clear k1 k2 k3
          go_enter Try.func4, Try.ntmps4
          go_wp2_with fail
          refine (HP.out _).mono ?_
          rintro e w1 ⟨rfl, rfl⟩
          go_wp2_with fail
          go_ret
          exact ⟨ret_string (by rw [HX.out]; rfl), (Below.refl _ _).alloc (Nat.le_refl _) _⟩

set_option maxHeartbeats 400000 in
theorem law_FnExactEncodeRune (r : Int) (hr : (Lit.int .i64 r).wf = true) (w : World) :
    Calls Try.prog 3 #[.int .i64 r] w fun e w' => e = .returned (.bool true) ∧ Below w.heap.size w w' := by
  have hspec := fun W => specEncodeRune r W
  have himpl := fun W => implEncodeRune r W
  obtain ⟨x, hx⟩ : ∃ x, x = encB r := ⟨_, rfl⟩
  rw [← hx] at hspec himpl
  have HSP := Lib.hid hspec
  have HIM := Lib.hid himpl
  have hno := str_ne_no (rfl : x = x)
  clear hspec himpl hx hr
  go_enter Try.func3, Try.ntmps3
  go_wp2_with fail
  refine (HSP.out _).mono ?_
  rintro e w1 ⟨rfl, hb1⟩
  have B1 := Lib.hid hb1
  clear hb1
  go_wp2_with fail
  refine (HIM.out _).mono ?_
  rintro e w2 ⟨rfl, rfl⟩
  go_wp2_with fail
  go_ret
  exact ⟨rfl, B1.out⟩
end Go.Proofs.Ytaigjiiknmgclaa
