/- What strconv.Atoi gives, as far as ParseInt needs it. -/
import Derived.Test.YtjdbkpckhgncbaaDoorShelf
import Derived.Test.YtjdbkpckhgncbaaDoorImplFmt
import Derived.Test.YtjdbkpckhgncbaaDoorBA
import Derived.Lib.AtoiAllCases
namespace Go.Proofs.YtjdbkpckhgncbaaDoor
open Go.RowKit Go.Lib

theorem parse_digits : ∀ (l : List UInt8) (acc : Nat), l.all isDig = true → l.foldl (fun a c => a * 10 + (c.toNat - 48)) acc < 18446744073709551616 → parseUint10 acc l = .ok (l.foldl (fun a c => a * 10 + (c.toNat - 48)) acc)
  | [], acc, _, _ => rfl
  | c :: l, acc, hd, hb => by
    simp only [List.all_cons, Bool.and_eq_true] at hd
    have hc := (isDig_iff c).1 hd.1
    simp only [List.foldl_cons] at hb ⊢
    have hm := nval_mono l (acc * 10 + (c.toNat - 48))
    rw [parseUint10, if_pos hc, if_neg (by omega), if_neg (by omega)]
    exact parse_digits l _ hd.2 hb
theorem parse_dec (m : Nat) (h : m < 18446744073709551616) : parseMag (decDigits m) = .ok m := by
  unfold parseMag
  rw [if_neg (decDigits_ne m), parse_digits _ 0 (decDigits_digits m) (by have := nval_decDigits m; unfold nval at this; omega)]
  exact congrArg NumEnd.ok (nval_decDigits m)
theorem atoi_itoa (v : Int) (h : InInt v) : atoiAll (itoa v) = .ok v := by
  unfold InInt at h
  rcases Int.lt_or_le v 0 with hn | hn
  · obtain ⟨m, rfl⟩ : ∃ m : Nat, v = -(m : Int) := ⟨v.natAbs, by omega⟩
    rw [itoa_neg m (by omega), atoiAll_minus, parse_dec m (by omega)]
    show (if 9223372036854775808 < m then NumEnd.range else NumEnd.ok (-(m : Int))) = _
    rw [if_neg (by omega)]
  · obtain ⟨m, rfl⟩ := Int.eq_ofNat_of_zero_le hn
    rw [itoa_nat]
    have hp := parse_dec m (by omega)
    cases hx : decDigits m with
    | nil => exact absurd hx (decDigits_ne m)
    | cons c r =>
      have hc := decDigits_head m c r hx
      rw [hx] at hp
      rw [atoiAll_plain c r (by omega) (by omega), hp]
      show (if 9223372036854775808 ≤ m then NumEnd.range else NumEnd.ok (m : Int)) = _
      rw [if_neg (by omega)]
theorem atoi_num {s : ByteArray} {v : Int} (h : IsNum s v) : atoiAll s.data.toList = .ok v := by
  obtain ⟨h1, rfl⟩ := h
  exact atoi_itoa v h1
theorem atoi_not {s : ByteArray} (h : ∀ v, atoiAll s.data.toList ≠ .ok v) : NoNum s := fun v hv he => h v (atoi_num ⟨hv, he⟩)

/-- The library's two errors are there. -/
def Errs (w : World) : Prop := (∃ tp p, w.var? Tryd.prog "strconv.ErrSyntax" = some #[.iface tp p]) ∧ ∃ tp p, w.var? Tryd.prog "strconv.ErrRange" = some #[.iface tp p]

/-- How Atoi ends. -/
def AtoiEnd (s : ByteArray) (e : Ending) : Prop :=
  (∃ v, atoiAll s.data.toList = .ok v ∧ e = .returned (.tuple #[.int .i64 v, .nilIface])) ∨ ((∀ v, atoiAll s.data.toList ≠ .ok v) ∧ ∃ x t p, e = .returned (.tuple #[.int .i64 x, .iface t p]))

theorem below_bytesWorld (w : World) (e : TypeId) (t : ByteArray) : Below w.heap.size w (bytesWorld w e t) := by
  unfold bytesWorld
  refine ⟨?_, ?_, ?_, ?_, fun k hk => ?_⟩
  · unfold World.freeze; split <;> rfl
  · unfold World.freeze; split <;> rfl
  · unfold World.freeze; split <;> rfl
  · unfold World.freeze; split <;> simp
  · unfold World.freeze
    split
    · exact Below.heap_alloc _ _ k hk
    · show ((w.drew.alloc _).heap.modify w.heap.size _)[k]? = _
      rw [Array.getElem?_modify, if_neg (by omega)]
      exact Below.heap_alloc _ _ k hk

theorem atoi_any (s : ByteArray) (w : World) (hs : s.size ≤ 1048576) (hE : Errs w) :
    Calls Tryd.prog 86 #[.string s] w fun e w' => AtoiEnd s e ∧ Below w.heap.size w w' := by
  obtain ⟨⟨tp, p, h1⟩, tq, q, h2⟩ := hE
  cases hx : atoiAll s.data.toList
  · rename_i v
    refine (Tryd.strconv_Atoi_ok s (by omega) v hx w).mono ?_
    rintro e w' ⟨rfl, hw⟩
    refine ⟨.inl ⟨v, hx, rfl⟩, ?_⟩
    rcases hw with rfl | ⟨t, rfl⟩
    · exact Below.refl _ _
    · exact below_bytesWorld _ _ _
  · refine (Any.strconv_Atoi_syntax_var Tryd.laysC172 s (by omega) hx tp p w h1).mono ?_
    rintro e w' ⟨N, rfl, _, _, hb⟩
    exact ⟨.inr ⟨(fun v hv => by cases hx.symm.trans hv), _, _, _, rfl⟩, hb⟩
  · refine (Tryd.strconv_Atoi_range_var s (by omega) hx tq q w h2).mono ?_
    rintro e w' ⟨N, rfl, _, _, hb⟩
    exact ⟨.inr ⟨(fun v hv => by cases hx.symm.trans hv), _, _, _, rfl⟩, hb⟩
end Go.Proofs.YtjdbkpckhgncbaaDoor
