/- MakeChunks of the model's package cuts a text into short pieces. -/
import Derived.Test.YtooanejiadbngaaGreatDoorBE
import Derived.Test.YtooanejiadbngaaGreatDoorWrMath
namespace Go.Proofs.YtooanejiadbngaaGreatDoor
open Go.RowKit
set_option linter.unusedVariables false

theorem CurB.under {w0 w w' : World} {p B : Nat} {A : Option Addr} {len cap : Nat} {zs : List Int} (h : CurB w0 w p A len cap zs) (hp : p < B) (hb : Below B w w') : CurB w0 w' p A len cap zs :=
  ⟨h.base, h.at_.below hb hp, h.old.trans (hb.mono (by have := h.base; omega)), h.bytes⟩
/-- The length of a text value. -/
def strLen : Value → Nat
  | .string b => b.size
  | _ => 0
theorem run_cutHead (s : ByteArray) (c : Nat) (hc : c ≤ s.size) (w : World) :
    (Instr.slice 9 (.string s) none (some (.int .i64 (c : Int))) none).run Tryz.prog w = .ok (.string (s.extract 0 c)) w := by
  rw [run_slice_string_h (P := Tryz.prog) (w := w) (t := 9) (s := s) (ht := Tryz.underlying9) .i64 _ (by omega) (by omega)]
  rw [Int.toNat_natCast]
theorem run_cutTail (s : ByteArray) (c : Nat) (hc : c ≤ s.size) (w : World) :
    (Instr.slice 9 (.string s) (some (.int .i64 (c : Int))) none none).run Tryz.prog w = .ok (.string (s.extract c s.size)) w := by
  rw [run_slice_string_l (P := Tryz.prog) (w := w) (t := 9) (s := s) (ht := Tryz.underlying9) .i64 _ (by omega) (by omega)]
  rw [Int.toNat_natCast]
theorem cat_cut (l : List ByteArray) (r : ByteArray) (c : Nat) : catB (l ++ [r.extract 0 c]) ++ r.extract c r.size = catB l ++ r := by
  rw [catB_append]
  apply bytes_ext
  have h : r.data.toList.length = r.size := rfl
  simp [catB]
  exact List.take_of_length_le (by omega)
theorem empty_noM {x : ByteArray} (h : x ≠ ⟨#[]⟩) : x.toList.isEmpty = false := by
  cases hx : x.toList with
  | nil => exact absurd (bytes_inj (hx.trans (by rw [ByteArray.toList_eq]))) h
  | cons a l => rfl
set_option maxRecDepth 100000 in
set_option maxHeartbeats 2000000 in
theorem makeChunks_any (n : Nat) (A : Option Addr) (len cap : Nat) (zs : List Int) (s : ByteArray) (w : World) (hz : IsBytes w A len cap zs) (hn : n ≤ 200) (hs : s.size ≤ 1000000) :
    Calls Tryz.prog 9 #[.slice A len cap, .int .i64 (n : Int), .string s] w fun e w' => ∃ (l : List ByteArray) (v : Value), catB l = s ∧ l.length ≤ s.size ∧ e = .returned v ∧ w'.ownsRow w.heap.size 9 1 v l.length (strs l) ∧ Below w.heap.size w w' := by
  have HN := Lib.hid (new24_cur n A len cap zs w hz (by omega))
  obtain ⟨i0, hi0, hz0, hz1, hz2⟩ := info_parts Tryz.infoStr
  clear hz
  go_enter Tryz.func9, Tryz.ntmps9
  go_wp2_with fail
  refine HN.out.mono ?_
  rintro e w1 ⟨p, rfl, hc1⟩
  have HC1 := Lib.hid hc1
  have hp1 := hc1.lt
  have B1 := Lib.hid hc1.old
  clear hc1
  go_wp2_with fail
  go_loopw [2, 8, 9] (fun q o _ wr => ∃ (l : List ByteArray) (r : ByteArray) (vo : Value), vo = o ∧ q = .string r ∧ Hid (catB l ++ r = s) ∧ l.length + r.size ≤ s.size ∧ Hid (wr.ownsRow w1.heap.size 9 1 vo l.length (strs l)) ∧ Hid (CurB w wr p A len cap zs) ∧ w1.heap.size ≤ wr.heap.size) (fun q _ _ _ => strLen q)
  case atStart => exact ⟨[], s, _, rfl, rfl, Lib.hid (bytes_ext (by simp [catB])), by simp, Lib.hid (World.ownsRow_lit w1 _ 0 (Nat.le_refl _) (by unfold maxLen; omega) rfl), Lib.hid (HC1.out.under hp1 ((Below.refl _ _).alloc (Nat.le_refl _) _)), by simp⟩
  case round =>
    obtain ⟨l, r, vo, rfl, rfl, HCAT, hlr, HO, HC, hw1⟩ := hrel
    by_cases hr : r = ⟨#[]⟩
    · subst hr
      go_wp2_with fail
      go_ret
      exact ⟨l, _, by have := HCAT.out; rw [← this]; exact bytes_ext (by simp), Nat.le_trans (Nat.le_add_right _ _) hlr, rfl, own_base HO.out B1.out.size, HC.out.old⟩
    · have hE := empty_noM hr
      have hrs : 0 < r.size := by
        rcases Nat.eq_zero_or_pos r.size with h | h
        · exact absurd (bytes_ext (by show r.data.toList = []; exact List.eq_nil_of_length_eq_zero h)) hr
        · exact h
      have HBC := Lib.hid (below_cur 5 wr HC.out (by omega) (by omega))
      clear hr
      go_wp2_with fail
      refine HBC.out.mono ?_
      rintro e w3 ⟨x, hx0, hx1, rfl, hc3, hg3⟩
      have HC3 := Lib.hid hc3
      have hbase3 : w1.heap.size ≤ w3.heap.size := Nat.le_trans hw1 hg3.size
      have HO3 := Lib.hid (HO.out.kept hg3 (by
        rcases hv : vo.ownBlock with _ | b
        · exact .inl rfl
        · exact .inr (fun he => by injection he with he; have := (HO.out.lt b hv).1; omega)))
      clear hc3 hg3
      obtain ⟨kk, hkk⟩ : ∃ kk : Nat, (kk : Int) = 1 + x := ⟨(1 + x).toNat, by omega⟩
      have hwk : IntKind.i64.wrap (1 + x) = (kk : Int) := by rw [hkk]; exact IntWalk.i64_in _ (by omega)
      have hk1 : 1 ≤ kk := by omega
      have hll : l.length ≤ 1000000 := by omega
      clear hkk
      by_cases hgt : (r.size : Int) < (kk : Int)
      · have e1 : r.extract 0 r.size = r := bytes_ext (by have h : r.data.toList.length = r.size := rfl; simp)
        have e2 : r.extract r.size r.size = ⟨#[]⟩ := bytes_ext (by simp)
        have hh := fun W => run_cutHead r r.size (Nat.le_refl _) W
        have ht := fun W => run_cutTail r r.size (Nat.le_refl _) W
        have HST := Lib.hid (cat_cut l r r.size)
        rw [e1] at hh HST
        rw [e2] at ht HST
        clear e1 e2
        have OC := HO3.out
        go_wp2_with (at_builtin; refine append_one rfl _ _ 30 rfl w1.heap.size 9 i0 _ 16 Tryz.underlying30 hi0 hz0 hz1 hz2 rfl vo _ _ rfl w3 (.string r) rfl rfl OC (by omega) (by omega) hbase3 ?_; intro v4 w4 hown4 hbel4; have HO4 := Lib.hid hown4; have HB4 := Lib.hid hbel4; clear hown4 hbel4)
        go_roundw
        case rel => exact ⟨l ++ [r], ⟨#[]⟩, v4, rfl, rfl, Lib.hid (by rw [HST.out]; exact HCAT.out), by rw [List.length_append]; show l.length + 1 + 0 ≤ _; omega, Lib.hid (by rw [strs_snoc2, List.length_append]; exact HO4.out), Lib.hid (HC3.out.under hp1 HB4.out), Nat.le_trans hbase3 HB4.out.size⟩
        case measure => show 0 < r.size; exact hrs
      · have hh := fun W => run_cutHead r kk (by omega) W
        have ht := fun W => run_cutTail r kk (by omega) W
        have HST := Lib.hid (cat_cut l r kk)
        have hsz : (r.extract kk r.size).size = r.size - kk := by rw [ByteArray.size_extract]; omega
        have HSZ := Lib.hid hsz
        clear hsz
        have OC := HO3.out
        go_wp2_with (at_builtin; refine append_one rfl _ _ 30 rfl w1.heap.size 9 i0 _ 16 Tryz.underlying30 hi0 hz0 hz1 hz2 rfl vo _ _ rfl w3 (.string (r.extract 0 kk)) rfl rfl OC (by omega) (by omega) hbase3 ?_; intro v4 w4 hown4 hbel4; have HO4 := Lib.hid hown4; have HB4 := Lib.hid hbel4; clear hown4 hbel4)
        go_roundw
        case rel => exact ⟨l ++ [r.extract 0 kk], r.extract kk r.size, v4, rfl, rfl, Lib.hid (by rw [HST.out]; exact HCAT.out), by rw [List.length_append, HSZ.out]; simp; omega, Lib.hid (by rw [strs_snoc2, List.length_append]; exact HO4.out), Lib.hid (HC3.out.under hp1 HB4.out), Nat.le_trans hbase3 HB4.out.size⟩
        case measure => show (r.extract kk r.size).size < r.size; rw [HSZ.out]; omega
end Go.Proofs.YtooanejiadbngaaGreatDoor
