/- The columns of a table: plain words, leastLength, the iterator columnsOf. -/
import Derived.Test.YtionfjofojfaoaaDoorRangeF
import Derived.Test.YtionfjofojfaoaaDoorConcat
namespace Go.Proofs.YtionfjofojfaoaaDoor
open Go.RowKit Go.Shelf
set_option linter.unusedVariables false
attribute [local go_sem] Oper.semAt_some

/-- The least length of the first row and of the first k rows. -/
def minTo (f : Nat → List ByteArray) : Nat → Nat
  | 0 => (f 0).length
  | k + 1 => min (minTo f k) (f k).length
def leastT (f : Nat → List ByteArray) (m : Nat) : Nat := if m = 0 then 0 else minTo f m
theorem minTo_le (f : Nat → List ByteArray) (k i : Nat) (h : i < k) : minTo f k ≤ (f i).length := by
  induction k with
  | zero => omega
  | succ k ih =>
    rw [minTo]
    rcases Nat.lt_or_ge i k with h1 | h1
    · have := ih h1; omega
    · obtain rfl : i = k := by omega
      omega
theorem minTo_first (f : Nat → List ByteArray) (k : Nat) : minTo f k ≤ (f 0).length := by
  induction k with
  | zero => exact Nat.le_refl _
  | succ k ih => rw [minTo]; omega
theorem leastT_le (f : Nat → List ByteArray) (m i : Nat) (h : i < m) : leastT f m ≤ (f i).length := by
  unfold leastT
  rw [if_neg (by omega)]
  exact minTo_le f m i h
/-- Column k of the first m rows. -/
def colT (f : Nat → List ByteArray) (m k : Nat) : List ByteArray := (List.range m).map fun i => (f i).getD k ByteArray.empty
theorem colT_length (f : Nat → List ByteArray) (m k : Nat) : (colT f m k).length = m := by simp [colT]
theorem colT_get (f : Nat → List ByteArray) (m k i : Nat) (h : i < m) : (colT f m k)[i]'(by rw [colT_length]; exact h) = (f i).getD k ByteArray.empty := by simp [colT]
theorem getD_col (l : List ByteArray) (k : Nat) (h : k < l.length) : l.getD k ByteArray.empty = l[k] := by simp [List.getD_eq_getElem?_getD, List.getElem?_eq_getElem h]
theorem cast_min (a b : Nat) : ((min a b : Nat) : Int) = min (a : Int) (b : Int) := by omega
set_option maxRecDepth 100000 in
set_option maxHeartbeats 2000000 in
theorem implLeast (m : Nat) (f : Nat → List ByteArray) (rv : Value) (w : World) (hr : RdT w rv m f) (hm : m ≤ 4194304) (hf : ∀ i, (f i).length ≤ 4194304) :
    Calls Tryd.prog 52 #[rv] w fun e w' => e = .returned (.int .i64 (leastT f m : Nat)) ∧ w = w' := by
  obtain ⟨B, d, rfl, hc⟩ := hr
  rcases Nat.eq_zero_or_pos m with rfl | h0
  · clear hc
    have HR := Lib.hid (show ((leastT f 0 : Nat) : Int) = 0 from rfl)
    go_enter Tryd.func52, Tryd.ntmps52
    go_wp2
    go_ret
    exact ⟨ret_int HR.out.symm, rfl⟩
  · obtain ⟨g, o, rfl, hg, hcell⟩ := hc h0
    have HCE := Lib.hid hcell
    have HFL := Lib.hid hf
    obtain ⟨u0, hu0, hr0⟩ := hcell 0 h0
    obtain ⟨A0, c0, rfl, _⟩ := hr0
    rw [strs_length, Nat.add_zero] at hu0
    clear hc hcell hf
    have hne : ¬ (m : Int) = 0 := by omega
    go_enter Tryd.func52, Tryd.ntmps52
    go_wp2_with fail
    go_loopw [3, 15] (fun z i wr => ∃ k : Nat, k ≤ m ∧ i = .int .i64 (k : Int) ∧ z = .int .i64 ((minTo f k : Nat) : Int) ∧ wr = w) (fun _ i _ => m - (intOf i).toNat)
    case atStart => exact ⟨0, Nat.zero_le _, rfl, rfl, rfl⟩
    case round =>
      obtain ⟨k, hk, rfl, rfl, rfl⟩ := hrel
      by_cases hlt : k < m
      · obtain ⟨u, hu, hru⟩ := HCE.out k hlt
        obtain ⟨A', c', rfl, _⟩ := hru
        rw [strs_length] at hu
        have HMN : Hid (((minTo f (k + 1) : Nat) : Int) = min ((minTo f k : Nat) : Int) ((f k).length : Int)) := Lib.hid (by rw [minTo]; exact cast_min _ _)
        obtain ⟨z, hz⟩ : ∃ z, z = (f k).length := ⟨_, rfl⟩
        obtain ⟨y, hy⟩ : ∃ y, y = minTo f k := ⟨_, rfl⟩
        rw [← hz] at hu HMN
        rw [← hy] at HMN ⊢
        clear hz hy
        go_wp2_with fail
        go_roundw
        case rel => exact ⟨k + 1, by omega, by go_num, by rw [HMN.out]; split <;> (congr 1; omega), trivial⟩
        case measure => simp [intOf]; omega
      · obtain rfl : k = m := by omega
        have HR : Hid (((leastT f k : Nat) : Int) = ((minTo f k : Nat) : Int)) := Lib.hid (by unfold leastT; rw [if_neg (by omega)])
        go_wp2_with fail
        go_ret
        exact ⟨ret_int HR.out.symm, rfl⟩
set_option maxRecDepth 100000 in
theorem implColumns (B : Option Addr) (m c : Nat) (w : World) :
    Calls Tryd.prog 27 #[.slice B m c] w fun e w' => e = .returned (.func (.func 51) #[] #[.pointer (some ⟨w.heap.size, 0, none⟩)]) ∧ w' = w.alloc (.cells #[.slice B m c] 24) := by
  go_enter Tryd.func27, Tryd.ntmps27
  go_wp2
  go_ret
  exact ⟨rfl, rfl⟩
theorem copied_all' {q : Nat} {xs Z : List Value} (h : xs.length = q) (hz : Z.length = xs.length) : copied q xs Z = xs := by
  subst h
  exact copied_all _ _ hz
/-- What a round is told of what it is handed. -/
def ColIs (f : Nat → List ByteArray) (m : Nat) (k : Nat) (u : Value) (X A : World) : Prop := ∃ g, u = .slice (some ⟨g, 0, none⟩) m m ∧ A.ownsRow X.heap.size 9 1 u m (strs (colT f m k)) ∧ 0 < m
theorem ColIs.calm {f : Nat → List ByteArray} {m k B : Nat} {u : Value} {X A A' : World} (h : ColIs f m k u X A) (hc : Calm B A A') : ColIs f m k u X A' := by
  obtain ⟨g, h1, h2, h3⟩ := h
  exact ⟨g, h1, own_keeps h2 (hc.keeps _), h3⟩
/-- What the iterator reads. -/
def ColRd (b : Nat) (rv : Value) (m : Nat) (f : Nat → List ByteArray) (A : World) : Prop := A.cell? ⟨b, 0, none⟩ = some rv ∧ b < A.heap.size ∧ RdT A rv m f
theorem ColRd.below {b : Nat} {rv : Value} {m : Nat} {f : Nat → List ByteArray} {A B : World} (h : ColRd b rv m f A) (hb : Below A.heap.size A B) : ColRd b rv m f B :=
  ⟨(hb.cell (p := ⟨b, 0, none⟩) h.2.1).trans h.1, Nat.lt_of_lt_of_le h.2.1 hb.size, h.2.2.below hb⟩
theorem Tryd.infoStrCo : (Tryd.prog.info? 9).map (fun i => (i.zero, i.size, i.bytes)) = some (some (.string ByteArray.empty), 1, 16) := by kernel_rfl
set_option maxRecDepth 100000 in
set_option maxHeartbeats 4000000 in
theorem colsGive (b : Nat) (rv : Value) (m : Nat) (f : Nat → List ByteArray) (hm : m ≤ 4194304) (hf : ∀ i, (f i).length ≤ 4194304) :
    Gives Tryd.prog 51 #[.pointer (some ⟨b, 0, none⟩)] (leastT f m) (ColRd b rv m f) (ColIs f m) := by
  intro l J Jx W hJ hR hY h0
  obtain ⟨i0, hi0, hz0, hz1, hz2⟩ := info_parts Tryd.infoStrCo
  have HLE := Lib.hid (fun A (h : J 0 A) => implLeast m f rv A (hR _ _ h).2.2 hm hf)
  have HJ := Lib.hid hJ
  have HRD := Lib.hid hR
  have HY := Lib.hid hY
  have HLT := Lib.hid (fun i hi => leastT_le f m i hi)
  have HMZ : Hid (leastT f m ≠ 0 → 0 < m) := Lib.hid (by
    intro h
    rcases Nat.eq_zero_or_pos m with rfl | h0
    · exact absurd rfl h
    · exact h0)
  have hlz : leastT f m ≤ 4194304 := by
    rcases Nat.eq_zero_or_pos m with rfl | h0
    · exact Nat.zero_le _
    · exact Nat.le_trans (leastT_le f m 0 h0) (hf 0)
  obtain ⟨z, hz⟩ : ∃ z, z = leastT f m := ⟨_, rfl⟩
  rw [← hz] at HLE HY HLT HMZ hlz ⊢
  have HCA := HLE.out W h0
  have HC := Lib.hid HCA
  have H0 := Lib.hid h0
  have hrd0 := (hR _ _ h0).1
  clear hz hJ hR hY HLE HCA h0
  have hslc : ∃ A c, rv = .slice A m c := (HRD.out _ _ H0.out).2.2.slc
  obtain ⟨RA, rc, hrv⟩ := hslc
  rw [hrv] at hrd0
  have HRV := Lib.hid hrv
  clear hrv
  rw [HRV.out] at HC
  refine callsIn_of_wp Tryd.func51 rfl trivial ?_ rfl
  simp only [Tryd.ntmps51, List.size_toArray, List.length_cons, List.length_nil, Nat.reduceAdd, Nat.reduceSub, Array.replicate_succ, Array.replicate_zero, List.push_toArray, List.append_toArray, List.nil_append, List.cons_append]
  gi_wp2_with fail
  refine ⟨trivial, rfl, (inWide HC.out).mono ?_⟩
  rintro e w1 ⟨rfl, rfl⟩
  gi_wp2_with fail
  gi_loopw [9] (fun i wr => ∃ k : Nat, k ≤ z ∧ i = .int .i64 (k : Int) ∧ Hid (J k wr)) (fun i _ => z - (intOf i).toNat)
  case atStart => exact ⟨0, Nat.zero_le _, rfl, H0⟩
  case round =>
    obtain ⟨k, hk, rfl, HJK⟩ := hrel
    by_cases hlt : k < z
    · have hm0 := HMZ.out (by omega)
      obtain ⟨hcb, hbl, hrd⟩ := HRD.out _ _ HJK.out
      rw [HRV.out] at hcb hrd
      obtain ⟨RA', rc', he, hcell⟩ := hrd
      simp at he
      obtain ⟨rfl, rfl⟩ := he
      obtain ⟨g, o, rfl, hgl, hcell⟩ := hcell hm0
      have HCE := Lib.hid hcell
      obtain ⟨Z, hZ⟩ : ∃ Z, Z = (madeCells (Value.string ByteArray.empty).cells (m * 1)).toList := ⟨_, rfl⟩
      have hZl : Z.length = m := by rw [hZ]; simp [madeCells]
      have HZ := Lib.hid hZl
      have HE := Lib.hid hZ
      clear hZl hZ hcell
      gi_wp2_with (gi_at_make; refine wpListIn_make_full _ rfl _ _ 23 rfl wr.heap.size 9 i0 _ 1 Tryd.underlying23 hi0 hz0 hz1 _ _ _ _ m rfl rfl rfl rfl (by rw [hz2]; omega) (by unfold maxLen; omega) (Nat.le_refl _) ?_; intro w2 hown2 hgr2; rw [← HE.out] at hown2; have HB2 := Lib.hid ((Below.refl wr.heap.size wr).grown hgr2 (Nat.le_refl _) (by intro k hk; cases hk)); have HO2 := Lib.hid hown2; have hcb2 := (HB2.out.cell (p := ⟨b, 0, none⟩) hbl).trans hcb; clear hgr2 hown2)
      obtain ⟨wo, rfl⟩ : ∃ wo : World, wo = wr := ⟨_, rfl⟩
      gi_loopw [17] (fun i W2 => ∃ q : Nat, q ≤ m ∧ i = .int .i64 (q : Int) ∧ Hid (W2.ownsRow wo.heap.size 9 1 (.slice (some ⟨wo.heap.size, 0, none⟩) m m) m (copied q (strs (colT f m k)) Z)) ∧ Hid (Below wo.heap.size wo W2)) (fun i _ => m - (intOf i).toNat)
      case atStart => exact ⟨0, Nat.zero_le _, rfl, Lib.hid (by rw [copied_zero]; exact HO2.out), HB2⟩
      case round =>
        obtain ⟨q, hq, rfl, HO, HBE⟩ := hrel
        by_cases hltq : q < m
        · obtain ⟨u, hcu, hru⟩ := HCE.out q hltq
          have hcu := (HBE.out.cell (p := ⟨g, o + q, none⟩) hgl).trans hcu
          have hru := hru.below HBE.out
          have hkl : k < (f q).length := by have := HLT.out q hltq; omega
          obtain ⟨A', c', rfl, hA'⟩ := hru
          rw [strs_length] at hcu hA'
          obtain ⟨g', o', rfl, hg', hcell'⟩ := hA' (by omega)
          have hcx := hcell' k _ (strs_get _ k hkl)
          obtain ⟨y, hy⟩ : ∃ y, wr.cell? ⟨wo.heap.size, q, none⟩ = some y := ⟨_, (HO.out.cellAt q (by omega)).trans (List.getElem?_eq_getElem (by rw [own_len HO.out]; exact hltq))⟩
          have hfz : wr.frozen? ⟨wo.heap.size, q, none⟩ = false := HO.out.frozenAt q
          have hst := (HO.out.stored q (.string (f q)[k])).1
          have hcs := copied_step q (strs (colT f m k)) Z (by rw [strs_length, HZ.out, colT_length]) (by rw [strs_length, colT_length]; exact hltq)
          have hgk : (strs (colT f m k))[q]'(by rw [strs_length, colT_length]; exact hltq) = .string (f q)[k] := by
            have h1 := colT_get f m k q hltq
            rw [getD_col _ _ hkl] at h1
            simp [strs, h1]
          rw [hgk] at hcs
          rw [hcs] at hst
          have HST := Lib.hid hst
          have HB3 := Lib.hid (HBE.out.setCell (p := ⟨wo.heap.size, q, none⟩) (Nat.le_refl _) (.string (f q)[k]))
          obtain ⟨x, hxe⟩ : ∃ x, x = (f q)[k] := ⟨_, rfl⟩
          rw [← hxe] at hcx HST HB3
          have hkl2 : (k : Int) < ((f q).length : Int) := by omega
          obtain ⟨zq, hzq⟩ : ∃ zq, zq = (f q).length := ⟨_, rfl⟩
          rw [← hzq] at hcu hkl hkl2
          clear hst hcs hgk hxe hcell' hA' hzq
          gi_wp2_with fail
          go_roundw
          case rel => exact ⟨q + 1, by omega, by go_num, HST, HB3⟩
          case measure => simp [intOf]; omega
        · obtain rfl : q = m := by omega
          have hcol : ColIs f q k (.slice (some ⟨wo.heap.size, 0, none⟩) q q) wo wr := ⟨_, rfl, by
            have ho := HO.out
            rw [copied_all' (by rw [strs_length, colT_length]) (by rw [strs_length, HZ.out, colT_length])] at ho
            exact ho, hm0⟩
          obtain ⟨fn, tmps, assign, body, hy, hRnd⟩ := HY.out k _ wo wr hlt HJK.out HBE.out hcol
          have HRND := Lib.hid hRnd
          clear hcol hRnd
          gi_wp2_with fail
          refine ⟨rfl, HRND.out.mono ?_⟩
          rintro e W3 (⟨rfl, hj3⟩ | ⟨rfl, hj3⟩)
          · have HJ3 := Lib.hid hj3
            clear hj3
            gi_wp2_with fail
            go_roundw
            case rel => exact ⟨k + 1, by omega, by go_num, HJ3⟩
            case measure => simp [intOf]; omega
          · have HJ3 := Lib.hid hj3
            clear hj3
            gi_wp2_with fail
            refine bodyPost_ret (results_none rfl _ _ _) rfl ?_
            exact ⟨⟨_, rfl⟩, .inr HJ3.out⟩
    · obtain rfl : k = z := by omega
      gi_wp2
      go_end0
      exact ⟨⟨_, rfl⟩, .inl HJK.out⟩
end Go.Proofs.YtionfjofojfaoaaDoor
