/- Tables of texts that come in: what reads as one, how much it is, its copy. -/
import Derived.Test.YtionfjofojfaoaaDoorOwnT
import Derived.Test.YtionfjofojfaoaaDoorTextIn
import Derived.Handy
namespace Go.Proofs.YtionfjofojfaoaaDoor
open Go.RowKit
set_option linter.unusedVariables false

/-- The slice value v reads as a table of n rows. -/
def RdT (W : World) (v : Value) (n : Nat) (f : Nat → List ByteArray) : Prop :=
  ∃ (A : Option Addr) (cap : Nat), v = .slice A n cap ∧ (0 < n → ∃ g o, A = some ⟨g, o, none⟩ ∧ g < W.heap.size ∧ ∀ i, i < n → ∃ u, W.cell? ⟨g, o + i, none⟩ = some u ∧ Rd W u (strs (f i)))
theorem RdT.keep {w w' : World} {v : Value} {n : Nat} {f : Nat → List ByteArray} (h : RdT w v n f) (hs : w.heap.size ≤ w'.heap.size) (hk : ∀ p : Addr, p.block < w.heap.size → w'.cell? p = w.cell? p) : RdT w' v n f := by
  obtain ⟨A, c, hv, hc⟩ := h
  refine ⟨A, c, hv, fun h0 => ?_⟩
  obtain ⟨g, o, hA, hg, hcell⟩ := hc h0
  refine ⟨g, o, hA, by omega, fun i hi => ?_⟩
  obtain ⟨u, h1, h2⟩ := hcell i hi
  exact ⟨u, (hk _ hg).trans h1, h2.keep hs hk⟩
theorem RdT.below {w w' : World} {v : Value} {n : Nat} {f : Nat → List ByteArray} (h : RdT w v n f) (hb : Below w.heap.size w w') : RdT w' v n f := h.keep hb.size fun _ hp => hb.cell hp
theorem RdT.slc {w : World} {v : Value} {n : Nat} {f : Nat → List ByteArray} (h : RdT w v n f) : ∃ A c, v = .slice A n c := by
  obtain ⟨A, c, hv, _⟩ := h
  exact ⟨A, c, hv⟩
theorem OwnT.rd {W : World} {base top : Nat} {v : Value} {n : Nat} {f : Nat → List ByteArray} (h : OwnT W base top v n f) : RdT W v n f := by
  obtain ⟨vs, a, b, c, d⟩ := h
  have hvl : vs.length = n := own_len a
  obtain ⟨A, ca, hv, hc⟩ := Rd.of_own a
  rw [hvl] at hv hc
  refine ⟨A, ca, hv, fun h0 => ?_⟩
  obtain ⟨g, o, hA, hg, hcell⟩ := hc h0
  refine ⟨g, o, hA, hg, fun i hi => ?_⟩
  have hu := List.getElem?_eq_getElem (l := vs) (i := i) (by omega)
  exact ⟨_, hcell i _ hu, Rd.of_own (c i _ hu).1⟩
/-- How much a table is. -/
def szRows (f : Nat → List ByteArray) : Nat → Nat → Int → Int
  | _, 0, l => l
  | i, m + 1, l => if szL (f i) l < 0 then -1 else szRows f (i + 1) m (szL (f i) l)
def szT (n : Nat) (f : Nat → List ByteArray) (left : Int) : Int := if left - n < 0 then -1 else szRows f 0 n (left - n)
def totT (f : Nat → List ByteArray) : Nat → Nat
  | 0 => 0
  | j + 1 => totT f j + ((f j).length + tot (f j))
theorem szL_up (xs : List ByteArray) (l : Int) (h : 0 ≤ szL xs l) : szL xs l = l - xs.length - tot xs := by
  have key : ∀ (xs : List ByteArray) (l : Int), 0 ≤ szGo xs l → szGo xs l = l - tot xs := by
    intro xs
    induction xs with
    | nil => intro l _; simp [szGo, tot]
    | cons x r ih =>
      intro l h
      unfold szGo at h ⊢
      split at h
      · omega
      · rename_i hh
        rw [if_neg hh, ih _ h]
        simp only [tot]
        omega
  unfold szL at h ⊢
  split at h
  · omega
  · rename_i hh
    rw [if_neg hh, key _ _ h]
theorem szRows_le (f : Nat → List ByteArray) : ∀ (m i : Nat) (l : Int), 0 ≤ l → 0 ≤ szRows f i m l → (totT f (i + m) : Int) ≤ totT f i + l
  | 0, i, l, h0, _ => by simp; omega
  | m + 1, i, l, h0, h => by
    rw [szRows] at h
    split at h
    · omega
    · rename_i hh
      have h1 := szL_up (f i) l (by omega)
      have ih := szRows_le f m (i + 1) _ (by omega) h
      have e : i + (m + 1) = i + 1 + m := by omega
      rw [e]
      have e2 : totT f (i + 1) = totT f i + ((f i).length + tot (f i)) := rfl
      omega
theorem szT_le (n : Nat) (f : Nat → List ByteArray) (l : Int) (h : 0 ≤ szT n f l) : (n : Int) ≤ l ∧ (totT f n : Int) + n ≤ l := by
  unfold szT at h
  split at h
  · omega
  · have h1 := szRows_le f n 0 (l - n) (by omega) h
    rw [Nat.zero_add] at h1
    have : totT f 0 = 0 := rfl
    omega
theorem totT_row (f : Nat → List ByteArray) (n i : Nat) (h : i < n) : (f i).length + tot (f i) ≤ totT f n := by
  induction n with
  | zero => omega
  | succ n ih =>
    have e : totT f (n + 1) = totT f n + ((f n).length + tot (f n)) := rfl
    rcases Nat.lt_or_ge i n with h1 | h1
    · have := ih h1; omega
    · obtain rfl : i = n := by omega
      omega
set_option maxRecDepth 100000 in
set_option maxHeartbeats 1000000 in
theorem szStringSS_any (n : Nat) (f : Nat → List ByteArray) (left : Int) (v : Value) (w : World) (hr : RdT w v n f) (h0 : 0 ≤ left) (h1 : left ≤ 1048576) (hn : n ≤ 9223372036854775807) (hx : ∀ i, i < n → (f i).length ≤ 9223372036854775807 ∧ ∀ x ∈ f i, x.size ≤ 9223372036854775807) :
    Calls Tryd.prog 36 #[v, .int .i64 left] w fun e w' => e = .returned (.int .i64 (szT n f left)) ∧ w = w' := by
  have HQ := Lib.hid (fun i (hi : i < n) l v W hr a b => szStringS_any (f i) l v W hr a b (hx i hi).1 (hx i hi).2)
  obtain ⟨A, c, rfl, hA⟩ := hr
  have HA := Lib.hid hA
  clear hA hx
  by_cases hneg : left - (n : Int) < 0
  · have HF : Hid (szT n f left = -1) := Lib.hid (by unfold szT; rw [if_pos hneg])
    go_enter Tryd.func36, Tryd.ntmps36
    go_wp2
    go_ret
    exact ⟨ret_int HF.out.symm, rfl⟩
  · have HF : Hid (szT n f left = szRows f 0 n (left - n)) := Lib.hid (by unfold szT; rw [if_neg hneg])
    go_enter Tryd.func36, Tryd.ntmps36
    go_wp2
    go_loopw [1, 5] (fun l i wr => ∃ (k : Nat) (m : Int), k ≤ n ∧ i = .int .i64 (k : Int) ∧ l = .int .i64 m ∧ 0 ≤ m ∧ m ≤ left ∧ Hid (szRows f k (n - k) m = szRows f 0 n (left - n)) ∧ wr = w) (fun _ i _ => n - (intOf i).toNat)
    case atStart => exact ⟨0, left - n, Nat.zero_le _, rfl, rfl, by omega, by omega, Lib.hid rfl, rfl⟩
    case round =>
      obtain ⟨k, m, hk, rfl, rfl, hm0, hm1, HG, rfl⟩ := hrel
      by_cases hlt : k < n
      · obtain ⟨g, o, rfl, hg, hc⟩ := HA.out (by omega)
        obtain ⟨u, hu, hru⟩ := hc k hlt
        have hcall := HQ.out k hlt m u wr hru hm0 (by omega)
        have hnk : n - k = (n - (k + 1)) + 1 := by omega
        have hgo := HG.out
        rw [hnk, szRows] at hgo
        obtain ⟨z, hz⟩ : ∃ z, z = szL (f k) m := ⟨_, rfl⟩
        have hzb : 0 ≤ z → z ≤ left := fun h => by
          have := szL_up (f k) m (by rw [← hz]; exact h)
          omega
        rw [← hz] at hcall hgo
        have HC := Lib.hid hcall
        have HGO := Lib.hid hgo
        clear hcall hgo hz hc hru hnk HG
        by_cases hs : z < 0
        · have HE := HGO.out
          rw [if_pos hs] at HE
          have HEE := Lib.hid HE
          clear HE hzb
          go_wp2_with fail
          refine HC.out.mono ?_
          rintro e w1 ⟨rfl, rfl⟩
          go_wp2_with fail
          go_ret
          exact ⟨ret_int (by rw [HF.out, ← HEE.out]), rfl⟩
        · have HE := HGO.out
          rw [if_neg hs] at HE
          have HEE := Lib.hid HE
          have hzl := hzb (by omega)
          clear HE hzb
          go_wp2_with fail
          refine HC.out.mono ?_
          rintro e w1 ⟨rfl, rfl⟩
          go_wp2_with fail
          go_roundw
          case rel => exact ⟨k + 1, z, by omega, by go_num, rfl, by omega, hzl, HEE, trivial⟩
          case measure => simp [intOf]; omega
      · have hnk : n - k = 0 := by omega
        have hgo := HG.out
        rw [hnk, szRows] at hgo
        have HGO := Lib.hid hgo
        clear hgo hnk
        go_wp2
        go_ret
        exact ⟨ret_int (by rw [HF.out, ← HGO.out]), rfl⟩
theorem Tryd.infoRowTI : (Tryd.prog.info? 23).map (fun i => (i.zero, i.size, i.bytes)) = some (some (.slice none 0 0), 1, 24) := by kernel_rfl
set_option maxRecDepth 100000 in
set_option maxHeartbeats 2000000 in
theorem toStringSS_any (n : Nat) (f : Nat → List ByteArray) (v : Value) (w : World) (hr : RdT w v n f) (hn : n ≤ 1048576) (hm : ∀ i, i < n → (f i).length ≤ 1048576) :
    Calls Tryd.prog 42 #[v] w fun e w' => ∃ v', e = .returned v' ∧ OwnT w' w.heap.size w'.heap.size v' n f ∧ Below w.heap.size w w' := by
  have HTS := Lib.hid (fun i (hi : i < n) v W hr => toStringS_any (f i) v W hr (hm i hi))
  have HN1 := Lib.hid hm
  obtain ⟨A, c, rfl, hA⟩ := hr
  have HA := Lib.hid hA
  obtain ⟨iR, hiR, hzR0, hzR1, hzR2⟩ := info_parts Tryd.infoRowTI
  have HMK := Lib.hid (fun (W : World) (base : Nat) (v : Value) (xs : List Value) (h : W.ownsRow base 23 1 v n xs) (hx : xs = List.replicate n (.slice none 0 0)) => OwnT.made h hx f)
  have HRS := Lib.hid (fun k i => rowsT_step f k i)
  have HRA := Lib.hid (fun k i h => rowsT_all f k i h)
  clear hA hm
  obtain ⟨B, hB⟩ : ∃ b, b = w.heap.size := ⟨_, rfl⟩
  have HB := Lib.hid hB
  clear hB
  go_enter Tryd.func42, Tryd.ntmps42
  go_wp2_with (at_make; refine wpList_make_full _ rfl _ _ 24 rfl w.heap.size 23 iR _ 1 Tryd.underlying24 hiR hzR0 hzR1 _ _ _ _ n rfl rfl rfl rfl (by rw [hzR2]; omega) (by unfold maxLen; omega) (Nat.le_refl _) ?_; intro w2 hown2 hgr2; have HO2 := Lib.hid hown2; have HD2 := Lib.hid ((Below.refl w.heap.size w).grown hgr2 (Nat.le_refl _) (fun k hk => by cases hk)); clear hown2 hgr2)
  have HOF : Hid (OwnT w2 w.heap.size w2.heap.size (.slice (some ⟨B, 0, none⟩) n n) n (rowsT f 0)) := Lib.hid (by
    rw [HB.out]
    exact HMK.out _ _ _ _ HO2.out (nils_zeroT n))
  rw [← HB.out]
  clear HB HO2
  go_loopw [4] (fun i wr => ∃ k : Nat, k ≤ n ∧ i = .int .i64 (k : Int) ∧ Hid (OwnT wr w.heap.size wr.heap.size (.slice (some ⟨B, 0, none⟩) n n) n (rowsT f k)) ∧ Hid (Below w.heap.size w wr)) (fun i _ => n - (intOf i).toNat)
  case atStart => exact ⟨0, Nat.zero_le _, rfl, HOF, HD2⟩
  case round =>
    obtain ⟨k, hk, rfl, HO, HBE⟩ := hrel
    by_cases hlt : k < n
    · obtain ⟨g, o, rfl, hg, hc⟩ := HA.out (by omega)
      obtain ⟨u, hu, hru⟩ := hc k hlt
      have a0 := (HBE.out.cell (p := ⟨g, o + k, none⟩) hg).trans hu
      have hcall := HTS.out k hlt u wr (hru.below HBE.out)
      have hbw := HBE.out.size
      have HC := Lib.hid hcall
      have HRK := Lib.hid (fun i => HRS.out k i)
      clear hcall hru hc hu
      go_wp2_with fail
      refine HC.out.mono ?_
      rintro e w3 ⟨v3, rfl, ho3, hb3⟩
      obtain ⟨A3, c3, hv3, _⟩ := Rd.of_own ho3
      subst hv3
      obtain ⟨x0, hx0, hfz0, hbB0, hp1, hp2⟩ := OwnT.put HO.out hb3 hlt ho3 hbw
      have HP1 := Lib.hid (hp1.same (f' := rowsT f (k + 1)) fun i _ => HRK.out i)
      have HBN := Lib.hid ((HBE.out.trans (hb3.mono hbw)).setCell (p := ⟨B, k, none⟩) hbB0 (.slice A3 (strs (f k)).length c3))
      clear ho3 hb3 hp1 hp2 hbB0
      go_wp2_with fail
      go_roundw
      case rel => exact ⟨k + 1, by omega, by go_num, HP1, HBN⟩
      case measure => simp [intOf]; omega
    · obtain rfl : k = n := by omega
      have HF := Lib.hid (HO.out.same (f' := f) fun i hi => HRA.out k i hi)
      go_wp2_with fail
      go_ret
      exact ⟨_, rfl, HF.out, HBE.out⟩
end Go.Proofs.YtionfjofojfaoaaDoor
