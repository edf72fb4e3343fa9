/- The program's BlockAt and CountBlocks. -/
import Derived.Test.YtdihoofhbkafoaaDoorImplBlks
import Derived.Test.YtdihoofhbkafoaaDoorBlkMath
import Derived.Test.YtdihoofhbkafoaaDoorBB
namespace Go.Proofs.YtdihoofhbkafoaaDoor
open Go.RowKit
set_option linter.unusedVariables false

theorem size_blk : (Tryd.prog.info? 43).map (·.size) = some 4 := by kernel_rfl
theorem one_blk (a b c d : Int) : (#[.int .i64 a, .int .i64 b, .int .i64 c, .int .i64 d] : Array Value).all (·.oneCell') = true := by
  rw [Array.all_eq_true]
  intro i hi
  simp at hi
  match i, hi with
  | 0, _ => rfl
  | 1, _ => rfl
  | 2, _ => rfl
  | 3, _ => rfl
set_option maxRecDepth 100000 in
set_option maxHeartbeats 2000000 in
theorem implBlockAt (L : List Bk) (v : Value) (w : World) (i k : Nat) (b : Bk) (hv : RdB w v L) (hL : L.length ≤ 100000000) (hi : i ≤ 100000000) (hk : k ≤ 100000000) (hf : L.find? (holdsB i k) = some b) :
    Calls Tryd.prog 18 #[v, .int .i64 (i : Int), .int .i64 (k : Int)] w fun e w' => e = .returned (.tuple #[.agg #[.int .i64 b.col, .int .i64 b.frm, .int .i64 b.to, .int .i64 b.wid], .bool true]) ∧ Below w.heap.size w w' := by
  obtain ⟨A, ca, rfl, hA⟩ := hv
  have HA := Lib.hid hA
  obtain ⟨n, hn⟩ : ∃ n, n = L.length := ⟨_, rfl⟩
  rw [← hn] at HA hL ⊢
  have HN := Lib.hid hn
  have HF0 : Hid ((L.drop 0).find? (holdsB i k) = some b) := Lib.hid hf
  have HZ0 := Lib.hid (Blk.new w 43 #[.int .i64 0, .int .i64 0, .int .i64 0, .int .i64 0])
  have B0 := Lib.hid (by go_grown : Below w.heap.size w (w.alloc (.cells #[.int .i64 0, .int .i64 0, .int .i64 0, .int .i64 0] 43)))
  obtain ⟨b0, b1, b2, b3⟩ := b
  simp only
  clear hA hn hf
  go_enter Tryd.func18, Tryd.ntmps18
  go_wp2_with fail
  go_loopw [9, 12] (fun _ j wr => ∃ q : Nat, q ≤ n ∧ j = .int .i64 (q : Int) ∧ Hid ((L.drop q).find? (holdsB i k) = some ⟨b0, b1, b2, b3⟩) ∧ Hid (Below w.heap.size w wr) ∧ Hid (Blk wr w.heap.size 43 #[.int .i64 0, .int .i64 0, .int .i64 0, .int .i64 0])) (fun _ j _ => n - (intOf j).toNat)
  case atStart => exact ⟨0, Nat.zero_le _, rfl, HF0, B0, HZ0⟩
  case round =>
    obtain ⟨q, hq, rfl, HFQ, HBQ, HZQ⟩ := hrel
    by_cases hlt : q < n
    · obtain ⟨g, o, rfl, hg, hc⟩ := HA.out (by omega)
      have hql : q < L.length := by rw [← HN.out]; exact hlt
      obtain ⟨p0, p1, p2, p3⟩ := hc q _ (List.getElem?_eq_getElem hql)
      have q0 := (HBQ.out.cell (p := ⟨g, o + q * 4, none⟩) hg).trans p0
      have q1 := (HBQ.out.cell (p := ⟨g, o + q * 4 + 1, none⟩) hg).trans p1
      have q2 := (HBQ.out.cell (p := ⟨g, o + q * 4 + 2, none⟩) hg).trans p2
      have q3 := (HBQ.out.cell (p := ⟨g, o + q * 4 + 3, none⟩) hg).trans p3
      have hfq := HFQ.out
      rw [List.drop_eq_getElem_cons hql, List.find?_cons] at hfq
      generalize L[q] = x at q0 q1 q2 q3 hfq
      obtain ⟨x0, x1, x2, x3⟩ := x
      simp only at q0 q1 q2 q3
      obtain ⟨wo, rfl⟩ : ∃ wo : World, wo = wr := ⟨_, rfl⟩
      have D1 := Lib.hid ((Below.refl wo.heap.size wo).alloc (Nat.le_refl _) (.cells #[.int .i64 x0, .int .i64 x1, .int .i64 x2, .int .i64 x3] 43))
      have HB2 := Lib.hid (HBQ.out.trans (D1.out.mono HBQ.out.size))
      have HZ2 := Lib.hid (HZQ.out.after D1.out)
      clear hc p0 p1 p2 p3
      cases hh : holdsB i k ⟨x0, x1, x2, x3⟩ with
      | true =>
        rw [hh] at hfq
        simp only [Option.some.injEq, Bk.mk.injEq] at hfq
        obtain ⟨rfl, rfl, rfl, rfl⟩ := hfq
        unfold holdsB at hh
        simp only [Bool.and_eq_true, decide_eq_true_eq] at hh
        obtain ⟨h0, h1, h2⟩ := hh
        have e0 : (x0 == (k : Int)) = true := by simp [h0]
        have hbx := (HZ2.out.row (cs' := #[.int .i64 x0, .int .i64 x1, .int .i64 x2, .int .i64 x3]))
        have hz := HZ2.out
        have HBX := Lib.hid hbx
        have HONE := Lib.hid (one_blk x0 x1 x2 x3)
        clear hbx h0
        go_wp2_with (refine wpList_store_row rfl _ _ _ rfl w.heap.size #[.int .i64 x0, .int .i64 x1, .int .i64 x2, .int .i64 x3] rfl rfl 43 #[.int .i64 0, .int .i64 0, .int .i64 0, .int .i64 0] hz size_blk rfl HONE.out ?_)
        have c0 := HBX.out.cell 0
        have c1 := HBX.out.cell 1
        have c2 := HBX.out.cell 2
        have c3 := HBX.out.cell 3
        simp at c0 c1 c2 c3
        exact bodyPost_ret (v := .tuple #[.agg #[.int .i64 x0, .int .i64 x1, .int .i64 x2, .int .i64 x3], .bool true]) (by simp [results, Tryd.results18, go_sem, c0, c1, c2, c3]) rfl ⟨rfl, below_row HB2.out (Nat.le_refl _)⟩
      | false =>
        rw [hh] at hfq
        simp only at hfq
        have HNX := Lib.hid hfq
        unfold holdsB at hh
        simp only [Bool.and_eq_false_iff, decide_eq_false_iff_not] at hh
        clear hfq
        by_cases h0 : x0 = (k : Int)
        · have e0 : (x0 == (k : Int)) = true := by simp [h0]
          by_cases h1 : x1 ≤ (i : Int)
          · have h2 : ¬ (i : Int) < x2 := by
              rcases hh with h | h | h
              · exact absurd h0 h
              · exact absurd h1 h
              · exact h
            clear h0 hh
            go_wp2_with fail
            go_roundw
            case rel => exact ⟨q + 1, by omega, by go_num, HNX, HB2, HZ2⟩
            case measure => simp [intOf]; omega
          · clear h0 hh
            go_wp2_with fail
            go_roundw
            case rel => exact ⟨q + 1, by omega, by go_num, HNX, HB2, HZ2⟩
            case measure => simp [intOf]; omega
        · have e0 : (x0 == (k : Int)) = false := by simp [h0]
          clear h0 hh
          go_wp2_with fail
          go_roundw
          case rel => exact ⟨q + 1, by omega, by go_num, HNX, HB2, HZ2⟩
          case measure => simp [intOf]; omega
    · exfalso
      have h := HFQ.out
      rw [List.drop_of_length_le (by rw [← HN.out]; omega)] at h
      cases h
end Go.Proofs.YtdihoofhbkafoaaDoor
