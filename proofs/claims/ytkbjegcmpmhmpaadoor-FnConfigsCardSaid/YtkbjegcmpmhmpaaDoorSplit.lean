/- SplitAny: the model's and the program's give the same parts, in new memory. -/
import Derived.Test.YtkbjegcmpmhmpaaDoorMem
namespace Go.Proofs.YtkbjegcmpmhmpaaDoor
open Go.RowKit

/-- The parts that are whole ahead of index i, and where the next one begins. -/
def cutAt (s : ByteArray) (p : UInt8 → Bool) : Nat → List ByteArray × Nat
  | 0 => ([], 0)
  | i + 1 => if p (s.data.toList.getD i 0) then ((cutAt s p i).1 ++ [s.extract (cutAt s p i).2 i], i + 1) else cutAt s p i
/-- What SplitAny gives. -/
def splitB (s : ByteArray) (p : UInt8 → Bool) : List ByteArray := (cutAt s p s.size).1 ++ [s.extract (cutAt s p s.size).2 s.size]
/-- Is c one of the separators? -/
def isSep (by_ : ByteArray) (c : UInt8) : Bool := by_.data.toList.contains c

theorem getD_at (s : ByteArray) (i : Nat) (h : i < s.size) : s.data.toList.getD i 0 = s[i] := by
  rw [List.getD_eq_getElem?_getD, List.getElem?_eq_getElem (by rw [bytes_length]; exact h)]; rfl
theorem cutAt_yes (s : ByteArray) (p : UInt8 → Bool) (i : Nat) (h : i < s.size) (hp : p s[i] = true) : cutAt s p (i + 1) = ((cutAt s p i).1 ++ [s.extract (cutAt s p i).2 i], i + 1) := by
  rw [cutAt, getD_at s i h, if_pos hp]
theorem cutAt_no (s : ByteArray) (p : UInt8 → Bool) (i : Nat) (h : i < s.size) (hp : p s[i] = false) : cutAt s p (i + 1) = cutAt s p i := by
  rw [cutAt, getD_at s i h, if_neg (by rw [hp]; decide)]
theorem cutAt_le (s : ByteArray) (p : UInt8 → Bool) : ∀ i, (cutAt s p i).2 ≤ i ∧ (cutAt s p i).1.length ≤ i
  | 0 => ⟨Nat.le_refl _, Nat.le_refl _⟩
  | i + 1 => by
    have ih := cutAt_le s p i
    rw [cutAt]
    split
    · simp; omega
    · omega
theorem splitB_length (s : ByteArray) (p : UInt8 → Bool) : (splitB s p).length ≤ s.size + 1 := by
  have := (cutAt_le s p s.size).2
  simp [splitB]; omega
theorem sep_of (by_ : ByteArray) (j : Nat) (h : j < by_.size) : isSep by_ by_[j] = true := by
  unfold isSep
  rw [List.contains_iff_mem]
  exact List.getElem_mem (l := by_.data.toList) h
/-- None of the first j separators is c. -/
def noneYet (by_ : ByteArray) (c : UInt8) (j : Nat) : Prop := ∀ t, (h : t < by_.size) → t < j → c ≠ by_[t]
theorem noneYet_zero (by_ : ByteArray) (c : UInt8) : noneYet by_ c 0 := fun _ _ h => absurd h (by omega)
theorem noneYet_succ (by_ : ByteArray) (c : UInt8) (j : Nat) (h : j < by_.size) (hn : noneYet by_ c j) (hc : c ≠ by_[j]) : noneYet by_ c (j + 1) := by
  intro t ht hlt
  by_cases e : t = j
  · subst e; exact hc
  · exact hn t ht (by omega)
theorem noneYet_all (by_ : ByteArray) (c : UInt8) (j : Nat) (h : ¬ j < by_.size) (hn : noneYet by_ c j) : isSep by_ c = false := by
  cases hx : isSep by_ c with
  | false => rfl
  | true =>
    unfold isSep at hx
    rw [List.contains_iff_mem] at hx
    obtain ⟨t, ht, he⟩ := List.mem_iff_getElem.1 hx
    exact absurd he.symm (hn t ht (by rw [bytes_length] at ht; omega))

theorem byte_eq_of {a b : UInt8} (h : (((a.toNat : Nat) : Int) == ((b.toNat : Nat) : Int)) = true) : a = b := by
  have h1 := beq_iff_eq.1 h
  have : a.toNat = b.toNat := by omega
  exact UInt8.toNat_inj.1 this
theorem byte_ne_of {a b : UInt8} (h : (((a.toNat : Nat) : Int) == ((b.toNat : Nat) : Int)) = false) : a ≠ b := by
  rintro rfl; simp at h
theorem strs_snoc (l : List ByteArray) (x : ByteArray) : strs (l ++ [x]) = strs l ++ [.string x] := by simp [strs]
/-- One part more, of what is owned. -/
theorem own_hit {W : World} {base : Nat} {e : TypeId} {v : Value} {s : ByteArray} {p : UInt8 → Bool} {k f : Nat} (hlt : k < s.size) (hp : p s[k] = true) (hf : f = (cutAt s p k).2)
    (h : W.ownsRow base e 1 v ((cutAt s p k).1.length + 1) (strs (cutAt s p k).1 ++ [.string (s.extract f k)])) :
    W.ownsRow base e 1 v (cutAt s p (k + 1)).1.length (strs (cutAt s p (k + 1)).1) ∧ (cutAt s p (k + 1)).2 = k + 1 := by
  rw [cutAt_yes s p k hlt hp]
  refine ⟨?_, rfl⟩
  rw [strs_snoc, ← hf, List.length_append]
  exact h
theorem own_miss {W : World} {base : Nat} {e : TypeId} {v : Value} {s : ByteArray} {p : UInt8 → Bool} {k f : Nat} (hlt : k < s.size) (hp : p s[k] = false) (hf : f = (cutAt s p k).2)
    (h : W.ownsRow base e 1 v (cutAt s p k).1.length (strs (cutAt s p k).1)) :
    W.ownsRow base e 1 v (cutAt s p (k + 1)).1.length (strs (cutAt s p (k + 1)).1) ∧ f = (cutAt s p (k + 1)).2 := by
  rw [cutAt_no s p k hlt hp]
  exact ⟨h, hf⟩
theorem own_end {W : World} {base : Nat} {e : TypeId} {v : Value} {s : ByteArray} {p : UInt8 → Bool} {k f : Nat} (hge : ¬ k < s.size) (hk : k ≤ s.size) (hf : f = (cutAt s p k).2)
    (h : W.ownsRow base e 1 v ((cutAt s p k).1.length + 1) (strs (cutAt s p k).1 ++ [.string (s.extract f s.size)])) : W.ownsRow base e 1 v (splitB s p).length (strs (splitB s p)) := by
  obtain rfl : k = s.size := by omega
  unfold splitB
  rw [strs_snoc, ← hf, List.length_append]
  exact h

theorem Tryd.infoStr : (Tryd.prog.info? 9).map (fun i => (i.zero, i.size, i.bytes)) = some (some (.string ByteArray.empty), 1, 16) := by kernel_rfl

set_option maxRecDepth 100000 in
set_option maxHeartbeats 1000000 in
theorem specSplitAny (s by_ : ByteArray) (w : World) (hs : s.size ≤ 1048576) (hby : by_.size ≤ 1048576) :
    Calls Tryd.prog 33 #[.string s, .string by_] w fun e w' => ∃ v, e = .returned v ∧ w'.ownsRow w.heap.size 9 1 v (splitB s (isSep by_)).length (strs (splitB s (isSep by_))) ∧ Below w.heap.size w w' := by
  obtain ⟨i0, hi0, hz0, hz1, hz2⟩ := info_parts Tryd.infoStr
  go_enter Tryd.func33, Tryd.ntmps33
  go_wp2
  go_loopw [5, 6, 7] (fun o f i wr => ∃ (k : Nat) (v : Value), k ≤ s.size ∧ i = .int .i64 k ∧ f = .int .i64 ((cutAt s (isSep by_) k).2 : Nat) ∧ v = o ∧ wr.ownsRow w.heap.size 9 1 v (cutAt s (isSep by_) k).1.length (strs (cutAt s (isSep by_) k).1) ∧ Below w.heap.size w wr) (fun _ _ i _ => s.size - (intOf i).toNat)
  case atStart => exact ⟨0, _, Nat.zero_le _, rfl, rfl, rfl, World.ownsRow_lit w _ 0 (Nat.le_refl _) (by unfold maxLen; omega) rfl, (Below.refl _ _).alloc (Nat.le_refl _) _⟩
  case round =>
    obtain ⟨k, v, hk, rfl, rfl, rfl, hown, hbel⟩ := hrel
    obtain ⟨wo, rfl⟩ : ∃ wo : World, wo = wr := ⟨_, rfl⟩
    obtain ⟨f, hf⟩ : ∃ f, f = (cutAt s (isSep by_) k).2 := ⟨_, rfl⟩
    have hfk : f ≤ k := by rw [hf]; exact (cutAt_le _ _ _).1
    have hln := (cutAt_le s (isSep by_) k).2
    rw [← hf]
    have HF := Lib.hid hf
    clear hf
    by_cases hlt : k < s.size
    · go_wp2
      go_loopw [5, 6, 8] (fun o g j wr => ∃ (t m : Nat), t ≤ by_.size ∧ j = .int .i64 t ∧ g = .int .i64 f ∧ v = o ∧ wr = wo.drewN m ∧ Hid (noneYet by_ s[k] t)) (fun _ _ j _ => by_.size - (intOf j).toNat)
      case atStart => exact ⟨0, 0, Nat.zero_le _, rfl, rfl, rfl, rfl, Lib.hid (noneYet_zero _ _)⟩
      case round =>
        obtain ⟨t, m, ht, rfl, rfl, rfl, rfl, HN⟩ := hrel
        by_cases htl : t < by_.size
        · go_wp2
          go_quiet (fail)
          go_wp2_with (at_builtin; refine append_one rfl _ _ 43 rfl w.heap.size 9 i0 _ 16 Tryd.underlying43 hi0 hz0 hz1 hz2 rfl v _ _ rfl (wo.drewN _) (.string (s.extract f k)) rfl rfl hown (by omega) (by omega) hbel.size ?_; intro v1 w1 hown1 hbel1)
          · have ht1 : ((s[k].toNat : Int) == (by_[t].toNat : Int)) = true := by assumption
            have hsep : isSep by_ s[k] = true := by rw [byte_eq_of ht1]; exact sep_of by_ t htl
            have hhit := own_hit hlt hsep HF.out hown1
            go_roundw
            case rel => exact ⟨k + 1, v1, by omega, by go_num, by rw [hhit.2]; go_num, rfl, hhit.1, (below_drewN hbel _).trans hbel1⟩
            case measure => simp [intOf]; omega
          · have ht1 : ((s[k].toNat : Int) == (by_[t].toNat : Int)) = false := by assumption
            go_roundw
            case rel => exact ⟨t + 1, _, by omega, by go_num, rfl, rfl, rfl, Lib.hid (noneYet_succ by_ s[k] t htl HN.out (byte_ne_of ht1))⟩
            case measure => simp [intOf]; omega
        · have hsep := noneYet_all by_ s[k] t htl HN.out
          have hmiss := own_miss hlt hsep HF.out (own_drewN hown m)
          have HM := Lib.hid hmiss
          clear hmiss hsep
          go_wp2
          go_roundw
          case rel => exact ⟨k + 1, v, by omega, by go_num, by rw [← HM.out.2], rfl, HM.out.1, below_drewN hbel _⟩
          case measure => simp [intOf]; omega
    · go_wp2_with (at_builtin; refine append_one rfl _ _ 43 rfl w.heap.size 9 i0 _ 16 Tryd.underlying43 hi0 hz0 hz1 hz2 rfl v _ _ rfl wo (.string (s.extract f s.size)) rfl rfl hown (by omega) (by omega) hbel.size ?_; intro v1 w1 hown1 hbel1)
      go_ret
      exact ⟨v1, rfl, own_end hlt hk HF.out hown1, hbel.trans hbel1⟩

/-- Block g holds, for each byte, whether it is among the first j separators. -/
def Tab (w : World) (g : Nat) (by_ : ByteArray) (j : Nat) : Prop :=
  ∀ c : Nat, c < 256 → w.cell? ⟨g, c, none⟩ = some (.bool (decide (UInt8.ofNat c ∈ by_.data.toList.take j))) ∧ w.frozen? ⟨g, c, none⟩ = false

/-- The table as it is laid. -/
def falses : Array Value := Array.replicate 256 (.bool false)
theorem zeroTab (w : World) : (zeroValue 82).run Tryd.prog w = .ok (.agg falses) w := by kernel_rfl
theorem Tab.new (w : World) (by_ : ByteArray) : Tab (w.alloc (.cells falses 82)) w.heap.size by_ 0 := by
  intro c hc
  constructor
  · rw [cell_of_row _ w.heap.size c falses 82 (0, 0) (heap_alloc_new w _)]
    simp [falses, hc]
  · have hh : (w.alloc (.cells falses 82)).heap[w.heap.size]? = some (.cells falses 82) := heap_alloc_new w _
    unfold World.frozen?
    rw [hh]
    rfl
theorem Tab.step {w : World} {g : Nat} {by_ : ByteArray} {j : Nat} (h : Tab w g by_ j) (hj : j < by_.size) : Tab (w.setCell ⟨g, by_[j].toNat, none⟩ (.bool true)) g by_ (j + 1) := by
  intro c hc
  have hcc := h c hc
  rw [take_snoc by_ j hj]
  refine ⟨?_, by rw [World.frozen?_setCell]; exact hcc.2⟩
  by_cases e : c = by_[j].toNat
  · subst e
    rw [World.cell?_setCell_same _ _ _ hcc.1]
    simp
  · rw [World.cell?_setCell_other _ _ _ _ (by intro h; injection h with _ h _; exact e h.symm), hcc.1]
    congr 2
    simp only [List.mem_append, List.mem_singleton]
    have : UInt8.ofNat c ≠ by_[j] := by
      intro h
      apply e
      rw [← h]
      simp; omega
    simp [this]

theorem tab_sep (by_ : ByteArray) (j : Nat) (c : UInt8) (h : j = by_.size) : decide (UInt8.ofNat c.toNat ∈ by_.data.toList.take j) = isSep by_ c := by
  rw [UInt8.ofNat_toNat, List.take_of_length_le (by rw [bytes_length]; omega)]
  unfold isSep
  rw [Bool.eq_iff_iff]
  simp

set_option maxRecDepth 100000 in
set_option maxHeartbeats 1000000 in
theorem implSplitAny (s by_ : ByteArray) (w : World) (hs : s.size ≤ 1048576) (hby : by_.size ≤ 1048576) :
    Calls Tryd.prog 39 #[.string s, .string by_] w fun e w' => ∃ v, e = .returned v ∧ w'.ownsRow w.heap.size 9 1 v (splitB s (isSep by_)).length (strs (splitB s (isSep by_))) ∧ Below w.heap.size w w' := by
  obtain ⟨i0, hi0, hz0, hz1, hz2⟩ := info_parts Tryd.infoStr
  go_enter Tryd.func39, Tryd.ntmps39
  have hzt := zeroTab
  go_wp2
  go_loopw [6, 12] (fun _ i wr => ∃ j : Nat, j ≤ by_.size ∧ i = .int .i64 j ∧ Hid (Tab wr w.heap.size by_ j) ∧ Below w.heap.size w wr ∧ w.heap.size < wr.heap.size) (fun _ i _ => by_.size - (intOf i).toNat)
  case atStart => exact ⟨0, Nat.zero_le _, rfl, Lib.hid (Tab.new w by_), (Below.refl _ _).alloc (Nat.le_refl _) _, by simp⟩
  case round =>
    obtain ⟨j, hj, rfl, HT, hbel, hsz⟩ := hrel
    by_cases hlt : j < by_.size
    · have hb256 : (by_[j].toNat : Int) < 256 := by have := by_[j].toNat_lt; omega
      obtain ⟨hc, hf⟩ := HT.out by_[j].toNat (by omega)
      have hstep := HT.out.step hlt
      have HS := Lib.hid hstep
      clear hstep
      go_wp2
      go_roundw
      case rel => exact ⟨j + 1, by omega, by go_num, HS, hbel.setCell (Nat.le_refl _) _, by simpa [World.setCell] using hsz⟩
      case measure => simp [intOf]; omega
    · have hjn : j = by_.size := by omega
      have HJ := Lib.hid hjn
      clear hjn
      obtain ⟨wt, rfl⟩ : ∃ wt : World, wt = wr := ⟨_, rfl⟩
      go_wp2
      go_loopw [7, 8, 9, 22] (fun o f _ i wx => ∃ (k : Nat) (v : Value), k ≤ s.size ∧ i = .int .i64 k ∧ f = .int .i64 ((cutAt s (isSep by_) k).2 : Nat) ∧ v = o ∧ wx.ownsRow (w.heap.size + 1) 9 1 v (cutAt s (isSep by_) k).1.length (strs (cutAt s (isSep by_) k).1) ∧ Below (w.heap.size + 1) wt wx) (fun _ _ _ i _ => s.size - (intOf i).toNat)
      case atStart => exact ⟨0, _, Nat.zero_le _, rfl, rfl, rfl, World.ownsRow_nil _ _ _ _, Below.refl _ _⟩
      case round =>
        obtain ⟨k, v, hk, rfl, rfl, rfl, hown, hbx⟩ := hrel
        obtain ⟨f, hf⟩ : ∃ f, f = (cutAt s (isSep by_) k).2 := ⟨_, rfl⟩
        have hfk : f ≤ k := by rw [hf]; exact (cutAt_le _ _ _).1
        have hln := (cutAt_le s (isSep by_) k).2
        rw [← hf]
        have HF := Lib.hid hf
        clear hf
        have hbase : w.heap.size + 1 ≤ wr.heap.size := by have := hbx.size; omega
        by_cases hks : k < s.size
        · have hb256 : (s[k].toNat : Int) < 256 := by have := s[k].toNat_lt; omega
          obtain ⟨hc, _⟩ := HT.out s[k].toNat (by omega)
          have hcx := (hbx.cell (p := ⟨w.heap.size, s[k].toNat, none⟩) (by simp)).trans hc
          rw [tab_sep by_ j s[k] HJ.out] at hcx
          clear hc
          cases hsep : isSep by_ s[k] with
          | true =>
            rw [hsep] at hcx
            have HP := Lib.hid hsep
            clear hsep
            go_wp2_with (at_builtin; refine append_one rfl _ _ 43 rfl (w.heap.size + 1) 9 i0 _ 16 Tryd.underlying43 hi0 hz0 hz1 hz2 rfl v _ _ rfl wr (.string (s.extract f k)) rfl rfl hown (by omega) (by omega) hbase ?_; intro v1 w1 hown1 hbel1)
            have hhit := own_hit hks HP.out HF.out hown1
            go_roundw
            case rel => exact ⟨k + 1, v1, by omega, by go_num, by rw [hhit.2]; go_num, rfl, hhit.1, hbx.trans hbel1⟩
            case measure => simp [intOf]; omega
          | false =>
            rw [hsep] at hcx
            have hmiss := own_miss hks hsep HF.out hown
            have HM := Lib.hid hmiss
            clear hmiss hsep
            go_wp2
            go_roundw
            case rel => exact ⟨k + 1, v, by omega, by go_num, by rw [← HM.out.2], rfl, HM.out.1, hbx⟩
            case measure => simp [intOf]; omega
        · go_wp2_with (at_builtin; refine append_one rfl _ _ 43 rfl (w.heap.size + 1) 9 i0 _ 16 Tryd.underlying43 hi0 hz0 hz1 hz2 rfl v _ _ rfl wr (.string (s.extract f s.size)) rfl rfl hown (by omega) (by omega) hbase ?_; intro v1 w1 hown1 hbel1)
          go_ret
          exact ⟨v1, rfl, own_base (own_end hks hk HF.out hown1) (Nat.le_succ _), hbel.trans ((hbx.trans hbel1).mono (Nat.le_succ _))⟩

end Go.Proofs.YtkbjegcmpmhmpaaDoor
