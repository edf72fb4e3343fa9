/- The drawing cursor of the model's package: what its functions give and which block they write. -/
import Derived.Test.YtionfjofojfaoaaDoorProg
import Derived.Test.YtionfjofojfaoaaDoorPre
import Derived.Laws.OwnMore
import Derived.Deep.Draws
import Derived.Deep.QuietTactic
import Derived.BigQuiet
import Derived.ProofKit
import Derived.ChangeOld
namespace Go.Proofs.YtionfjofojfaoaaDoor
open Go.RowKit

/-- A slice of bytes: the cells of its elements, in old memory. -/
def IsBytes (w : World) (A : Option Addr) (len cap : Nat) (zs : List Int) : Prop :=
  len ≤ cap ∧ cap ≤ 9223372036854775807 ∧ (0 < len → ∃ g o, A = some ⟨g, o, none⟩ ∧ g < w.heap.size ∧ ∀ i, i < len → w.cell? ⟨g, o + i, none⟩ = some (.int .u8 (zs.getD i 0)) ∧ 0 ≤ zs.getD i 0 ∧ zs.getD i 0 ≤ 255)
theorem IsBytes.keep {w w' : World} {A : Option Addr} {len cap : Nat} {zs : List Int} (h : IsBytes w A len cap zs) (hb : Below w.heap.size w w') : IsBytes w' A len cap zs := by
  refine ⟨h.1, h.2.1, fun h0 => ?_⟩
  obtain ⟨g, o, hA, hg, hc⟩ := h.2.2 h0
  exact ⟨g, o, hA, Nat.lt_of_lt_of_le hg hb.size, fun i hi => ⟨(hb.cell (p := ⟨g, o + i, none⟩) hg).trans (hc i hi).1, (hc i hi).2⟩⟩
theorem open_bytes {H : Type} {enc : TypeId × Value → H} {P : Program} {w : World} {base : Nat} {spare : Nat → Bool} {held : Bool} {t e : TypeId} {A : Option Addr} {len cap : Nat} {d : DataW H} {ps : List MemPlace}
    (ht : P.underlying t = some (.slice e)) (he : P.underlying e = some (.int .u8)) (hc : P.cellsOf e = 1) (h : DataW.Trod enc P w base spare held t (.slice A len cap) d ps) : ∃ zs, IsBytes w A len cap zs := by
  obtain ⟨fuel, hf⟩ := h
  rcases _root_.Go.ChangeShapes.open_ints ht he hc hf with ⟨hcs, _⟩ | ⟨a, l, c, zs, hcs, _, hl, hm, hz, _, hcell, hwz⟩
  · simp [Value.cells] at hcs
    obtain ⟨rfl, rfl, rfl⟩ := hcs
    exact ⟨[], Nat.le_refl _, by omega, fun h0 => absurd h0 (by omega)⟩
  · simp [Value.cells] at hcs
    obtain ⟨rfl, rfl, rfl⟩ := hcs
    have hzl : len ≤ zs.length := by rw [hz]; split <;> omega
    refine ⟨zs, hl, hm, fun h0 => ?_⟩
    have hc0 := hcell 0 (by omega)
    obtain ⟨b, off, spot⟩ := a
    have hspot : spot = none := by simpa [Addr.add] using World.cell?_spot hc0
    subst hspot
    refine ⟨b, off, rfl, by simpa [Addr.add] using World.block_lt_of_cell? w _ hc0, fun i hi => ?_⟩
    have hcj := hcell i (by omega)
    have hadd : (⟨b, off, none⟩ : Addr).add i = ⟨b, off + i, none⟩ := by unfold Addr.add; split <;> simp_all
    rw [hadd] at hcj
    refine ⟨hcj, ?_⟩
    have hmem : zs.getD i 0 ∈ zs := by rw [List.getD_eq_getElem?_getD, List.getElem?_eq_getElem (by omega)]; exact List.getElem_mem _
    have := hwz _ hmem
    simpa [Lit.wf, IntKind.min, IntKind.max, IntKind.signed, IntKind.bits] using this

/-- Block p is a cursor over the bytes. -/
def CurAt (w : World) (p : Nat) (A : Option Addr) (len cap : Nat) : Prop :=
  ∃ i h : Int, w.heap[p]? = some (.cells #[.slice A len cap, .int .i64 i, .int .i64 h] 69 (0, 0)) ∧ 0 ≤ i ∧ i ≤ len

theorem set_blk {w : World} {g : Nat} {t : TypeId} {cs : Array Value} (h : w.heap[g]? = some (.cells cs t (0, 0))) (i : Nat) (u : Value) : (w.setCell ⟨g, i, none⟩ u).heap[g]? = some (.cells (cs.setIfInBounds i u) t (0, 0)) := by
  simp [World.setCell, Array.getElem?_modify, h]
theorem set_only {w : World} {g : Nat} (i : Nat) (u : Value) : w.grownBy (w.setCell ⟨g, i, none⟩ u) (some g) :=
  ⟨rfl, rfl, rfl, by simp [World.setCell], fun k _ hne => Below.heap_setCell w ⟨g, i, none⟩ u k (fun e => hne (by rw [e]))⟩
theorem only_trans' {a b c : World} {row : Option Nat} (h : a.grownBy b row) (k : b.grownBy c row) : a.grownBy c row :=
  ⟨k.os.trans h.os, k.tape.trans h.tape, k.output.trans h.output, Nat.le_trans h.size k.size, fun i hi hn => (k.block i (Nat.lt_of_lt_of_le hi h.size) hn).trans (h.block i hi hn)⟩
theorem only_drewN {a w : World} {row : Option Nat} (h : a.grownBy w row) (n : Nat) : a.grownBy (w.drewN n) row := ⟨h.os, h.tape, h.output, h.size, h.block⟩

theorem i64_and255 (n : Int) : bits .and .i64 n 255 = n % 256 := by
  have h255 : (BitVec.ofInt 64 255).toNat = 2 ^ 8 - 1 := by decide
  have key : (BitVec.ofInt 64 n &&& BitVec.ofInt 64 255).toNat = (n % ((2 ^ 64 : Nat) : Int)).toNat % 2 ^ 8 := by
    rw [BitVec.toNat_and, BitVec.toNat_ofInt, h255, Nat.and_two_pow_sub_one_eq_mod]
  show IntKind.i64.wrap ((BitVec.ofInt 64 n &&& BitVec.ofInt 64 255).toNat : Nat) = n % 256
  rw [key, IntKind.wrap_i64]
  omega
theorem and255 (n : Int) : 0 ≤ bits .and .i64 n 255 ∧ bits .and .i64 n 255 ≤ 255 := by
  rw [i64_and255]; omega

set_option maxRecDepth 100000 in
set_option maxHeartbeats 1000000 in
theorem l01Byte_any (p : Nat) (A : Option Addr) (len cap : Nat) (zs : List Int) (w : World) (hc : CurAt w p A len cap) (hz : IsBytes w A len cap zs) (hne : 0 < len → ∀ g o, A = some ⟨g, o, none⟩ → g ≠ p) :
    Calls Tryd.prog 60 #[.pointer (some ⟨p, 0, none⟩)] w fun e w' => (∃ x : Int, 0 ≤ x ∧ x ≤ 255 ∧ e = .returned (.int .i64 x)) ∧ CurAt w' p A len cap ∧ w.grownBy w' (some p) := by
  obtain ⟨i, h, hp, hi0, hil⟩ := hc
  obtain ⟨hlc, hcm, hcells⟩ := hz
  obtain ⟨i, rfl⟩ := Int.eq_ofNat_of_zero_le hi0
  have c0 : w.cell? ⟨p, 0, none⟩ = some (.slice A len cap) := by rw [cell_of_row w p 0 _ _ _ hp]; rfl
  have c1 : w.cell? ⟨p, 1, none⟩ = some (.int .i64 i) := by rw [cell_of_row w p 1 _ _ _ hp]; rfl
  have c2 : w.cell? ⟨p, 2, none⟩ = some (.int .i64 h) := by rw [cell_of_row w p 2 _ _ _ hp]; rfl
  have f1 : w.frozen? ⟨p, 1, none⟩ = false := by simp [World.frozen?, hp]
  have f2 : w.frozen? ⟨p, 2, none⟩ = false := by simp [World.frozen?, hp]
  have HP := Lib.hid hp
  clear hp
  go_enter Tryd.func60, Tryd.ntmps60
  go_wp2
  generalize wrap64 (wrap64 (h * 6364136223846793005) + 1442695040888963407) = h2
  obtain ⟨w1, hw1⟩ : ∃ w1, w1 = w.setCell ⟨p, 2, none⟩ (.int .i64 h2) := ⟨_, rfl⟩
  rw [← hw1]
  have hp1 : w1.heap[p]? = some (.cells #[.slice A len cap, .int .i64 i, .int .i64 h2] 69 (0, 0)) := by rw [hw1, set_blk HP.out]; rfl
  have hg1 : w.grownBy w1 (some p) := by rw [hw1]; exact set_only 2 _
  clear c0 c1 c2 f1 f2 hw1
  have c0 : w1.cell? ⟨p, 0, none⟩ = some (.slice A len cap) := by rw [cell_of_row w1 p 0 _ _ _ hp1]; rfl
  have c1 : w1.cell? ⟨p, 1, none⟩ = some (.int .i64 i) := by rw [cell_of_row w1 p 1 _ _ _ hp1]; rfl
  have c2 : w1.cell? ⟨p, 2, none⟩ = some (.int .i64 h2) := by rw [cell_of_row w1 p 2 _ _ _ hp1]; rfl
  have f1 : w1.frozen? ⟨p, 1, none⟩ = false := by simp [World.frozen?, hp1]
  have HP1 := Lib.hid hp1
  have HG1 := Lib.hid hg1
  have HZ := Lib.hid hcells
  clear hp1 hg1 HP hcells
  by_cases hlt : i < len
  · obtain ⟨g, o, hA, hgl, hcell⟩ := HZ.out (by omega)
    have hgp : g ≠ p := hne (by omega) g o hA
    subst hA
    obtain ⟨hcx, hx0, hx1⟩ := hcell i hlt
    have hb : w1.cell? ⟨g, o + i, none⟩ = some (.int .u8 (zs.getD i 0)) := (World.cell?_of_block (HG1.out.block g hgl (by simpa using hgp))).trans hcx
    obtain ⟨x, hx⟩ : ∃ x, x = zs.getD i 0 := ⟨_, rfl⟩
    rw [← hx] at hb hx0 hx1
    clear hcell hcx hx hne
    go_quiet (fail)
    go_wp2
    go_quiet (fail)
    go_wp2
    go_quiet (fail)
    go_wp2
    go_ret
    refine ⟨⟨_, (and255 _).1, (and255 _).2, rfl⟩, ⟨(i : Int) + 1, h2, set_blk (by exact HP1.out) 1 _, by omega, by omega⟩, only_trans' (only_drewN HG1.out _) (set_only 1 _)⟩
  · go_quiet (fail)
    go_wp2
    go_quiet (fail)
    go_wp2
    go_ret
    exact ⟨⟨_, (and255 _).1, (and255 _).2, rfl⟩, ⟨i, h2, HP1.out, by omega, hil⟩, only_drewN (only_drewN HG1.out _) _⟩

theorem CurAt.below {B : Nat} {w w' : World} {p : Nat} {A : Option Addr} {len cap : Nat} (h : CurAt w p A len cap) (hb : Below B w w') (hp : p < B) : CurAt w' p A len cap := by
  obtain ⟨i, x, h1, h2, h3⟩ := h
  exact ⟨i, x, (hb.block p hp).trans h1, h2, h3⟩

set_option maxRecDepth 100000 in
set_option maxHeartbeats 1000000 in
theorem l01New_any (A : Option Addr) (len cap : Nat) (zs : List Int) (w : World) (hz : IsBytes w A len cap zs) :
    Calls Tryd.prog 24 #[.slice A len cap] w fun e w' => ∃ p, e = .returned (.pointer (some ⟨p, 0, none⟩)) ∧ w.heap.size ≤ p ∧ CurAt w' p A len cap ∧ Below w.heap.size w w' := by
  obtain ⟨hlc, hcm, hcells⟩ := hz
  have HZ := Lib.hid hcells
  clear hcells
  go_enter Tryd.func24, Tryd.ntmps24
  go_wp2
  go_loop [3, 4] (fun h i => ∃ (k : Nat) (x : Int), k ≤ len ∧ i = .int .i64 k ∧ h = .int .i64 x) (fun _ i => len - (intOf i).toNat)
  case atStart => exact ⟨0, _, Nat.zero_le _, rfl, rfl⟩
  case round =>
    obtain ⟨k, x, hk, rfl, rfl⟩ := hrel
    by_cases hlt : k < len
    · by_cases h4 : (k : Int) < 4000
      · obtain ⟨g, o, hA, hgl, hcell⟩ := HZ.out (by omega)
        subst hA
        have hb := (hcell k hlt).1
        obtain ⟨y, hy⟩ : ∃ y, y = zs.getD k 0 := ⟨_, rfl⟩
        rw [← hy] at hb
        clear hcell hy
        go_wp2
        go_round
        case rel => exact ⟨k + 1, _, by omega, by go_num, rfl⟩
        case measure => simp [intOf]; omega
      · go_wp2
        go_ret
        exact ⟨_, rfl, Nat.le_refl _, ⟨0, x, heap_alloc_new w _, by omega, by omega⟩, (Below.refl _ _).alloc (Nat.le_refl _) _⟩
    · go_wp2
      go_ret
      exact ⟨_, rfl, Nat.le_refl _, ⟨0, x, heap_alloc_new w _, by omega, by omega⟩, (Below.refl _ _).alloc (Nat.le_refl _) _⟩

/-- A cursor that was made since world w0. -/
structure CurB (w0 w : World) (p : Nat) (A : Option Addr) (len cap : Nat) (zs : List Int) : Prop where
  base : w0.heap.size ≤ p
  at_ : CurAt w p A len cap
  old : Below w0.heap.size w0 w
  bytes : IsBytes w0 A len cap zs
theorem CurB.lt {w0 w : World} {p : Nat} {A : Option Addr} {len cap : Nat} {zs : List Int} (h : CurB w0 w p A len cap zs) : p < w.heap.size := by
  obtain ⟨i, x, h1, _⟩ := h.at_
  exact (Array.getElem?_eq_some_iff.1 h1).1
theorem CurB.below {w0 w w' : World} {p : Nat} {A : Option Addr} {len cap : Nat} {zs : List Int} (h : CurB w0 w p A len cap zs) (hb : Below w.heap.size w w') : CurB w0 w' p A len cap zs :=
  ⟨h.base, h.at_.below hb h.lt, h.old.trans (hb.mono h.old.size), h.bytes⟩
theorem CurB.only {w0 w w' : World} {p : Nat} {A : Option Addr} {len cap : Nat} {zs : List Int} (h : CurB w0 w p A len cap zs) (hc : CurAt w' p A len cap) (hg : w.grownBy w' (some p)) : CurB w0 w' p A len cap zs :=
  ⟨h.base, hc, h.old.grown hg h.old.size (fun k hk => by injection hk with hk; rw [← hk]; exact h.base), h.bytes⟩
theorem grown_refl' (w : World) (row : Option Nat) : w.grownBy w row := ⟨rfl, rfl, rfl, Nat.le_refl _, fun _ _ _ => rfl⟩

theorem byte_cur {w0 : World} {p : Nat} {A : Option Addr} {len cap : Nat} {zs : List Int} (w : World) (h : CurB w0 w p A len cap zs) :
    Calls Tryd.prog 60 #[.pointer (some ⟨p, 0, none⟩)] w fun e w' => ∃ x : Int, 0 ≤ x ∧ x ≤ 255 ∧ e = .returned (.int .i64 x) ∧ CurB w0 w' p A len cap zs ∧ w.grownBy w' (some p) := by
  have hz : IsBytes w A len cap zs := by
    refine ⟨h.bytes.1, h.bytes.2.1, fun h0 => ?_⟩
    obtain ⟨g, o, hA, hg, hc⟩ := h.bytes.2.2 h0
    exact ⟨g, o, hA, Nat.lt_of_lt_of_le hg h.old.size, fun i hi => ⟨(h.old.cell (p := ⟨g, o + i, none⟩) hg).trans (hc i hi).1, (hc i hi).2⟩⟩
  refine (l01Byte_any p A len cap zs w h.at_ hz ?_).mono ?_
  · intro h0 g o hA hgp
    obtain ⟨g', o', hA', hg, _⟩ := h.bytes.2.2 h0
    rw [hA] at hA'
    injection hA' with hA'
    injection hA' with e
    have := h.base
    omega
  · rintro e w' ⟨⟨x, h1, h2, h3⟩, h4, h5⟩
    exact ⟨x, h1, h2, h3, h.only h4 h5, h5⟩

set_option maxRecDepth 100000 in
set_option maxHeartbeats 1000000 in
theorem below_cur {w0 : World} {p : Nat} {A : Option Addr} {len cap : Nat} {zs : List Int} (n : Int) (w : World) (h : CurB w0 w p A len cap zs) (h0 : 0 < n) (h1 : n ≤ 256) :
    Calls Tryd.prog 47 #[.pointer (some ⟨p, 0, none⟩), .int .i64 n] w fun e w' => ∃ x : Int, 0 ≤ x ∧ x < n ∧ e = .returned (.int .i64 x) ∧ CurB w0 w' p A len cap zs ∧ w.grownBy w' (some p) := by
  have HC := Lib.hid (byte_cur w h)
  clear h
  go_enter Tryd.func47, Tryd.ntmps47
  go_wp2_with fail
  refine HC.out.mono ?_
  rintro e w1 ⟨x, hx0, hx1, rfl, hc1, hg1⟩
  have HC1 := Lib.hid hc1
  have HG1 := Lib.hid hg1
  clear hc1 hg1
  go_wp2_with fail
  go_ret
  exact ⟨x % n, Int.emod_nonneg _ (by omega), Int.emod_lt_of_pos _ h0, rfl, HC1.out, HG1.out⟩

set_option maxRecDepth 100000 in
set_option maxHeartbeats 1000000 in
theorem str_cur {w0 : World} {p : Nat} {A : Option Addr} {len cap : Nat} {zs : List Int} (l : List ByteArray) (n g c : Nat) (w : World) (h : CurB w0 w p A len cap zs) (hn : l.length = n) (h0 : 0 < n) (h1 : n ≤ 256) (hg : g ≠ p)
    (hgl : g < w.heap.size) (hc : ∀ (j : Nat) x, l[j]? = some x → w.cell? ⟨g, j, none⟩ = some (.string x)) :
    Calls Tryd.prog 48 #[.pointer (some ⟨p, 0, none⟩), .slice (some ⟨g, 0, none⟩) n c] w fun e w' => ∃ x ∈ l, e = .returned (.string x) ∧ CurB w0 w' p A len cap zs ∧ w.grownBy w' (some p) := by
  have HC := Lib.hid (below_cur (n : Int) w h (by omega) (by omega))
  have HL := Lib.hid hc
  have HN := Lib.hid hn
  clear h hc hn
  go_enter Tryd.func48, Tryd.ntmps48
  go_wp2_with fail
  refine HC.out.mono ?_
  rintro e w1 ⟨x, hx0, hx1, rfl, hc1, hg1⟩
  obtain ⟨j, rfl⟩ := Int.eq_ofNat_of_zero_le hx0
  have hjl : j < l.length := by rw [HN.out]; omega
  have hcell : w1.cell? ⟨g, j, none⟩ = some (.string l[j]) := (World.cell?_of_block (hg1.block g hgl (by simpa using hg))).trans (HL.out j _ (List.getElem?_eq_getElem hjl))
  obtain ⟨y, hy⟩ : ∃ y, y = l[j] := ⟨_, rfl⟩
  rw [← hy] at hcell
  have HY := Lib.hid (show y ∈ l from by rw [hy]; exact List.getElem_mem _)
  have HC1 := Lib.hid hc1
  have HG1 := Lib.hid hg1
  clear hc1 hg1 hy
  go_wp2
  go_ret
  exact ⟨y, HY.out, rfl, HC1.out, HG1.out⟩

theorem new_cur (A : Option Addr) (len cap : Nat) (zs : List Int) (w : World) (hz : IsBytes w A len cap zs) :
    Calls Tryd.prog 24 #[.slice A len cap] w fun e w' => ∃ p, e = .returned (.pointer (some ⟨p, 0, none⟩)) ∧ CurB w w' p A len cap zs :=
  (l01New_any A len cap zs w hz).mono fun _ _ ⟨p, h1, h2, h3, h4⟩ => ⟨p, h1, h2, h3, h4, hz⟩


end Go.Proofs.YtionfjofojfaoaaDoor
