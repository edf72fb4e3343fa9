/- Merged texts: Cur MakeCfg MakeInput. -/
import Derived.Test.YtooanejiadbngaaGreatDoorProg
import Derived.Test.YtooanejiadbngaaGreatDoorBA
import Derived.Laws.OwnMore
import Derived.Deep.Draws
import Derived.Deep.QuietTactic
import Derived.BigQuiet
import Derived.ProofKit
import Derived.ChangeOld
import Derived.Test.YtooanejiadbngaaGreatDoorBB
/- The drawing cursor of the model's package: what its functions give and which block they write. -/
namespace Go.Proofs.YtooanejiadbngaaGreatDoor
open Go.RowKit

/-- A slice of bytes: the cells of its elements, in old memory. -/
def IsBytes (w : World) (A : Option Addr) (len cap : Nat) (zs : List Int) : Prop :=
  len ≤ cap ∧ cap ≤ 9223372036854775807 ∧ (0 < len → ∃ g o, A = some ⟨g, o, none⟩ ∧ g < w.heap.size ∧ ∀ i, i < len → w.cell? ⟨g, o + i, none⟩ = some (.int .u8 (zs.getD i 0)) ∧ 0 ≤ zs.getD i 0 ∧ zs.getD i 0 ≤ 255)
theorem IsBytes.keep {w w' : World} {A : Option Addr} {len cap : Nat} {zs : List Int} (h : IsBytes w A len cap zs) (hb : Below w.heap.size w w') : IsBytes w' A len cap zs := by
  refine ⟨h.1, h.2.1, fun h0 => ?_⟩
  obtain ⟨g, o, hA, hg, hc⟩ := h.2.2 h0
  exact ⟨g, o, hA, Nat.lt_of_lt_of_le hg hb.size, fun i hi => ⟨(hb.cell (p := ⟨g, o + i, none⟩) hg).trans (hc i hi).1, (hc i hi).2⟩⟩
theorem open_bytes {H : Type} {enc : TypeId × Value → H} {P : Program} {w : World} {base : Nat} {spare : Nat → Bool} {held : Bool} {t e : TypeId} {A : Option Addr} {len cap : Nat} {d : DataW H} {ps : List MemPlace}
    (ht : P.underlying t = some (.slice e)) (he : P.underlying e = some (.int .u8)) (hc : P.cellsOf e = 1) (h : DataW.Trod enc P w base spare held t (.slice A len cap) d ps) : ∃ zs, IsBytes w A len cap zs := by
  obtain ⟨fuel, hf⟩ := h
  rcases _root_.Go.ChangeShapes.open_ints ht he hc hf with ⟨hcs, _⟩ | ⟨a, l, c, zs, hcs, _, hl, hm, hz, _, hcell, hwz⟩
  · simp [Value.cells] at hcs
    obtain ⟨rfl, rfl, rfl⟩ := hcs
    exact ⟨[], Nat.le_refl _, by omega, fun h0 => absurd h0 (by omega)⟩
  · simp [Value.cells] at hcs
    obtain ⟨rfl, rfl, rfl⟩ := hcs
    have hzl : len ≤ zs.length := by rw [hz]; split <;> omega
    refine ⟨zs, hl, hm, fun h0 => ?_⟩
    have hc0 := hcell 0 (by omega)
    obtain ⟨b, off, spot⟩ := a
    have hspot : spot = none := by simpa [Addr.add] using World.cell?_spot hc0
    subst hspot
    refine ⟨b, off, rfl, by simpa [Addr.add] using World.block_lt_of_cell? w _ hc0, fun i hi => ?_⟩
    have hcj := hcell i (by omega)
    have hadd : (⟨b, off, none⟩ : Addr).add i = ⟨b, off + i, none⟩ := by unfold Addr.add; split <;> simp_all
    rw [hadd] at hcj
    refine ⟨hcj, ?_⟩
    have hmem : zs.getD i 0 ∈ zs := by rw [List.getD_eq_getElem?_getD, List.getElem?_eq_getElem (by omega)]; exact List.getElem_mem _
    have := hwz _ hmem
    simpa [Lit.wf, IntKind.min, IntKind.max, IntKind.signed, IntKind.bits] using this

/-- Block p is a cursor over the bytes. -/
def CurAt (w : World) (p : Nat) (A : Option Addr) (len cap : Nat) : Prop :=
  ∃ i h : Int, w.heap[p]? = some (.cells #[.slice A len cap, .int .i64 i, .int .i64 h] 61 (0, 0)) ∧ 0 ≤ i ∧ i ≤ len

theorem set_blk {w : World} {g : Nat} {t : TypeId} {cs : Array Value} (h : w.heap[g]? = some (.cells cs t (0, 0))) (i : Nat) (u : Value) : (w.setCell ⟨g, i, none⟩ u).heap[g]? = some (.cells (cs.setIfInBounds i u) t (0, 0)) := by
  simp [World.setCell, Array.getElem?_modify, h]
theorem set_only {w : World} {g : Nat} (i : Nat) (u : Value) : w.grownBy (w.setCell ⟨g, i, none⟩ u) (some g) :=
  ⟨rfl, rfl, rfl, by simp [World.setCell], fun k _ hne => Below.heap_setCell w ⟨g, i, none⟩ u k (fun e => hne (by rw [e]))⟩
theorem only_trans' {a b c : World} {row : Option Nat} (h : a.grownBy b row) (k : b.grownBy c row) : a.grownBy c row :=
  ⟨k.os.trans h.os, k.tape.trans h.tape, k.output.trans h.output, Nat.le_trans h.size k.size, fun i hi hn => (k.block i (Nat.lt_of_lt_of_le hi h.size) hn).trans (h.block i hi hn)⟩
theorem only_drewN {a w : World} {row : Option Nat} (h : a.grownBy w row) (n : Nat) : a.grownBy (w.drewN n) row := ⟨h.os, h.tape, h.output, h.size, h.block⟩

theorem i64_and255 (n : Int) : bits .and .i64 n 255 = n % 256 := by
  have h255 : (BitVec.ofInt 64 255).toNat = 2 ^ 8 - 1 := by decide
  have key : (BitVec.ofInt 64 n &&& BitVec.ofInt 64 255).toNat = (n % ((2 ^ 64 : Nat) : Int)).toNat % 2 ^ 8 := by
    rw [BitVec.toNat_and, BitVec.toNat_ofInt, h255, Nat.and_two_pow_sub_one_eq_mod]
  show IntKind.i64.wrap ((BitVec.ofInt 64 n &&& BitVec.ofInt 64 255).toNat : Nat) = n % 256
  rw [key, IntKind.wrap_i64]
  omega
theorem and255 (n : Int) : 0 ≤ bits .and .i64 n 255 ∧ bits .and .i64 n 255 ≤ 255 := by
  rw [i64_and255]; omega

set_option maxRecDepth 100000 in
set_option maxHeartbeats 1000000 in
theorem l01Byte_any (p : Nat) (A : Option Addr) (len cap : Nat) (zs : List Int) (w : World) (hc : CurAt w p A len cap) (hz : IsBytes w A len cap zs) (hne : 0 < len → ∀ g o, A = some ⟨g, o, none⟩ → g ≠ p) :
    Calls Tryz.prog 17 #[.pointer (some ⟨p, 0, none⟩)] w fun e w' => (∃ x : Int, 0 ≤ x ∧ x ≤ 255 ∧ e = .returned (.int .i64 x)) ∧ CurAt w' p A len cap ∧ w.grownBy w' (some p) := by
  obtain ⟨i, h, hp, hi0, hil⟩ := hc
  obtain ⟨hlc, hcm, hcells⟩ := hz
  obtain ⟨i, rfl⟩ := Int.eq_ofNat_of_zero_le hi0
  have c0 : w.cell? ⟨p, 0, none⟩ = some (.slice A len cap) := by rw [cell_of_row w p 0 _ _ _ hp]; rfl
  have c1 : w.cell? ⟨p, 1, none⟩ = some (.int .i64 i) := by rw [cell_of_row w p 1 _ _ _ hp]; rfl
  have c2 : w.cell? ⟨p, 2, none⟩ = some (.int .i64 h) := by rw [cell_of_row w p 2 _ _ _ hp]; rfl
  have f1 : w.frozen? ⟨p, 1, none⟩ = false := by simp [World.frozen?, hp]
  have f2 : w.frozen? ⟨p, 2, none⟩ = false := by simp [World.frozen?, hp]
  have HP := Lib.hid hp
  clear hp
  go_enter Tryz.func17, Tryz.ntmps17
  go_wp2
  generalize wrap64 (wrap64 (h * 6364136223846793005) + 1442695040888963407) = h2
  obtain ⟨w1, hw1⟩ : ∃ w1, w1 = w.setCell ⟨p, 2, none⟩ (.int .i64 h2) := ⟨_, rfl⟩
  rw [← hw1]
  have hp1 : w1.heap[p]? = some (.cells #[.slice A len cap, .int .i64 i, .int .i64 h2] 61 (0, 0)) := by rw [hw1, set_blk HP.out]; rfl
  have hg1 : w.grownBy w1 (some p) := by rw [hw1]; exact set_only 2 _
  clear c0 c1 c2 f1 f2 hw1
  have c0 : w1.cell? ⟨p, 0, none⟩ = some (.slice A len cap) := by rw [cell_of_row w1 p 0 _ _ _ hp1]; rfl
  have c1 : w1.cell? ⟨p, 1, none⟩ = some (.int .i64 i) := by rw [cell_of_row w1 p 1 _ _ _ hp1]; rfl
  have c2 : w1.cell? ⟨p, 2, none⟩ = some (.int .i64 h2) := by rw [cell_of_row w1 p 2 _ _ _ hp1]; rfl
  have f1 : w1.frozen? ⟨p, 1, none⟩ = false := by simp [World.frozen?, hp1]
  have HP1 := Lib.hid hp1
  have HG1 := Lib.hid hg1
  have HZ := Lib.hid hcells
  clear hp1 hg1 HP hcells
  by_cases hlt : i < len
  · obtain ⟨g, o, hA, hgl, hcell⟩ := HZ.out (by omega)
    have hgp : g ≠ p := hne (by omega) g o hA
    subst hA
    obtain ⟨hcx, hx0, hx1⟩ := hcell i hlt
    have hb : w1.cell? ⟨g, o + i, none⟩ = some (.int .u8 (zs.getD i 0)) := (World.cell?_of_block (HG1.out.block g hgl (by simpa using hgp))).trans hcx
    obtain ⟨x, hx⟩ : ∃ x, x = zs.getD i 0 := ⟨_, rfl⟩
    rw [← hx] at hb hx0 hx1
    clear hcell hcx hx hne
    go_quiet (fail)
    go_wp2
    go_quiet (fail)
    go_wp2
    go_quiet (fail)
    go_wp2
    go_ret
    refine ⟨⟨_, (and255 _).1, (and255 _).2, rfl⟩, ⟨(i : Int) + 1, h2, set_blk (by exact HP1.out) 1 _, by omega, by omega⟩, only_trans' (only_drewN HG1.out _) (set_only 1 _)⟩
  · go_quiet (fail)
    go_wp2
    go_quiet (fail)
    go_wp2
    go_ret
    exact ⟨⟨_, (and255 _).1, (and255 _).2, rfl⟩, ⟨i, h2, HP1.out, by omega, hil⟩, only_drewN (only_drewN HG1.out _) _⟩

theorem CurAt.below {B : Nat} {w w' : World} {p : Nat} {A : Option Addr} {len cap : Nat} (h : CurAt w p A len cap) (hb : Below B w w') (hp : p < B) : CurAt w' p A len cap := by
  obtain ⟨i, x, h1, h2, h3⟩ := h
  exact ⟨i, x, (hb.block p hp).trans h1, h2, h3⟩

set_option maxRecDepth 100000 in
set_option maxHeartbeats 1000000 in
theorem l01New_any (A : Option Addr) (len cap : Nat) (zs : List Int) (w : World) (hz : IsBytes w A len cap zs) :
    Calls Tryz.prog 14 #[.slice A len cap] w fun e w' => ∃ p, e = .returned (.pointer (some ⟨p, 0, none⟩)) ∧ w.heap.size ≤ p ∧ CurAt w' p A len cap ∧ Below w.heap.size w w' := by
  obtain ⟨hlc, hcm, hcells⟩ := hz
  have HZ := Lib.hid hcells
  clear hcells
  go_enter Tryz.func14, Tryz.ntmps14
  go_wp2
  go_loop [3, 4] (fun h i => ∃ (k : Nat) (x : Int), k ≤ len ∧ i = .int .i64 k ∧ h = .int .i64 x) (fun _ i => len - (intOf i).toNat)
  case atStart => exact ⟨0, _, Nat.zero_le _, rfl, rfl⟩
  case round =>
    obtain ⟨k, x, hk, rfl, rfl⟩ := hrel
    by_cases hlt : k < len
    · by_cases h4 : (k : Int) < 4000
      · obtain ⟨g, o, hA, hgl, hcell⟩ := HZ.out (by omega)
        subst hA
        have hb := (hcell k hlt).1
        obtain ⟨y, hy⟩ : ∃ y, y = zs.getD k 0 := ⟨_, rfl⟩
        rw [← hy] at hb
        clear hcell hy
        go_wp2
        go_round
        case rel => exact ⟨k + 1, _, by omega, by go_num, rfl⟩
        case measure => simp [intOf]; omega
      · go_wp2
        go_ret
        exact ⟨_, rfl, Nat.le_refl _, ⟨0, x, heap_alloc_new w _, by omega, by omega⟩, (Below.refl _ _).alloc (Nat.le_refl _) _⟩
    · go_wp2
      go_ret
      exact ⟨_, rfl, Nat.le_refl _, ⟨0, x, heap_alloc_new w _, by omega, by omega⟩, (Below.refl _ _).alloc (Nat.le_refl _) _⟩

/-- A cursor that was made since world w0. -/
structure CurB (w0 w : World) (p : Nat) (A : Option Addr) (len cap : Nat) (zs : List Int) : Prop where
  base : w0.heap.size ≤ p
  at_ : CurAt w p A len cap
  old : Below w0.heap.size w0 w
  bytes : IsBytes w0 A len cap zs
theorem CurB.lt {w0 w : World} {p : Nat} {A : Option Addr} {len cap : Nat} {zs : List Int} (h : CurB w0 w p A len cap zs) : p < w.heap.size := by
  obtain ⟨i, x, h1, _⟩ := h.at_
  exact (Array.getElem?_eq_some_iff.1 h1).1
theorem CurB.below {w0 w w' : World} {p : Nat} {A : Option Addr} {len cap : Nat} {zs : List Int} (h : CurB w0 w p A len cap zs) (hb : Below w.heap.size w w') : CurB w0 w' p A len cap zs :=
  ⟨h.base, h.at_.below hb h.lt, h.old.trans (hb.mono h.old.size), h.bytes⟩
theorem CurB.only {w0 w w' : World} {p : Nat} {A : Option Addr} {len cap : Nat} {zs : List Int} (h : CurB w0 w p A len cap zs) (hc : CurAt w' p A len cap) (hg : w.grownBy w' (some p)) : CurB w0 w' p A len cap zs :=
  ⟨h.base, hc, h.old.grown hg h.old.size (fun k hk => by injection hk with hk; rw [← hk]; exact h.base), h.bytes⟩
theorem grown_refl' (w : World) (row : Option Nat) : w.grownBy w row := ⟨rfl, rfl, rfl, Nat.le_refl _, fun _ _ _ => rfl⟩

theorem byte_cur {w0 : World} {p : Nat} {A : Option Addr} {len cap : Nat} {zs : List Int} (w : World) (h : CurB w0 w p A len cap zs) :
    Calls Tryz.prog 17 #[.pointer (some ⟨p, 0, none⟩)] w fun e w' => ∃ x : Int, 0 ≤ x ∧ x ≤ 255 ∧ e = .returned (.int .i64 x) ∧ CurB w0 w' p A len cap zs ∧ w.grownBy w' (some p) := by
  have hz : IsBytes w A len cap zs := by
    refine ⟨h.bytes.1, h.bytes.2.1, fun h0 => ?_⟩
    obtain ⟨g, o, hA, hg, hc⟩ := h.bytes.2.2 h0
    exact ⟨g, o, hA, Nat.lt_of_lt_of_le hg h.old.size, fun i hi => ⟨(h.old.cell (p := ⟨g, o + i, none⟩) hg).trans (hc i hi).1, (hc i hi).2⟩⟩
  refine (l01Byte_any p A len cap zs w h.at_ hz ?_).mono ?_
  · intro h0 g o hA hgp
    obtain ⟨g', o', hA', hg, _⟩ := h.bytes.2.2 h0
    rw [hA] at hA'
    injection hA' with hA'
    injection hA' with e
    have := h.base
    omega
  · rintro e w' ⟨⟨x, h1, h2, h3⟩, h4, h5⟩
    exact ⟨x, h1, h2, h3, h.only h4 h5, h5⟩

set_option maxRecDepth 100000 in
set_option maxHeartbeats 1000000 in
theorem below_cur {w0 : World} {p : Nat} {A : Option Addr} {len cap : Nat} {zs : List Int} (n : Int) (w : World) (h : CurB w0 w p A len cap zs) (h0 : 0 < n) (h1 : n ≤ 256) :
    Calls Tryz.prog 18 #[.pointer (some ⟨p, 0, none⟩), .int .i64 n] w fun e w' => ∃ x : Int, 0 ≤ x ∧ x < n ∧ e = .returned (.int .i64 x) ∧ CurB w0 w' p A len cap zs ∧ w.grownBy w' (some p) := by
  have HC := Lib.hid (byte_cur w h)
  clear h
  go_enter Tryz.func18, Tryz.ntmps18
  go_wp2_with fail
  refine HC.out.mono ?_
  rintro e w1 ⟨x, hx0, hx1, rfl, hc1, hg1⟩
  have HC1 := Lib.hid hc1
  have HG1 := Lib.hid hg1
  clear hc1 hg1
  go_wp2_with fail
  go_ret
  exact ⟨x % n, Int.emod_nonneg _ (by omega), Int.emod_lt_of_pos _ h0, rfl, HC1.out, HG1.out⟩

set_option maxRecDepth 100000 in
set_option maxHeartbeats 1000000 in
theorem str_cur {w0 : World} {p : Nat} {A : Option Addr} {len cap : Nat} {zs : List Int} (l : List ByteArray) (n g c : Nat) (w : World) (h : CurB w0 w p A len cap zs) (hn : l.length = n) (h0 : 0 < n) (h1 : n ≤ 256) (hg : g ≠ p)
    (hgl : g < w.heap.size) (hc : ∀ (j : Nat) x, l[j]? = some x → w.cell? ⟨g, j, none⟩ = some (.string x)) :
    Calls Tryz.prog 24 #[.pointer (some ⟨p, 0, none⟩), .slice (some ⟨g, 0, none⟩) n c] w fun e w' => ∃ x ∈ l, e = .returned (.string x) ∧ CurB w0 w' p A len cap zs ∧ w.grownBy w' (some p) := by
  have HC := Lib.hid (below_cur (n : Int) w h (by omega) (by omega))
  have HL := Lib.hid hc
  have HN := Lib.hid hn
  clear h hc hn
  go_enter Tryz.func24, Tryz.ntmps24
  go_wp2_with fail
  refine HC.out.mono ?_
  rintro e w1 ⟨x, hx0, hx1, rfl, hc1, hg1⟩
  obtain ⟨j, rfl⟩ := Int.eq_ofNat_of_zero_le hx0
  have hjl : j < l.length := by rw [HN.out]; omega
  have hcell : w1.cell? ⟨g, j, none⟩ = some (.string l[j]) := (World.cell?_of_block (hg1.block g hgl (by simpa using hg))).trans (HL.out j _ (List.getElem?_eq_getElem hjl))
  obtain ⟨y, hy⟩ : ∃ y, y = l[j] := ⟨_, rfl⟩
  rw [← hy] at hcell
  have HY := Lib.hid (show y ∈ l from by rw [hy]; exact List.getElem_mem _)
  have HC1 := Lib.hid hc1
  have HG1 := Lib.hid hg1
  clear hc1 hg1 hy
  go_wp2
  go_ret
  exact ⟨y, HY.out, rfl, HC1.out, HG1.out⟩

theorem new_cur (A : Option Addr) (len cap : Nat) (zs : List Int) (w : World) (hz : IsBytes w A len cap zs) :
    Calls Tryz.prog 14 #[.slice A len cap] w fun e w' => ∃ p, e = .returned (.pointer (some ⟨p, 0, none⟩)) ∧ CurB w w' p A len cap zs :=
  (l01New_any A len cap zs w hz).mono fun _ _ ⟨p, h1, h2, h3, h4⟩ => ⟨p, h1, h2, h3, h4, hz⟩

set_option maxRecDepth 100000 in
set_option maxHeartbeats 1000000 in
theorem new24_cur (n : Nat) (A : Option Addr) (len cap : Nat) (zs : List Int) (w : World) (hz : IsBytes w A len cap zs) (hn : n ≤ 1000000) :
    Calls Tryz.prog 16 #[.slice A len cap, .int .i64 n] w fun e w' => ∃ p, e = .returned (.pointer (some ⟨p, 0, none⟩)) ∧ CurB w w' p A len cap zs := by
  have HN := Lib.hid (new_cur A len cap zs w hz)
  clear hz
  go_enter Tryz.func16, Tryz.ntmps16
  go_wp2_with fail
  refine HN.out.mono ?_
  rintro e w1 ⟨p, rfl, hc1⟩
  have HC1 := Lib.hid hc1
  clear hc1
  go_wp2_with fail
  go_loopw [6] (fun i wr => ∃ k : Nat, k ≤ n ∧ i = .int .i64 k ∧ Hid (CurB w wr p A len cap zs)) (fun i _ => n - (intOf i).toNat)
  case atStart => exact ⟨0, Nat.zero_le _, rfl, HC1⟩
  case round =>
    obtain ⟨k, hk, rfl, HC⟩ := hrel
    by_cases hlt : k < n
    · go_wp2_with fail
      refine (byte_cur _ HC.out).mono ?_
      rintro e w2 ⟨x, hx0, hx1, rfl, hc2, hg2⟩
      have HC2 := Lib.hid hc2
      clear hc2 hg2
      go_wp2_with fail
      go_roundw
      case rel => exact ⟨k + 1, by omega, by go_num, HC2⟩
      case measure => simp [intOf]; omega
    · go_wp2
      go_ret
      exact ⟨p, rfl, HC.out⟩

set_option maxRecDepth 100000 in
set_option maxHeartbeats 1000000 in
theorem makeNum_any (n : Nat) (A : Option Addr) (len cap : Nat) (zs : List Int) (w : World) (hz : IsBytes w A len cap zs) (hn : n ≤ 1000000) :
    Calls Tryz.prog 7 #[.slice A len cap, .int .i64 n] w fun e w' => (∃ x : Int, 0 ≤ x ∧ x ≤ 65535 ∧ e = .returned (.int .i64 x)) ∧ Below w.heap.size w w' := by
  have HN := Lib.hid (new24_cur n A len cap zs w hz hn)
  clear hz
  go_enter Tryz.func7, Tryz.ntmps7
  go_wp2_with fail
  refine HN.out.mono ?_
  rintro e w1 ⟨p, rfl, hc1⟩
  have HC1 := Lib.hid hc1
  clear hc1
  go_wp2_with fail
  refine (byte_cur _ HC1.out).mono ?_
  rintro e w2 ⟨x, hx0, hx1, rfl, hc2, hg2⟩
  have HC2 := Lib.hid hc2
  clear hc2 hg2
  go_wp2_with fail
  refine (byte_cur _ HC2.out).mono ?_
  rintro e w3 ⟨y, hy0, hy1, rfl, hc3, hg3⟩
  have HC3 := Lib.hid hc3
  clear hc3 hg3
  go_wp2_with fail
  go_ret
  exact ⟨⟨x * 256 + y, by omega, by omega, rfl⟩, HC3.out.old⟩
end Go.Proofs.YtooanejiadbngaaGreatDoor

/- MakeConfig of the model's package gives some valid configuration. -/
namespace Go.Proofs.YtooanejiadbngaaGreatDoor
open Go.RowKit
set_option linter.unusedVariables false

theorem Blk.grown {W W' : World} {g p : Nat} {T : TypeId} {cs : Array Value} (h : Blk W g T cs) (hg : W.grownBy W' (some p)) (hne : g ≠ p) : Blk W' g T cs := (hg.block g h.lt (by simpa using hne)).trans h
theorem CurB.row {w0 w : World} {p : Nat} {A : Option Addr} {len cap : Nat} {zs : List Int} (h : CurB w0 w p A len cap zs) {g : Nat} {cs : Array Value} (hg : w0.heap.size ≤ g) (hne : g ≠ p) : CurB w0 (w.setRow g cs) p A len cap zs := by
  refine ⟨h.base, ?_, below_row h.old hg, h.bytes⟩
  obtain ⟨i, x, h1, h2, h3⟩ := h.at_
  exact ⟨i, x, by simp [World.setRow, Array.getElem?_modify, hne, h1], h2, h3⟩
theorem CurB.setc {w0 w : World} {p : Nat} {A : Option Addr} {len cap : Nat} {zs : List Int} (h : CurB w0 w p A len cap zs) {g j : Nat} {u : Value} (hg : w0.heap.size ≤ g) (hne : g ≠ p) : CurB w0 (w.setCell ⟨g, j, none⟩ u) p A len cap zs := by
  refine ⟨h.base, ?_, h.old.setCell hg _, h.bytes⟩
  obtain ⟨i, x, h1, h2, h3⟩ := h.at_
  exact ⟨i, x, by simp [World.setCell, Array.getElem?_modify, hne, h1], h2, h3⟩
set_option maxRecDepth 100000 in
set_option maxHeartbeats 400000 in
theorem once_cur {w0 : World} {p : Nat} {A : Option Addr} {len cap : Nat} {zs : List Int} (n : Int) (w : World) (h : CurB w0 w p A len cap zs) (h0 : 0 < n) (h1 : n ≤ 256) :
    Calls Tryz.prog 23 #[.pointer (some ⟨p, 0, none⟩), .int .i64 n] w fun e w' => ∃ b : Bool, e = .returned (.bool b) ∧ CurB w0 w' p A len cap zs ∧ w.grownBy w' (some p) := by
  have HC := Lib.hid (below_cur n w h h0 h1)
  clear h h0 h1
  go_enter Tryz.func23, Tryz.ntmps23
  go_wp2_with fail
  refine HC.out.mono ?_
  rintro e w1 ⟨x, _, _, rfl, hc1, hg1⟩
  have HC1 := Lib.hid hc1
  have HG1 := Lib.hid hg1
  clear hc1 hg1
  go_wp2_with fail
  go_ret
  exact ⟨_, rfl, HC1.out, HG1.out⟩
set_option maxRecDepth 100000 in
set_option maxHeartbeats 1000000 in
theorem pick_cur {w0 : World} {p : Nat} {A : Option Addr} {len cap : Nat} {zs : List Int} (l : List Int) (n g c : Nat) (w : World) (h : CurB w0 w p A len cap zs) (hn : l.length = n) (h0 : 0 < n) (h1 : n ≤ 256) (hg : g ≠ p)
    (hgl : g < w.heap.size) (hc : ∀ (j : Nat) x, l[j]? = some x → w.cell? ⟨g, j, none⟩ = some (.int .i64 x)) :
    Calls Tryz.prog 22 #[.pointer (some ⟨p, 0, none⟩), .slice (some ⟨g, 0, none⟩) n c] w fun e w' => ∃ x ∈ l, e = .returned (.int .i64 x) ∧ CurB w0 w' p A len cap zs ∧ w.grownBy w' (some p) := by
  have HC := Lib.hid (below_cur (n : Int) w h (by omega) (by omega))
  have HL := Lib.hid hc
  have HN := Lib.hid hn
  clear h hc hn
  go_enter Tryz.func22, Tryz.ntmps22
  go_wp2_with fail
  refine HC.out.mono ?_
  rintro e w1 ⟨x, hx0, hx1, rfl, hc1, hg1⟩
  obtain ⟨j, rfl⟩ := Int.eq_ofNat_of_zero_le hx0
  have hjl : j < l.length := by rw [HN.out]; omega
  have hcell : w1.cell? ⟨g, j, none⟩ = some (.int .i64 l[j]) := (World.cell?_of_block (hg1.block g hgl (by simpa using hg))).trans (HL.out j _ (List.getElem?_eq_getElem hjl))
  obtain ⟨y, hy⟩ : ∃ y, y = l[j] := ⟨_, rfl⟩
  rw [← hy] at hcell
  have HY := Lib.hid (show y ∈ l from by rw [hy]; exact List.getElem_mem _)
  have HC1 := Lib.hid hc1
  have HG1 := Lib.hid hg1
  clear hc1 hg1 hy
  go_wp2
  go_ret
  exact ⟨y, HY.out, rfl, HC1.out, HG1.out⟩
theorem ints_cells (w : World) (T : TypeId) (l : List Int) : ∀ (j : Nat) x, l[j]? = some x → (w.alloc (.cells (l.map (Value.int .i64)).toArray T)).cell? ⟨w.heap.size, j, none⟩ = some (.int .i64 x) := fun j x hj => by
  rw [(Blk.new w T _).cell]
  simp [hj]
theorem drawn_valid (m t p d : Int) (b fd fl fe fm : Bool) (hm : m ∈ [(0 : Int), 0, 0, 3, 5]) (ht : t ∈ [(8 : Int), 4, 1]) (hp0 : 0 ≤ p) (hp1 : p < 3) (hd : d ∈ [(32 : Int), 32, 46, 9]) (hb : d = 9 → b = false) : validC ⟨m, t, p, d, b, fd, fl, fe, fm⟩ = true := by
  rw [validC_iff]
  simp only [List.mem_cons, List.not_mem_nil, or_false] at hm ht hd
  dsimp only
  refine ⟨by omega, by omega, by omega, ?_⟩
  by_cases h9 : d = 9
  · exact .inl ⟨h9, hb h9⟩
  · exact .inr (by omega)
set_option maxRecDepth 100000 in
set_option maxHeartbeats 4000000 in
theorem draw_cur {w0 : World} {p : Nat} {A : Option Addr} {len cap : Nat} {zs : List Int} (w : World) (h : CurB w0 w p A len cap zs) :
    Calls Tryz.prog 13 #[.pointer (some ⟨p, 0, none⟩)] w fun e w' => ∃ c : Cfg, validC c = true ∧ e = .returned (.agg (cfgV c)) ∧ CurB w0 w' p A len cap zs := by
  have HC0 := Lib.hid h
  have hp0 : p < w.heap.size := h.lt
  have hne : w.heap.size ≠ p := by omega
  clear h
  have HC1 := Lib.hid (HC0.out.below ((Below.refl _ _).alloc (Nat.le_refl _) (.cells ZC 24)))
  have HZ1 := Lib.hid (Blk.new w 24 ZC)
  have HC2 := Lib.hid (HC1.out.below ((Below.refl _ _).alloc (Nat.le_refl _) (.cells #[.int .i64 0, .int .i64 0, .int .i64 0, .int .i64 3, .int .i64 5] 3)))
  have HZ2 := Lib.hid (HZ1.out.after ((Below.refl _ _).alloc (Nat.le_refl _) (.cells #[.int .i64 0, .int .i64 0, .int .i64 0, .int .i64 3, .int .i64 5] 3)))
  go_enter Tryz.func13, Tryz.ntmps13
  go_wp2_with fail
  refine (pick_cur [0, 0, 0, 3, 5] 5 (w.heap.size + 1) 5 _ HC2.out rfl (by omega) (by omega) (by omega) (by simp) (by have := ints_cells (w.alloc (.cells ZC 24)) 3 [0, 0, 0, 3, 5]; simpa using this)).mono ?_
  rintro e w1 ⟨m, hm, rfl, hc1, hg1⟩
  have HZ3 := Lib.hid (HZ2.out.grown hg1 hne)
  have HM := Lib.hid hm
  have HC3 := Lib.hid hc1
  clear hc1 hg1 hm
  have HC4 := Lib.hid (HC3.out.below ((Below.refl _ _).alloc (Nat.le_refl _) (.cells #[.int .i64 8, .int .i64 4, .int .i64 1] 3)))
  have HZ4 := Lib.hid (HZ3.out.after ((Below.refl _ _).alloc (Nat.le_refl _) (.cells #[.int .i64 8, .int .i64 4, .int .i64 1] 3)))
  go_wp2_with fail
  refine (pick_cur [8, 4, 1] 3 w1.heap.size 3 _ HC4.out rfl (by omega) (by omega) (by have := HC3.out.lt; omega) (by simp) (by have := ints_cells w1 3 [8, 4, 1]; simpa using this)).mono ?_
  rintro e w2 ⟨t, ht, rfl, hc1, hg1⟩
  have HZ5 := Lib.hid (HZ4.out.grown hg1 hne)
  have HT := Lib.hid ht
  have HC5 := Lib.hid hc1
  clear hc1 hg1 ht
  go_wp2_with fail
  refine (below_cur 3 _ HC5.out (by omega) (by omega)).mono ?_
  rintro e w3 ⟨q, hq0, hq1, rfl, hc1, hg1⟩
  have HZ6 := Lib.hid (HZ5.out.grown hg1 hne)
  have HC6 := Lib.hid hc1
  clear hc1 hg1
  have HC7 := Lib.hid (HC6.out.below ((Below.refl _ _).alloc (Nat.le_refl _) (.cells #[.int .i64 32, .int .i64 32, .int .i64 46, .int .i64 9] 3)))
  have HZ7 := Lib.hid (HZ6.out.after ((Below.refl _ _).alloc (Nat.le_refl _) (.cells #[.int .i64 32, .int .i64 32, .int .i64 46, .int .i64 9] 3)))
  go_wp2_with fail
  refine (pick_cur [32, 32, 46, 9] 4 w3.heap.size 4 _ HC7.out rfl (by omega) (by omega) (by have := HC6.out.lt; omega) (by simp) (by have := ints_cells w3 3 [32, 32, 46, 9]; simpa using this)).mono ?_
  rintro e w4 ⟨d, hd, rfl, hc1, hg1⟩
  have HZ8 := Lib.hid (HZ7.out.grown hg1 hne)
  have HD := Lib.hid hd
  have HC8 := Lib.hid hc1
  clear hc1 hg1 hd
  go_wp2_with fail
  refine (once_cur 4 _ HC8.out (by omega) (by omega)).mono ?_
  rintro e w5 ⟨fd, rfl, hc1, hg1⟩
  have HZ9 := Lib.hid (HZ8.out.grown hg1 hne)
  have HC9 := Lib.hid hc1
  clear hc1 hg1
  go_wp2_with fail
  refine (once_cur 4 _ HC9.out (by omega) (by omega)).mono ?_
  rintro e w6 ⟨fl, rfl, hc1, hg1⟩
  have HZ10 := Lib.hid (HZ9.out.grown hg1 hne)
  have HC10 := Lib.hid hc1
  clear hc1 hg1
  go_wp2_with fail
  refine (once_cur 3 _ HC10.out (by omega) (by omega)).mono ?_
  rintro e w7 ⟨fe, rfl, hc1, hg1⟩
  have HZ11 := Lib.hid (HZ10.out.grown hg1 hne)
  have HC11 := Lib.hid hc1
  clear hc1 hg1
  go_wp2_with fail
  refine (once_cur 4 _ HC11.out (by omega) (by omega)).mono ?_
  rintro e w8 ⟨fm, rfl, hc1, hg1⟩
  have HZ12 := Lib.hid (HZ11.out.grown hg1 hne)
  have HC12 := Lib.hid hc1
  clear hc1 hg1
  have HC13 := Lib.hid (HC12.out.below ((Below.refl _ _).alloc (Nat.le_refl _) (.cells #[.int .i64 m, .int .i64 t, .int .i64 q, .int .i64 d, .bool false, .bool fd, .bool fl, .bool fe, .bool fm] 24)))
  have HZ13 := Lib.hid (HZ12.out.after ((Below.refl _ _).alloc (Nat.le_refl _) (.cells #[.int .i64 m, .int .i64 t, .int .i64 q, .int .i64 d, .bool false, .bool fd, .bool fl, .bool fe, .bool fm] 24)))
  have HN13 := Lib.hid (Blk.new w8 24 #[.int .i64 m, .int .i64 t, .int .i64 q, .int .i64 d, .bool false, .bool fd, .bool fl, .bool fe, .bool fm])
  have hne8 : w8.heap.size ≠ p := by have := HC12.out.lt; omega
  have hlt8 : w.heap.size < w8.heap.size := HZ12.out.lt
  have hne9 : w8.heap.size ≠ w.heap.size := by omega
  have hw0 : w0.heap.size ≤ w.heap.size := HC0.out.old.size
  by_cases h9 : d = 9
  · have e9 : (d != 9) = false := by simp [h9]
    have HV := Lib.hid (drawn_valid m t q d false fd fl fe fm HM.out HT.out hq0 hq1 HD.out (fun _ => rfl))
    clear h9
    have HZ14 := Lib.hid (show Blk ((w8.alloc (.cells #[.int .i64 m, .int .i64 t, .int .i64 q, .int .i64 d, .bool false, .bool fd, .bool fl, .bool fe, .bool fm] 24))) w.heap.size 24 ZC from HZ13.out)
    have HONE := Lib.hid (one_cfg ⟨m, t, q, d, false, fd, fl, fe, fm⟩)
    have hz := HZ14.out
    have HBX := Lib.hid ((HZ14.out.row (cs' := #[.int .i64 m, .int .i64 t, .int .i64 q, .int .i64 d, .bool false, .bool fd, .bool fl, .bool fe, .bool fm])).boxed)
    go_wp2_with (refine wpList_store_row rfl _ _ _ rfl w.heap.size #[.int .i64 m, .int .i64 t, .int .i64 q, .int .i64 d, .bool false, .bool fd, .bool fl, .bool fe, .bool fm] rfl rfl 24 ZC hz size_cfg rfl HONE.out ?_)
    obtain ⟨c0, c1, c2, c3, c4, c5, c6, c7, c8⟩ := HBX.out
    exact bodyPost_ret (v := .agg #[.int .i64 m, .int .i64 t, .int .i64 q, .int .i64 d, .bool false, .bool fd, .bool fl, .bool fe, .bool fm]) (by simp [results, Tryz.results13, go_sem, c0, c1, c2, c3, c4, c5, c6, c7, c8]) rfl ⟨⟨m, t, q, d, false, fd, fl, fe, fm⟩, HV.out, rfl, HC13.out.row hw0 hne⟩
  · have e9 : (d != 9) = true := by simp [h9]
    go_wp2_with fail
    refine (once_cur 3 _ HC13.out (by omega) (by omega)).mono ?_
    rintro e w9 ⟨b, rfl, hc1, hg1⟩
    have HV := Lib.hid (drawn_valid m t q d b fd fl fe fm HM.out HT.out hq0 hq1 HD.out (fun h => absurd h h9))
    clear h9
    have HZ14 := Lib.hid (HZ13.out.grown hg1 hne)
    have HN14 := Lib.hid (HN13.out.grown hg1 hne8)
    have HC14 := Lib.hid hc1
    clear hc1 hg1
    have HN15 : Hid (Blk (w9.setCell ⟨w8.heap.size, 4, none⟩ (.bool b)) w8.heap.size 24 #[.int .i64 m, .int .i64 t, .int .i64 q, .int .i64 d, .bool b, .bool fd, .bool fl, .bool fe, .bool fm]) := Lib.hid (HN14.out.set 4 (.bool b))
    have HZ15 := Lib.hid (HZ14.out.other (j := 4) (u := .bool b) hne9)
    have HC15 := Lib.hid (HC14.out.setc (j := 4) (u := .bool b) (Nat.le_trans hw0 (Nat.le_of_lt hlt8)) hne8)
    have HONE := Lib.hid (one_cfg ⟨m, t, q, d, b, fd, fl, fe, fm⟩)
    have hz := HZ15.out
    have HBX := Lib.hid ((HZ15.out.row (cs' := #[.int .i64 m, .int .i64 t, .int .i64 q, .int .i64 d, .bool b, .bool fd, .bool fl, .bool fe, .bool fm])).boxed)
    obtain ⟨d0, d1, d2, d3, d4, d5, d6, d7, d8⟩ := HN14.out.boxed
    have dz : w9.frozen? ⟨w8.heap.size, 4, none⟩ = false := HN14.out.free 4
    go_wp2_with (refine wpList_store_row rfl _ _ _ rfl w.heap.size #[.int .i64 m, .int .i64 t, .int .i64 q, .int .i64 d, .bool b, .bool fd, .bool fl, .bool fe, .bool fm] rfl rfl 24 ZC hz size_cfg rfl HONE.out ?_)
    obtain ⟨c0, c1, c2, c3, c4, c5, c6, c7, c8⟩ := HBX.out
    exact bodyPost_ret (v := .agg #[.int .i64 m, .int .i64 t, .int .i64 q, .int .i64 d, .bool b, .bool fd, .bool fl, .bool fe, .bool fm]) (by simp [results, Tryz.results13, go_sem, c0, c1, c2, c3, c4, c5, c6, c7, c8]) rfl ⟨⟨m, t, q, d, b, fd, fl, fe, fm⟩, HV.out, rfl, HC15.out.row hw0 hne⟩
set_option maxRecDepth 100000 in
set_option maxHeartbeats 1000000 in
theorem makeConfig_any (A : Option Addr) (len cap : Nat) (zs : List Int) (w : World) (hz : IsBytes w A len cap zs) :
    Calls Tryz.prog 5 #[.slice A len cap] w fun e w' => (∃ c : Cfg, validC c = true ∧ e = .returned (.agg (cfgV c))) ∧ Below w.heap.size w w' := by
  have HZ := Lib.hid ((⟨hz.1, hz.2.1, fun h0 => by
    obtain ⟨g, o, hA, hg, hc⟩ := hz.2.2 h0
    exact ⟨g, o, hA, by simp; omega, fun i hi => ⟨(((Below.refl w.heap.size w).alloc (Nat.le_refl _) (.cells ZC 24)).cell (p := ⟨g, o + i, none⟩) hg).trans (hc i hi).1, (hc i hi).2⟩⟩⟩ : IsBytes (w.alloc (.cells ZC 24)) A len cap zs))
  have HN := Lib.hid (new_cur A len cap zs _ HZ.out)
  clear hz
  go_enter Tryz.func5, Tryz.ntmps5
  go_wp2_with fail
  refine HN.out.mono ?_
  rintro e w1 ⟨p, rfl, hc1⟩
  have HC1 := Lib.hid hc1
  clear hc1
  go_wp2_with fail
  refine (draw_cur _ HC1.out).mono ?_
  rintro e w2 ⟨c, hv, rfl, hc2⟩
  have HV := Lib.hid hv
  have hz : Blk w2 w.heap.size 24 ZC := (Blk.new w 24 ZC).after hc2.old
  have B2 := Lib.hid ((by go_grown : Below w.heap.size w (w.alloc (.cells ZC 24))).trans (hc2.old.mono (by simp)))
  clear hv hc2
  have HONE := Lib.hid (one_cfg c)
  have HBX := Lib.hid (hz.row (cs' := cfgV c))
  obtain ⟨m, t, p, d, fr, fd, fl, fe, fm⟩ := c
  unfold cfgV at HONE HBX ⊢
  simp only at HONE HBX ⊢
  go_wp2_with (refine wpList_store_row rfl _ _ _ rfl w.heap.size #[.int .i64 m, .int .i64 t, .int .i64 p, .int .i64 d, .bool fr, .bool fd, .bool fl, .bool fe, .bool fm] rfl rfl 24 ZC hz size_cfg rfl HONE.out ?_)
  obtain ⟨c0, c1, c2, c3, c4, c5, c6, c7, c8⟩ := HBX.out.boxed
  exact bodyPost_ret (v := .agg #[.int .i64 m, .int .i64 t, .int .i64 p, .int .i64 d, .bool fr, .bool fd, .bool fl, .bool fe, .bool fm]) (by simp [results, Tryz.results5, go_sem, c0, c1, c2, c3, c4, c5, c6, c7, c8]) rfl ⟨⟨⟨m, t, p, d, fr, fd, fl, fe, fm⟩, HV.out, rfl⟩, below_row B2.out (Nat.le_refl _)⟩
end Go.Proofs.YtooanejiadbngaaGreatDoor

/- MakeInput of the model's package gives some short text. -/
namespace Go.Proofs.YtooanejiadbngaaGreatDoor
open Go.RowKit

/-- The texts that a piece is picked from. -/
def inputs : List ByteArray := [⟨#[97]⟩, ⟨#[98, 99]⟩, ⟨#[9]⟩, ⟨#[10]⟩, ⟨#[9]⟩, ⟨#[120, 9, 121, 10]⟩, ⟨#[10, 10]⟩, ⟨#[12]⟩, ⟨#[255]⟩, ⟨#[255, 112, 9, 113, 10, 255]⟩, ⟨#[60, 98, 62]⟩, ⟨#[38, 108, 116, 59]⟩, ⟨#[38]⟩, ⟨#[228, 184, 173]⟩, ⟨#[228]⟩, ⟨#[108, 111, 110, 103, 32, 116, 101, 120, 116]⟩]
theorem inputs_size (x : ByteArray) (h : x ∈ inputs) : x.size ≤ 9 := by
  simp only [inputs, List.mem_cons, List.not_mem_nil, or_false] at h
  rcases h with rfl | rfl | rfl | rfl | rfl | rfl | rfl | rfl | rfl | rfl | rfl | rfl | rfl | rfl | rfl | rfl <;> decide
/-- Their cells. -/
def inputCells : Array Value := #[.string ⟨#[97]⟩, .string ⟨#[98, 99]⟩, .string ⟨#[9]⟩, .string ⟨#[10]⟩, .string ⟨#[9]⟩, .string ⟨#[120, 9, 121, 10]⟩, .string ⟨#[10, 10]⟩, .string ⟨#[12]⟩, .string ⟨#[255]⟩, .string ⟨#[255, 112, 9, 113, 10, 255]⟩, .string ⟨#[60, 98, 62]⟩, .string ⟨#[38, 108, 116, 59]⟩, .string ⟨#[38]⟩, .string ⟨#[228, 184, 173]⟩, .string ⟨#[228]⟩, .string ⟨#[108, 111, 110, 103, 32, 116, 101, 120, 116]⟩]
theorem inputs_cells (w : World) : ∀ (j : Nat) x, inputs[j]? = some x → (w.alloc (.cells inputCells 9)).cell? ⟨w.heap.size, j, none⟩ = some (.string x) := by
  intro j x hj
  rw [cell_of_row _ w.heap.size j _ 9 (0, 0) (heap_alloc_new w _)]
  match j, hj with
  | 0, hj => simp [inputs] at hj; subst hj; rfl
  | 1, hj => simp [inputs] at hj; subst hj; rfl
  | 2, hj => simp [inputs] at hj; subst hj; rfl
  | 3, hj => simp [inputs] at hj; subst hj; rfl
  | 4, hj => simp [inputs] at hj; subst hj; rfl
  | 5, hj => simp [inputs] at hj; subst hj; rfl
  | 6, hj => simp [inputs] at hj; subst hj; rfl
  | 7, hj => simp [inputs] at hj; subst hj; rfl
  | 8, hj => simp [inputs] at hj; subst hj; rfl
  | 9, hj => simp [inputs] at hj; subst hj; rfl
  | 10, hj => simp [inputs] at hj; subst hj; rfl
  | 11, hj => simp [inputs] at hj; subst hj; rfl
  | 12, hj => simp [inputs] at hj; subst hj; rfl
  | 13, hj => simp [inputs] at hj; subst hj; rfl
  | 14, hj => simp [inputs] at hj; subst hj; rfl
  | 15, hj => simp [inputs] at hj; subst hj; rfl
  | j + 16, hj => simp [inputs] at hj

set_option maxRecDepth 100000 in
set_option maxHeartbeats 1000000 in
theorem input_cur {w0 : World} {p : Nat} {A : Option Addr} {len cap : Nat} {zs : List Int} (m : Nat) (w : World) (h : CurB w0 w p A len cap zs) (hm : m ≤ 200) :
    Calls Tryz.prog 15 #[.pointer (some ⟨p, 0, none⟩), .int .i64 (m : Int)] w fun e w' => ∃ s : ByteArray, s.size ≤ 9 * m ∧ e = .returned (.string s) ∧ CurB w0 w' p A len cap zs := by
  have HC0 := Lib.hid (below_cur ((m : Int) + 1) w h (by omega) (by omega))
  clear h
  go_enter Tryz.func15, Tryz.ntmps15
  go_wp2_with fail
  refine HC0.out.mono ?_
  rintro e w1 ⟨n, hn0, hn1, rfl, hc1, _⟩
  have HC1 := Lib.hid hc1
  clear hc1
  go_wp2_with fail
  go_loopw [5, 6] (fun t i wr => ∃ (k : Int) (s : ByteArray), i = .int .i64 k ∧ t = .string s ∧ 0 ≤ k ∧ k ≤ m ∧ (s.size : Int) ≤ 9 * ((m : Int) - k) ∧ Hid (CurB w0 wr p A len cap zs)) (fun _ i _ => (intOf i).toNat)
  case atStart => exact ⟨n, ⟨#[]⟩, rfl, rfl, hn0, by omega, by show (0 : Int) ≤ _; omega, HC1⟩
  case round =>
    obtain ⟨k, s, rfl, rfl, hk0, hk1, hss, HC⟩ := hrel
    by_cases hk : 0 < k
    · have HB := Lib.hid (HC.out.below ((Below.refl _ _).alloc (Nat.le_refl _) (.cells inputCells 9)))
      go_wp2_with fail
      refine (str_cur inputs 16 wr.heap.size 16 _ HB.out rfl (by omega) (by omega) (by have := HC.out.lt; omega) (by simp) (inputs_cells wr)).mono ?_
      rintro e w3 ⟨x, hx, rfl, hc3, _⟩
      have hxs := inputs_size x hx
      have HC3 := Lib.hid hc3
      clear hc3 hx
      have hsz : (s ++ x).size = s.size + x.size := ByteArray.size_append' s x
      have HSZ := Lib.hid hsz
      clear hsz
      go_wp2_with fail
      go_roundw
      case rel => exact ⟨k - 1, s ++ x, rfl, rfl, by omega, by omega, by rw [HSZ.out]; omega, HC3⟩
      case measure => simp [intOf]; omega
    · go_wp2
      go_ret
      exact ⟨s, by omega, rfl, HC.out⟩
set_option maxRecDepth 100000 in
set_option maxHeartbeats 1000000 in
theorem makeInput_any (A : Option Addr) (len cap : Nat) (zs : List Int) (w : World) (hz : IsBytes w A len cap zs) :
    Calls Tryz.prog 6 #[.slice A len cap] w fun e w' => (∃ s : ByteArray, s.size ≤ 108 ∧ e = .returned (.string s)) ∧ Below w.heap.size w w' := by
  have HN := Lib.hid (new24_cur 12 A len cap zs w hz (by omega))
  clear hz
  go_enter Tryz.func6, Tryz.ntmps6
  go_wp2_with fail
  refine HN.out.mono ?_
  rintro e w1 ⟨p, rfl, hc1⟩
  have HD := Lib.hid (input_cur 12 w1 hc1 (by omega))
  clear hc1
  go_wp2_with fail
  refine HD.out.mono ?_
  rintro e w2 ⟨s, hs, rfl, hc2⟩
  have HC2 := Lib.hid hc2
  clear hc2
  go_wp2_with fail
  go_ret
  exact ⟨⟨s, by omega, rfl⟩, HC2.out.old⟩
end Go.Proofs.YtooanejiadbngaaGreatDoor
