/- Merged texts: SpecCelW ImplCelW ImplRoles ImplSplitT. -/
import Derived.Test.YtooanejiadbngaaGreatDoorBA
import Derived.Test.YtooanejiadbngaaGreatDoorBB
import Derived.Test.YtooanejiadbngaaGreatDoorBC
import Derived.Test.YtooanejiadbngaaGreatDoorShelf
import Derived.Deep.RegionLaw
/- CellWidth: the model's. -/
namespace Go.Proofs.YtooanejiadbngaaGreatDoor
open Go.RowKit
set_option linter.unusedVariables false

theorem byteN_yes {x : UInt8} {n : Nat} (hn : n < 256) (h : x = UInt8.ofNat n) : ((x.toNat : Int) == (n : Int)) = true := by
  subst h
  rw [UInt8.toNat_ofNat']
  simp
  omega
theorem byteN_no {x : UInt8} {n : Nat} (hn : n < 256) (h : x ≠ UInt8.ofNat n) : ((x.toNat : Int) == (n : Int)) = false := by
  have : x.toNat ≠ n := fun e => h (UInt8.toNat_inj.1 (by rw [e, UInt8.toNat_ofNat']; omega))
  simp; omega
theorem byteN_ne {x : UInt8} {n : Nat} (hn : n < 256) (h : x = UInt8.ofNat n) : ((x.toNat : Int) != (n : Int)) = false := by
  have := byteN_yes hn h
  simp only [bne, this]; rfl
theorem byteN_nes {x : UInt8} {n : Nat} (hn : n < 256) (h : x ≠ UInt8.ofNat n) : ((x.toNat : Int) != (n : Int)) = true := by
  have := byteN_no hn h
  simp only [bne, this]; rfl
end Go.Proofs.YtooanejiadbngaaGreatDoor

/- CellWidth: the program's; the law. -/
namespace Go.Proofs.YtooanejiadbngaaGreatDoor
open Go.RowKit
set_option linter.unusedVariables false

theorem run_from (s : ByteArray) (k : Nat) (hk : k ≤ s.size) (w : World) :
    (Instr.slice 9 (.string s) (some (.int .i64 (k : Int))) none none).run Tryz.prog w = .ok (.string (s.extract k s.size)) w := by
  rw [run_slice_string_l (P := Tryz.prog) (w := w) (t := 9) (s := s) (ht := Tryz.underlying9) .i64 _ (by omega) (by omega)]
  rw [Int.toNat_natCast]
set_option maxRecDepth 100000 in
set_option maxHeartbeats 4000000 in
theorem implMarkup (s : ByteArray) (w : World) (hs : s.size ≤ 1048576) (hT : WT w) :
    Calls Tryz.prog 63 #[.string s] w fun e w' => e = .returned (.int .i64 (celW true s 0 : Int)) ∧ Below w.heap.size w w' := by
  have HL1 := Lib.hid (fun W => Tryz.strings_LastIndexByte s 62 (by omega) W)
  have HL2 := Lib.hid (fun W => Tryz.strings_LastIndexByte s 59 (by omega) W)
  have HK1 := Lib.hid (fun i h => last_lt s 62 (by omega) i h)
  have HK2 := Lib.hid (fun i h => last_lt s 59 (by omega) i h)
  have HT := Lib.hid hT
  obtain ⟨L1, hL1⟩ : ∃ z, z = Lib.lastIndexByte s 62 := ⟨_, rfl⟩
  obtain ⟨L2, hL2⟩ : ∃ z, z = Lib.lastIndexByte s 59 := ⟨_, rfl⟩
  have HK1' : Hid (∀ i, i < s.size → decide ((i : Int) < L1) = decide (findB s 62 (i + 1) < s.size)) := Lib.hid (by rw [hL1]; exact HK1.out)
  have HK2' : Hid (∀ i, i < s.size → decide ((i : Int) < L2) = decide (findB s 59 (i + 1) < s.size)) := Lib.hid (by rw [hL2]; exact HK2.out)
  rw [← hL1] at HL1
  rw [← hL2] at HL2
  obtain ⟨z, hz⟩ : ∃ z, z = celW true s 0 := ⟨_, rfl⟩
  have HZ : Hid (0 + celW true s 0 = z) := Lib.hid (by rw [hz]; omega)
  rw [← hz]
  clear hT hL1 hL2 HK1 HK2 hz
  go_enter Tryz.func63, Tryz.ntmps63
  go_wp2_with fail
  refine (HL1.out _).mono ?_
  rintro e w1 ⟨rfl, rfl⟩
  go_wp2_with fail
  refine (HL2.out _).mono ?_
  rintro e w2 ⟨rfl, rfl⟩
  go_wp2_with fail
  go_loopw [5, 6, 7, 8] (fun t i _ _ wr => ∃ (k n : Nat), k ≤ s.size ∧ n ≤ 2 * k ∧ i = .int .i64 (k : Int) ∧ t = .int .i64 (n : Int) ∧ Hid (n + celW true s k = z) ∧ Hid (Below w2.heap.size w2 wr)) (fun _ i _ _ _ => s.size - (intOf i).toNat)
  case atStart => exact ⟨0, 0, Nat.zero_le _, Nat.zero_le _, rfl, rfl, HZ, Lib.hid (Below.refl _ _)⟩
  case round =>
    obtain ⟨k, n, hk, hn, rfl, rfl, HN, HBE⟩ := hrel
    by_cases hlt : k < s.size
    · have i0 : (0 : Int) ≤ (k : Int) := by omega
      have i1 : (k : Int) < (s.size : Int) := by omega
      by_cases htag : s[k] = 60 ∧ findB s 62 (k + 1) < s.size
      · obtain ⟨hx, hf⟩ := htag
        have e60 : ((s[k].toNat : Int) == 60) = true := byteN_yes (n := 60) (by omega) hx
        have hl : decide ((k : Int) < L1) = true := by rw [HK1'.out k hlt, decide_eq_true_eq]; exact hf
        have hl' : (k : Int) < L1 := by simpa using hl
        have hfk : findB s 62 k = findB s 62 (k + 1) := findB_go s 62 k hlt (by rw [hx]; decide)
        have hsl := fun w => run_from s k hk w
        have hidx := index_from s 62 k (by rw [hfk]; exact hf)
        have HC := celW_tag s k hlt hx hf
        have hge := findB_ge s 62 (k + 1)
        obtain ⟨X, hX⟩ : ∃ X, X = s.extract k s.size := ⟨_, rfl⟩
        rw [← hX] at hsl hidx
        obtain ⟨f, hfd⟩ : ∃ f, f = findB s 62 (k + 1) := ⟨_, rfl⟩
        rw [hfk] at hidx
        rw [← hfd] at hidx HC hge hf
        have HI : Hid (∀ W, Calls Tryz.prog 75 #[.string X, .int .u8 62] W fun e w' => e = .returned (.int .i64 ((f : Int) - (k : Int))) ∧ w' = W) := Lib.hid (fun W => by
          have h := Tryz.strings_IndexByte X 62 W
          rw [show (62 : Int).toNat.toUInt8 = 62 from rfl, hidx] at h
          exact h)
        have HCC := Lib.hid HC
        have hl0 : (L1 : Int) ≤ 100000000 ∨ True := .inr trivial
        clear hx hl hfk hX hfd hidx HC hl0
        go_wp2_with fail
        refine (HI.out _).mono ?_
        rintro e w3 ⟨rfl, rfl⟩
        go_wp2_with fail
        go_roundw
        case rel => exact ⟨f + 1, n, by omega, by omega, by go_num, rfl, Lib.hid (by have := HN.out; rw [HCC.out] at this; exact this), HBE⟩
        case measure => simp [intOf]; omega
      · by_cases hent : s[k] = 38 ∧ findB s 59 (k + 1) < s.size
        · obtain ⟨hx, hf⟩ := hent
          have e60 : ((s[k].toNat : Int) == 60) = false := byteN_no (n := 60) (by omega) (by rw [hx]; decide)
          have e38 : ((s[k].toNat : Int) == 38) = true := byteN_yes (n := 38) (by omega) hx
          have hl : decide ((k : Int) < L2) = true := by rw [HK2'.out k hlt, decide_eq_true_eq]; exact hf
          have hl' : (k : Int) < L2 := by simpa using hl
          have hfk : findB s 59 k = findB s 59 (k + 1) := findB_go s 59 k hlt (by rw [hx]; decide)
          have hsl := fun w => run_from s k hk w
          have hidx := index_from s 59 k (by rw [hfk]; exact hf)
          have HC := celW_ent s k hlt hx hf
          have hge := findB_ge s 59 (k + 1)
          obtain ⟨X, hX⟩ : ∃ X, X = s.extract k s.size := ⟨_, rfl⟩
          rw [← hX] at hsl hidx
          obtain ⟨f, hfd⟩ : ∃ f, f = findB s 59 (k + 1) := ⟨_, rfl⟩
          rw [hfk] at hidx
          rw [← hfd] at hidx HC hge hf
          have HI : Hid (∀ W, Calls Tryz.prog 75 #[.string X, .int .u8 59] W fun e w' => e = .returned (.int .i64 ((f : Int) - (k : Int))) ∧ w' = W) := Lib.hid (fun W => by
            have h := Tryz.strings_IndexByte X 59 W
            rw [show (59 : Int).toNat.toUInt8 = 59 from rfl, hidx] at h
            exact h)
          have HCC := Lib.hid HC
          have hl0 : (L2 : Int) ≤ 100000000 ∨ True := .inr trivial
          clear hx hl hfk hX hfd hidx HC hl0
          go_wp2_with fail
          refine (HI.out _).mono ?_
          rintro e w3 ⟨rfl, rfl⟩
          go_wp2_with fail
          go_roundw
          case rel => exact ⟨f + 1, n + 1, by omega, by omega, by go_num, by go_num, Lib.hid (by have := HN.out; rw [HCC.out] at this; omega), HBE⟩
          case measure => simp [intOf]; omega
        · have HCH := Lib.hid (celW_other s k hlt (fun e h => htag ⟨e, h⟩) (fun e h => hent ⟨e, h⟩))
          have HCL := ch_len s k hlt
          have HRW := rw1_le (ch s k).1
          have HDA := Lib.hid (fun W (hW : WT W) => implDecodeAt_in s k W hlt (by omega) hW.1)
          obtain ⟨x, hx⟩ : ∃ x, x = (ch s k).1 := ⟨_, rfl⟩
          obtain ⟨m, hm⟩ : ∃ m, m = (ch s k).2 := ⟨_, rfl⟩
          rw [← hx, ← hm] at HCH HDA
          rw [← hx] at HRW
          rw [← hm] at HCL
          have HRU := Lib.hid (fun W (hW : WT W) => implRuneWidth x W hW.2)
          obtain ⟨y, hy⟩ : ∃ y, y = rw1 x := ⟨_, rfl⟩
          rw [← hy] at HCH HRW HRU
          have HWT := Lib.hid (HT.out.below HBE.out)
          have hkm := HCL.2.1
          have hk1 := HCL.1
          have HD1 : Hid (decide ((k : Int) < L1) = decide (findB s 62 (k + 1) < s.size)) := Lib.hid (HK1'.out k hlt)
          have HD2 : Hid (decide ((k : Int) < L2) = decide (findB s 59 (k + 1) < s.size)) := Lib.hid (HK2'.out k hlt)
          have HTAG := Lib.hid htag
          have HENT := Lib.hid hent
          clear hx hm hy htag hent HCL
          by_cases hx60 : s[k] = 60
          · have e60 : ((s[k].toNat : Int) == 60) = true := byteN_yes (n := 60) (by omega) hx60
            have e38 : ((s[k].toNat : Int) == 38) = false := byteN_no (n := 38) (by omega) (by rw [hx60]; decide)
            have hl : decide ((k : Int) < L1) = false := by rw [HD1.out, decide_eq_false_iff_not]; exact fun h => HTAG.out ⟨hx60, h⟩
            clear hx60
            go_wp2_with fail
            refine (HDA.out _ HWT.out).mono ?_
            rintro e w3 ⟨rfl, hb3⟩
            have B3 := Lib.hid (HBE.out.trans (hb3.mono HBE.out.size))
            have HWT3 := Lib.hid (HWT.out.below hb3)
            clear hb3
            go_wp2_with fail
            refine (HRU.out _ HWT3.out).mono ?_
            rintro e w4 ⟨rfl, hb4⟩
            have B4 := Lib.hid (B3.out.trans (hb4.mono B3.out.size))
            clear hb4
            go_wp2_with fail
            go_roundw
            case rel => exact ⟨k + m, n + y, by omega, by omega, by go_num, by go_num, Lib.hid (by have := HN.out; rw [HCH.out] at this; omega), B4⟩
            case measure => simp [intOf]; omega
          · have e60 : ((s[k].toNat : Int) == 60) = false := byteN_no (n := 60) (by omega) hx60
            clear hx60
            by_cases hx38 : s[k] = 38
            · have e38 : ((s[k].toNat : Int) == 38) = true := byteN_yes (n := 38) (by omega) hx38
              have hl : decide ((k : Int) < L2) = false := by rw [HD2.out, decide_eq_false_iff_not]; exact fun h => HENT.out ⟨hx38, h⟩
              clear hx38
              go_wp2_with fail
              refine (HDA.out _ HWT.out).mono ?_
              rintro e w3 ⟨rfl, hb3⟩
              have B3 := Lib.hid (HBE.out.trans (hb3.mono HBE.out.size))
              have HWT3 := Lib.hid (HWT.out.below hb3)
              clear hb3
              go_wp2_with fail
              refine (HRU.out _ HWT3.out).mono ?_
              rintro e w4 ⟨rfl, hb4⟩
              have B4 := Lib.hid (B3.out.trans (hb4.mono B3.out.size))
              clear hb4
              go_wp2_with fail
              go_roundw
              case rel => exact ⟨k + m, n + y, by omega, by omega, by go_num, by go_num, Lib.hid (by have := HN.out; rw [HCH.out] at this; omega), B4⟩
              case measure => simp [intOf]; omega
            · have e38 : ((s[k].toNat : Int) == 38) = false := byteN_no (n := 38) (by omega) hx38
              clear hx38
              go_wp2_with fail
              refine (HDA.out _ HWT.out).mono ?_
              rintro e w3 ⟨rfl, hb3⟩
              have B3 := Lib.hid (HBE.out.trans (hb3.mono HBE.out.size))
              have HWT3 := Lib.hid (HWT.out.below hb3)
              clear hb3
              go_wp2_with fail
              refine (HRU.out _ HWT3.out).mono ?_
              rintro e w4 ⟨rfl, hb4⟩
              have B4 := Lib.hid (B3.out.trans (hb4.mono B3.out.size))
              clear hb4
              go_wp2_with fail
              go_roundw
              case rel => exact ⟨k + m, n + y, by omega, by omega, by go_num, by go_num, Lib.hid (by have := HN.out; rw [HCH.out] at this; omega), B4⟩
              case measure => simp [intOf]; omega
    · have HE := Lib.hid (celW_end true s k hlt)
      go_wp2_with fail
      go_ret
      exact ⟨ret_int (by have := HN.out; rw [HE.out] at this; omega), HBE.out⟩
set_option maxRecDepth 100000 in
set_option maxHeartbeats 1000000 in
theorem implCellWidth (c : Cfg) (s : ByteArray) (w : World) (hs : s.size ≤ 1048576) (hT : WT w) :
    Calls Tryz.prog 49 #[.agg (cfgV c), .string s] w fun e w' => e = .returned (.int .i64 (cellWB c s)) ∧ Below w.heap.size w w' := by
  have hS := fun W => implIsConfig c W
  cases hv : validC c with
  | false =>
    rw [cellWB_no s hv]
    rw [hv] at hS
    have HS := Lib.hid hS
    clear hS hv hT
    obtain ⟨m, t, p, d, fr, fd, fl, fe, fm⟩ := c
    unfold cfgV at HS ⊢
    simp only at HS ⊢
    go_enter Tryz.func49, Tryz.ntmps49
    go_wp2_with fail
    refine (HS.out _).mono ?_
    rintro e w1 ⟨rfl, hb1⟩
    have B1 := Lib.hid ((by go_grown : Below w.heap.size w (w.alloc _)).trans (hb1.mono (by simp)))
    clear hb1
    go_wp2_with fail
    go_ret
    exact ⟨rfl, B1.out⟩
  | true =>
    rw [cellWB_yes s hv]
    rw [hv] at hS
    have HS := Lib.hid hS
    have HT := Lib.hid hT
    have HM := Lib.hid (fun W (h : WT W) => implMarkup s W hs h)
    have HW := Lib.hid (fun W (h : WT W) => implTextWidth s W (by omega) h)
    rw [← celW_off s] at HW
    clear hS hv hT
    obtain ⟨m, t, p, d, fr, fd, fl, fe, fm⟩ := c
    unfold cfgV at HS ⊢
    simp only at HS ⊢
    cases fm with
    | true =>
      generalize celW true s 0 = z at HM ⊢
      go_enter Tryz.func49, Tryz.ntmps49
      go_wp2_with fail
      refine (HS.out _).mono ?_
      rintro e w1 ⟨rfl, hb1⟩
      have hbx := (Boxed.new w 24 m t p d fr fd fl fe true).below hb1 (by simp)
      have B1 := Lib.hid ((by go_grown : Below w.heap.size w (w.alloc _)).trans (hb1.mono (by simp)))
      clear hb1
      obtain ⟨c0, c1, c2, c3, c4, c5, c6, c7, c8⟩ := hbx
      go_wp2_with fail
      refine (HM.out _ (HT.out.below B1.out)).mono ?_
      rintro e w2 ⟨rfl, hb2⟩
      have B2 := Lib.hid (B1.out.trans (hb2.mono B1.out.size))
      clear hb2
      go_wp2_with fail
      go_ret
      exact ⟨rfl, B2.out⟩
    | false =>
      generalize celW false s 0 = z at HW ⊢
      go_enter Tryz.func49, Tryz.ntmps49
      go_wp2_with fail
      refine (HS.out _).mono ?_
      rintro e w1 ⟨rfl, hb1⟩
      have hbx := (Boxed.new w 24 m t p d fr fd fl fe false).below hb1 (by simp)
      have B1 := Lib.hid ((by go_grown : Below w.heap.size w (w.alloc _)).trans (hb1.mono (by simp)))
      clear hb1
      obtain ⟨c0, c1, c2, c3, c4, c5, c6, c7, c8⟩ := hbx
      go_wp2_with fail
      refine (HW.out _ (HT.out.below B1.out)).mono ?_
      rintro e w2 ⟨rfl, hb2⟩
      have B2 := Lib.hid (B1.out.trans (hb2.mono B1.out.size))
      clear hb2
      go_wp2_with fail
      go_ret
      exact ⟨rfl, B2.out⟩
end Go.Proofs.YtooanejiadbngaaGreatDoor

/- The program's rolesOf: the roles of all bytes, in a slice of its own. -/
namespace Go.Proofs.YtooanejiadbngaaGreatDoor
open Go.RowKit
set_option linter.unusedVariables false

/-- The first k of n roles have been filled in. -/
def MadeR (esc : Bool) (s : ByteArray) (cs : Array Value) (k : Nat) : Prop := cs.size = s.size ∧ ∀ j, j < k → cs[j]? = some (.int .i8 (roleAt esc s j))
theorem MadeR.step {esc : Bool} {s : ByteArray} {cs : Array Value} {k : Nat} (h : MadeR esc s cs k) (hk : k < s.size) : MadeR esc s (cs.setIfInBounds k (.int .i8 (roleAt esc s k))) (k + 1) := by
  refine ⟨by simpa using h.1, fun j hj => ?_⟩
  simp only [Array.getElem?_setIfInBounds]
  by_cases e : k = j
  · subst e
    rw [if_pos rfl, if_pos (by rw [h.1]; exact hk)]
  · rw [if_neg e]; exact h.2 j (by omega)
/-- A slice that holds the roles of a text. -/
def RolesAt (B : Nat) (w : World) (v : Value) (esc : Bool) (s : ByteArray) : Prop :=
  ∃ (g cap : Nat) (cs : Array Value), v = .slice (some ⟨g, 0, none⟩) s.size cap ∧ B ≤ g ∧ Blk w g 84 cs ∧ MadeR esc s cs s.size
theorem Tryz.infoRole : (Tryz.prog.info? 84).map (fun i => (i.zero, i.size, i.bytes)) = some (some (.int .i8 0), 1, 1) := by kernel_rfl
set_option maxRecDepth 100000 in
set_option maxHeartbeats 4000000 in
theorem implRolesOf (c : Cfg) (s : ByteArray) (w : World) (hs : s.size ≤ 1048576) :
    Calls Tryz.prog 34 #[.agg (cfgV c), .string s] w fun e w' => (∃ v, e = .returned v ∧ RolesAt w.heap.size w' v c.fe s) ∧ Below w.heap.size w w' := by
  obtain ⟨i0, hi0, hz0, hz1, hz2⟩ := info_parts Tryz.infoRole
  have HRO := Lib.hid (fun x W => readOrdinary_any c x W)
  have HRE := Lib.hid (fun x W h => readEscaped_any c x W h)
  obtain ⟨m, t, p, d, fr, fd, fl, fe, fm⟩ := c
  unfold cfgV at HRO HRE ⊢
  simp only at HRO HRE ⊢
  go_enter Tryz.func34, Tryz.ntmps34
  go_wp2_with (at_make; refine wpList_make_full _ rfl _ _ 81 rfl (w.heap.size + 1) 84 i0 _ 1 Tryz.underlying81 hi0 hz0 hz1 _ _ _ _ s.size rfl rfl rfl rfl (by rw [hz2]; omega) (by unfold maxLen; omega) (by simp) ?_; intro w1 hown1 hgr1; have HO1 := Lib.hid hown1; have HG1 := Lib.hid hgr1; clear hown1 hgr1)
  obtain ⟨cs0, hblk, hcs0, _⟩ := own_blk HO1.out rfl
  rw [show ∀ o, (w.alloc o).heap.size = w.heap.size + 1 from fun o => by simp] at hblk
  have hsz0 : cs0.size = s.size := by rw [← Array.length_toList, hcs0]; have := HO1.out.1; simpa using this
  have hwb : Below (w.heap.size + 1) (w.alloc (.cells #[.int .i64 m, .int .i64 t, .int .i64 p, .int .i64 d, .bool fr, .bool fd, .bool fl, .bool fe, .bool fm] 24)) w1 := (Below.refl _ _).grown HG1.out (by simp) (fun k hk => by cases hk)
  have HB0 := Lib.hid hblk
  have HM0 : Hid (MadeR fe s cs0 0) := Lib.hid ⟨hsz0, fun j hj => absurd hj (by omega)⟩
  have hlt0 : w.heap.size + 1 < w1.heap.size := hblk.lt
  have hbx := (Boxed.new w 24 m t p d fr fd fl fe fm).below hwb (by omega)
  have HX0 : Hid (Boxed w1 w.heap.size m t p d fr fd fl fe fm ∧ Below w.heap.size w w1) := Lib.hid ⟨hbx, (by go_grown : Below w.heap.size w (w.alloc _)).trans (hwb.mono (by omega))⟩
  clear hblk hcs0 hsz0 HO1 HG1 hbx hwb
  go_loopw [6, 7, 13] (fun st _ i wr => ∃ (k : Nat) (cs : Array Value), k ≤ s.size ∧ i = .int .i64 (k : Int) ∧ st = stateV (rawAt fe s k) ∧ Hid (Blk wr (w.heap.size + 1) 84 cs) ∧ Hid (MadeR fe s cs k) ∧ Hid (Boxed wr w.heap.size m t p d fr fd fl fe fm ∧ Below w.heap.size w wr)) (fun _ _ i _ => s.size - (intOf i).toNat)
  case atStart => exact ⟨0, cs0, Nat.zero_le _, rfl, rfl, HB0, HM0, HX0⟩
  case round =>
    obtain ⟨k, cs, hk, rfl, rfl, HB, HM, HX⟩ := hrel
    by_cases hlt : k < s.size
    · have HST := Lib.hid (HM.out.step hlt)
      have HRS := Lib.hid (rawAt_succ fe s k hlt)
      have HRA := Lib.hid (roleAt_lt fe s k hlt)
      obtain ⟨⟨c0, c1, c2, c3, c4, c5, c6, c7, c8⟩, hbw⟩ := HX.out
      have HBW := Lib.hid hbw
      have hszr : w.heap.size + 1 < wr.heap.size := HB.out.lt
      have hs0 := HM.out.1
      obtain ⟨u0, hu0⟩ : ∃ u, cs[k]? = some u := ⟨_, Array.getElem?_eq_getElem (show k < cs.size by omega)⟩
      have HU : Hid (∀ W, Below (w.heap.size + 2) wr W → W.cell? ⟨w.heap.size + 1, k, none⟩ = some u0 ∧ W.frozen? ⟨w.heap.size + 1, k, none⟩ = false) := Lib.hid (fun W hb => ⟨((HB.out.below hb (by omega)).cell _).trans hu0, (HB.out.below hb (by omega)).free _⟩)
      have i0 : (0 : Int) ≤ (k : Int) := by omega
      have i1 : (k : Int) < (s.size : Int) := by omega
      clear hs0 hu0 hbw
      have HF : Hid (rawAt fe s k = true → fe = true) := Lib.hid (fun h => by cases fe with | true => rfl | false => rw [rawAt_no] at h; exact h)
      cases hraw : rawAt fe s k with
      | false =>
        rw [hraw] at HRS HRA
        clear hraw HF
        rw [stateV_f]
        go_wp2_with fail
        go_region_held3 (fun W => W.cell? ⟨w.heap.size, 0, none⟩ = some (.int .i64 m) ∧ W.cell? ⟨w.heap.size, 1, none⟩ = some (.int .i64 t) ∧ W.cell? ⟨w.heap.size, 2, none⟩ = some (.int .i64 p) ∧ W.cell? ⟨w.heap.size, 3, none⟩ = some (.int .i64 d) ∧ W.cell? ⟨w.heap.size, 4, none⟩ = some (.bool fr) ∧ W.cell? ⟨w.heap.size, 5, none⟩ = some (.bool fd) ∧ W.cell? ⟨w.heap.size, 6, none⟩ = some (.bool fl) ∧ W.cell? ⟨w.heap.size, 7, none⟩ = some (.bool fe) ∧ W.cell? ⟨w.heap.size, 8, none⟩ = some (.bool fm) ∧ Below w.heap.size w W ∧ w.heap.size + 1 ≤ W.heap.size)
          (first | exact ⟨c0, c1, c2, c3, c4, c5, c6, c7, c8, HBW.out.drew, by simp; omega⟩ | exact box_step (by assumption) (by assumption) | exact box_set (by omega) (by omega) (by assumption))
          (first | (go_at_call 48; refine (HRO.out _ _).mono ?_; rintro e w2 ⟨rfl, hb2⟩; obtain ⟨q0, q1⟩ := HU.out w2 (((Below.refl _ wr).drew).trans (hb2.mono (by simp; omega)))))
        have HB2w := Lib.hid (HB.out.below ((Below.refl _ wr).drew.trans (hb2.mono (by simp; omega)) : Below (w.heap.size + 2) wr w2) (by omega))
        have HW2w := Lib.hid (HBW.out.drew.trans (hb2.mono HBW.out.drew.size))
        have HX2 : Hid (Boxed w2 w.heap.size m t p d fr fd fl fe fm) := Lib.hid (Boxed.below (W := wr) ⟨c0, c1, c2, c3, c4, c5, c6, c7, c8⟩ ((Below.refl _ wr).drew.trans (hb2.mono (by simp; omega)) : Below (w.heap.size + 2) wr w2) (by omega))
        clear hb2 q0 q1 c0 c1 c2 c3 c4 c5 c6 c7 c8
        go_wp2_with fail
        go_roundw
        case rel => exact ⟨k + 1, _, by omega, by go_num, by rw [HRS.out], Lib.hid (HB2w.out.set k _), Lib.hid (by have := HST.out; rw [HRA.out] at this; exact this), Lib.hid ⟨HX2.out.below ((Below.refl (w.heap.size + 1) w2).setCell (p := ⟨w.heap.size + 1, k, none⟩) (Nat.le_refl _) _) (by omega), HW2w.out.setCell (p := ⟨w.heap.size + 1, k, none⟩) (by show w.heap.size ≤ w.heap.size + 1; omega) _⟩⟩
        case measure => simp [intOf]; omega
      | true =>
        rw [hraw] at HRS HRA
        have HFE := Lib.hid (HF.out hraw)
        clear hraw HF
        rw [stateV_t]
        go_wp2_with fail
        go_region_held3 (fun W => W.cell? ⟨w.heap.size, 0, none⟩ = some (.int .i64 m) ∧ W.cell? ⟨w.heap.size, 1, none⟩ = some (.int .i64 t) ∧ W.cell? ⟨w.heap.size, 2, none⟩ = some (.int .i64 p) ∧ W.cell? ⟨w.heap.size, 3, none⟩ = some (.int .i64 d) ∧ W.cell? ⟨w.heap.size, 4, none⟩ = some (.bool fr) ∧ W.cell? ⟨w.heap.size, 5, none⟩ = some (.bool fd) ∧ W.cell? ⟨w.heap.size, 6, none⟩ = some (.bool fl) ∧ W.cell? ⟨w.heap.size, 7, none⟩ = some (.bool fe) ∧ W.cell? ⟨w.heap.size, 8, none⟩ = some (.bool fm) ∧ Below w.heap.size w W ∧ w.heap.size + 1 ≤ W.heap.size)
          (first | exact ⟨c0, c1, c2, c3, c4, c5, c6, c7, c8, HBW.out.drew, by simp; omega⟩ | exact box_step (by assumption) (by assumption) | exact box_set (by omega) (by omega) (by assumption))
          (first | (go_at_call 61; refine (HRE.out _ _ HFE.out).mono ?_; rintro e w2 ⟨rfl, hb2⟩; obtain ⟨q0, q1⟩ := HU.out w2 (((Below.refl _ wr).drew).trans (hb2.mono (by simp; omega)))))
        have HB2w := Lib.hid (HB.out.below ((Below.refl _ wr).drew.trans (hb2.mono (by simp; omega)) : Below (w.heap.size + 2) wr w2) (by omega))
        have HW2w := Lib.hid (HBW.out.drew.trans (hb2.mono HBW.out.drew.size))
        have HX2 : Hid (Boxed w2 w.heap.size m t p d fr fd fl fe fm) := Lib.hid (Boxed.below (W := wr) ⟨c0, c1, c2, c3, c4, c5, c6, c7, c8⟩ ((Below.refl _ wr).drew.trans (hb2.mono (by simp; omega)) : Below (w.heap.size + 2) wr w2) (by omega))
        clear hb2 q0 q1 c0 c1 c2 c3 c4 c5 c6 c7 c8
        go_wp2_with fail
        go_roundw
        case rel => exact ⟨k + 1, _, by omega, by go_num, by rw [HRS.out], Lib.hid (HB2w.out.set k _), Lib.hid (by have := HST.out; rw [HRA.out] at this; exact this), Lib.hid ⟨HX2.out.below ((Below.refl (w.heap.size + 1) w2).setCell (p := ⟨w.heap.size + 1, k, none⟩) (Nat.le_refl _) _) (by omega), HW2w.out.setCell (p := ⟨w.heap.size + 1, k, none⟩) (by show w.heap.size ≤ w.heap.size + 1; omega) _⟩⟩
        case measure => simp [intOf]; omega
    · obtain rfl : k = s.size := by omega
      go_wp2
      go_ret
      exact ⟨⟨_, rfl, _, _, cs, rfl, by omega, HB.out, HM.out⟩, HX.out.2⟩
end Go.Proofs.YtooanejiadbngaaGreatDoor

/- SplitText: the program's. -/
namespace Go.Proofs.YtooanejiadbngaaGreatDoor
open Go.RowKit
set_option linter.unusedVariables false

theorem cel_two {W : World} {g : Nat} {T : TypeId} {cs : Array Value} (h : Blk W g T cs) (hc : cs.size = 2) (a b : Value) : Blk ((W.setCell ⟨g, 0, none⟩ a).setCell ⟨g, 1, none⟩ b) g T #[a, b] := by
  have h2 := (h.set 0 a).set 1 b
  obtain ⟨l⟩ := cs
  match l, hc with
  | [u, v], _ => exact h2
set_option maxRecDepth 100000 in
set_option maxHeartbeats 2000000 in
theorem implCellOf (c : Cfg) (v : Value) (l : List UInt8) (w : World) (hv : Rd w v (u8s l)) (hs : l.length ≤ 1048576) (hok : validC c = true) (hT : WT w) :
    Calls Tryz.prog 35 #[.agg (cfgV c), v] w fun e w' => e = .returned (.agg #[.string ⟨l.toArray⟩, .int .i64 (celW c.fm ⟨l.toArray⟩ 0 : Int)]) ∧ Below w.heap.size w w' := by
  have hsz : (⟨l.toArray⟩ : ByteArray).size ≤ 1048576 := by show l.toArray.size ≤ _; simpa using hs
  have HCW := Lib.hid (fun W (h : WT W) => implCellWidth c ⟨l.toArray⟩ W hsz h)
  rw [cellWB_yes _ hok] at HCW
  have B0 := Lib.hid (by go_grown : Below w.heap.size w ((w.alloc (.cells (cfgV c) 24)).alloc (.cells #[.string ⟨#[]⟩, .int .i64 0] 77)))
  have hcv0 := conv_rd l (hv.below B0.out)
  have h2 := Blk.new (w.alloc (.cells (cfgV c) 24)) 77 #[.string ⟨#[]⟩, .int .i64 0]
  rw [show (w.alloc (.cells (cfgV c) 24)).heap.size = w.heap.size + 1 by simp] at h2
  have H2 := Lib.hid h2
  have HT := Lib.hid hT
  obtain ⟨x, hx⟩ : ∃ x : ByteArray, x = ⟨l.toArray⟩ := ⟨_, rfl⟩
  rw [← hx] at HCW hcv0 ⊢
  obtain ⟨z, hz⟩ : ∃ z : Int, z = (celW c.fm x 0 : Int) := ⟨_, rfl⟩
  rw [← hz] at HCW ⊢
  obtain ⟨A, cp, rfl, _⟩ := hv
  obtain ⟨n, hn⟩ : ∃ n, n = (u8s l).length := ⟨_, rfl⟩
  rw [← hn] at hcv0 ⊢
  clear hx hz h2 hsz hok hT hn
  obtain ⟨m, t, p, d, fr, fd, fl, fe, fm⟩ := c
  unfold cfgV at HCW B0 H2 hcv0 ⊢
  simp only at HCW B0 H2 hcv0 ⊢
  go_enter Tryz.func35, Tryz.ntmps35
  go_wp2_with fail
  refine (HCW.out _ (HT.out.below B0.out)).mono ?_
  rintro e w1 ⟨rfl, hb1⟩
  have B1 := Lib.hid (B0.out.trans (hb1.mono B0.out.size))
  have hk1 := H2.out.after hb1
  have q0 : w1.cell? ⟨w.heap.size + 1, 0, none⟩ = some (.string ⟨#[]⟩) := hk1.cell 0
  have q1 : w1.cell? ⟨w.heap.size + 1, 1, none⟩ = some (.int .i64 0) := hk1.cell 1
  have g0 := hk1.free 0
  have g1 := hk1.free 1
  have K2 := Lib.hid (cel_two hk1 rfl (.string x) (.int .i64 z))
  have B2 := Lib.hid ((B1.out.setCell (p := ⟨w.heap.size + 1, 0, none⟩) (by show _ ≤ w.heap.size + 1; omega) (.string x)).setCell (p := ⟨w.heap.size + 1, 1, none⟩) (by show _ ≤ w.heap.size + 1; omega) (.int .i64 z))
  have d0 := K2.out.cell 0
  have d1 := K2.out.cell 1
  clear hb1 hk1
  go_wp2_with fail
  exact bodyPost_ret (v := .agg #[.string x, .int .i64 z]) (by simp [results, Tryz.results35, go_sem, d0, d1]) rfl ⟨rfl, B2.out⟩
set_option maxRecDepth 100000 in
set_option maxHeartbeats 16000000 in
theorem implSplitText (c : Cfg) (s : ByteArray) (w : World) (hs : s.size ≤ 1048576) (hT : WT w) :
    Calls Tryz.prog 21 #[.agg (cfgV c), .string s] w fun e w' => ∃ v, e = .returned v ∧ OwnL w' w.heap.size none v (splitL c s) ∧ Below w.heap.size w w' := by
  have hS := fun W => implIsConfig c W
  cases hv : validC c with
  | false =>
    rw [splitL_no s hv]
    rw [hv] at hS
    have HS := Lib.hid hS
    clear hS hv hT
    obtain ⟨m, tt, p, d, fr, fd, fl, fe, fm⟩ := c
    unfold cfgV at HS ⊢
    simp only at HS ⊢
    go_enter Tryz.func21, Tryz.ntmps21
    go_wp2_with fail
    refine (HS.out _).mono ?_
    rintro e w1 ⟨rfl, hb1⟩
    have B1 := Lib.hid ((by go_grown : Below w.heap.size w (w.alloc _)).trans (hb1.mono (by simp)))
    clear hb1
    go_wp2_with fail
    go_ret
    exact ⟨_, rfl, OwnL.nilAt _ _ _ _ (World.ownsRow_nil _ _ _ _), B1.out⟩
  | true =>
    rw [splitL_yes s hv]
    rw [hv] at hS
    have HS := Lib.hid hS
    obtain ⟨iC, hc0, hc1, hc2, hc3⟩ := info_parts Tryz.infoCelS
    obtain ⟨iL, hl0, hl1, hl2, hl3⟩ := info_parts Tryz.infoLnS
    obtain ⟨iB, hb0, hb1, hb2, hb3⟩ := info_parts Tryz.infoBytS
    have HC := Lib.hid (fun (v : Value) (l : List UInt8) (W : World) (hv' : Rd W v (u8s l)) (hl : l.length ≤ 1048576) (h : WT W) => implCellOf c v l W hv' hl hv h)
    have HRO := Lib.hid (fun W => implRolesOf c s W hs)
    have HT := Lib.hid hT
    have hfin : ∀ st : Sp, st = spRun c.fe (fun b => (celW c.fm b 0 : Int)) sp0 s.data.toList → st.outs ++ [⟨st.cells, celOf (fun b => (celW c.fm b 0 : Int)) st.buf, 0⟩] = linesOf c.fe (fun b => (celW c.fm b 0 : Int)) s.data.toList := fun st h => by rw [h]; rfl
    obtain ⟨Wf, hWf⟩ : ∃ Wf : ByteArray → Int, Wf = fun b => (celW c.fm b 0 : Int) := ⟨_, rfl⟩
    obtain ⟨R, hR⟩ : ∃ R, R = linesOf c.fe (fun b => (celW c.fm b 0 : Int)) s.data.toList := ⟨_, rfl⟩
    rw [← hR, ← hWf] at hfin
    rw [← hR]
    have HFIN := Lib.hid hfin
    have hcw : ∀ l : List UInt8, (celW c.fm ⟨l.toArray⟩ 0 : Int) = Wf ⟨l.toArray⟩ := fun l => by rw [hWf]
    have HCW := Lib.hid hcw
    have HBEG := Lib.hid (fun w1 => spm_begin w w1 c)
    have HNEW := Lib.hid (Blk.new w 24 (cfgV c))
    clear hR hfin hWf hcw hS hv hT
    obtain ⟨m, tt, p, d, fr, fd, fl, fe, fm⟩ := c
    unfold cfgV at HS HC HRO HNEW ⊢
    simp only at HS HC HRO HFIN HCW HNEW ⊢
    go_enter Tryz.func21, Tryz.ntmps21
    go_wp2_with fail
    refine (HS.out _).mono ?_
    rintro e w1 ⟨rfl, hb1⟩
    have B1 := Lib.hid ((by go_grown : Below w.heap.size w (w.alloc _)).trans (hb1.mono (by simp)))
    have hB1 := HNEW.out.after hb1
    have HM0 := Lib.hid (HBEG.out w1 B1.out hB1)
    obtain ⟨c0, c1, c2, c3, c4, c5, c6, c7, c8⟩ := (show Boxed w1 w.heap.size m tt p d fr fd fl fe fm from ⟨hB1.cell 0, hB1.cell 1, hB1.cell 2, hB1.cell 3, hB1.cell 4, hB1.cell 5, hB1.cell 6, hB1.cell 7, hB1.cell 8⟩)
    have hltg : w.heap.size < w1.heap.size := hB1.lt
    clear hb1 hB1
    go_wp2_with fail
    refine (HRO.out _).mono ?_
    rintro e w2 ⟨⟨vr, rfl, gr, capr, csr, rfl, hgr, hblkr, hmader⟩, hb2⟩
    obtain ⟨gl, hgl⟩ : ∃ gl, gl = w1.heap.size := ⟨_, rfl⟩
    rw [← hgl] at HM0 ⊢
    have HM2 := Lib.hid (SpM.below HM0.out hb2)
    have HBR := Lib.hid hblkr
    have HMR := Lib.hid hmader
    clear hb2 hgr hblkr hmader hgl c0 c1 c2 c3 c4 c5 c6 c7 c8 hltg
    go_wp2_with fail
    go_loopw [5, 7, 8, 9, 17] (fun o b _ _ i wr => ∃ (k : Nat) (outs : List Ln) (raw : Bool) (cells : List Cel) (buf : List UInt8) (vo vc vb : Value), k ≤ s.size ∧ vo = o ∧ vb = b ∧ i = .int .i64 (k : Int) ∧ Hid (SpM w wr (⟨m, tt, p, d, fr, fd, fl, fe, fm⟩ : Cfg) gl vo vc vb ⟨outs, raw, cells, buf⟩) ∧ Hid ((⟨outs, raw, cells, buf⟩ : Sp) = spRun fe Wf sp0 (s.data.toList.take k)) ∧ Hid (Blk wr gr 84 csr) ∧ outs.length ≤ k ∧ cells.length ≤ k ∧ buf.length ≤ k) (fun _ _ _ _ i _ => s.size - (intOf i).toNat)
    case atStart => exact ⟨0, [], false, [], [], _, _, _, Nat.zero_le _, rfl, rfl, rfl, HM2, Lib.hid rfl, HBR, Nat.zero_le _, Nat.zero_le _, Nat.zero_le _⟩
    case round =>
      obtain ⟨k, outs, raw, cells, buf, vo, vc, vb, hk, rfl, rfl, rfl, HM, HR, HBR, hlo, hlc, hlb⟩ := hrel
      have hB := HM.out.2.1
      obtain ⟨c0, c1, c2, c3, c4, c5, c6, c7, c8⟩ := (show Boxed wr w.heap.size m tt p d fr fd fl fe fm from ⟨hB.cell 0, hB.cell 1, hB.cell 2, hB.cell 3, hB.cell 4, hB.cell 5, hB.cell 6, hB.cell 7, hB.cell 8⟩)
      clear hB
      have hbase : w.heap.size ≤ wr.heap.size := HM.out.1.size
      have HTW := Lib.hid (HT.out.below HM.out.1)
      by_cases hlt : k < s.size
      · have hcell := (HBR.out.cell k).trans (HMR.out.2 k hlt)
        have i0 : (0 : Int) ≤ (k : Int) := by omega
        have i1 : (k : Int) < (s.size : Int) := by omega
        obtain ⟨nr, hrole⟩ := sp_role fe Wf s k hlt outs raw cells buf HR.out
        rcases hrole with (⟨h, H⟩ | ⟨h, H⟩) | (⟨h, H⟩ | ⟨h, H⟩)
        · rw [h] at hcell
          have HR2 := Lib.hid H
          clear h H
          have h5 : wr.ownsRow w.heap.size 5 1 vb buf.length (u8s buf) := HM.out.2.2.2.2.1
          go_wp2_with (at_builtin; refine append_el rfl _ _ 22 rfl w.heap.size 5 iB _ 1 1 Tryz.underlying22 hb0 hb1 hb2 hb3 rfl (by decide) vb _ _ rfl wr #[.int .u8 s[k].toNat] rfl rfl (by simp [Value.oneCell']) h5 (by omega) (by omega) hbase ?_; intro v1 w3 ho1 hg1 _; have HM1 := Lib.hid (SpM.byte (x := s[k]) HM.out ho1 hg1); have HBR1 := Lib.hid (HBR.out.keeps (SpM.byte_keeps HM.out hg1 (by decide))); clear ho1 hg1)
          go_roundw
          case rel => first | exact ⟨k + 1, outs, nr, cells, buf ++ [s[k]], vo, vc, v1, by omega, rfl, rfl, by go_num, Lib.hid HM1.out, HR2, HBR1, by omega, by omega, by simp; omega⟩ | ((repeat apply Exists.intro); exact ⟨⟨k + 1, outs, nr, cells, buf ++ [s[k]], vo, vc, v1, by omega, rfl, rfl, by go_num, Lib.hid HM1.out, HR2, HBR1, by omega, by omega, by simp; omega⟩, rfl⟩)
          case measure => simp [intOf]; omega
        · rw [h] at hcell
          have HR2 := Lib.hid H
          clear h H
          go_wp2_with fail
          go_roundw
          case rel => exact ⟨k + 1, outs, nr, cells, buf, vo, vc, vb, by omega, rfl, rfl, by go_num, Lib.hid HM.out, HR2, HBR, by omega, by omega, by omega⟩
          case measure => simp [intOf]; omega
        · rw [h] at hcell
          obtain ⟨X, hX⟩ : ∃ X : ByteArray, X = ⟨buf.toArray⟩ := ⟨_, rfl⟩
          obtain ⟨Z, hZ⟩ : ∃ Z : Int, Z = Wf X := ⟨_, rfl⟩
          have hxz : celOf Wf buf = ⟨X, Z⟩ := by rw [hZ, hX]; rfl
          rw [hxz] at H
          have HR2 := Lib.hid H
          have HCL := Lib.hid (fun (W : World) (hv : Rd W vb (u8s buf)) (h : WT W) => HC.out vb buf W hv (by omega) h)
          rw [HCW.out, ← hX, ← hZ] at HCL
          clear hX hZ hxz h H
          have h5 : wr.ownsRow w.heap.size 5 1 vb buf.length (u8s buf) := HM.out.2.2.2.2.1
          have hsl := fun w => run_emptied h5 w
          have HEM := Lib.hid (emptied_own h5)
          have RdB := Lib.hid (Rd.of_own h5)
          clear h5
          have q0 : wr.cell? ⟨gl, 0, none⟩ = some vc := HM.out.2.2.1.cell 0
          go_wp2_with fail
          go_region_law
            (first
              | (go_simp; go_at_call 35; refine (HCL.out wr.drew (RdB.out.below (Below.drew (Below.refl _ wr))) (HTW.out.below (Below.drew (Below.refl _ wr)))).mono ?_; rintro e w3 ⟨rfl, hb1⟩; have HBL : Hid (Below wr.heap.size wr w3) := Lib.hid ((Below.drew (Below.refl _ wr)).trans hb1); have HM1 := Lib.hid (SpM.below HM.out HBL.out); have q1 : w3.cell? ⟨gl, 0, none⟩ = some vc := HM1.out.2.2.1.cell 0; have p1 : w3.frozen? ⟨gl, 0, none⟩ = false := HM1.out.2.2.1.free 0; have h4 : w3.ownsRow w.heap.size 77 2 vc cells.length (celVals cells) := HM1.out.2.2.2.1; have q1a : ∀ o, (w3.alloc o).cell? ⟨gl, 0, none⟩ = some vc := fun o => (((Below.refl w3.heap.size w3).alloc (Nat.le_refl _) o).cell (p := ⟨gl, 0, none⟩) HM1.out.2.2.1.lt).trans q1; have hbase1 : w.heap.size ≤ w3.heap.size := HM1.out.1.size; clear hb1; (try dsimp only))
              | (refine step_append_el rfl _ _ 75 rfl w.heap.size 77 iC _ 2 24 Tryz.underlying75 hc0 hc1 hc2 hc3 rfl (by decide) vc _ _ rfl w3 #[.string X, .int .i64 Z] rfl rfl (by simp [Value.oneCell']) h4 (by omega) (by omega) hbase1 ?_; intro g2 cap2 w4 ho2 hg2 hat2; have q2 : w4.cell? ⟨gl, 0, none⟩ = some vc := (HM1.out.2.2.1.keeps (.grown h4 (by decide) hg2)).cell 0; have p2 : w4.frozen? ⟨gl, 0, none⟩ = false := (HM1.out.2.2.1.keeps (.grown h4 (by decide) hg2)).free 0; have HM2 := Lib.hid (SpM.cell (x := ⟨X, Z⟩) HM1.out ho2 hg2 hat2); have HKB := Lib.hid ((Keeps.below 84 HBL.out).trans (SpM.cell_keeps (vc' := .slice (some ⟨g2, 0, none⟩) (cells.length + 1) cap2) HM1.out hg2 (by decide) (by decide))); have HKU := Lib.hid ((Keeps.below 5 HBL.out).trans (SpM.cell_keeps (vc' := .slice (some ⟨g2, 0, none⟩) (cells.length + 1) cap2) HM1.out hg2 (by decide) (by decide))); clear ho2 hg2 hat2))
          all_goals
            go_wp2_with fail
            go_roundw
            case rel => first | exact ⟨k + 1, outs, nr, cells ++ [⟨X, Z⟩], [], vo, _, emptied vb, by omega, rfl, rfl, by go_num, Lib.hid (SpM.rebuf (b := []) HM2.out (own_keeps HEM.out HKU.out)), HR2, Lib.hid (HBR.out.keeps HKB.out), by omega, by simp; omega, by simp⟩ | ((repeat apply Exists.intro); exact ⟨⟨k + 1, outs, nr, cells ++ [⟨X, Z⟩], [], vo, _, emptied vb, by omega, rfl, rfl, by go_num, Lib.hid (SpM.rebuf (b := []) HM2.out (own_keeps HEM.out HKU.out)), HR2, Lib.hid (HBR.out.keeps HKB.out), by omega, by simp; omega, by simp⟩, rfl⟩)
            case measure => simp [intOf]; omega
        · rw [h] at hcell
          obtain ⟨X, hX⟩ : ∃ X : ByteArray, X = ⟨buf.toArray⟩ := ⟨_, rfl⟩
          obtain ⟨Z, hZ⟩ : ∃ Z : Int, Z = Wf X := ⟨_, rfl⟩
          have hxz : celOf Wf buf = ⟨X, Z⟩ := by rw [hZ, hX]; rfl
          rw [hxz] at H
          have HR2 := Lib.hid H
          clear h H
          have HCL := Lib.hid (fun (W : World) (hv : Rd W vb (u8s buf)) (h : WT W) => HC.out vb buf W hv (by omega) h)
          rw [HCW.out, ← hX, ← hZ] at HCL
          clear hX hZ hxz
          have h5 : wr.ownsRow w.heap.size 5 1 vb buf.length (u8s buf) := HM.out.2.2.2.2.1
          have RdB := Lib.hid (Rd.of_own h5)
          have hsl := fun w => run_emptied h5 w
          have HEM := Lib.hid (emptied_own h5)
          have HONE := Lib.hid (OwnC.one HM.out.2.2.2.1)
          have hx255 : (s[k].toNat : Int) ≤ 255 := by have := UInt8.toNat_lt s[k]; omega
          clear h5
          go_wp2_with fail
          refine (HCL.out wr RdB.out HTW.out).mono ?_
          rintro e w3 ⟨rfl, hb1⟩
          have HBL := Lib.hid hb1
          have HM1 := Lib.hid (SpM.below HM.out hb1)
          have hB1 := HM1.out.2.2.1
          have q0 : w3.cell? ⟨gl, 0, none⟩ = some vc := hB1.cell 0
          have q1 : w3.cell? ⟨gl, 1, none⟩ = some (.string ⟨#[]⟩) := hB1.cell 1
          have q2 : w3.cell? ⟨gl, 2, none⟩ = some (.int .i64 0) := hB1.cell 2
          have q3 : w3.cell? ⟨gl, 3, none⟩ = some (.int .i64 0) := hB1.cell 3
          have p0 := hB1.free 0
          have p1 := hB1.free 1
          have p2 := hB1.free 2
          have p3 := hB1.free 3
          have HF := Lib.hid (HM1.out.fill ⟨X, Z⟩ (s[k].toNat : Int))
          obtain ⟨vs, hvl, how, hin⟩ := (HM1.out.stored HF.out.2.2).2.2.2
          have hbase2 : w.heap.size ≤ (((w3.setCell ⟨gl, 1, none⟩ (.string X)).setCell ⟨gl, 2, none⟩ (.int .i64 Z)).setCell ⟨gl, 3, none⟩ (.int .i64 (s[k].toNat : Int))).heap.size := HF.out.1.size
          have HVL := Lib.hid hvl
          have HOW := Lib.hid how
          have HIN := Lib.hid hin
          clear hb1 hB1 hvl how hin c0 c1 c2 c3 c4 c5 c6 c7 c8
          go_wp2_with (at_builtin; refine append_elH rfl _ _ 56 rfl w.heap.size 79 iL _ 4 56 Tryz.underlying56 hl0 hl1 hl2 hl3 rfl (by decide) vo _ _ rfl (((w3.setCell ⟨gl, 1, none⟩ (.string X)).setCell ⟨gl, 2, none⟩ (.int .i64 Z)).setCell ⟨gl, 3, none⟩ (.int .i64 (s[k].toNat : Int))) #[vc, .string X, .int .i64 Z, .int .i64 (s[k].toNat : Int)] w3.heap.size (by simp) rfl rfl (line_ones X Z _ HONE.out) HOW.out (by omega) (by omega) hbase2 ?_; intro v3 w4 ho3 hg3 hat3; have HEM4 := Lib.hid (own_keeps HEM.out ((Keeps.below 5 HBL.out).trans (SpM.line_keeps HM1.out HF.out.2.2 HF.out.2.1 HOW.out hg3 (by decide)).1)); have HKB := Lib.hid ((Keeps.below 84 HBL.out).trans (SpM.line_keeps HM1.out HF.out.2.2 HF.out.2.1 HOW.out hg3 (by decide)).2); have HM3 := Lib.hid (SpM.line (x := ⟨X, Z⟩) HM1.out HF.out.2.2 HF.out.2.1 HVL.out HOW.out HIN.out ho3 hg3 hat3 (emptied vb) HEM4.out); have hB3 := SpM.line_blk HM1.out HF.out.2.1 hg3; have r0 : w4.cell? ⟨gl, 0, none⟩ = some vc := hB3.cell 0; have r1 : w4.cell? ⟨gl, 1, none⟩ = some (.string X) := hB3.cell 1; have r2 : w4.cell? ⟨gl, 2, none⟩ = some (.int .i64 Z) := hB3.cell 2; have r3 : w4.cell? ⟨gl, 3, none⟩ = some (.int .i64 (s[k].toNat : Int)) := hB3.cell 3; have t0 := hB3.free 0; have t1 := hB3.free 1; have t2 := hB3.free 2; have t3 := hB3.free 3; clear hB3 ho3 hg3 hat3)
          go_roundw
          case rel => first | exact ⟨k + 1, outs ++ [⟨cells, ⟨X, Z⟩, (s[k].toNat : Int)⟩], nr, [], [], v3, _, emptied vb, by omega, rfl, rfl, by go_num, Lib.hid (SpM.rebuf (b := []) HM3.out HM3.out.2.2.2.2.1), HR2, Lib.hid (HBR.out.keeps HKB.out), by simp; omega, by simp, by simp⟩ | ((repeat apply Exists.intro); exact ⟨⟨k + 1, outs ++ [⟨cells, ⟨X, Z⟩, (s[k].toNat : Int)⟩], nr, [], [], v3, _, emptied vb, by omega, rfl, rfl, by go_num, Lib.hid (SpM.rebuf (b := []) HM3.out HM3.out.2.2.2.2.1), HR2, Lib.hid (HBR.out.keeps HKB.out), by simp; omega, by simp, by simp⟩, rfl⟩)
          case measure => simp [intOf]; omega
      · skip
        obtain ⟨X, hX⟩ : ∃ X : ByteArray, X = ⟨buf.toArray⟩ := ⟨_, rfl⟩
        obtain ⟨Z, hZ⟩ : ∃ Z : Int, Z = Wf X := ⟨_, rfl⟩
        have hxz : celOf Wf buf = ⟨X, Z⟩ := by rw [hZ, hX]; rfl
        have HR2 := Lib.hid (HFIN.out ⟨outs, raw, cells, buf⟩ (by rw [HR.out, List.take_of_length_le (by rw [bytes_length]; omega)]))
        simp only at HR2
        rw [hxz] at HR2
        have HCL := Lib.hid (fun (W : World) (hv : Rd W vb (u8s buf)) (h : WT W) => HC.out vb buf W hv (by omega) h)
        rw [HCW.out, ← hX, ← hZ] at HCL
        clear hX hZ hxz
        have h5 : wr.ownsRow w.heap.size 5 1 vb buf.length (u8s buf) := HM.out.2.2.2.2.1
        have RdB := Lib.hid (Rd.of_own h5)
        have HONE := Lib.hid (OwnC.one HM.out.2.2.2.1)
        clear h5
        go_wp2_with fail
        refine (HCL.out wr RdB.out HTW.out).mono ?_
        rintro e w3 ⟨rfl, hb1⟩
        have HBL := Lib.hid hb1
        have HM1 := Lib.hid (SpM.below HM.out hb1)
        have hB1 := HM1.out.2.2.1
        have q0 : w3.cell? ⟨gl, 0, none⟩ = some vc := hB1.cell 0
        have q1 : w3.cell? ⟨gl, 1, none⟩ = some (.string ⟨#[]⟩) := hB1.cell 1
        have q2 : w3.cell? ⟨gl, 2, none⟩ = some (.int .i64 0) := hB1.cell 2
        have q3 : w3.cell? ⟨gl, 3, none⟩ = some (.int .i64 0) := hB1.cell 3
        have p0 := hB1.free 0
        have p1 := hB1.free 1
        have p2 := hB1.free 2
        have p3 := hB1.free 3
        have HF := Lib.hid (HM1.out.fill2 ⟨X, Z⟩)
        obtain ⟨vs, hvl, how, hin⟩ := (HM1.out.stored HF.out.2.2).2.2.2
        have hbase2 : w.heap.size ≤ ((w3.setCell ⟨gl, 1, none⟩ (.string X)).setCell ⟨gl, 2, none⟩ (.int .i64 Z)).heap.size := HF.out.1.size
        have HVL := Lib.hid hvl
        have HOW := Lib.hid how
        have HIN := Lib.hid hin
        clear hb1 hB1 hvl how hin c0 c1 c2 c3 c4 c5 c6 c7 c8
        go_wp2_with (at_builtin; refine append_elH rfl _ _ 56 rfl w.heap.size 79 iL _ 4 56 Tryz.underlying56 hl0 hl1 hl2 hl3 rfl (by decide) vo _ _ rfl ((w3.setCell ⟨gl, 1, none⟩ (.string X)).setCell ⟨gl, 2, none⟩ (.int .i64 Z)) #[vc, .string X, .int .i64 Z, .int .i64 0] w3.heap.size (by simp) rfl rfl (line_ones X Z _ HONE.out) HOW.out (by omega) (by omega) hbase2 ?_; intro v3 w4 ho3 hg3 hat3; have HM3 := Lib.hid (SpM.line_own (x := ⟨X, Z⟩) HM1.out HF.out.2.2 HVL.out HOW.out HIN.out ho3 hg3); clear ho3 hg3 hat3)
        go_ret
        exact ⟨_, rfl, by rw [← HR2.out]; exact HM3.out.1, HM3.out.2⟩
end Go.Proofs.YtooanejiadbngaaGreatDoor
