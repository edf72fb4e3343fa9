/- The model's FormatConfig. -/
import Derived.Test.YtkbjegcmpmhmpaaDoorSpecCfg
import Derived.Test.YtkbjegcmpmhmpaaDoorSpecFmt
import Derived.Deep.RegionHeld3
namespace Go.Proofs.YtkbjegcmpmhmpaaDoor
open Go.RowKit
set_option linter.unusedVariables false

theorem txt_add {P : Program} {w : World} (a b : ByteArray) (h : a.size + b.size ≤ 9223372036854775807) : (Op.stringOp .add a b).run P w = .ok (.string (a ++ b)) w :=
  run_string_add_sum _ _ _ h
/-- The text of one flag. -/
def flagT (b : Bool) (x : UInt8) : ByteArray := if b = true then ⟨#[x]⟩ else ⟨#[]⟩
theorem flagT_size (b : Bool) (x : UInt8) : (flagT b x).size ≤ 1 := by
  cases b with
  | true => exact Nat.le_refl 1
  | false => exact Nat.zero_le 1
theorem flags_sum (a b c d e : Bool) : flagT a 114 ++ flagT b 100 ++ flagT c 108 ++ flagT d 101 ++ flagT e 109 = ⟨(flags5 a b c d e).toArray⟩ := by
  cases a <;> cases b <;> cases c <;> cases d <;> cases e <;> rfl
theorem flags5_len (a b c d e : Bool) : (flags5 a b c d e).length ≤ 5 := by cases a <;> cases b <;> cases c <;> cases d <;> cases e <;> decide
/-- What stands behind the numbers. -/
def tailB (c : Cfg) : ByteArray := ⟨(tailL c).toArray⟩
theorem tailB_size (c : Cfg) : (tailB c).size ≤ 5 := by
  show (tailL c).toArray.size ≤ 5
  unfold tailL tail5
  split
  · decide
  · simpa using flags5_len _ _ _ _ _
def flagsB (c : Cfg) : ByteArray := ⟨(flagsL c).toArray⟩
theorem flagsB_size (c : Cfg) : (flagsB c).size ≤ 5 := by
  show (flagsL c).toArray.size ≤ 5
  simpa [flagsL] using flags5_len _ _ _ _ _
theorem flagsB_none {c : Cfg} (h : flagsB c = ⟨#[]⟩) : tailB c = ⟨#[45]⟩ := by
  have : flagsL c = [] := by
    have := congrArg (fun x : ByteArray => x.data.toList) h
    simpa [flagsB] using this
  show (⟨(tail5 c.fr c.fd c.fl c.fe c.fm).toArray⟩ : ByteArray) = _
  unfold tail5
  rw [if_pos (show flags5 c.fr c.fd c.fl c.fe c.fm = [] from this)]
theorem flagsB_some {c : Cfg} (h : flagsB c ≠ ⟨#[]⟩) : tailB c = flagsB c := by
  have : flagsL c ≠ [] := fun e => h (by unfold flagsB; rw [e])
  show (⟨(tail5 c.fr c.fd c.fl c.fe c.fm).toArray⟩ : ByteArray) = _
  unfold tail5
  rw [if_neg (show ¬ flags5 c.fr c.fd c.fl c.fe c.fm = [] from this)]; rfl
theorem fmt_sum (c : Cfg) (h : validC c = true) : fmtB c.cmin ++ ⟨#[44]⟩ ++ fmtB c.ctab ++ ⟨#[44]⟩ ++ fmtB c.cpadding ++ ⟨#[44]⟩ ++ fmtB c.cpad ++ ⟨#[32]⟩ ++ tailB c = fmtCB c := by
  rw [fmtCB_yes h]
  apply ByteArray.ext
  apply Array.ext'
  simp [fmtB, tailB, fmtL, numsL]
theorem str_eq_yes {x y : ByteArray} (h : x = y) : (x.toList == y.toList) = true := by subst h; simp
theorem str_eq_no {x y : ByteArray} (h : x ≠ y) : (x.toList == y.toList) = false := by
  have : x.toList ≠ y.toList := fun e => h (bytes_inj e)
  simp [this]
theorem empty_no {x : ByteArray} (h : x ≠ ⟨#[]⟩) : x.toList.isEmpty = false := by
  cases hx : x.toList with
  | nil => exact absurd (bytes_inj (hx.trans (by rw [ByteArray.toList_eq]))) h
  | cons a l => rfl
theorem l04Flag_any (b : Bool) (x : UInt8) (w : World) :
    Calls Tryd.prog 31 #[.bool b, .string ⟨#[x]⟩] w fun e w' => e = .returned (.string (flagT b x)) ∧ w' = w := by
  cases b with
  | true =>
    go_enter Tryd.func31, Tryd.ntmps31
    go_wp2
    go_ret
    exact ⟨rfl, rfl⟩
  | false =>
    go_enter Tryd.func31, Tryd.ntmps31
    go_wp2
    go_ret
    exact ⟨rfl, rfl⟩
set_option maxRecDepth 100000 in
set_option maxHeartbeats 4000000 in
theorem specFormatConfig (c : Cfg) (w : World) :
    Calls Tryd.prog 14 #[.agg (cfgV c)] w fun e w' => e = .returned (.string (fmtCB c)) ∧ Below w.heap.size w w' := by
  have hS := fun W => specIsConfig c W
  cases hv : validC c with
  | false =>
    rw [fmtCB_no hv]
    rw [hv] at hS
    have HS := Lib.hid hS
    clear hS hv
    obtain ⟨m, t, p, d, fr, fd, fl, fe, fm⟩ := c
    unfold cfgV at HS ⊢
    simp only at HS ⊢
    go_enter Tryd.func14, Tryd.ntmps14
    go_wp2_with fail
    refine (HS.out _).mono ?_
    rintro e w1 ⟨rfl, hb1⟩
    have B1 := Lib.hid ((by go_grown : Below w.heap.size w (w.alloc _)).trans (hb1.mono (by simp)))
    clear hb1
    go_wp2_with fail
    go_ret
    exact ⟨rfl, B1.out⟩
  | true =>
    rw [hv] at hS
    have HS := Lib.hid hS
    have hsum := fmt_sum c hv
    have ht := (validC_iff c).1 hv
    rw [← hsum]
    have hnone := Lib.hid (fun h => flagsB_none (c := c) h)
    have hsome := Lib.hid (fun h => flagsB_some (c := c) h)
    have hts := tailB_size c
    have hfs := flags_sum c.fr c.fd c.fl c.fe c.fm
    have hfB : flagsB c = ⟨(flags5 c.fr c.fd c.fl c.fe c.fm).toArray⟩ := rfl
    rw [← hfB] at hfs
    clear hsum hS hv hfB
    obtain ⟨F, hF⟩ : ∃ F, F = flagsB c := ⟨_, rfl⟩
    obtain ⟨T, hT⟩ : ∃ T, T = tailB c := ⟨_, rfl⟩
    rw [← hF] at hnone hsome hfs
    rw [← hT] at hnone hsome hts ⊢
    clear hF hT
    obtain ⟨m, t, p, d, fr, fd, fl, fe, fm⟩ := c
    unfold cfgV at HS ⊢
    simp only at HS ht hfs ⊢
    have s1 := flagT_size fr 114
    have s2 := flagT_size fd 100
    have s3 := flagT_size fl 108
    have s4 := flagT_size fe 101
    have s5 := flagT_size fm 109
    have k1 := fun w => l04Flag_any fr 114 w
    have k2 := fun w => l04Flag_any fd 100 w
    have k3 := fun w => l04Flag_any fl 108 w
    have k4 := fun w => l04Flag_any fe 101 w
    have k5 := fun w => l04Flag_any fm 109 w
    generalize flagT fr 114 = x1 at hfs k1 s1
    generalize flagT fd 100 = x2 at hfs k2 s2
    generalize flagT fl 108 = x3 at hfs k3 s3
    generalize flagT fe 101 = x4 at hfs k4 s4
    generalize flagT fm 109 = x5 at hfs k5 s5
    have a2 := fun w => txt_add (P := Tryd.prog) (w := w) x1 x2 (by omega)
    have z2 : (x1 ++ x2).size ≤ 2 := by rw [ByteArray.size_append]; omega
    generalize x1 ++ x2 = y2 at a2 z2 hfs
    have a3 := fun w => txt_add (P := Tryd.prog) (w := w) y2 x3 (by omega)
    have z3 : (y2 ++ x3).size ≤ 3 := by rw [ByteArray.size_append]; omega
    generalize y2 ++ x3 = y3 at a3 z3 hfs
    have a4 := fun w => txt_add (P := Tryd.prog) (w := w) y3 x4 (by omega)
    have z4 : (y3 ++ x4).size ≤ 4 := by rw [ByteArray.size_append]; omega
    generalize y3 ++ x4 = y4 at a4 z4 hfs
    have a5 := fun w => txt_add (P := Tryd.prog) (w := w) y4 x5 (by omega)
    rw [hfs] at a5
    have K1 := Lib.hid k1
    have K2 := Lib.hid k2
    have K3 := Lib.hid k3
    have K4 := Lib.hid k4
    have K5 := Lib.hid k5
    clear k1 k2 k3 k4 k5 s1 s2 s3 s4 s5 z2 z3 z4 hfs
    have g1 := fmtB_size m (by omega) (by omega)
    have g2 := fmtB_size t (by omega) (by omega)
    have g3 := fmtB_size p (by omega) (by omega)
    have g4 := fmtB_size d (by omega) (by omega)
    have M1 := Lib.hid (fun w => specFormatInt m w (by omega) (by omega))
    have M2 := Lib.hid (fun w => specFormatInt t w (by omega) (by omega))
    have M3 := Lib.hid (fun w => specFormatInt p w (by omega) (by omega))
    have M4 := Lib.hid (fun w => specFormatInt d w (by omega) (by omega))
    clear ht
    generalize fmtB m = n1 at g1 M1 ⊢
    generalize fmtB t = n2 at g2 M2 ⊢
    generalize fmtB p = n3 at g3 M3 ⊢
    generalize fmtB d = n4 at g4 M4 ⊢
    have c1 : (⟨#[44]⟩ : ByteArray).size = 1 := rfl
    have c2 : (⟨#[32]⟩ : ByteArray).size = 1 := rfl
    have b1 := fun w => txt_add (P := Tryd.prog) (w := w) n1 ⟨#[44]⟩ (by omega)
    have v1 : (n1 ++ ⟨#[44]⟩).size ≤ 100 := by rw [ByteArray.size_append]; omega
    generalize n1 ++ ⟨#[44]⟩ = u1 at b1 v1 ⊢
    have b2 := fun w => txt_add (P := Tryd.prog) (w := w) u1 n2 (by omega)
    have v2 : (u1 ++ n2).size ≤ 200 := by rw [ByteArray.size_append]; omega
    generalize u1 ++ n2 = u2 at b2 v2 ⊢
    have b3 := fun w => txt_add (P := Tryd.prog) (w := w) u2 ⟨#[44]⟩ (by omega)
    have v3 : (u2 ++ ⟨#[44]⟩).size ≤ 300 := by rw [ByteArray.size_append]; omega
    generalize u2 ++ ⟨#[44]⟩ = u3 at b3 v3 ⊢
    have b4 := fun w => txt_add (P := Tryd.prog) (w := w) u3 n3 (by omega)
    have v4 : (u3 ++ n3).size ≤ 400 := by rw [ByteArray.size_append]; omega
    generalize u3 ++ n3 = u4 at b4 v4 ⊢
    have b5 := fun w => txt_add (P := Tryd.prog) (w := w) u4 ⟨#[44]⟩ (by omega)
    have v5 : (u4 ++ ⟨#[44]⟩).size ≤ 500 := by rw [ByteArray.size_append]; omega
    generalize u4 ++ ⟨#[44]⟩ = u5 at b5 v5 ⊢
    have b6 := fun w => txt_add (P := Tryd.prog) (w := w) u5 n4 (by omega)
    have v6 : (u5 ++ n4).size ≤ 600 := by rw [ByteArray.size_append]; omega
    generalize u5 ++ n4 = u6 at b6 v6 ⊢
    have b7 := fun w => txt_add (P := Tryd.prog) (w := w) u6 ⟨#[32]⟩ (by omega)
    have v7 : (u6 ++ ⟨#[32]⟩).size ≤ 700 := by rw [ByteArray.size_append]; omega
    generalize u6 ++ ⟨#[32]⟩ = u7 at b7 v7 ⊢
    have b8 := fun w => txt_add (P := Tryd.prog) (w := w) u7 T (by omega)
    generalize u7 ++ T = u8 at b8 ⊢
    clear g1 g2 g3 g4 c1 c2 v1 v2 v3 v4 v5 v6 v7 hts
    by_cases hE : F = ⟨#[]⟩
    · have hT := hnone.out hE
      subst hE
      subst hT
      go_enter Tryd.func14, Tryd.ntmps14
      go_wp2_with fail
      refine (HS.out _).mono ?_
      rintro e w1 ⟨rfl, hb1⟩
      have hbx := (Boxed.new w 24 m t p d fr fd fl fe fm).below hb1 (by simp)
      have B1 := Lib.hid ((by go_grown : Below w.heap.size w (w.alloc _)).trans (hb1.mono (by simp)))
      have hlt : w.heap.size < w1.heap.size := by have := hb1.size; simp at this; omega
      clear hb1
      obtain ⟨c0, c1, c2, c3, c4, c5, c6, c7, c8⟩ := hbx
      go_wp2_with fail
      go_quiet ((first | (go_at_call 31; first | exact Calls.quiet_of_same (K1.out _) | exact Calls.quiet_of_same (K2.out _) | exact Calls.quiet_of_same (K3.out _) | exact Calls.quiet_of_same (K4.out _) | exact Calls.quiet_of_same (K5.out _))))
      go_wp2_with fail
      go_region_held3 (fun W => W.cell? ⟨w.heap.size, 0, none⟩ = some (.int .i64 m) ∧ W.cell? ⟨w.heap.size, 1, none⟩ = some (.int .i64 t) ∧ W.cell? ⟨w.heap.size, 2, none⟩ = some (.int .i64 p) ∧ W.cell? ⟨w.heap.size, 3, none⟩ = some (.int .i64 d) ∧ W.cell? ⟨w.heap.size, 4, none⟩ = some (.bool fr) ∧ W.cell? ⟨w.heap.size, 5, none⟩ = some (.bool fd) ∧ W.cell? ⟨w.heap.size, 6, none⟩ = some (.bool fl) ∧ W.cell? ⟨w.heap.size, 7, none⟩ = some (.bool fe) ∧ W.cell? ⟨w.heap.size, 8, none⟩ = some (.bool fm) ∧ Below w.heap.size w W ∧ w.heap.size + 1 ≤ W.heap.size)
        (first | exact ⟨c0, c1, c2, c3, c4, c5, c6, c7, c8, (below_drewN B1.out _).drew, hlt⟩ | exact ⟨c0, c1, c2, c3, c4, c5, c6, c7, c8, below_drewN B1.out _, hlt⟩ | exact box_step (by assumption) (by assumption))
        (first | (go_at_call 32; first | ((with_reducible refine (M1.out _).mono ?_); rintro e w2 ⟨rfl, hb1⟩) | ((with_reducible refine (M2.out _).mono ?_); rintro e w2 ⟨rfl, hb1⟩) | ((with_reducible refine (M3.out _).mono ?_); rintro e w2 ⟨rfl, hb1⟩) | ((with_reducible refine (M4.out _).mono ?_); rintro e w2 ⟨rfl, hb1⟩)))
      all_goals
        go_wp2
        go_ret
        exact ⟨rfl, box_old (w := w) (B := w.heap.size) (by assumption)⟩
    · have hT := hsome.out hE
      subst hT
      have hE2 := empty_no hE
      clear hE
      go_enter Tryd.func14, Tryd.ntmps14
      go_wp2_with fail
      refine (HS.out _).mono ?_
      rintro e w1 ⟨rfl, hb1⟩
      have hbx := (Boxed.new w 24 m t p d fr fd fl fe fm).below hb1 (by simp)
      have B1 := Lib.hid ((by go_grown : Below w.heap.size w (w.alloc _)).trans (hb1.mono (by simp)))
      have hlt : w.heap.size < w1.heap.size := by have := hb1.size; simp at this; omega
      clear hb1
      obtain ⟨c0, c1, c2, c3, c4, c5, c6, c7, c8⟩ := hbx
      go_wp2_with fail
      go_quiet ((first | (go_at_call 31; first | exact Calls.quiet_of_same (K1.out _) | exact Calls.quiet_of_same (K2.out _) | exact Calls.quiet_of_same (K3.out _) | exact Calls.quiet_of_same (K4.out _) | exact Calls.quiet_of_same (K5.out _))))
      go_wp2_with fail
      go_region_held3 (fun W => W.cell? ⟨w.heap.size, 0, none⟩ = some (.int .i64 m) ∧ W.cell? ⟨w.heap.size, 1, none⟩ = some (.int .i64 t) ∧ W.cell? ⟨w.heap.size, 2, none⟩ = some (.int .i64 p) ∧ W.cell? ⟨w.heap.size, 3, none⟩ = some (.int .i64 d) ∧ W.cell? ⟨w.heap.size, 4, none⟩ = some (.bool fr) ∧ W.cell? ⟨w.heap.size, 5, none⟩ = some (.bool fd) ∧ W.cell? ⟨w.heap.size, 6, none⟩ = some (.bool fl) ∧ W.cell? ⟨w.heap.size, 7, none⟩ = some (.bool fe) ∧ W.cell? ⟨w.heap.size, 8, none⟩ = some (.bool fm) ∧ Below w.heap.size w W ∧ w.heap.size + 1 ≤ W.heap.size)
        (first | exact ⟨c0, c1, c2, c3, c4, c5, c6, c7, c8, (below_drewN B1.out _).drew, hlt⟩ | exact ⟨c0, c1, c2, c3, c4, c5, c6, c7, c8, below_drewN B1.out _, hlt⟩ | exact box_step (by assumption) (by assumption))
        (first | (go_at_call 32; first | ((with_reducible refine (M1.out _).mono ?_); rintro e w2 ⟨rfl, hb1⟩) | ((with_reducible refine (M2.out _).mono ?_); rintro e w2 ⟨rfl, hb1⟩) | ((with_reducible refine (M3.out _).mono ?_); rintro e w2 ⟨rfl, hb1⟩) | ((with_reducible refine (M4.out _).mono ?_); rintro e w2 ⟨rfl, hb1⟩)))
      all_goals
        go_wp2
        go_ret
        exact ⟨rfl, box_old (w := w) (B := w.heap.size) (by assumption)⟩
end Go.Proofs.YtkbjegcmpmhmpaaDoor
