/- The library's FullRuneInString and the program's CompleteLength; the walk of the law on it. -/
import Derived.Test.YtaigjiiknmgclaaDoorSpecCompl
import Derived.Test.YtaigjiiknmgclaaDoorImplChars
namespace Go.Proofs.YtaigjiiknmgclaaDoor
open Go.RowKit
set_option linter.unusedVariables false

set_option maxRecDepth 100000 in
set_option maxHeartbeats 4000000 in
theorem fullRune (t : ByteArray) (w : World) (h1 : 1 ≤ t.size) (h3 : t.size ≤ 3) (hT : Tabs w) :
    Calls Tryd.prog 38 #[.string t] w fun e w' => e = .returned (.bool (fullN t.size (by8 t 0) (by8 t 1) (by8 t 2))) ∧ Below w.heap.size w w' := by
  have hb0 : by8 t 0 = (t[0]'(by omega)).toNat := by8_of t 0 (by omega)
  have l0 := by8_lt t 0
  have hz : ((t.size : Int) == 0) = false := by rw [beq_eq_false_iff_ne]; omega
  have hts : (0 : Int) < (t.size : Int) := by omega
  have hc0 := hT.1.1 (by8 t 0) l0
  rw [hb0] at hc0
  have hx0 : (((t[0]'(by omega)).toNat : Nat) : Int) ≤ 255 := by have := (t[0]'(by omega)).toNat_lt; omega
  have hR := fullN_iff t.size (by8 t 0) (by8 t 1) (by8 t 2)
  obtain ⟨R, hRR⟩ : ∃ R, R = fullN t.size (by8 t 0) (by8 t 1) (by8 t 2) := ⟨_, rfl⟩
  rw [← hRR] at hR ⊢
  rw [hb0] at hR
  clear hRR
  rcases Lib.firstT_cases (t[0]'(by omega)).toNat with hX | hX | hX | hX | hX | hX | hX | hX | hX
  · rw [hX] at hc0 hR
    have HV : Hid (R = true) := Lib.hid (hR.2 (.inl (by omega)))
    have hge : (0 : Int) ≤ (t.size : Int) := by omega
    clear hR hT hX hb0 l0
    go_enter Tryd.func38, Tryd.ntmps38
    go_wp2
    go_ret
    exact ⟨ret_bool HV.out.symm, Below.refl _ _⟩
  · rw [hX] at hc0 hR
    have HV : Hid (R = true) := Lib.hid (hR.2 (.inl (by omega)))
    have hge : (1 : Int) ≤ (t.size : Int) := by omega
    clear hR hT hX hb0 l0
    go_enter Tryd.func38, Tryd.ntmps38
    go_wp2
    go_ret
    exact ⟨ret_bool HV.out.symm, Below.refl _ _⟩
  · rw [hX] at hc0 hR
    have ha0 := (hT.1.2 0 (by omega)).1
    have ha1 := (hT.1.2 0 (by omega)).2
    simp only [Lib.accLo, Lib.accHi, Nat.reduceMul, Nat.reduceAdd, Nat.reduceEqDiff, if_true, if_false, Nat.reduceMod, Nat.reduceDiv] at ha0 ha1 hR
    by_cases hge0 : 2 ≤ t.size
    · have HV : Hid (R = true) := Lib.hid (hR.2 (.inl hge0))
      have hge : (2 : Int) ≤ (t.size : Int) := by omega
      clear hR hT hX hb0 l0 hge0
      go_enter Tryd.func38, Tryd.ntmps38
      go_wp2
      go_ret
      exact ⟨ret_bool HV.out.symm, Below.refl _ _⟩
    · have hge : ¬ (2 : Int) ≤ (t.size : Int) := by omega
      by_cases hn1 : 1 < t.size
      · exact absurd hn1 (by omega)
      · have HV : Hid (R = false) := Lib.hid (by rw [← Bool.not_eq_true, hR]; omega)
        have hn1' : ¬ (1 : Int) < (t.size : Int) := by omega
        have hd1 : decide ((1 : Int) < (t.size : Int)) = false := decide_eq_false hn1'
        have hn2' : ¬ (2 : Int) < (t.size : Int) := by omega
        have HRR := Lib.hid hR
        clear hR hT
        go_enter Tryd.func38, Tryd.ntmps38
        go_wp2
        go_quiet (fail)
        go_wp2
        go_ret
        exact ⟨ret_bool HV.out.symm, by first | exact (Below.refl _ _).alloc (Nat.le_refl _) _ | exact below_drewN ((Below.refl _ _).alloc (Nat.le_refl _) _) _⟩
  · rw [hX] at hc0 hR
    have ha0 := (hT.1.2 1 (by omega)).1
    have ha1 := (hT.1.2 1 (by omega)).2
    simp only [Lib.accLo, Lib.accHi, Nat.reduceMul, Nat.reduceAdd, Nat.reduceEqDiff, if_true, if_false, Nat.reduceMod, Nat.reduceDiv] at ha0 ha1 hR
    by_cases hge0 : 3 ≤ t.size
    · have HV : Hid (R = true) := Lib.hid (hR.2 (.inl hge0))
      have hge : (3 : Int) ≤ (t.size : Int) := by omega
      clear hR hT hX hb0 l0 hge0
      go_enter Tryd.func38, Tryd.ntmps38
      go_wp2
      go_ret
      exact ⟨ret_bool HV.out.symm, Below.refl _ _⟩
    · have hge : ¬ (3 : Int) ≤ (t.size : Int) := by omega
      by_cases hn1 : 1 < t.size
      · have hn1' : (1 : Int) < (t.size : Int) := by omega
        have hb1 : by8 t 1 = t[1].toNat := by8_of t 1 hn1
        rw [hb1] at hR
        by_cases hout : t[1].toNat < 160 ∨ 191 < t[1].toNat
        · have HV : Hid (R = true) := Lib.hid (hR.2 (.inr (.inl ⟨hn1, hout⟩)))
          by_cases hlo : t[1].toNat < 160
          · have g1 : ((t[1].toNat : Nat) : Int) < 160 := by omega
            have HRR := Lib.hid hR
            clear hR hT
            go_enter Tryd.func38, Tryd.ntmps38
            go_wp2
            go_quiet (fail)
            go_wp2
            go_ret
            exact ⟨ret_bool HV.out.symm, by first | exact (Below.refl _ _).alloc (Nat.le_refl _) _ | exact below_drewN ((Below.refl _ _).alloc (Nat.le_refl _) _) _⟩
          · have g1 : ¬ ((t[1].toNat : Nat) : Int) < 160 := by omega
            have g2 : (191 : Int) < ((t[1].toNat : Nat) : Int) := by omega
            have HRR := Lib.hid hR
            clear hR hT
            go_enter Tryd.func38, Tryd.ntmps38
            go_wp2
            go_quiet (fail)
            go_wp2
            go_ret
            exact ⟨ret_bool HV.out.symm, by first | exact (Below.refl _ _).alloc (Nat.le_refl _) _ | exact below_drewN ((Below.refl _ _).alloc (Nat.le_refl _) _) _⟩
        · have g1 : ¬ ((t[1].toNat : Nat) : Int) < 160 := by omega
          have g2 : ¬ (191 : Int) < ((t[1].toNat : Nat) : Int) := by omega
          have HV : Hid (R = false) := Lib.hid (by rw [← Bool.not_eq_true, hR]; omega)
          have hn2 : ¬ (2 : Int) < (t.size : Int) := by omega
          have HRR := Lib.hid hR
          clear hR hT
          go_enter Tryd.func38, Tryd.ntmps38
          go_wp2
          go_quiet (fail)
          go_wp2
          go_ret
          exact ⟨ret_bool HV.out.symm, by first | exact (Below.refl _ _).alloc (Nat.le_refl _) _ | exact below_drewN ((Below.refl _ _).alloc (Nat.le_refl _) _) _⟩
      · have HV : Hid (R = false) := Lib.hid (by rw [← Bool.not_eq_true, hR]; omega)
        have hn1' : ¬ (1 : Int) < (t.size : Int) := by omega
        have hd1 : decide ((1 : Int) < (t.size : Int)) = false := decide_eq_false hn1'
        have hn2' : ¬ (2 : Int) < (t.size : Int) := by omega
        have HRR := Lib.hid hR
        clear hR hT
        go_enter Tryd.func38, Tryd.ntmps38
        go_wp2
        go_quiet (fail)
        go_wp2
        go_ret
        exact ⟨ret_bool HV.out.symm, by first | exact (Below.refl _ _).alloc (Nat.le_refl _) _ | exact below_drewN ((Below.refl _ _).alloc (Nat.le_refl _) _) _⟩
  · rw [hX] at hc0 hR
    have ha0 := (hT.1.2 0 (by omega)).1
    have ha1 := (hT.1.2 0 (by omega)).2
    simp only [Lib.accLo, Lib.accHi, Nat.reduceMul, Nat.reduceAdd, Nat.reduceEqDiff, if_true, if_false, Nat.reduceMod, Nat.reduceDiv] at ha0 ha1 hR
    by_cases hge0 : 3 ≤ t.size
    · have HV : Hid (R = true) := Lib.hid (hR.2 (.inl hge0))
      have hge : (3 : Int) ≤ (t.size : Int) := by omega
      clear hR hT hX hb0 l0 hge0
      go_enter Tryd.func38, Tryd.ntmps38
      go_wp2
      go_ret
      exact ⟨ret_bool HV.out.symm, Below.refl _ _⟩
    · have hge : ¬ (3 : Int) ≤ (t.size : Int) := by omega
      by_cases hn1 : 1 < t.size
      · have hn1' : (1 : Int) < (t.size : Int) := by omega
        have hb1 : by8 t 1 = t[1].toNat := by8_of t 1 hn1
        rw [hb1] at hR
        by_cases hout : t[1].toNat < 128 ∨ 191 < t[1].toNat
        · have HV : Hid (R = true) := Lib.hid (hR.2 (.inr (.inl ⟨hn1, hout⟩)))
          by_cases hlo : t[1].toNat < 128
          · have g1 : ((t[1].toNat : Nat) : Int) < 128 := by omega
            have HRR := Lib.hid hR
            clear hR hT
            go_enter Tryd.func38, Tryd.ntmps38
            go_wp2
            go_quiet (fail)
            go_wp2
            go_ret
            exact ⟨ret_bool HV.out.symm, by first | exact (Below.refl _ _).alloc (Nat.le_refl _) _ | exact below_drewN ((Below.refl _ _).alloc (Nat.le_refl _) _) _⟩
          · have g1 : ¬ ((t[1].toNat : Nat) : Int) < 128 := by omega
            have g2 : (191 : Int) < ((t[1].toNat : Nat) : Int) := by omega
            have HRR := Lib.hid hR
            clear hR hT
            go_enter Tryd.func38, Tryd.ntmps38
            go_wp2
            go_quiet (fail)
            go_wp2
            go_ret
            exact ⟨ret_bool HV.out.symm, by first | exact (Below.refl _ _).alloc (Nat.le_refl _) _ | exact below_drewN ((Below.refl _ _).alloc (Nat.le_refl _) _) _⟩
        · have g1 : ¬ ((t[1].toNat : Nat) : Int) < 128 := by omega
          have g2 : ¬ (191 : Int) < ((t[1].toNat : Nat) : Int) := by omega
          have HV : Hid (R = false) := Lib.hid (by rw [← Bool.not_eq_true, hR]; omega)
          have hn2 : ¬ (2 : Int) < (t.size : Int) := by omega
          have HRR := Lib.hid hR
          clear hR hT
          go_enter Tryd.func38, Tryd.ntmps38
          go_wp2
          go_quiet (fail)
          go_wp2
          go_ret
          exact ⟨ret_bool HV.out.symm, by first | exact (Below.refl _ _).alloc (Nat.le_refl _) _ | exact below_drewN ((Below.refl _ _).alloc (Nat.le_refl _) _) _⟩
      · have HV : Hid (R = false) := Lib.hid (by rw [← Bool.not_eq_true, hR]; omega)
        have hn1' : ¬ (1 : Int) < (t.size : Int) := by omega
        have hd1 : decide ((1 : Int) < (t.size : Int)) = false := decide_eq_false hn1'
        have hn2' : ¬ (2 : Int) < (t.size : Int) := by omega
        have HRR := Lib.hid hR
        clear hR hT
        go_enter Tryd.func38, Tryd.ntmps38
        go_wp2
        go_quiet (fail)
        go_wp2
        go_ret
        exact ⟨ret_bool HV.out.symm, by first | exact (Below.refl _ _).alloc (Nat.le_refl _) _ | exact below_drewN ((Below.refl _ _).alloc (Nat.le_refl _) _) _⟩
  · rw [hX] at hc0 hR
    have ha0 := (hT.1.2 2 (by omega)).1
    have ha1 := (hT.1.2 2 (by omega)).2
    simp only [Lib.accLo, Lib.accHi, Nat.reduceMul, Nat.reduceAdd, Nat.reduceEqDiff, if_true, if_false, Nat.reduceMod, Nat.reduceDiv] at ha0 ha1 hR
    by_cases hge0 : 3 ≤ t.size
    · have HV : Hid (R = true) := Lib.hid (hR.2 (.inl hge0))
      have hge : (3 : Int) ≤ (t.size : Int) := by omega
      clear hR hT hX hb0 l0 hge0
      go_enter Tryd.func38, Tryd.ntmps38
      go_wp2
      go_ret
      exact ⟨ret_bool HV.out.symm, Below.refl _ _⟩
    · have hge : ¬ (3 : Int) ≤ (t.size : Int) := by omega
      by_cases hn1 : 1 < t.size
      · have hn1' : (1 : Int) < (t.size : Int) := by omega
        have hb1 : by8 t 1 = t[1].toNat := by8_of t 1 hn1
        rw [hb1] at hR
        by_cases hout : t[1].toNat < 128 ∨ 159 < t[1].toNat
        · have HV : Hid (R = true) := Lib.hid (hR.2 (.inr (.inl ⟨hn1, hout⟩)))
          by_cases hlo : t[1].toNat < 128
          · have g1 : ((t[1].toNat : Nat) : Int) < 128 := by omega
            have HRR := Lib.hid hR
            clear hR hT
            go_enter Tryd.func38, Tryd.ntmps38
            go_wp2
            go_quiet (fail)
            go_wp2
            go_ret
            exact ⟨ret_bool HV.out.symm, by first | exact (Below.refl _ _).alloc (Nat.le_refl _) _ | exact below_drewN ((Below.refl _ _).alloc (Nat.le_refl _) _) _⟩
          · have g1 : ¬ ((t[1].toNat : Nat) : Int) < 128 := by omega
            have g2 : (159 : Int) < ((t[1].toNat : Nat) : Int) := by omega
            have HRR := Lib.hid hR
            clear hR hT
            go_enter Tryd.func38, Tryd.ntmps38
            go_wp2
            go_quiet (fail)
            go_wp2
            go_ret
            exact ⟨ret_bool HV.out.symm, by first | exact (Below.refl _ _).alloc (Nat.le_refl _) _ | exact below_drewN ((Below.refl _ _).alloc (Nat.le_refl _) _) _⟩
        · have g1 : ¬ ((t[1].toNat : Nat) : Int) < 128 := by omega
          have g2 : ¬ (159 : Int) < ((t[1].toNat : Nat) : Int) := by omega
          have HV : Hid (R = false) := Lib.hid (by rw [← Bool.not_eq_true, hR]; omega)
          have hn2 : ¬ (2 : Int) < (t.size : Int) := by omega
          have HRR := Lib.hid hR
          clear hR hT
          go_enter Tryd.func38, Tryd.ntmps38
          go_wp2
          go_quiet (fail)
          go_wp2
          go_ret
          exact ⟨ret_bool HV.out.symm, by first | exact (Below.refl _ _).alloc (Nat.le_refl _) _ | exact below_drewN ((Below.refl _ _).alloc (Nat.le_refl _) _) _⟩
      · have HV : Hid (R = false) := Lib.hid (by rw [← Bool.not_eq_true, hR]; omega)
        have hn1' : ¬ (1 : Int) < (t.size : Int) := by omega
        have hd1 : decide ((1 : Int) < (t.size : Int)) = false := decide_eq_false hn1'
        have hn2' : ¬ (2 : Int) < (t.size : Int) := by omega
        have HRR := Lib.hid hR
        clear hR hT
        go_enter Tryd.func38, Tryd.ntmps38
        go_wp2
        go_quiet (fail)
        go_wp2
        go_ret
        exact ⟨ret_bool HV.out.symm, by first | exact (Below.refl _ _).alloc (Nat.le_refl _) _ | exact below_drewN ((Below.refl _ _).alloc (Nat.le_refl _) _) _⟩
  · rw [hX] at hc0 hR
    have ha0 := (hT.1.2 3 (by omega)).1
    have ha1 := (hT.1.2 3 (by omega)).2
    simp only [Lib.accLo, Lib.accHi, Nat.reduceMul, Nat.reduceAdd, Nat.reduceEqDiff, if_true, if_false, Nat.reduceMod, Nat.reduceDiv] at ha0 ha1 hR
    by_cases hge0 : 4 ≤ t.size
    · exact absurd hge0 (by omega)
    · have hge : ¬ (4 : Int) ≤ (t.size : Int) := by omega
      by_cases hn1 : 1 < t.size
      · have hn1' : (1 : Int) < (t.size : Int) := by omega
        have hb1 : by8 t 1 = t[1].toNat := by8_of t 1 hn1
        rw [hb1] at hR
        by_cases hout : t[1].toNat < 144 ∨ 191 < t[1].toNat
        · have HV : Hid (R = true) := Lib.hid (hR.2 (.inr (.inl ⟨hn1, hout⟩)))
          by_cases hlo : t[1].toNat < 144
          · have g1 : ((t[1].toNat : Nat) : Int) < 144 := by omega
            have HRR := Lib.hid hR
            clear hR hT
            go_enter Tryd.func38, Tryd.ntmps38
            go_wp2
            go_quiet (fail)
            go_wp2
            go_ret
            exact ⟨ret_bool HV.out.symm, by first | exact (Below.refl _ _).alloc (Nat.le_refl _) _ | exact below_drewN ((Below.refl _ _).alloc (Nat.le_refl _) _) _⟩
          · have g1 : ¬ ((t[1].toNat : Nat) : Int) < 144 := by omega
            have g2 : (191 : Int) < ((t[1].toNat : Nat) : Int) := by omega
            have HRR := Lib.hid hR
            clear hR hT
            go_enter Tryd.func38, Tryd.ntmps38
            go_wp2
            go_quiet (fail)
            go_wp2
            go_ret
            exact ⟨ret_bool HV.out.symm, by first | exact (Below.refl _ _).alloc (Nat.le_refl _) _ | exact below_drewN ((Below.refl _ _).alloc (Nat.le_refl _) _) _⟩
        · have g1 : ¬ ((t[1].toNat : Nat) : Int) < 144 := by omega
          have g2 : ¬ (191 : Int) < ((t[1].toNat : Nat) : Int) := by omega
          by_cases hn2 : 2 < t.size
          · have hn2' : (2 : Int) < (t.size : Int) := by omega
            have hb2 : by8 t 2 = t[2].toNat := by8_of t 2 hn2
            rw [hb2] at hR
            by_cases hlo2 : t[2].toNat < 128
            · have HV : Hid (R = true) := Lib.hid (hR.2 (.inr (.inr ⟨hn2, .inl hlo2⟩)))
              have g3 : ((t[2].toNat : Nat) : Int) < 128 := by omega
              have HRR := Lib.hid hR
              clear hR hT
              go_enter Tryd.func38, Tryd.ntmps38
              go_wp2
              go_quiet (fail)
              go_wp2
              go_ret
              exact ⟨ret_bool HV.out.symm, by first | exact (Below.refl _ _).alloc (Nat.le_refl _) _ | exact below_drewN ((Below.refl _ _).alloc (Nat.le_refl _) _) _⟩
            · have g3 : ¬ ((t[2].toNat : Nat) : Int) < 128 := by omega
              by_cases hhi2 : 191 < t[2].toNat
              · have HV : Hid (R = true) := Lib.hid (hR.2 (.inr (.inr ⟨hn2, .inr hhi2⟩)))
                have g4 : (191 : Int) < ((t[2].toNat : Nat) : Int) := by omega
                have HRR := Lib.hid hR
                clear hR hT
                go_enter Tryd.func38, Tryd.ntmps38
                go_wp2
                go_quiet (fail)
                go_wp2
                go_ret
                exact ⟨ret_bool HV.out.symm, by first | exact (Below.refl _ _).alloc (Nat.le_refl _) _ | exact below_drewN ((Below.refl _ _).alloc (Nat.le_refl _) _) _⟩
              · have HV : Hid (R = false) := Lib.hid (by rw [← Bool.not_eq_true, hR]; omega)
                have g4 : ¬ (191 : Int) < ((t[2].toNat : Nat) : Int) := by omega
                have HRR := Lib.hid hR
                clear hR hT
                go_enter Tryd.func38, Tryd.ntmps38
                go_wp2
                go_quiet (fail)
                go_wp2
                go_ret
                exact ⟨ret_bool HV.out.symm, by first | exact (Below.refl _ _).alloc (Nat.le_refl _) _ | exact below_drewN ((Below.refl _ _).alloc (Nat.le_refl _) _) _⟩
          · have HV : Hid (R = false) := Lib.hid (by rw [← Bool.not_eq_true, hR]; omega)
            have hn2' : ¬ (2 : Int) < (t.size : Int) := by omega
            have HRR := Lib.hid hR
            clear hR hT
            go_enter Tryd.func38, Tryd.ntmps38
            go_wp2
            go_quiet (fail)
            go_wp2
            go_ret
            exact ⟨ret_bool HV.out.symm, by first | exact (Below.refl _ _).alloc (Nat.le_refl _) _ | exact below_drewN ((Below.refl _ _).alloc (Nat.le_refl _) _) _⟩
      · have HV : Hid (R = false) := Lib.hid (by rw [← Bool.not_eq_true, hR]; omega)
        have hn1' : ¬ (1 : Int) < (t.size : Int) := by omega
        have hd1 : decide ((1 : Int) < (t.size : Int)) = false := decide_eq_false hn1'
        have hn2' : ¬ (2 : Int) < (t.size : Int) := by omega
        have HRR := Lib.hid hR
        clear hR hT
        go_enter Tryd.func38, Tryd.ntmps38
        go_wp2
        go_quiet (fail)
        go_wp2
        go_ret
        exact ⟨ret_bool HV.out.symm, by first | exact (Below.refl _ _).alloc (Nat.le_refl _) _ | exact below_drewN ((Below.refl _ _).alloc (Nat.le_refl _) _) _⟩
  · rw [hX] at hc0 hR
    have ha0 := (hT.1.2 0 (by omega)).1
    have ha1 := (hT.1.2 0 (by omega)).2
    simp only [Lib.accLo, Lib.accHi, Nat.reduceMul, Nat.reduceAdd, Nat.reduceEqDiff, if_true, if_false, Nat.reduceMod, Nat.reduceDiv] at ha0 ha1 hR
    by_cases hge0 : 4 ≤ t.size
    · exact absurd hge0 (by omega)
    · have hge : ¬ (4 : Int) ≤ (t.size : Int) := by omega
      by_cases hn1 : 1 < t.size
      · have hn1' : (1 : Int) < (t.size : Int) := by omega
        have hb1 : by8 t 1 = t[1].toNat := by8_of t 1 hn1
        rw [hb1] at hR
        by_cases hout : t[1].toNat < 128 ∨ 191 < t[1].toNat
        · have HV : Hid (R = true) := Lib.hid (hR.2 (.inr (.inl ⟨hn1, hout⟩)))
          by_cases hlo : t[1].toNat < 128
          · have g1 : ((t[1].toNat : Nat) : Int) < 128 := by omega
            have HRR := Lib.hid hR
            clear hR hT
            go_enter Tryd.func38, Tryd.ntmps38
            go_wp2
            go_quiet (fail)
            go_wp2
            go_ret
            exact ⟨ret_bool HV.out.symm, by first | exact (Below.refl _ _).alloc (Nat.le_refl _) _ | exact below_drewN ((Below.refl _ _).alloc (Nat.le_refl _) _) _⟩
          · have g1 : ¬ ((t[1].toNat : Nat) : Int) < 128 := by omega
            have g2 : (191 : Int) < ((t[1].toNat : Nat) : Int) := by omega
            have HRR := Lib.hid hR
            clear hR hT
            go_enter Tryd.func38, Tryd.ntmps38
            go_wp2
            go_quiet (fail)
            go_wp2
            go_ret
            exact ⟨ret_bool HV.out.symm, by first | exact (Below.refl _ _).alloc (Nat.le_refl _) _ | exact below_drewN ((Below.refl _ _).alloc (Nat.le_refl _) _) _⟩
        · have g1 : ¬ ((t[1].toNat : Nat) : Int) < 128 := by omega
          have g2 : ¬ (191 : Int) < ((t[1].toNat : Nat) : Int) := by omega
          by_cases hn2 : 2 < t.size
          · have hn2' : (2 : Int) < (t.size : Int) := by omega
            have hb2 : by8 t 2 = t[2].toNat := by8_of t 2 hn2
            rw [hb2] at hR
            by_cases hlo2 : t[2].toNat < 128
            · have HV : Hid (R = true) := Lib.hid (hR.2 (.inr (.inr ⟨hn2, .inl hlo2⟩)))
              have g3 : ((t[2].toNat : Nat) : Int) < 128 := by omega
              have HRR := Lib.hid hR
              clear hR hT
              go_enter Tryd.func38, Tryd.ntmps38
              go_wp2
              go_quiet (fail)
              go_wp2
              go_ret
              exact ⟨ret_bool HV.out.symm, by first | exact (Below.refl _ _).alloc (Nat.le_refl _) _ | exact below_drewN ((Below.refl _ _).alloc (Nat.le_refl _) _) _⟩
            · have g3 : ¬ ((t[2].toNat : Nat) : Int) < 128 := by omega
              by_cases hhi2 : 191 < t[2].toNat
              · have HV : Hid (R = true) := Lib.hid (hR.2 (.inr (.inr ⟨hn2, .inr hhi2⟩)))
                have g4 : (191 : Int) < ((t[2].toNat : Nat) : Int) := by omega
                have HRR := Lib.hid hR
                clear hR hT
                go_enter Tryd.func38, Tryd.ntmps38
                go_wp2
                go_quiet (fail)
                go_wp2
                go_ret
                exact ⟨ret_bool HV.out.symm, by first | exact (Below.refl _ _).alloc (Nat.le_refl _) _ | exact below_drewN ((Below.refl _ _).alloc (Nat.le_refl _) _) _⟩
              · have HV : Hid (R = false) := Lib.hid (by rw [← Bool.not_eq_true, hR]; omega)
                have g4 : ¬ (191 : Int) < ((t[2].toNat : Nat) : Int) := by omega
                have HRR := Lib.hid hR
                clear hR hT
                go_enter Tryd.func38, Tryd.ntmps38
                go_wp2
                go_quiet (fail)
                go_wp2
                go_ret
                exact ⟨ret_bool HV.out.symm, by first | exact (Below.refl _ _).alloc (Nat.le_refl _) _ | exact below_drewN ((Below.refl _ _).alloc (Nat.le_refl _) _) _⟩
          · have HV : Hid (R = false) := Lib.hid (by rw [← Bool.not_eq_true, hR]; omega)
            have hn2' : ¬ (2 : Int) < (t.size : Int) := by omega
            have HRR := Lib.hid hR
            clear hR hT
            go_enter Tryd.func38, Tryd.ntmps38
            go_wp2
            go_quiet (fail)
            go_wp2
            go_ret
            exact ⟨ret_bool HV.out.symm, by first | exact (Below.refl _ _).alloc (Nat.le_refl _) _ | exact below_drewN ((Below.refl _ _).alloc (Nat.le_refl _) _) _⟩
      · have HV : Hid (R = false) := Lib.hid (by rw [← Bool.not_eq_true, hR]; omega)
        have hn1' : ¬ (1 : Int) < (t.size : Int) := by omega
        have hd1 : decide ((1 : Int) < (t.size : Int)) = false := decide_eq_false hn1'
        have hn2' : ¬ (2 : Int) < (t.size : Int) := by omega
        have HRR := Lib.hid hR
        clear hR hT
        go_enter Tryd.func38, Tryd.ntmps38
        go_wp2
        go_quiet (fail)
        go_wp2
        go_ret
        exact ⟨ret_bool HV.out.symm, by first | exact (Below.refl _ _).alloc (Nat.le_refl _) _ | exact below_drewN ((Below.refl _ _).alloc (Nat.le_refl _) _) _⟩
  · rw [hX] at hc0 hR
    have ha0 := (hT.1.2 4 (by omega)).1
    have ha1 := (hT.1.2 4 (by omega)).2
    simp only [Lib.accLo, Lib.accHi, Nat.reduceMul, Nat.reduceAdd, Nat.reduceEqDiff, if_true, if_false, Nat.reduceMod, Nat.reduceDiv] at ha0 ha1 hR
    by_cases hge0 : 4 ≤ t.size
    · exact absurd hge0 (by omega)
    · have hge : ¬ (4 : Int) ≤ (t.size : Int) := by omega
      by_cases hn1 : 1 < t.size
      · have hn1' : (1 : Int) < (t.size : Int) := by omega
        have hb1 : by8 t 1 = t[1].toNat := by8_of t 1 hn1
        rw [hb1] at hR
        by_cases hout : t[1].toNat < 128 ∨ 143 < t[1].toNat
        · have HV : Hid (R = true) := Lib.hid (hR.2 (.inr (.inl ⟨hn1, hout⟩)))
          by_cases hlo : t[1].toNat < 128
          · have g1 : ((t[1].toNat : Nat) : Int) < 128 := by omega
            have HRR := Lib.hid hR
            clear hR hT
            go_enter Tryd.func38, Tryd.ntmps38
            go_wp2
            go_quiet (fail)
            go_wp2
            go_ret
            exact ⟨ret_bool HV.out.symm, by first | exact (Below.refl _ _).alloc (Nat.le_refl _) _ | exact below_drewN ((Below.refl _ _).alloc (Nat.le_refl _) _) _⟩
          · have g1 : ¬ ((t[1].toNat : Nat) : Int) < 128 := by omega
            have g2 : (143 : Int) < ((t[1].toNat : Nat) : Int) := by omega
            have HRR := Lib.hid hR
            clear hR hT
            go_enter Tryd.func38, Tryd.ntmps38
            go_wp2
            go_quiet (fail)
            go_wp2
            go_ret
            exact ⟨ret_bool HV.out.symm, by first | exact (Below.refl _ _).alloc (Nat.le_refl _) _ | exact below_drewN ((Below.refl _ _).alloc (Nat.le_refl _) _) _⟩
        · have g1 : ¬ ((t[1].toNat : Nat) : Int) < 128 := by omega
          have g2 : ¬ (143 : Int) < ((t[1].toNat : Nat) : Int) := by omega
          by_cases hn2 : 2 < t.size
          · have hn2' : (2 : Int) < (t.size : Int) := by omega
            have hb2 : by8 t 2 = t[2].toNat := by8_of t 2 hn2
            rw [hb2] at hR
            by_cases hlo2 : t[2].toNat < 128
            · have HV : Hid (R = true) := Lib.hid (hR.2 (.inr (.inr ⟨hn2, .inl hlo2⟩)))
              have g3 : ((t[2].toNat : Nat) : Int) < 128 := by omega
              have HRR := Lib.hid hR
              clear hR hT
              go_enter Tryd.func38, Tryd.ntmps38
              go_wp2
              go_quiet (fail)
              go_wp2
              go_ret
              exact ⟨ret_bool HV.out.symm, by first | exact (Below.refl _ _).alloc (Nat.le_refl _) _ | exact below_drewN ((Below.refl _ _).alloc (Nat.le_refl _) _) _⟩
            · have g3 : ¬ ((t[2].toNat : Nat) : Int) < 128 := by omega
              by_cases hhi2 : 191 < t[2].toNat
              · have HV : Hid (R = true) := Lib.hid (hR.2 (.inr (.inr ⟨hn2, .inr hhi2⟩)))
                have g4 : (191 : Int) < ((t[2].toNat : Nat) : Int) := by omega
                have HRR := Lib.hid hR
                clear hR hT
                go_enter Tryd.func38, Tryd.ntmps38
                go_wp2
                go_quiet (fail)
                go_wp2
                go_ret
                exact ⟨ret_bool HV.out.symm, by first | exact (Below.refl _ _).alloc (Nat.le_refl _) _ | exact below_drewN ((Below.refl _ _).alloc (Nat.le_refl _) _) _⟩
              · have HV : Hid (R = false) := Lib.hid (by rw [← Bool.not_eq_true, hR]; omega)
                have g4 : ¬ (191 : Int) < ((t[2].toNat : Nat) : Int) := by omega
                have HRR := Lib.hid hR
                clear hR hT
                go_enter Tryd.func38, Tryd.ntmps38
                go_wp2
                go_quiet (fail)
                go_wp2
                go_ret
                exact ⟨ret_bool HV.out.symm, by first | exact (Below.refl _ _).alloc (Nat.le_refl _) _ | exact below_drewN ((Below.refl _ _).alloc (Nat.le_refl _) _) _⟩
          · have HV : Hid (R = false) := Lib.hid (by rw [← Bool.not_eq_true, hR]; omega)
            have hn2' : ¬ (2 : Int) < (t.size : Int) := by omega
            have HRR := Lib.hid hR
            clear hR hT
            go_enter Tryd.func38, Tryd.ntmps38
            go_wp2
            go_quiet (fail)
            go_wp2
            go_ret
            exact ⟨ret_bool HV.out.symm, by first | exact (Below.refl _ _).alloc (Nat.le_refl _) _ | exact below_drewN ((Below.refl _ _).alloc (Nat.le_refl _) _) _⟩
      · have HV : Hid (R = false) := Lib.hid (by rw [← Bool.not_eq_true, hR]; omega)
        have hn1' : ¬ (1 : Int) < (t.size : Int) := by omega
        have hd1 : decide ((1 : Int) < (t.size : Int)) = false := decide_eq_false hn1'
        have hn2' : ¬ (2 : Int) < (t.size : Int) := by omega
        have HRR := Lib.hid hR
        clear hR hT
        go_enter Tryd.func38, Tryd.ntmps38
        go_wp2
        go_quiet (fail)
        go_wp2
        go_ret
        exact ⟨ret_bool HV.out.symm, by first | exact (Below.refl _ _).alloc (Nat.le_refl _) _ | exact below_drewN ((Below.refl _ _).alloc (Nat.le_refl _) _) _⟩

theorem full_beg (t : ByteArray) (h1 : 1 ≤ t.size) (h3 : t.size ≤ 3) : fullN t.size (by8 t 0) (by8 t 1) (by8 t 2) = !beginsB t := by
  rw [beginsB_eq t h1 h3, beg_full _ _ _ _ h1 h3 (by8_lt t 0), Bool.not_not]

set_option maxRecDepth 100000 in
set_option maxHeartbeats 1000000 in
theorem implCompl (s : ByteArray) (w : World) (hs : s.size ≤ 100000000) (hT : Tabs w) :
    Calls Tryd.prog 18 #[.string s] w fun e w' => e = .returned (.int .i64 ((complB s : Nat) : Int)) ∧ Below w.heap.size w w' := by
  obtain ⟨C, hC⟩ : ∃ C, C = complB s := ⟨_, rfl⟩
  rw [← hC]
  have HC := Lib.hid hC
  have HT := Lib.hid hT
  clear hC hT
  go_enter Tryd.func18, Tryd.ntmps18
  go_wp2
  go_loopw [3] (fun k wr => ∃ f j : Nat, f + j = 4 ∧ 1 ≤ j ∧ k = .int .i64 (j : Int) ∧ Hid (C = complFrom s f j) ∧ Below w.heap.size w wr) (fun k _ => 4 - (intOf k).toNat)
  case atStart => exact ⟨3, 1, rfl, Nat.le_refl _, rfl, HC, Below.refl _ _⟩
  case round =>
    obtain ⟨f, j, hfj, hj1, rfl, HF, hbel⟩ := hrel
    by_cases h3 : j < 4
    · have h3' : (j : Int) < 4 := by omega
      obtain ⟨f, rfl⟩ : ∃ f', f = f' + 1 := ⟨f - 1, by omega⟩
      by_cases hjs : j ≤ s.size
      · have hjs' : (j : Int) ≤ (s.size : Int) := by omega
        have hsl := run_tail s ((s.size : Int) - (j : Int)) j hjs rfl
        obtain ⟨t, ht⟩ : ∃ t, t = s.extract (s.size - j) s.size := ⟨_, rfl⟩
        have htz : t.size = j := by rw [ht]; exact tail_size s j hjs
        have hbg := fun W (hW : Tabs W) => fullRune t W (by omega) (by omega) hW
        rw [full_beg t (by omega) (by omega)] at hbg
        rw [← ht] at hsl
        have hy := compl_yes s f j hjs
        have hn := compl_no s f j hjs
        rw [← ht] at hy hn
        obtain ⟨b, hb⟩ : ∃ b, b = beginsB t := ⟨_, rfl⟩
        rw [← hb] at hbg hy hn
        have HBG := Lib.hid hbg
        have HY := Lib.hid hy
        have HNO := Lib.hid hn
        have BE := Lib.hid hbel
        clear hbg hy hn hb htz ht hbel
        cases b with
        | true =>
          have HE : Hid (C = s.size - j) := Lib.hid (by rw [HF.out, HY.out rfl])
          go_wp2_with fail
          refine (HBG.out _ (HT.out.below BE.out)).mono ?_
          rintro e w2 ⟨rfl, hb2⟩
          have B2 := Lib.hid (BE.out.trans (hb2.mono BE.out.size))
          clear hb2
          go_wp2_with fail
          go_ret
          exact ⟨ret_int (by rw [HE.out]; omega), B2.out⟩
        | false =>
          have HE : Hid (C = complFrom s f (j + 1)) := Lib.hid (by rw [HF.out, HNO.out rfl])
          go_wp2_with fail
          refine (HBG.out _ (HT.out.below BE.out)).mono ?_
          rintro e w2 ⟨rfl, hb2⟩
          have B2 := Lib.hid (BE.out.trans (hb2.mono BE.out.size))
          clear hb2
          go_wp2_with fail
          go_roundw
          case rel => exact ⟨f, j + 1, by omega, by omega, by go_num, HE, B2.out⟩
          case measure => simp [intOf]; omega
      · have hjs' : ¬ (j : Int) ≤ (s.size : Int) := by omega
        have HE : Hid (C = s.size) := Lib.hid (by rw [HF.out, compl_end s _ j (.inr hjs)])
        go_wp2
        go_ret
        exact ⟨ret_int (by rw [HE.out]), hbel⟩
    · have h3' : ¬ (j : Int) < 4 := by omega
      have HE : Hid (C = s.size) := Lib.hid (by rw [HF.out, compl_end s f j (.inl (by omega))])
      go_wp2
      go_ret
      exact ⟨ret_int (by rw [HE.out]), hbel⟩
end Go.Proofs.YtaigjiiknmgclaaDoor
