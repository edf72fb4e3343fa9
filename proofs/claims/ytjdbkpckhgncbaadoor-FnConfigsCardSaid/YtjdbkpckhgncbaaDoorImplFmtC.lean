/- The program's FormatConfig. -/
import Derived.Test.YtjdbkpckhgncbaaDoorBB
import Derived.Test.YtjdbkpckhgncbaaDoorImplFmt
import Derived.Test.YtjdbkpckhgncbaaDoorSpecFmtC
import Derived.Test.YtjdbkpckhgncbaaDoorJoin
import Derived.Deep.DeepCutAuto
namespace Go.Proofs.YtjdbkpckhgncbaaDoor
open Go.RowKit
set_option linter.unusedVariables false

/-- The field of a flag: the first flag stands behind the four numbers. -/
theorem flagField_any (g j : Nat) (w : World) (hj : j < 5) :
    Calls Tryd.prog 66 #[.pointer (some ⟨g, 0, none⟩), .int .i64 (j : Int)] w fun e w' => e = .returned (.pointer (some ⟨g, 4 + j, none⟩)) ∧ w' = w := by
  match j, hj with
  | 0, _ =>
    go_enter Tryd.func66, Tryd.ntmps66
    go_wp2
    go_ret
    exact ⟨rfl, rfl⟩
  | 1, _ =>
    go_enter Tryd.func66, Tryd.ntmps66
    go_wp2
    go_ret
    exact ⟨rfl, rfl⟩
  | 2, _ =>
    go_enter Tryd.func66, Tryd.ntmps66
    go_wp2
    go_ret
    exact ⟨rfl, rfl⟩
  | 3, _ =>
    go_enter Tryd.func66, Tryd.ntmps66
    go_wp2
    go_ret
    exact ⟨rfl, rfl⟩
  | 4, _ =>
    go_enter Tryd.func66, Tryd.ntmps66
    go_wp2
    go_ret
    exact ⟨rfl, rfl⟩
def flagN (c : Cfg) : Nat → Bool
  | 0 => c.fr
  | 1 => c.fd
  | 2 => c.fl
  | 3 => c.fe
  | _ => c.fm
def letN : Nat → UInt8
  | 0 => 114
  | 1 => 100
  | 2 => 108
  | 3 => 101
  | _ => 109
/-- The letters of the first j flags. -/
def flagsTo (c : Cfg) : Nat → ByteArray
  | 0 => ⟨#[]⟩
  | j + 1 => flagsTo c j ++ flagT (flagN c j) (letN j)
theorem flagsTo_size (c : Cfg) : ∀ j, (flagsTo c j).size ≤ j
  | 0 => Nat.le_refl 0
  | j + 1 => by
    have h1 := flagsTo_size c j
    have h2 := flagT_size (flagN c j) (letN j)
    rw [flagsTo, ByteArray.size_append]
    omega
theorem flagsTo_five (c : Cfg) : flagsTo c 5 = flagsB c := by
  have h := flags_sum c.fr c.fd c.fl c.fe c.fm
  have e : (⟨#[]⟩ : ByteArray) ++ flagT c.fr 114 = flagT c.fr 114 := by apply ByteArray.ext; simp
  show (⟨#[]⟩ : ByteArray) ++ flagT c.fr 114 ++ flagT c.fd 100 ++ flagT c.fl 108 ++ flagT c.fe 101 ++ flagT c.fm 109 = _
  rw [e, h]; rfl
def letters5 : ByteArray := ⟨#[114, 100, 108, 101, 109]⟩
theorem letters_at : ∀ j, j < 5 → letters5.extract j (j + 1) = ⟨#[letN j]⟩
  | 0, _ => by decide
  | 1, _ => by decide
  | 2, _ => by decide
  | 3, _ => by decide
  | 4, _ => by decide
theorem run_letter (j : Nat) (hj : j < 5) (w : World) : (Instr.slice 9 (.string ⟨#[114, 100, 108, 101, 109]⟩) (some (.int .i64 (j : Int))) (some (.int .i64 ((j : Int) + 1))) none).run Tryd.prog w = .ok (.string ⟨#[letN j]⟩) w := by
  have hs : letters5.size = 5 := rfl
  have h := run_slice_string (P := Tryd.prog) w 9 letters5 .i64 .i64 (j : Int) ((j : Int) + 1) Tryd.underlying9 (by omega) (by omega) (by omega)
  simp only [Int.toNat_natCast, show ((j : Int) + 1).toNat = j + 1 by omega] at h
  rw [letters_at j hj] at h
  exact h
theorem box_flag (w : World) (T : TypeId) (c : Cfg) : ∀ j, j < 5 → (w.alloc (.cells (cfgV c) T)).cell? ⟨w.heap.size, 4 + j, none⟩ = some (.bool (flagN c j)) := fun j hj => by
  rw [(Blk.new w T (cfgV c)).cell]
  match j, hj with
  | 0, _ => rfl
  | 1, _ => rfl
  | 2, _ => rfl
  | 3, _ => rfl
  | 4, _ => rfl
theorem flagT_yes (x : UInt8) : flagT true x = ⟨#[x]⟩ := rfl
theorem flagT_no (a : ByteArray) (x : UInt8) : a ++ flagT false x = a := by
  show a ++ (⟨#[]⟩ : ByteArray) = a
  apply ByteArray.ext; simp
set_option maxRecDepth 100000 in
set_option maxHeartbeats 2000000 in
theorem implFormatFlags (c : Cfg) (w : World) :
    Calls Tryd.prog 35 #[.agg (cfgV c)] w fun e w' => e = .returned (.string (tailB c)) ∧ Below w.heap.size w w' := by
  have HBX := Lib.hid (box_flag w 24 c)
  have HSZ := Lib.hid (flagsTo_size c)
  have H5 := Lib.hid (flagsTo_five c)
  have hnone := Lib.hid (fun h => flagsB_none (c := c) h)
  have hsome := Lib.hid (fun h => flagsB_some (c := c) h)
  obtain ⟨T, hT⟩ : ∃ T, T = tailB c := ⟨_, rfl⟩
  rw [← hT] at hnone hsome ⊢
  clear hT
  have HST := Lib.hid (fun j => (show flagsTo c (j + 1) = flagsTo c j ++ flagT (flagN c j) (letN j) from rfl))
  have H0 := Lib.hid (show flagsTo c 0 = ⟨#[]⟩ from rfl)
  generalize flagsTo c = ft at HSZ H5 HST H0
  generalize flagN c = fn at HBX HST
  generalize flagsB c = fb at H5 hnone hsome
  obtain ⟨m, t, p, d, fr, fd, fl, fe, fm⟩ := c
  unfold cfgV at HBX ⊢
  simp only at HBX ⊢
  go_enter Tryd.func35, Tryd.ntmps35
  go_wp2
  go_loop [3, 4, 5] (fun l _ i => ∃ j : Nat, j ≤ 5 ∧ i = .int .i64 (j : Int) ∧ l = .string (ft j)) (fun _ _ i => 5 - (intOf i).toNat)
  case atStart => exact ⟨0, Nat.zero_le _, rfl, by rw [H0.out]⟩
  case round =>
    obtain ⟨j, hj, rfl, rfl⟩ := hrel
    by_cases hlt : j < 5
    · have hcell := HBX.out j hlt
      have hst := HST.out j
      have hsz := HSZ.out j
      have hcall := Lib.hid (fun W => flagField_any w.heap.size j W hlt)
      have hsl := fun w => run_letter j hlt w
      generalize letN j = x at hst hsl
      cases hb : fn j with
      | true =>
        rw [hb] at hcell hst
        rw [flagT_yes] at hst
        have hadd := fun w => txt_add (P := Tryd.prog) (w := w) (ft j) ⟨#[x]⟩ (by rw [show (⟨#[x]⟩ : ByteArray).size = 1 from rfl]; omega)
        rw [← hst] at hadd
        obtain ⟨y, hy⟩ : ∃ y : ByteArray, y = ⟨#[x]⟩ := ⟨_, rfl⟩
        obtain ⟨z, hz⟩ : ∃ z, z = ft (j + 1) := ⟨_, rfl⟩
        rw [← hy] at hadd hsl
        rw [← hz] at hadd
        have HZ := Lib.hid hz
        clear hst hb hy hsz hz
        go_wp2_with fail
        refine (hcall.out _).mono ?_
        rintro e w1 ⟨rfl, rfl⟩
        go_wp2_with fail
        go_round
        case rel => exact ⟨j + 1, by omega, by go_num, by rw [HZ.out]⟩
        case measure => simp [intOf]; omega
      | false =>
        rw [hb] at hcell hst
        rw [flagT_no] at hst
        have HZ := Lib.hid hst
        clear hst hb hsz hsl
        go_wp2_with fail
        refine (hcall.out _).mono ?_
        rintro e w1 ⟨rfl, rfl⟩
        go_wp2_with fail
        go_round
        case rel => exact ⟨j + 1, by omega, by go_num, by rw [HZ.out]⟩
        case measure => simp [intOf]; omega
    · obtain rfl : j = 5 := by omega
      rw [H5.out]
      clear HBX HSZ HST H0 H5
      by_cases hE : fb = ⟨#[]⟩
      · have HT := Lib.hid (hnone.out hE)
        subst hE
        go_wp2
        go_ret
        exact ⟨ret_string HT.out.symm, by go_grown⟩
      · have HT := Lib.hid (hsome.out hE)
        have hE2 := empty_no hE
        clear hE
        go_wp2
        go_ret
        exact ⟨ret_string HT.out.symm, by go_grown⟩
def numTexts (c : Cfg) : List ByteArray := [fmtB c.cmin, fmtB c.ctab, fmtB c.cpadding, fmtB c.cpad]
def numAt (c : Cfg) : Nat → Int
  | 0 => c.cmin
  | 1 => c.ctab
  | 2 => c.cpadding
  | _ => c.cpad
theorem join_nums (c : Cfg) : joinB (numTexts c) ⟨#[44]⟩ = ⟨(numsL c).toArray⟩ := by
  have e : numTexts c = (([fmtB c.cmin] ++ [fmtB c.ctab]) ++ [fmtB c.cpadding]) ++ [fmtB c.cpad] := rfl
  rw [e, joinB_snoc _ _ _ (by simp), joinB_snoc _ _ _ (by simp), joinB_snoc _ _ _ (by simp), joinB_one]
  apply ByteArray.ext
  apply Array.ext'
  simp [fmtB, numsL]
theorem nums_tail (c : Cfg) (h : validC c = true) : joinB (numTexts c) ⟨#[44]⟩ ++ ⟨#[32]⟩ ++ tailB c = fmtCB c := by
  rw [join_nums, fmtCB_yes h]
  apply ByteArray.ext
  apply Array.ext'
  simp [tailB, fmtL]
theorem four_cells (w : World) (T : TypeId) (c : Cfg) : ∀ j, j < 4 → (w.alloc (.cells #[.int .i64 c.cmin, .int .i64 c.ctab, .int .i64 c.cpadding, .int .i64 c.cpad] T)).cell? ⟨w.heap.size, j, none⟩ = some (.int .i64 (numAt c j)) := fun j hj => by
  rw [(Blk.new w T _).cell]
  match j, hj with
  | 0, _ => rfl
  | 1, _ => rfl
  | 2, _ => rfl
  | 3, _ => rfl
theorem texts_step (c : Cfg) : ∀ j, j < 4 → strs ((numTexts c).take j) ++ [.string (fmtB (numAt c j))] = strs ((numTexts c).take (j + 1))
  | 0, _ => rfl
  | 1, _ => rfl
  | 2, _ => rfl
  | 3, _ => rfl
set_option maxRecDepth 100000 in
set_option maxHeartbeats 4000000 in
theorem implFormatConfig (c : Cfg) (w : World) (hP : Pow w) :
    Calls Tryd.prog 10 #[.agg (cfgV c)] w fun e w' => e = .returned (.string (fmtCB c)) ∧ Below w.heap.size w w' := by
  have hS := fun W => implIsConfig c W
  have HP := Lib.hid hP
  clear hP
  cases hv : validC c with
  | false =>
    rw [fmtCB_no hv]
    rw [hv] at hS
    have HS := Lib.hid hS
    clear hS hv
    obtain ⟨m, t, p, d, fr, fd, fl, fe, fm⟩ := c
    unfold cfgV at HS ⊢
    simp only at HS ⊢
    go_enter Tryd.func10, Tryd.ntmps10
    go_wp2_with fail
    refine (HS.out _).mono ?_
    rintro e w1 ⟨rfl, hb1⟩
    have B1 := Lib.hid ((by go_grown : Below w.heap.size w (w.alloc _)).trans (hb1.mono (by simp)))
    clear hb1
    go_wp2_with fail
    go_ret
    exact ⟨rfl, B1.out⟩
  | true =>
    obtain ⟨i0, hi0, hz0, hz1, hz2⟩ := info_parts Tryd.infoStr
    rw [hv] at hS
    have HS := Lib.hid hS
    have ht := (validC_iff c).1 hv
    have hsum := nums_tail c hv
    have hts := tailB_size c
    have HFL := Lib.hid (fun W => implFormatFlags c W)
    have hnb : ∀ j, j < 4 → -9223372036854775808 ≤ numAt c j ∧ numAt c j ≤ 9223372036854775807 := fun j hj => by
      match j, hj with
      | 0, _ => show _ ≤ c.cmin ∧ c.cmin ≤ _; omega
      | 1, _ => show _ ≤ c.ctab ∧ c.ctab ≤ _; omega
      | 2, _ => show _ ≤ c.cpadding ∧ c.cpadding ≤ _; omega
      | 3, _ => show _ ≤ c.cpad ∧ c.cpad ≤ _; omega
    have HNB := Lib.hid hnb
    have hf1 := fmtB_size c.cmin (by omega) (by omega)
    have hf2 := fmtB_size c.ctab (by omega) (by omega)
    have hf3 := fmtB_size c.cpadding (by omega) (by omega)
    have hf4 := fmtB_size c.cpad (by omega) (by omega)
    have htot : tot (numTexts c) ≤ 84 := by
      simp only [numTexts, tot]; omega
    have hjs : (joinB (numTexts c) ⟨#[44]⟩).size ≤ 100 := by
      have h1 := joinB_size (numTexts c) ⟨#[44]⟩
      have h2 : (numTexts c).length = 4 := rfl
      have h3 : (⟨#[44]⟩ : ByteArray).size = 1 := rfl
      rw [h2, h3] at h1
      omega
    have HJN := Lib.hid (fun v W hr hcap => implJoin_rd (numTexts c) ⟨#[44]⟩ v W hr hcap (by omega) (show 4 ≤ 1048576 by omega) (by decide))
    have HTS := Lib.hid (texts_step c)
    have HT4 := Lib.hid (show (numTexts c).take 4 = numTexts c from rfl)
    have HT0 := Lib.hid (show strs ((numTexts c).take 0) = [] from rfl)
    have HFC := Lib.hid (fun W => four_cells W 3 c)
    rw [← hsum]
    have hc1 : (⟨#[32]⟩ : ByteArray).size = 1 := rfl
    have a1 := fun w => txt_add (P := Tryd.prog) (w := w) (joinB (numTexts c) ⟨#[44]⟩) ⟨#[32]⟩ (by omega)
    have a2 := fun w => txt_add (P := Tryd.prog) (w := w) (joinB (numTexts c) ⟨#[44]⟩ ++ ⟨#[32]⟩) (tailB c) (by rw [ByteArray.size_append]; omega)
    generalize joinB (numTexts c) ⟨#[44]⟩ = jn at a1 a2 HJN ⊢
    generalize tailB c = tl at a2 HFL ⊢
    generalize jn ++ ⟨#[32]⟩ = jn1 at a1 a2 ⊢
    generalize jn1 ++ tl = jn2 at a2 ⊢
    generalize numTexts c = nt at HJN HTS HT4 HT0
    generalize numAt c = na at HNB HTS HFC
    clear hS hv hsum hts hnb hf1 hf2 hf3 hf4 htot hjs hc1 ht
    obtain ⟨m, t, p, d, fr, fd, fl, fe, fm⟩ := c
    unfold cfgV at HS HFL ⊢
    simp only at HS HFL HFC ⊢
    go_enter Tryd.func10, Tryd.ntmps10
    go_wp2_with fail
    refine (HS.out _).mono ?_
    rintro e w1 ⟨rfl, hb1⟩
    have hbx := (Boxed.new w 24 m t p d fr fd fl fe fm).below hb1 (by simp)
    have B1 := Lib.hid ((by go_grown : Below w.heap.size w (w.alloc _)).trans (hb1.mono (by simp)))
    have hlt : w.heap.size < w1.heap.size := by have := hb1.size; simp at this; omega
    have HBX := Lib.hid hbx
    obtain ⟨c0, c1, c2, c3, c4, c5, c6, c7, c8⟩ := hbx
    have HFC1 := Lib.hid (HFC.out w1)
    clear hb1 HFC
    go_wp2_with fail
    clear c0 c1 c2 c3 c4 c5 c6 c7 c8
    go_loopw [3, 5, 19] (fun v _ i wr => ∃ (k : Nat) (vo : Value), k ≤ 4 ∧ i = .int .i64 (k : Int) ∧ vo = v ∧ wr.ownsRow (w1.heap.size + 1) 9 1 vo k (strs (nt.take k)) ∧ Below (w1.heap.size + 1) (w1.alloc (.cells #[.int .i64 m, .int .i64 t, .int .i64 p, .int .i64 d] 3)) wr) (fun _ _ i _ => 4 - (intOf i).toNat)
    case atStart => exact ⟨0, _, Nat.zero_le _, rfl, rfl, by rw [HT0.out]; exact World.ownsRow_nil _ _ _ _, Below.refl _ _⟩
    case round =>
      obtain ⟨k, vo, hk, rfl, rfl, hown, hbel⟩ := hrel
      have hbase : w1.heap.size + 1 ≤ wr.heap.size := by have := hbel.size; simpa using this
      by_cases hlt4 : k < 4
      · have hcell := (hbel.cell (p := ⟨w1.heap.size, k, none⟩) (by simp)).trans (HFC1.out k hlt4)
        obtain ⟨hn1, hn2⟩ := HNB.out k hlt4
        have hts := HTS.out k hlt4
        have hpow := HP.out.below (B1.out.trans (((Below.refl w1.heap.size w1).alloc (Nat.le_refl _) _ |>.trans (hbel.mono (Nat.le_succ _))).mono B1.out.size))
        generalize na k = n at hcell hn1 hn2 hts
        have HF := Lib.hid (implFormatInt n wr hn1 hn2 hpow)
        generalize fmtB n = tx at hts HF
        have HTX := Lib.hid hts
        have HO := Lib.hid hown
        have HB := Lib.hid hbel
        clear hts hpow hown hbel hn1 hn2
        go_wp2_with fail
        refine HF.out.mono ?_
        rintro e w2 ⟨rfl, hb2⟩
        have hown2 := own_below HO.out hb2
        have HB2 := Lib.hid (HB.out.trans (hb2.mono hbase))
        have hbase2 : w1.heap.size + 1 ≤ w2.heap.size := Nat.le_trans hbase hb2.size
        clear hb2 hcell
        go_wp2_with (at_builtin; refine append_one rfl _ _ 60 rfl (w1.heap.size + 1) 9 i0 _ 16 Tryd.underlying60 hi0 hz0 hz1 hz2 rfl vo _ _ rfl w2 (.string tx) rfl rfl hown2 (by omega) (by omega) hbase2 ?_; intro v1 w3 hown3 hbel3; have HO3 := Lib.hid hown3; have HB3 := Lib.hid hbel3; clear hown3 hbel3)
        go_roundw
        case rel => exact ⟨k + 1, v1, by omega, by go_num, rfl, by rw [← HTX.out]; exact HO3.out, HB2.out.trans HB3.out⟩
        case measure => simp [intOf]; omega
      · obtain rfl : k = 4 := by omega
        rw [HT4.out] at hown
        obtain ⟨wl, rfl⟩ : ∃ wl : World, wl = wr := ⟨_, rfl⟩
        have HRD := Lib.hid (Rd.of_own hown)
        have hcp : ∀ A n c, vo = .slice A n c → n ≤ c := by
          rcases hown.2 with ⟨_, h0⟩ | ⟨g, cap, cur, rfl, _, _, hn, _⟩
          · exact absurd h0 (by decide)
          · intro A n c he; injection he with h1 h2 h3; omega
        have HCP := Lib.hid hcp
        have B2 := Lib.hid (B1.out.trans (((Below.refl w1.heap.size w1).alloc (Nat.le_refl _) _ |>.trans (hbel.mono (Nat.le_succ _))).mono B1.out.size))
        have hbb : Boxed wl w.heap.size m t p d fr fd fl fe fm := HBX.out.below ((Below.refl w1.heap.size w1).alloc (Nat.le_refl _) _ |>.trans (hbel.mono (Nat.le_succ _))) hlt
        have hltl : w.heap.size + 1 ≤ wl.heap.size := by omega
        obtain ⟨c0, c1, c2, c3, c4, c5, c6, c7, c8⟩ := hbb
        clear hown hbel hcp
        go_wp2_with fail
        go_region_held3 (fun W => W.cell? ⟨w.heap.size, 0, none⟩ = some (.int .i64 m) ∧ W.cell? ⟨w.heap.size, 1, none⟩ = some (.int .i64 t) ∧ W.cell? ⟨w.heap.size, 2, none⟩ = some (.int .i64 p) ∧ W.cell? ⟨w.heap.size, 3, none⟩ = some (.int .i64 d) ∧ W.cell? ⟨w.heap.size, 4, none⟩ = some (.bool fr) ∧ W.cell? ⟨w.heap.size, 5, none⟩ = some (.bool fd) ∧ W.cell? ⟨w.heap.size, 6, none⟩ = some (.bool fl) ∧ W.cell? ⟨w.heap.size, 7, none⟩ = some (.bool fe) ∧ W.cell? ⟨w.heap.size, 8, none⟩ = some (.bool fm) ∧ Below wl.heap.size wl W ∧ w.heap.size + 1 ≤ W.heap.size)
          (first | exact ⟨c0, c1, c2, c3, c4, c5, c6, c7, c8, (Below.refl _ _).drew, hltl⟩ | exact ⟨c0, c1, c2, c3, c4, c5, c6, c7, c8, Below.refl _ _, hltl⟩ | exact box_step (by assumption) (by assumption))
          (first | (go_at_call 34; refine (HJN.out _ _ (HRD.out.below (box_old (by assumption))) HCP.out).mono ?_; rintro e w2 ⟨rfl, hb1⟩) | (go_at_call 35; refine (HFL.out _).mono ?_; rintro e w2 ⟨rfl, hb1⟩))
        all_goals
          go_wp2
          go_ret
          exact ⟨rfl, B2.out.trans ((box_old (w := wl) (B := w.heap.size) (by assumption)).mono B2.out.size)⟩
end Go.Proofs.YtjdbkpckhgncbaaDoor
