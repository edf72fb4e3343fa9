/- The program's ParseConfig. -/
import Derived.Test.YtjdbkpckhgncbaaDoorBB
import Derived.Test.YtjdbkpckhgncbaaDoorImplFmtC
import Derived.Test.YtjdbkpckhgncbaaDoorImplParse
import Derived.Test.YtjdbkpckhgncbaaDoorLaid
import Derived.Test.YtjdbkpckhgncbaaDoorBA
import Derived.Deep.RegionHeld3
import Derived.IntWalk
namespace Go.Proofs.YtjdbkpckhgncbaaDoor
open Go.RowKit
set_option linter.unusedVariables false

theorem indexByte_ge (l : List UInt8) (c : UInt8) : -1 ≤ Lib.indexByte l c ∧ (0 ≤ Lib.indexByte l c ↔ l.contains c = true) := by
  induction l with
  | nil => exact ⟨Int.le_refl _, by show (0 : Int) ≤ -1 ↔ false = true; decide⟩
  | cons b l ih =>
    have e : Lib.indexByte (b :: l) c = if b == c then 0 else if Lib.indexByte l c == -1 then -1 else Lib.indexByte l c + 1 := rfl
    rw [e]
    by_cases h : b = c
    · subst h
      simp
    · have h' : (b == c) = false := by simp [h]
      rw [h']
      have hc : (b :: l).contains c = l.contains c := by
        rw [List.contains_cons]
        have : (c == b) = false := by simp; exact fun e => h e.symm
        rw [this, Bool.false_or]
      rw [hc]
      by_cases hi : Lib.indexByte l c = -1
      · have : (Lib.indexByte l c == -1) = true := by simp [hi]
        rw [this]
        refine ⟨by simp, ?_⟩
        rw [← ih.2, hi]
        simp
      · have : (Lib.indexByte l c == -1) = false := by simp [hi]
        rw [this]
        have h1 := ih.1
        refine ⟨by simp; omega, ?_⟩
        rw [← ih.2]
        simp
        omega
set_option maxRecDepth 100000 in
set_option maxHeartbeats 400000 in
theorem contains_one (s : ByteArray) (c : UInt8) (w : World) :
    Calls Tryd.prog 65 #[.string s, .string ⟨#[c]⟩] w fun e w' => e = .returned (.bool (hasB s c)) ∧ w' = w := by
  have hi := fun w => Tryd.strings_Index_one s c w
  have hg := indexByte_ge s.data.toList c
  have hb : hasB s c = decide (0 ≤ Lib.indexByte s.data.toList c) := by
    rw [Bool.eq_iff_iff, decide_eq_true_iff]; exact hg.2.symm
  rw [hb]
  generalize Lib.indexByte s.data.toList c = x at hi ⊢
  have HI := Lib.hid hi
  clear hi hg hb
  by_cases h0 : 0 ≤ x
  · rw [decide_eq_true h0]
    go_enter Tryd.func65, Tryd.ntmps65
    go_wp2_with fail
    refine (HI.out _).mono ?_
    rintro e w1 ⟨rfl, rfl⟩
    go_wp2_with fail
    go_ret
    exact ⟨rfl, rfl⟩
  · rw [decide_eq_false h0]
    go_enter Tryd.func65, Tryd.ntmps65
    go_wp2_with fail
    refine (HI.out _).mono ?_
    rintro e w1 ⟨rfl, rfl⟩
    go_wp2_with fail
    go_ret
    exact ⟨ret_bool (decide_eq_false (by omega)), rfl⟩
def nth4 (a b c d : ByteArray) : Nat → ByteArray
  | 0 => a
  | 1 => b
  | 2 => c
  | _ => d
/-- Four numbers in an array. -/
def row4 (u : Nat → Int) : Array Value := #[.int .i64 (u 0), .int .i64 (u 1), .int .i64 (u 2), .int .i64 (u 3)]
theorem row4_get (u : Nat → Int) : ∀ k, k < 4 → (row4 u)[k]? = some (.int .i64 (u k))
  | 0, _ => rfl
  | 1, _ => rfl
  | 2, _ => rfl
  | 3, _ => rfl
def upd (u : Nat → Int) (k : Nat) (v : Int) (j : Nat) : Int := if j = k then v else u j
theorem row4_set (u : Nat → Int) (v : Int) : ∀ k, k < 4 → (row4 u).setIfInBounds k (.int .i64 v) = row4 (upd u k v)
  | 0, _ => rfl
  | 1, _ => rfl
  | 2, _ => rfl
  | 3, _ => rfl
theorem upd_num {np : Nat → ByteArray} {u : Nat → Int} {k : Nat} {v : Int} (h : ∀ j, j < k → IsNum (np j) (u j)) (hv : IsNum (np k) v) : ∀ j, j < k + 1 → IsNum (np j) (upd u k v j) := fun j hj => by
  unfold upd
  split
  · next e => rw [e]; exact hv
  · exact h j (by omega)
theorem no_of_part {t n0 n1 n2 n3 f : ByteArray} (hw : splitB t (isSep ⟨#[44, 32]⟩) = [n0, n1, n2, n3, f]) : ∀ k, k < 4 → NoNum (nth4 n0 n1 n2 n3 k) → NoCfg t
  | 0, _, h => five_no hw (.inl h)
  | 1, _, h => five_no hw (.inr (.inl h))
  | 2, _, h => five_no hw (.inr (.inr (.inl h)))
  | 3, _, h => five_no hw (.inr (.inr (.inr h)))
theorem yes_of_parts {t n0 n1 n2 n3 f : ByteArray} {u : Nat → Int} (hw : splitB t (isSep ⟨#[44, 32]⟩) = [n0, n1, n2, n3, f]) (h : ∀ j, j < 4 → IsNum (nth4 n0 n1 n2 n3 j) (u j)) : ReadC t (partsC (u 0) (u 1) (u 2) (u 3) f) true :=
  .inr ⟨rfl, five_ne hw, fun d hd he => (five_of_cfg hw (h 0 (by omega)) (h 1 (by omega)) (h 2 (by omega)) (h 3 (by omega)) hd he).symm⟩
/-- The flags that have been set when j of them have been read. -/
def setTo (f : ByteArray) (j i : Nat) : Bool := decide (i < j) && hasB f (letN i)
def cells9 (u : Nat → Int) (f : ByteArray) (j : Nat) : Array Value := #[.int .i64 (u 0), .int .i64 (u 1), .int .i64 (u 2), .int .i64 (u 3), .bool (setTo f j 0), .bool (setTo f j 1), .bool (setTo f j 2), .bool (setTo f j 3), .bool (setTo f j 4)]
theorem cells9_zero (u : Nat → Int) (f : ByteArray) : cells9 u f 0 = #[.int .i64 (u 0), .int .i64 (u 1), .int .i64 (u 2), .int .i64 (u 3), .bool false, .bool false, .bool false, .bool false, .bool false] := rfl
theorem cells9_get (u : Nat → Int) (f : ByteArray) : ∀ j, j < 5 → ∃ b, (cells9 u f j)[4 + j]? = some (.bool b)
  | 0, _ => ⟨_, rfl⟩
  | 1, _ => ⟨_, rfl⟩
  | 2, _ => ⟨_, rfl⟩
  | 3, _ => ⟨_, rfl⟩
  | 4, _ => ⟨_, rfl⟩
theorem cells9_set (u : Nat → Int) (f : ByteArray) : ∀ j, j < 5 → (cells9 u f j).setIfInBounds (4 + j) (.bool (hasB f (letN j))) = cells9 u f (j + 1) := by
  have e : ∀ b : Bool, (true && b) = b := fun b => rfl
  intro j hj
  match j, hj with
  | 0, _ => rfl
  | 1, _ => rfl
  | 2, _ => rfl
  | 3, _ => rfl
  | 4, _ => rfl
theorem cells9_five (u : Nat → Int) (f : ByteArray) : cells9 u f 5 = cfgV (partsC (u 0) (u 1) (u 2) (u 3) f) := rfl
theorem zero_four (w : World) : (zeroValue 99).run Tryd.prog w = .ok (.agg (row4 fun _ => 0)) w := by kernel_rfl
set_option maxRecDepth 100000 in
set_option maxHeartbeats 4000000 in
theorem implReadConfig (s : ByteArray) (w : World) (hs : s.size ≤ 1048576) (hL : Pow w ∧ Errs w) :
    Calls Tryd.prog 32 #[.string s] w fun e w' => (∃ c ok, e = .returned (.tuple #[.agg (cfgV c), .bool ok]) ∧ ReadC s c ok) ∧ Below w.heap.size w w' := by
  have HS1 := Lib.hid (fun W => implSplitAny s ⟨#[44, 32]⟩ W hs (by decide))
  have hps := part_size s (isSep ⟨#[44, 32]⟩)
  have hlen1 := splitB_length s (isSep ⟨#[44, 32]⟩)
  have hno5 := Lib.hid (fun h => no_five (t := s) h)
  have HL := Lib.hid hL
  clear hL
  obtain ⟨L, hL⟩ : ∃ L, L = splitB s (isSep ⟨#[44, 32]⟩) := ⟨_, rfl⟩
  rw [← hL] at HS1 hps hno5 hlen1
  have HLS := Lib.hid hL
  clear hL
  obtain ⟨n1, hn1⟩ : ∃ n, n = L.length := ⟨_, rfl⟩
  rw [← hn1] at HS1 hlen1
  by_cases h5 : n1 = 5
  · obtain ⟨m0, m1, m2, m3, f, hN5⟩ := five_of (l := L) (by omega)
    subst hN5
    subst h5
    have HWS := Lib.hid HLS.out.symm
    have hms : ∀ k, k < 4 → (nth4 m0 m1 m2 m3 k).size ≤ 1048576 := fun k hk => by
      match k, hk with
      | 0, _ => exact Nat.le_trans (hps m0 (by simp)) hs
      | 1, _ => exact Nat.le_trans (hps m1 (by simp)) hs
      | 2, _ => exact Nat.le_trans (hps m2 (by simp)) hs
      | 3, _ => exact Nat.le_trans (hps m3 (by simp)) hs
    have HMS := Lib.hid hms
    have HNO := Lib.hid (fun k hk h => no_of_part HWS.out k hk h)
    have HYES := Lib.hid (fun u h => yes_of_parts (u := u) HWS.out h)
    have HGET := Lib.hid (show ∀ k, k < 4 → (strs [m0, m1, m2, m3, f])[k]? = some (.string (nth4 m0 m1 m2 m3 k)) from fun k hk => by
      match k, hk with
      | 0, _ => rfl
      | 1, _ => rfl
      | 2, _ => rfl
      | 3, _ => rfl)
    have HGET4 := Lib.hid (show (strs [m0, m1, m2, m3, f])[4]? = some (.string f) from rfl)
    generalize nth4 m0 m1 m2 m3 = np at HMS HNO HYES HGET
    generalize strs [m0, m1, m2, m3, f] = cs at HS1 HGET HGET4
    clear hps hno5 hn1 hlen1 hms HLS HWS
    go_enter Tryd.func32, Tryd.ntmps32
    go_wp2_with fail
    refine (HS1.out _).mono ?_
    rintro e w1 ⟨v, rfl, hown1, hb1⟩
    have HZ1 := Lib.hid ((Blk.new w 24 ZC).after hb1)
    have B1 := Lib.hid ((by go_grown : Below w.heap.size w (w.alloc _)).trans (hb1.mono (by simp)))
    obtain ⟨gp, cap1, rfl, hgpa, hgp, hcp⟩ := own_cells hown1 (by decide)
    have HCP := Lib.hid hcp
    have hlt0 : w.heap.size < w1.heap.size := HZ1.out.lt
    clear hown1 hb1 hcp hgpa
    have hz4 := zero_four
    go_wp2_with fail
    clear hz4
    go_loopw [6, 7, 8, 17] (fun _ _ _ i wr => ∃ (k : Nat) (u : Nat → Int), k ≤ 4 ∧ i = .int .i64 (k : Int) ∧ Hid (∀ j, j < k → IsNum (np j) (u j)) ∧ Hid (Blk wr w1.heap.size 99 (row4 u)) ∧ Hid (Below w1.heap.size w1 wr)) (fun _ _ _ i _ => 4 - (intOf i).toNat)
    case atStart => exact ⟨0, fun _ => 0, Nat.zero_le _, rfl, Lib.hid (fun j hj => absurd hj (by omega)), Lib.hid (Blk.new w1 _ _), Lib.hid (by go_grown)⟩
    case round =>
      obtain ⟨k, u, hk, rfl, HU, HB, HK⟩ := hrel
      by_cases hlt : k < 4
      · have hcell : wr.cell? ⟨gp, k, none⟩ = some (.string (np k)) := (HK.out.cell (p := ⟨gp, k, none⟩) hgp).trans (HCP.out k _ (HGET.out k hlt))
        have BW := Lib.hid (B1.out.trans (HK.out.mono B1.out.size))
        have HP := Lib.hid (implParse (np k) wr (HMS.out k hlt) (HL.out.2.below BW.out) (HL.out.1.below BW.out))
        have HNOk := Lib.hid (HNO.out k hlt)
        have HNEXT := Lib.hid (fun v (hv : IsNum (np k) v) => upd_num HU.out hv)
        generalize np k = tx at hcell HP HNOk HNEXT
        go_wp2_with fail
        refine HP.out.mono ?_
        rintro e w2 ⟨hend, hb2⟩
        obtain ⟨v, ok, _, hyes, hnn, rfl⟩ := hend.num
        have HK2 := Lib.hid (HK.out.trans (hb2.mono HK.out.size))
        have HB2 := Lib.hid (HB.out.after hb2)
        have HZ2 := Lib.hid (HZ1.out.below HK2.out hlt0)
        have B2 := Lib.hid (B1.out.trans (HK2.out.mono B1.out.size))
        cases ok with
        | false =>
          have HN9 := Lib.hid (HNOk.out (hnn rfl))
          clear hyes hnn hend hb2 hcell
          have hbx := (HZ2.out.row (cs' := ZC)).boxed
          have hz := HZ2.out
          have HBX := Lib.hid hbx
          clear hbx
          go_wp2_with (refine wpList_store_row rfl _ _ _ rfl w.heap.size ZC rfl rfl 24 ZC hz size_cfg rfl one_ZC ?_)
          obtain ⟨c0, c1, c2, c3, c4, c5, c6, c7, c8⟩ := HBX.out
          exact bodyPost_ret (v := .tuple #[.agg (cfgV zeroC), .bool false]) (by simp [results, Tryd.results32, go_sem, c0, c1, c2, c3, c4, c5, c6, c7, c8, cfgV, zeroC]) rfl ⟨⟨zeroC, false, rfl, .inl ⟨rfl, HN9.out⟩⟩, below_row B2.out (Nat.le_refl _)⟩
        | true =>
          have HV := Lib.hid (hyes rfl)
          have f1 : w2.cell? ⟨w1.heap.size, k, none⟩ = some (.int .i64 (u k)) := (HB2.out.cell k).trans (row4_get u k hlt)
          have f2 : w2.frozen? ⟨w1.heap.size, k, none⟩ = false := HB2.out.free k
          have HB3 : Hid (Blk (w2.setCell ⟨w1.heap.size, k, none⟩ (.int .i64 v)) w1.heap.size 99 (row4 (upd u k v))) := Lib.hid (by rw [← row4_set u v k hlt]; exact HB2.out.set k _)
          clear hyes hnn hend hb2 hcell
          go_wp2_with fail
          go_roundw
          case rel => exact ⟨k + 1, upd u k v, by omega, by go_num, Lib.hid (HNEXT.out v HV.out), HB3, Lib.hid (HK2.out.setCell (Nat.le_refl _) _)⟩
          case measure => simp [intOf]; omega
      · obtain rfl : k = 4 := by omega
        have HR := Lib.hid (HYES.out u HU.out)
        obtain ⟨wo, rfl⟩ : ∃ wo : World, wo = wr := ⟨_, rfl⟩
        have f0 : wo.cell? ⟨w1.heap.size, 0, none⟩ = some (.int .i64 (u 0)) := HB.out.cell 0
        have f1 : wo.cell? ⟨w1.heap.size, 1, none⟩ = some (.int .i64 (u 1)) := HB.out.cell 1
        have f2 : wo.cell? ⟨w1.heap.size, 2, none⟩ = some (.int .i64 (u 2)) := HB.out.cell 2
        have f3 : wo.cell? ⟨w1.heap.size, 3, none⟩ = some (.int .i64 (u 3)) := HB.out.cell 3
        have h9 : w1.heap.size ≤ wo.heap.size := HK.out.size
        have hc4 : wo.cell? ⟨gp, 4, none⟩ = some (.string f) := (HK.out.cell (p := ⟨gp, 4, none⟩) hgp).trans (HCP.out 4 _ HGET4.out)
        have HC4 := Lib.hid hc4
        have HCZ := Lib.hid (cells9_zero u f)
        clear hc4 HU HYES HNO HMS
        go_wp2_with fail
        clear f0 f1 f2 f3
        go_loopw [10, 44] (fun _ i wr => ∃ (j : Nat), j ≤ 5 ∧ i = .int .i64 (j : Int) ∧ Hid (Blk wr wo.heap.size 24 (cells9 u f j)) ∧ Hid (Below wo.heap.size wo wr)) (fun _ i _ => 5 - (intOf i).toNat)
        case atStart => exact ⟨0, Nat.zero_le _, rfl, Lib.hid (by rw [HCZ.out]; exact Blk.new wo _ _), Lib.hid (by go_grown)⟩
        case round =>
          obtain ⟨j, hj, rfl, HBJ, HKJ⟩ := hrel
          by_cases hltj : j < 5
          · have hgpo : gp < wo.heap.size := Nat.lt_of_lt_of_le hgp h9
            have hcf : wr.cell? ⟨gp, 4, none⟩ = some (.string f) := (HKJ.out.cell (p := ⟨gp, 4, none⟩) hgpo).trans HC4.out
            obtain ⟨b, hb⟩ := cells9_get u f j hltj
            have f1 : wr.cell? ⟨wo.heap.size, 4 + j, none⟩ = some (.bool b) := (HBJ.out.cell (4 + j)).trans hb
            have f2 : wr.frozen? ⟨wo.heap.size, 4 + j, none⟩ = false := HBJ.out.free (4 + j)
            have HF := Lib.hid (fun W => flagField_any wo.heap.size j W hltj)
            have HCN := Lib.hid (fun W => contains_one f (letN j) W)
            have HB3 : Hid (Blk (wr.setCell ⟨wo.heap.size, 4 + j, none⟩ (.bool (hasB f (letN j)))) wo.heap.size 24 (cells9 u f (j + 1))) := Lib.hid (by rw [← cells9_set u f j hltj]; exact HBJ.out.set (4 + j) _)
            have hsl := fun w => run_letter j hltj w
            obtain ⟨x, hx⟩ : ∃ x : ByteArray, x = ⟨#[letN j]⟩ := ⟨_, rfl⟩
            rw [← hx] at hsl HCN
            generalize hasB f (letN j) = y at HCN HB3
            clear hb hx
            go_wp2_with fail
            have HKD := Lib.hid HKJ.out
            have hw1 : IntKind.i64.wrap ((j : Int) + 1) = (j : Int) + 1 := IntWalk.i64_in _ (by omega)
            go_region_held3 (fun W => W.cell? ⟨gp, 4, none⟩ = some (.string f))
              (first | exact hcf | exact (Below.cell (p := ⟨gp, 4, none⟩) (((Below.refl wo.heap.size wr).setCell (p := ⟨wo.heap.size, 4 + j, none⟩) (Nat.le_refl _) _).drew) hgpo).trans hcf)
              (first | (go_at_call 66; refine (HF.out _).mono ?_; rintro e w2 ⟨rfl, rfl⟩) | (go_at_call 65; refine (HCN.out _).mono ?_; rintro e w2 ⟨rfl, rfl⟩))
            all_goals
              clear hw1
              go_wp2
              go_roundw
              case rel => first | exact ⟨j + 1, by omega, by go_num, Lib.hid HB3.out, Lib.hid ((HKD.out.setCell (p := ⟨wo.heap.size, 4 + j, none⟩) (Nat.le_refl _) _).drew)⟩ | ((repeat apply Exists.intro); exact ⟨⟨j + 1, by omega, by go_num, Lib.hid HB3.out, Lib.hid ((HKD.out.setCell (p := ⟨wo.heap.size, 4 + j, none⟩) (Nat.le_refl _) _).drew)⟩, rfl⟩)
              case measure => simp [intOf]; omega
          · obtain rfl : j = 5 := by omega
            have HBC : Hid (Blk wr wo.heap.size 24 (cfgV (partsC (u 0) (u 1) (u 2) (u 3) f))) := Lib.hid (by rw [← cells9_five]; exact HBJ.out)
            have HKW := Lib.hid (HK.out.trans (HKJ.out.mono h9))
            have HZ9 := Lib.hid (HZ1.out.below HKW.out hlt0)
            have B9 := Lib.hid (B1.out.trans (HKW.out.mono B1.out.size))
            generalize partsC (u 0) (u 1) (u 2) (u 3) f = c at HR HBC
            obtain ⟨m, t, p, d, fr, fd, fl, fe, fm⟩ := c
            obtain ⟨d0, d1, d2, d3, d4, d5, d6, d7, d8⟩ := (show Blk wr wo.heap.size 24 #[.int .i64 m, .int .i64 t, .int .i64 p, .int .i64 d, .bool fr, .bool fd, .bool fl, .bool fe, .bool fm] from HBC.out).boxed
            have hbx := (HZ9.out.row (cs' := #[.int .i64 m, .int .i64 t, .int .i64 p, .int .i64 d, .bool fr, .bool fd, .bool fl, .bool fe, .bool fm])).boxed
            have hz := HZ9.out
            have HBX := Lib.hid hbx
            have HONE := Lib.hid (one_cfg ⟨m, t, p, d, fr, fd, fl, fe, fm⟩)
            clear hbx
            go_wp2_with (refine wpList_store_row rfl _ _ _ rfl w.heap.size #[.int .i64 m, .int .i64 t, .int .i64 p, .int .i64 d, .bool fr, .bool fd, .bool fl, .bool fe, .bool fm] rfl rfl 24 ZC hz size_cfg rfl HONE.out ?_)
            obtain ⟨c0, c1, c2, c3, c4, c5, c6, c7, c8⟩ := HBX.out
            exact bodyPost_ret (v := .tuple #[.agg #[.int .i64 m, .int .i64 t, .int .i64 p, .int .i64 d, .bool fr, .bool fd, .bool fl, .bool fe, .bool fm], .bool true]) (by simp [results, Tryd.results32, go_sem, c0, c1, c2, c3, c4, c5, c6, c7, c8]) rfl ⟨⟨⟨m, t, p, d, fr, fd, fl, fe, fm⟩, true, rfl, HR.out⟩, below_row B9.out (Nat.le_refl _)⟩
  · have q1 : ((n1 : Int) != 5) = true := by simp; omega
    have HNO := Lib.hid (hno5.out (by omega))
    have hl1 : (n1 : Int) ≤ 1048577 := by omega
    clear h5 hn1 hps hno5 hlen1
    go_enter Tryd.func32, Tryd.ntmps32
    go_wp2_with fail
    refine (HS1.out _).mono ?_
    rintro e w1 ⟨v, rfl, hown1, hb1⟩
    have HZ1 := Lib.hid ((Blk.new w 24 ZC).after hb1)
    have B1 := Lib.hid ((by go_grown : Below w.heap.size w (w.alloc _)).trans (hb1.mono (by simp)))
    have hlen := own_len hown1
    obtain ⟨A1, cap1, hv, _⟩ := Rd.of_own hown1
    rw [hlen] at hv
    subst hv
    clear hown1 hb1 hlen
    have hbx := (HZ1.out.row (cs' := ZC)).boxed
    have hz := HZ1.out
    have HBX := Lib.hid hbx
    clear hbx
    go_wp2_with (refine wpList_store_row rfl _ _ _ rfl w.heap.size ZC rfl rfl 24 ZC hz size_cfg rfl one_ZC ?_)
    obtain ⟨c0, c1, c2, c3, c4, c5, c6, c7, c8⟩ := HBX.out
    exact bodyPost_ret (v := .tuple #[.agg (cfgV zeroC), .bool false]) (by simp [results, Tryd.results32, go_sem, c0, c1, c2, c3, c4, c5, c6, c7, c8, cfgV, zeroC]) rfl ⟨⟨zeroC, false, rfl, .inl ⟨rfl, HNO.out⟩⟩, below_row B1.out (Nat.le_refl _)⟩
set_option maxRecDepth 100000 in
set_option maxHeartbeats 4000000 in
theorem implParseConfig (s : ByteArray) (w : World) (hs : s.size ≤ 1048576) (hL : Pow w ∧ Errs w) :
    Calls Tryd.prog 9 #[.string s] w fun e w' => (∃ c ok, e = .returned (.tuple #[.agg (cfgV c), .bool ok]) ∧ ParseC s c ok) ∧ Below w.heap.size w w' := by
  have HR := Lib.hid (fun W hl => implReadConfig s W hs hl)
  have HL := Lib.hid hL
  clear hL
  go_enter Tryd.func9, Tryd.ntmps9
  go_wp2_with fail
  have HLA := Lib.hid (by go_grown : Below w.heap.size w (w.alloc (.cells ZC 24)))
  refine (HR.out _ ⟨HL.out.1.below HLA.out, HL.out.2.below HLA.out⟩).mono ?_
  rintro e w1 ⟨⟨c, ok, rfl, hread⟩, hb1⟩
  have HZ1 := Lib.hid ((Blk.new w 24 ZC).after hb1)
  have B1 := Lib.hid (HLA.out.trans (hb1.mono (by simp)))
  have HRD := Lib.hid hread
  have hlt0 : w.heap.size < w1.heap.size := HZ1.out.lt
  clear hread hb1
  cases ok with
  | false =>
    have HN9 := Lib.hid HRD.out.none
    have HZ2 := Lib.hid (HZ1.out.after ((Below.refl _ _).alloc (Nat.le_refl _) (.cells (cfgV c) 24)))
    have B2 := Lib.hid (B1.out.alloc B1.out.size (.cells (cfgV c) 24))
    obtain ⟨m, t, p, d, fr, fd, fl, fe, fm⟩ := c
    unfold cfgV at HZ2 B2 ⊢
    simp only at HZ2 B2 ⊢
    have hbx := (HZ2.out.row (cs' := ZC)).boxed
    have hz := HZ2.out
    have HBX := Lib.hid hbx
    clear hbx
    go_wp2_with (refine wpList_store_row rfl _ _ _ rfl w.heap.size ZC rfl rfl 24 ZC hz size_cfg rfl one_ZC ?_)
    obtain ⟨c0, c1, c2, c3, c4, c5, c6, c7, c8⟩ := HBX.out
    exact bodyPost_ret (v := .tuple #[.agg (cfgV zeroC), .bool false]) (by simp [results, Tryd.results9, go_sem, c0, c1, c2, c3, c4, c5, c6, c7, c8, cfgV, zeroC]) rfl ⟨⟨zeroC, false, rfl, .inr ⟨rfl, rfl, HN9.out⟩⟩, below_row B2.out (Nat.le_refl _)⟩
  | true =>
    have HF := Lib.hid (fun W hp => implFormatConfig c W hp)
    have HNO := Lib.hid (fun h => HRD.out.no h)
    have HYES := Lib.hid (fun h => HRD.out.yes h)
    have HPW := Lib.hid (HL.out.1.below (B1.out.alloc B1.out.size (.cells (cfgV c) 24)))
    have HZ2 := Lib.hid (HZ1.out.after ((Below.refl _ _).alloc (Nat.le_refl _) (.cells (cfgV c) 24)))
    have B2 := Lib.hid (B1.out.alloc B1.out.size (.cells (cfgV c) 24))
    have HBC := Lib.hid (Blk.new w1 24 (cfgV c))
    have HC0 := Lib.hid (fun h : fmtCB c = s => (show ParseC s c true from .inl ⟨rfl, HYES.out h⟩))
    obtain ⟨x, hx⟩ : ∃ x, x = fmtCB c := ⟨_, rfl⟩
    rw [← hx] at HF HNO HC0
    obtain ⟨m, t, p, d, fr, fd, fl, fe, fm⟩ := c
    unfold cfgV at HF HPW HZ2 B2 HBC ⊢
    simp only at HF HPW HZ2 B2 HBC ⊢
    clear hx HYES HRD
    by_cases he : x = s
    · have hq := str_ne_no he
      have HY9 := Lib.hid (HC0.out he)
      clear he HNO HC0
      go_wp2_with fail
      refine (HF.out _ HPW.out).mono ?_
      rintro e w2 ⟨rfl, hb2⟩
      have HZ3 := Lib.hid (HZ2.out.after hb2)
      have HB3 := Lib.hid (HBC.out.after hb2)
      have B3 := Lib.hid (B2.out.trans (hb2.mono B2.out.size))
      clear hb2
      obtain ⟨d0, d1, d2, d3, d4, d5, d6, d7, d8⟩ := HB3.out.boxed
      have hbx := (HZ3.out.row (cs' := #[.int .i64 m, .int .i64 t, .int .i64 p, .int .i64 d, .bool fr, .bool fd, .bool fl, .bool fe, .bool fm])).boxed
      have hz := HZ3.out
      have HBX := Lib.hid hbx
      have HONE := Lib.hid (one_cfg ⟨m, t, p, d, fr, fd, fl, fe, fm⟩)
      clear hbx
      go_wp2_with (refine wpList_store_row rfl _ _ _ rfl w.heap.size #[.int .i64 m, .int .i64 t, .int .i64 p, .int .i64 d, .bool fr, .bool fd, .bool fl, .bool fe, .bool fm] rfl rfl 24 ZC hz size_cfg rfl HONE.out ?_)
      obtain ⟨c0, c1, c2, c3, c4, c5, c6, c7, c8⟩ := HBX.out
      exact bodyPost_ret (v := .tuple #[.agg #[.int .i64 m, .int .i64 t, .int .i64 p, .int .i64 d, .bool fr, .bool fd, .bool fl, .bool fe, .bool fm], .bool true]) (by simp [results, Tryd.results9, go_sem, c0, c1, c2, c3, c4, c5, c6, c7, c8]) rfl ⟨⟨⟨m, t, p, d, fr, fd, fl, fe, fm⟩, true, rfl, HY9.out⟩, below_row B3.out (Nat.le_refl _)⟩
    · have hq := str_ne_yes he
      have HN9 := Lib.hid (HNO.out he)
      clear he HNO HC0
      go_wp2_with fail
      refine (HF.out _ HPW.out).mono ?_
      rintro e w2 ⟨rfl, hb2⟩
      have HZ3 := Lib.hid (HZ2.out.after hb2)
      have B3 := Lib.hid (B2.out.trans (hb2.mono B2.out.size))
      clear hb2
      have hbx := (HZ3.out.row (cs' := ZC)).boxed
      have hz := HZ3.out
      have HBX := Lib.hid hbx
      clear hbx
      go_wp2_with (refine wpList_store_row rfl _ _ _ rfl w.heap.size ZC rfl rfl 24 ZC hz size_cfg rfl one_ZC ?_)
      obtain ⟨c0, c1, c2, c3, c4, c5, c6, c7, c8⟩ := HBX.out
      exact bodyPost_ret (v := .tuple #[.agg (cfgV zeroC), .bool false]) (by simp [results, Tryd.results9, go_sem, c0, c1, c2, c3, c4, c5, c6, c7, c8, cfgV, zeroC]) rfl ⟨⟨zeroC, false, rfl, .inr ⟨rfl, rfl, HN9.out⟩⟩, below_row B3.out (Nat.le_refl _)⟩
end Go.Proofs.YtjdbkpckhgncbaaDoor
