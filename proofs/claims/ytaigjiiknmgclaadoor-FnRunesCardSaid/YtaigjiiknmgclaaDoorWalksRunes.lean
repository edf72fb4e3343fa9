/- The walk of the law: code points are recovered from their encodings, and strings from their characters. -/
import Derived.Test.YtaigjiiknmgclaaDoorRound
import Derived.Test.YtaigjiiknmgclaaDoorReadChars
import Derived.Test.YtaigjiiknmgclaaDoorMakeString
namespace Go.Proofs.YtaigjiiknmgclaaDoor
open Go.RowKit
set_option linter.unusedVariables false

theorem text_enc (n : Nat) (h : pointB (n : Int) = true) : textB (Utf8.encode (n : Int)) = true := by
  have hz := enc_size n h
  have hpos : 0 < (Utf8.encode (n : Int)).size := by rw [hz]; (repeat' split) <;> omega
  have hc := ch_enc n h
  unfold textB runesB
  rw [runesFrom_yes _ 0 hpos, hc]
  simp only [Nat.zero_add]
  rw [runesFrom_no _ _ (by omega)]
  have : ([(n : Int)] : List Int).contains (-1) = false := by
    simp
  rw [this]; rfl
theorem encB_A : encB 65 = ⟨#[65]⟩ := by
  rw [encB_yes 65 (by decide), show (65 : Int) = ((65 : Nat) : Int) from rfl, enc_cases 65 (by decide)]
  rfl
theorem str_empty_of (x : ByteArray) (h : 0 < x.size) : x.toList.isEmpty = false := by
  rw [ByteArray.toList_eq]
  cases hx : x.data.toList with
  | nil => rw [← bytes_length, hx] at h; simp at h
  | cons a t => rfl
theorem own_cap2 {w : World} {base : Nat} {e : TypeId} {v : Value} {n : Nat} {xs : List Value} (h : w.ownsRow base e 1 v n xs) : ∀ A m c, v = .slice A m c → m ≤ c := by
  intro A m c hv
  rcases h.2 with ⟨rfl, _⟩ | ⟨g, cap, cur, rfl, _, _, hn, _⟩
  · cases hv; exact Nat.le_refl _
  · cases hv; exact hn
theorem decode_at0 (s : ByteArray) (c m : Int) (w : World) (h : 0 < s.size) (hs : s.size ≤ 100000000) (hc : (ch s 0).1 = c) (hm : ((ch s 0).2 : Int) = m) (hT : Tabs w) :
    Calls Tryd.prog 16 #[.string s, .int .i64 0] w fun e w' => e = .returned (.tuple #[.int .i64 c, .int .i64 m]) ∧ Below w.heap.size w w' := by
  have HC := Lib.hid (charAt_in s 0 w h (by omega) hT)
  rw [hc, hm] at HC
  clear hc hm hT
  go_enter Tryd.func16, Tryd.ntmps16
  go_wp2_with fail
  refine HC.out.mono ?_
  rintro e w1 ⟨rfl, hb1⟩
  go_wp2_with fail
  go_ret2
  exact ⟨rfl, hb1⟩

set_option maxRecDepth 100000 in
set_option maxHeartbeats 4000000 in
theorem law_FnRunes (w : World) (A : Option Addr) (len cap : Nat) (zs : List Int) (hz : IsBytes w A len cap zs) (hT : Tabs w) :
    Calls Tryd.prog 3 #[.slice A len cap] w fun e w' => e = .returned (.bool true) ∧ Below w.heap.size w w' := by
  have hlc := hz.1
  have hcm := hz.2.1
  have HZ := Lib.hid hz
  have HT := Lib.hid hT
  clear hz hT
  by_cases h : (1048576 : Int) < (len : Int)
  · go_enter Tryd.func3, Tryd.ntmps3
    go_wp2
    go_ret
    exact ⟨rfl, Below.refl _ _⟩
  · go_enter Tryd.func3, Tryd.ntmps3
    go_wp2_with fail
    refine (makeString_any 1 A len cap zs _ HZ.out (by omega)).mono ?_
    rintro e w1 ⟨⟨s, hs, rfl⟩, hb1⟩
    have B1 := Lib.hid hb1
    clear hb1
    go_wp2_with fail
    refine (makeNum_any 3 A len cap zs _ (HZ.out.keep B1.out) (by omega)).mono ?_
    rintro e w2 ⟨⟨x, hx0, hx1, rfl⟩, hb2⟩
    have B2 := Lib.hid (B1.out.trans (hb2.mono B1.out.size))
    clear hb2
    obtain ⟨r, hr⟩ : ∃ r, r = x * 17 := ⟨_, rfl⟩
    have hr0 : 0 ≤ r := by omega
    have hr1 : r ≤ 1114095 := by omega
    go_wp2_with fail
    rw [← hr]
    clear hr hx0 hx1
    have HEN := Lib.hid (fun W => implEncodeRune r W)
    obtain ⟨E, hE⟩ : ∃ E, E = encB r := ⟨_, rfl⟩
    rw [← hE] at HEN
    have HE := Lib.hid hE
    clear hE
    refine (HEN.out _).mono ?_
    rintro e w2' ⟨rfl, rfl⟩
    go_wp2_with fail
    refine (implCutRunes s _ (by omega) (HT.out.below B2.out)).mono ?_
    rintro e w3 ⟨v1, rfl, o1, hb3⟩
    have O1 := Lib.hid o1
    have B3 := Lib.hid (B2.out.trans (hb3.mono B2.out.size))
    clear o1 hb3
    go_wp2_with fail
    refine (implRunesOf s _ (by omega) (HT.out.below B3.out)).mono ?_
    rintro e w4 ⟨v2, rfl, o2, hb4⟩
    have O2 := Lib.hid o2
    have O1b := Lib.hid (own_below O1.out hb4)
    have B4 := Lib.hid (B3.out.trans (hb4.mono B3.out.size))
    clear o2 hb4
    have hln := cutsB_length s
    have hln2 := runesB_length s
    have hij := implJoin_rd (cutsB s) ⟨#[]⟩ v1 w4 (Rd.of_own O1b.out) (own_cap2 O1b.out) (by rw [tot_cuts]; omega) (by omega) (by decide)
    rw [join_cuts] at hij
    have HIJ := Lib.hid hij
    have hat := fun k => cuts_at s s.size 0 k (by omega)
    have HAT : Hid (∀ k, k < (cutsB s).length → ∃ j, j < s.size ∧ (cutsB s)[k]? = some (s.extract j (j + (ch s j).2)) ∧ (runesB s)[k]? = some (ch s j).1) := Lib.hid hat
    obtain ⟨L1, hL1⟩ : ∃ L, L = cutsB s := ⟨_, rfl⟩
    obtain ⟨L2, hL2⟩ : ∃ L, L = runesB s := ⟨_, rfl⟩
    rw [← hL1, ← hL2] at HAT hln
    rw [← hL2] at hln2
    rw [← hL1] at O1b
    rw [← hL2] at O2
    obtain ⟨n, hn⟩ : ∃ n, n = L1.length := ⟨_, rfl⟩
    rw [← hn] at hln
    have HN1 := Lib.hid hn
    have HN2 := Lib.hid hln
    have hn24 : n ≤ 24 := by omega
    have hsn := str_ne_no (rfl : s = s)
    clear hij hat hL1 hL2 hn hln hln2 O1
    go_wp2_with fail
    refine HIJ.out.mono ?_
    rintro e w5 ⟨rfl, hb5⟩
    obtain ⟨A1, c1, hv1, hcell1⟩ := (Rd.of_own O1b.out).below hb5
    obtain ⟨A2, c2, hv2, hcell2⟩ := (Rd.of_own O2.out).below hb5
    rw [strs_length, ← HN1.out] at hv1 hcell1
    rw [ints_length, ← HN2.out] at hv2 hcell2
    subst hv1
    subst hv2
    have HC1 := Lib.hid hcell1
    have HC2 := Lib.hid hcell2
    have B5 := Lib.hid (B4.out.trans (hb5.mono B4.out.size))
    clear hcell1 hcell2 hb5
    go_wp2_with fail
    go_loopw [41] (fun k wr => ∃ q : Nat, q ≤ n ∧ k = .int .i64 (q : Int) ∧ Below w5.heap.size w5 wr) (fun k _ => n - (intOf k).toNat)
    case atStart => exact ⟨0, Nat.zero_le _, rfl, Below.refl _ _⟩
    case round =>
      obtain ⟨q, hq, rfl, hbel⟩ := hrel
      by_cases hlt : q < n
      · have hq1 : q < L1.length := by rw [← HN1.out]; exact hlt
        have hq2 : q < L2.length := by rw [← HN2.out]; exact hlt
        obtain ⟨j, hj, ha1, ha2⟩ := HAT.out q hq1
        obtain ⟨g, o, rfl, hg1, hcc1⟩ := HC1.out (by omega)
        obtain ⟨g', o', rfl, hg2, hcc2⟩ := HC2.out (by omega)
        have k1 := hcc1 q (.string (s.extract j (j + (ch s j).2))) (by rw [strs, List.getElem?_map, ha1]; rfl)
        have k2 := hcc2 q (.int .i64 (ch s j).1) (by rw [ints, List.getElem?_map, ha2]; rfl)
        have k1' : wr.cell? ⟨g, o + q, none⟩ = _ := (hbel.cell (p := ⟨g, o + q, none⟩) hg1).trans k1
        have k2' := fun (W : World) (hW : Below w5.heap.size w5 W) => (hW.cell (p := ⟨g', o' + q, none⟩) hg2).trans k2
        have hcut := ch_cut s j hj
        have hcz := cut_size s j hj
        have hlen := ch_len s j hj
        obtain ⟨y, hy⟩ : ∃ y, y = s.extract j (j + (ch s j).2) := ⟨_, rfl⟩
        rw [← hy] at k1' hcut hcz
        obtain ⟨c, hc⟩ : ∃ c, c = (ch s j).1 := ⟨_, rfl⟩
        rw [← hc] at k2'
        have hyz : 0 < y.size := by omega
        have hd := fun W (hW : Tabs W) => decode_at0 y c (y.size : Int) W hyz (by omega) (by rw [hcut, hc]) (by rw [hcut, hcz]) hW
        have henc : c ≠ -1 → encB c = y := fun hne => enc_ch y c (by rw [hcut, hcz, hc]) hne hyz
        have HD := Lib.hid hd
        have HEC := Lib.hid henc
        have HK2 := Lib.hid k2'
        have BE := Lib.hid hbel
        clear hcc1 hcc2 ha1 ha2 k1 k2 k2' hcut hcz hlen hy hc hyz hd henc hbel hj
        by_cases hbad : c = -1
        · have hb1 : (c != -1) = false := by simp [hbad]
          clear hbad
          go_wp2_with fail
          refine (HD.out _ (HT.out.below (B5.out.trans (BE.out.mono B5.out.size)))).mono ?_
          rintro e w6 ⟨rfl, hb6⟩
          have k3 := HK2.out _ (BE.out.trans (hb6.mono BE.out.size))
          have B6 := Lib.hid (BE.out.trans (hb6.mono BE.out.size))
          clear hb6
          go_wp2_with fail
          go_roundw
          case rel => exact ⟨q + 1, by omega, by go_num, B6.out⟩
          case measure => simp [intOf]; omega
        · have hb1 : (c != -1) = true := by simp [hbad]
          have hen := fun W => implEncodeRune c W
          rw [HEC.out hbad] at hen
          have HENC := Lib.hid hen
          have hyy := str_ne_no (rfl : y = y)
          clear hbad hen
          go_wp2_with fail
          refine (HD.out _ (HT.out.below (B5.out.trans (BE.out.mono B5.out.size)))).mono ?_
          rintro e w6 ⟨rfl, hb6⟩
          have k3 := HK2.out _ (BE.out.trans (hb6.mono BE.out.size))
          have B6 := Lib.hid (BE.out.trans (hb6.mono BE.out.size))
          clear hb6
          go_wp2_with fail
          refine (HENC.out _).mono ?_
          rintro e w7 ⟨rfl, rfl⟩
          go_wp2_with fail
          go_roundw
          case rel => exact ⟨q + 1, by omega, by go_num, B6.out⟩
          case measure => simp [intOf]; omega
      · have B6 := Lib.hid (B5.out.trans (hbel.mono B5.out.size))
        have BE := Lib.hid hbel
        clear hbel
        cases hp : pointB r with
        | false =>
          have hne := (pointB_not r).1 hp
          have hr2 : 55296 ≤ r := by omega
          have hr3 : r ≤ 57343 := by omega
          have hE0 : E = ⟨#[]⟩ := by rw [HE.out]; exact encB_no r hp
          have hA := fun W => implEncodeRune 65 W
          rw [encB_A] at hA
          have HA := Lib.hid hA
          subst hE0
          clear hne hp hA
          go_wp2_with fail
          refine (HA.out _).mono ?_
          rintro e w7 ⟨rfl, rfl⟩
          go_wp2_with fail
          go_ret
          exact ⟨rfl, B6.out⟩
        | true =>
          obtain ⟨n', hn'⟩ := Int.eq_ofNat_of_zero_le hr0
          have hEn : E = Utf8.encode (n' : Int) := by rw [HE.out, encB_yes r hp, hn']
          have hpn : pointB (n' : Int) = true := by rw [← hn']; exact hp
          have hz := enc_size n' hpn
          have hce := ch_enc n' hpn
          have htx := text_enc n' hpn
          rw [← hEn] at hz hce htx
          have hpos : 0 < E.size := by rw [hz]; (repeat' split) <;> omega
          have hle : E.size ≤ 4 := by rw [hz]; (repeat' split) <;> omega
          have hd := fun W (hW : Tabs W) => decode_at0 E r (E.size : Int) W hpos (by omega) (by rw [hce, hn']) (by rw [hce]) hW
          have htt := fun W (hW : Tabs W) => implIsText E W (by omega) hW
          rw [htx] at htt
          have HD := Lib.hid hd
          have HTT := Lib.hid htt
          have he1 := str_empty_of E hpos
          have he2 : ¬ E.toList = [] := by intro a; rw [a] at he1; cases he1
          have HE2 := Lib.hid he2
          clear hn' hEn hpn hz hce htx hpos hle hd htt hp he2
          go_wp2_with fail
          refine (HD.out _ (HT.out.below B6.out)).mono ?_
          rintro e w7 ⟨rfl, hb7⟩
          have B7 := Lib.hid (B6.out.trans (hb7.mono B6.out.size))
          clear hb7
          go_wp2_with fail
          refine (HTT.out _ (HT.out.below B7.out)).mono ?_
          rintro e w8 ⟨rfl, hb8⟩
          have B8 := Lib.hid (B7.out.trans (hb8.mono B7.out.size))
          clear hb8
          go_wp2_with fail
          go_ret
          exact ⟨rfl, B8.out⟩
end Go.Proofs.YtaigjiiknmgclaaDoor
