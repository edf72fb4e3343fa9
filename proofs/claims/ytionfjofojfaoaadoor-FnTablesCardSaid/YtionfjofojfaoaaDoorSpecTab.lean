/- The model's TableCode and IsTable. -/
import Derived.Test.YtionfjofojfaoaaDoorWalksTab
import Derived.Test.YtionfjofojfaoaaDoorSpecChars
namespace Go.Proofs.YtionfjofojfaoaaDoor
open Go.RowKit
set_option linter.unusedVariables false

theorem RdT.vals {W : World} {v : Value} {n : Nat} {f : Nat → List ByteArray} (h : RdT W v n f) :
    ∃ us : List Value, us.length = n ∧ (∀ (i : Nat) (u : Value), us[i]? = some u → Rd W u (strs (f i))) ∧ ∀ g o c, v = .slice (some ⟨g, o, none⟩) n c → ∀ (j : Nat) (u : Value), us[j]? = some u → W.cell? ⟨g, o + j, none⟩ = some u ∧ g < W.heap.size := by
  obtain ⟨A, c, rfl, hc⟩ := h
  rcases Nat.eq_zero_or_pos n with rfl | h0
  · exact ⟨[], rfl, fun i u hu => by simp at hu, fun g o c _ j u hu => by simp at hu⟩
  · obtain ⟨g, o, rfl, hg, hcell⟩ := hc h0
    have key : ∀ (i : Nat) (u : Value), ((List.range n).map fun i => (W.cell? ⟨g, o + i, none⟩).getD (.bool false))[i]? = some u → W.cell? ⟨g, o + i, none⟩ = some u ∧ Rd W u (strs (f i)) := by
      intro i u hu
      have hi : i < n := by have := (List.getElem?_eq_some_iff.1 hu).1; simpa using this
      obtain ⟨x, h1, h2⟩ := hcell i hi
      rw [List.getElem?_map, List.getElem?_range hi] at hu
      simp [h1] at hu
      subst hu
      exact ⟨h1, h2⟩
    refine ⟨_, by simp, fun i u hu => (key i u hu).2, fun g' o' c' he j u hu => ?_⟩
    simp at he
    obtain ⟨⟨rfl, rfl⟩, _⟩ := he
    exact ⟨(key j u hu).1, hg⟩
/-- The rows with the head ahead of them. -/
def rowsA (h : List ByteArray) (f : Nat → List ByteArray) : Nat → List ByteArray
  | 0 => h
  | j + 1 => f j
theorem tab_two {h : List ByteArray} {n : Nat} {f : Nat → List ByteArray} (h1 : ¬ (h.length < 1 ∨ 8 < h.length)) (h2 : ∀ j, j < n → (f j).length = h.length) (k : Nat) (hk : k < 1 + n) (hb : badRow (rowsA h f k) = true) : tabCode h n f = 2 := by
  have e : anyR (wrongRow h.length) f n = false := anyR_none _ _ _ fun i hi => by unfold wrongRow; rw [h2 i hi]; simp
  unfold tabCode
  rw [if_neg h1, e, if_neg (by decide), if_pos]
  cases k with
  | zero => exact .inl hb
  | succ k => exact .inr (anyR_yes _ _ _ k (by omega) hb)
theorem tab_more {h : List ByteArray} {n : Nat} {f : Nat → List ByteArray} (h1 : ¬ (h.length < 1 ∨ 8 < h.length)) (h2 : ∀ j, j < n → (f j).length = h.length) (hb : ∀ k, k < 1 + n → badRow (rowsA h f k) = false) : tabCode h n f = if 60 < n then 3 else 0 := by
  have e : anyR (wrongRow h.length) f n = false := anyR_none _ _ _ fun i hi => by unfold wrongRow; rw [h2 i hi]; simp
  have e2 : anyR badRow f n = false := anyR_none _ _ _ fun i hi => hb (i + 1) (by omega)
  have e3 : badRow h = false := hb 0 (by omega)
  unfold tabCode
  rw [if_neg h1, e, if_neg (by decide), e2, e3, if_neg (by decide)]
theorem bad_at (r : List ByteArray) (q : Nat) (h : q < r.length) (hb : cellB r[q] = false) : badRow r = true := by
  unfold badRow
  rw [List.any_eq_true]
  exact ⟨r[q], List.getElem_mem _, by rw [hb]; rfl⟩
theorem bad_not (r : List ByteArray) (hb : ∀ q (h : q < r.length), cellB r[q] = true) : badRow r = false := by
  unfold badRow
  rw [List.any_eq_false]
  intro s hs
  obtain ⟨q, h, rfl⟩ := List.getElem_of_mem hs
  rw [hb q h]
  decide
/-- An append whose run is known. -/
theorem wpList_append_eq {P : Program} {ops : Array Oper} {rest : List Oper} {o : Oper} {a : Act} {Q : Exit → Act → World → Prop} {W : World} (hgd : o.guard = none) (s x : Operand) (t : TypeId)
    (ho : o.op = .call { callee := .builtin .append, args := #[s, x], argTypes := #[t, t] }) (v u : Value) (hs : a.eval s = v) (hx : a.eval x = u) (v' : Value) (w' : World) (hr : (Builtin.append_ #[t, t] o.type #[v, u]).run P W = .ok v' w')
    (h : wpList P ops Q rest (a.put o.dst v') w') : wpList P ops Q (o :: rest) a W := by
  refine wpList_plain hgd fun K hK => ?_
  unfold Oper.wp execOp
  simp only [ho, resolve, invoke, builtin, Sem.run_bind, Sem.run_pure, Result.andThen_ok, List.map_toArray, List.map_cons, List.map_nil, hs, hx, hr]
  exact hK _ _ h
theorem Tryd.infoRowST : (Tryd.prog.info? 23).map (fun i => (i.zero, i.size, i.bytes)) = some (some (.slice none 0 0), 1, 24) := by kernel_rfl
set_option maxRecDepth 100000 in
set_option maxHeartbeats 4000000 in
theorem specTableCode (h : List ByteArray) (n : Nat) (f : Nat → List ByteArray) (hv rv : Value) (w : World) (hh : Rd w hv (strs h)) (hr : RdT w rv n f)
    (hsl : (rv = .slice none 0 0 ∧ n = 0) ∨ ∃ g o c, rv = .slice (some ⟨g, o, none⟩) n c) (hfit : TabFits h n f) :
    Calls Tryd.prog 56 #[.agg #[hv, rv]] w fun e w' => e = .returned (.int .i64 (tabCode h n f)) ∧ Below w.heap.size w w' := by
  obtain ⟨us, hul, hur, huc⟩ := hr.vals
  obtain ⟨iR, hiR, hzR0, hzR1, hzR2⟩ := info_parts Tryd.infoRowST
  obtain ⟨hm, hx, hn, hf⟩ := hfit
  have HHD := Lib.hid (fun W (hb : Below w.heap.size w W) => hh.below hb)
  have HUR := Lib.hid (fun W (hb : Below w.heap.size w W) i u hu => (hur i u hu).below hb)
  have HF := Lib.hid hf
  have HX := Lib.hid hx
  obtain ⟨A, c, rfl, _⟩ := hh
  rw [strs_length] at *
  have HUC := Lib.hid huc
  have HUL := Lib.hid hul
  obtain ⟨B, d, rfl⟩ := hr.slc
  have HSL := Lib.hid hsl
  have B0 := Lib.hid (by go_grown : Below w.heap.size w (w.alloc (.cells #[.slice A h.length c, .slice B n d] 26)))
  clear hr hsl huc hur hul hf hx
  by_cases hin : 1 ≤ (h.length : Int) ∧ (h.length : Int) ≤ 8
  · have HNO : Hid (¬ (h.length < 1 ∨ 8 < h.length)) := Lib.hid (by omega)
    go_enter Tryd.func56, Tryd.ntmps56
    go_wp2_with fail
    refine (l01In_yes _ _ _ _ hin).mono ?_
    rintro e w1 ⟨rfl, rfl⟩
    go_wp2_with fail
    go_loopw [17] (fun i wr => ∃ k : Nat, k ≤ n ∧ i = .int .i64 (k : Int) ∧ Hid (∀ j, j < k → (f j).length = h.length) ∧ wr = w.alloc (.cells #[.slice A h.length c, .slice B n d] 26)) (fun i _ => n - (intOf i).toNat)
    case atStart => exact ⟨0, Nat.zero_le _, rfl, Lib.hid (fun j hj => by omega), rfl⟩
    case round =>
      obtain ⟨k, hk, rfl, HK, rfl⟩ := hrel
      by_cases hlt : k < n
      · obtain ⟨g, o, d', hB⟩ : ∃ g o d', Value.slice B n d = .slice (some ⟨g, o, none⟩) n d' := by
          rcases HSL.out with ⟨_, h0⟩ | hs
          · omega
          · exact hs
        simp at hB
        obtain ⟨rfl, rfl⟩ := hB
        obtain ⟨u, hu⟩ : ∃ u, us[k]? = some u := ⟨_, List.getElem?_eq_getElem (by rw [HUL.out]; exact hlt)⟩
        obtain ⟨hcu, hg⟩ := HUC.out g o d rfl k u hu
        have hcu := (B0.out.cell (p := ⟨g, o + k, none⟩) hg).trans hcu
        obtain ⟨A', c', rfl, _⟩ := HUR.out w (Below.refl _ _) k u hu
        rw [strs_length] at hcu
        clear hu
        by_cases hne : (f k).length = h.length
        · have HK1 : Hid (∀ j, j < k + 1 → (f j).length = h.length) := Lib.hid (fun j hj => by
            rcases Nat.lt_or_ge j k with h1 | h1
            · exact HK.out j h1
            · obtain rfl : j = k := by omega
              exact hne)
          rw [hne] at hcu
          clear hne
          go_wp2_with fail
          go_roundw
          case rel => exact ⟨k + 1, by omega, by go_num, HK1, trivial⟩
          case measure => simp [intOf]; omega
        · have HR : Hid (tabCode h n f = 1) := Lib.hid (by
            unfold tabCode
            rw [if_neg HNO.out, if_pos (anyR_yes _ _ _ k hlt (by unfold wrongRow; exact decide_eq_true hne))])
          have hne2 : ¬ ((f k).length : Int) = (h.length : Int) := by omega
          obtain ⟨z, hz⟩ : ∃ z, z = (f k).length := ⟨_, rfl⟩
          rw [← hz] at hcu hne2
          clear hz hne
          go_wp2_with fail
          go_ret
          exact ⟨ret_int HR.out.symm, B0.out⟩
      · obtain rfl : k = n := by omega
        have HK2 := Lib.hid HK.out
        have hown := World.ownsRow_lit (base := w.heap.size + 1) (e := 23) (size := 1) (w.alloc (.cells #[.slice A h.length c, .slice B k d] 26)) #[.slice A h.length c] 1 (by simp) (by decide) rfl
        rw [show (w.alloc (.cells #[.slice A h.length c, .slice B k d] 26)).heap.size = w.heap.size + 1 by simp] at hown
        have HOW := Lib.hid hown
        have HB1 := Lib.hid (by go_grown : Below w.heap.size w ((w.alloc (.cells #[.slice A h.length c, .slice B k d] 26)).alloc (.cells #[.slice A h.length c] 23)))
        have HA1 := Lib.hid ((Blk.new w 26 #[.slice A h.length c, .slice B k d]).after (by go_grown : Below _ _ ((w.alloc (.cells #[.slice A h.length c, .slice B k d] 26)).alloc (.cells #[.slice A h.length c] 23))))
        have HONE : Hid (∀ u ∈ us, u.oneCell' = true) := Lib.hid (by
          intro u hu
          obtain ⟨i, hi⟩ := List.getElem?_of_mem hu
          obtain ⟨_, _, rfl, _⟩ := HUR.out w (Below.refl _ _) i u hi
          rfl)
        have HVS : Hid (∀ W, Below w.heap.size w W → ∀ i u, (Value.slice A h.length c :: us)[i]? = some u → Rd W u (strs (rowsA h f i))) := Lib.hid (by
          intro W hb i u hu
          cases i with
          | zero =>
            simp at hu
            subst hu
            exact HHD.out W hb
          | succ i =>
            simp at hu
            exact HUR.out W hb i u hu)
        clear hown
        have hap : ∃ v3 w3, (Builtin.append_ #[24, 24] 24 #[.slice (some ⟨w.heap.size + 1, 0, none⟩) 1 1, .slice B k d]).run Tryd.prog ((w.alloc (.cells #[.slice A h.length c, .slice B k d] 26)).alloc (.cells #[.slice A h.length c] 23)) = .ok v3 w3 ∧ w3.ownsRow (w.heap.size + 1) 23 1 v3 (1 + k) (Value.slice A h.length c :: us) ∧ Below w.heap.size w w3 ∧ Blk w3 w.heap.size 26 #[.slice A h.length c, .slice B k d] := by
          rcases HSL.out with ⟨hrv, h0⟩ | ⟨g, o, d', hrv⟩
          · simp at hrv
            obtain ⟨rfl, rfl, rfl⟩ := hrv
            obtain rfl : us = [] := List.length_eq_zero_iff.1 HUL.out
            exact ⟨_, _, run_append_owned_none (P := Tryd.prog) _ (w.heap.size + 1) 24 24 23 iR 1 Tryd.underlying24 hiR _ _ _ HOW.out, HOW.out, HB1.out, HA1.out⟩
          · simp at hrv
            obtain ⟨rfl, rfl⟩ := hrv
            have HNW : Hid (∀ j u, us[j]? = some u → ((w.alloc (.cells #[.slice A h.length c, .slice (some ⟨g, o, none⟩) k d] 26)).alloc (.cells #[.slice A h.length c] 23)).cell? ((⟨g, o, none⟩ : Addr).add j) = some u) := Lib.hid (fun j u hu => by
              have hc := (HB1.out.cell (p := ⟨g, o + j, none⟩) (HUC.out g o d rfl j u hu).2).trans (HUC.out g o d rfl j u hu).1
              rw [show ((⟨g, o, none⟩ : Addr).add j) = ⟨g, o + j, none⟩ by simp [Addr.add]]
              exact hc)
            obtain ⟨v3, w3, hr3, ho3, hg3, _⟩ := run_append_own (P := Tryd.prog) _ (w.heap.size + 1) 24 24 23 iR (.slice none 0 0) 1 24 Tryd.underlying24 hiR hzR0 hzR1 hzR2 rfl (by decide) _ _ _ HOW.out ⟨g, o, none⟩ k d us (by rw [HUL.out]; simp) HNW.out HONE.out (by unfold maxLen; omega) (by omega) (by simp)
            exact ⟨v3, w3, hr3, ho3, HB1.out.grown hg3 HB1.out.size (fun q hq => by have := (World.ownsRow.lt HOW.out q hq).1; omega), HA1.out.below ((Below.refl (w.heap.size + 1) _).grown hg3 (by simp) (fun q hq => (World.ownsRow.lt HOW.out q hq).1)) (by omega)⟩
        obtain ⟨v3, w3, hr3, ho3, hb3, ha3⟩ := hap
        have B3 := Lib.hid hb3
        have HR3 := Lib.hid hr3
        have HVR := Lib.hid (HVS.out w3 hb3)
        obtain ⟨g3, c3, rfl, hg3, hg3l, hc3⟩ := own_cells ho3 (by omega)
        have HC3 := Lib.hid hc3
        have HLEN : Hid ((Value.slice A h.length c :: us).length = 1 + k) := Lib.hid (by simp [HUL.out]; omega)
        clear hr3 ho3 hb3 hg3 hc3
        have HTWO := Lib.hid (fun i hi hb => tab_two HNO.out HK2.out i hi hb)
        have HMORE := Lib.hid (fun hb => tab_more HNO.out HK2.out hb)
        have HFA : Hid (∀ i, (rowsA h f i).length ≤ 1048576 ∧ ∀ x ∈ rowsA h f i, x.size ≤ 1048576) := Lib.hid (by
          intro i
          cases i with
          | zero => exact ⟨hm, HX.out⟩
          | succ i => exact HF.out i)
        have HBK := Lib.hid ha3
        clear ha3
        go_wp2_with (at_builtin; refine wpList_append_eq rfl _ _ 24 rfl _ _ rfl rfl _ _ HR3.out ?_)
        go_loopw [35] (fun i wr => ∃ q : Nat, q ≤ 1 + k ∧ i = .int .i64 (q : Int) ∧ Hid (∀ j, j < q → badRow (rowsA h f j) = false) ∧ wr = w3) (fun i _ => 1 + k - (intOf i).toNat)
        case atStart => exact ⟨0, Nat.zero_le _, rfl, Lib.hid (fun j hj => by omega), rfl⟩
        case round =>
          obtain ⟨q, hq, rfl, HQ, rfl⟩ := hrel
          by_cases hlt1 : q < 1 + k
          · obtain ⟨u, hu⟩ : ∃ u, (Value.slice A h.length c :: us)[q]? = some u := ⟨_, List.getElem?_eq_getElem (by rw [HLEN.out]; exact hlt1)⟩
            have hcu := HC3.out q u hu
            obtain ⟨A', c', rfl, hA'⟩ := HVR.out q u hu
            rw [strs_length] at hcu hA'
            have HA' := Lib.hid hA'
            obtain ⟨hfl, hfx⟩ := HFA.out q
            have HFX := Lib.hid hfx
            clear hu hA' hfx
            go_wp2_with fail
            go_loopw [41] (fun i wr' => ∃ p : Nat, p ≤ (rowsA h f q).length ∧ i = .int .i64 (p : Int) ∧ Hid (∀ j (hj : j < (rowsA h f q).length), j < p → cellB (rowsA h f q)[j] = true) ∧ wr' = wr) (fun i _ => (rowsA h f q).length - (intOf i).toNat)
            case atStart => exact ⟨0, Nat.zero_le _, rfl, Lib.hid (fun j hj h0 => by omega), rfl⟩
            case round =>
              obtain ⟨p, hp, rfl, HP, rfl⟩ := hrel
              by_cases hlt2 : p < (rowsA h f q).length
              · obtain ⟨g', o', rfl, hg', hcell⟩ := HA'.out (by omega)
                have hcs := hcell p _ (strs_get _ p hlt2)
                obtain ⟨s, hs⟩ : ∃ s, s = (rowsA h f q)[p] := ⟨_, rfl⟩
                rw [← hs] at hcs
                have hsz : s.size ≤ 1048576 := by rw [hs]; exact HFX.out _ (List.getElem_mem _)
                have hcall := specIsCellText s wr hsz
                have HS := Lib.hid hs
                clear hcell hs
                cases hcb : cellB s with
                | true =>
                  rw [hcb] at hcall
                  have HCA := Lib.hid hcall
                  have HP1 : Hid (∀ j (hj : j < (rowsA h f q).length), j < p + 1 → cellB (rowsA h f q)[j] = true) := Lib.hid (fun j hj h1 => by
                    rcases Nat.lt_or_ge j p with h2 | h2
                    · exact HP.out j hj h2
                    · obtain rfl : j = p := by omega
                      rw [← HS.out]
                      exact hcb)
                  clear hcall hcb
                  go_wp2_with fail
                  refine HCA.out.mono ?_
                  rintro e w4 ⟨rfl, rfl⟩
                  go_wp2_with fail
                  go_roundw
                  case rel =>
                    rw [show decide ((q : Int) < 1 + (k : Int)) = true from decide_eq_true (by omega)]
                    exact ⟨_, _, _, _, _, _, _, _, _, _, ⟨p + 1, by omega, by go_num, HP1, trivial⟩, rfl⟩
                  case measure => simp [intOf]; omega
                | false =>
                  rw [hcb] at hcall
                  have HCA := Lib.hid hcall
                  have HTW : Hid (tabCode h k f = 2) := Lib.hid (HTWO.out q hlt1 (bad_at _ p hlt2 (by rw [← HS.out]; exact hcb)))
                  clear hcall hcb
                  go_wp2_with fail
                  refine HCA.out.mono ?_
                  rintro e w4 ⟨rfl, rfl⟩
                  go_wp2_with fail
                  go_ret
                  exact ⟨ret_int HTW.out.symm, B3.out⟩
              · have HNB : Hid (badRow (rowsA h f q) = false) := Lib.hid (bad_not _ fun j hj => HP.out j hj (by omega))
                go_wp2_with fail
                go_roundw
                case rel => exact ⟨q + 1, by omega, by go_num, Lib.hid (fun j hj => by
                  rcases Nat.lt_or_ge j q with h1 | h1
                  · exact HQ.out j h1
                  · obtain rfl : j = q := by omega
                    exact HNB.out), trivial⟩
                case measure => simp [intOf]; omega
          · have hmo := HMORE.out (fun i hi => HQ.out i (by omega))
            obtain ⟨r0, r1⟩ := HBK.out.two
            by_cases h60 : 60 < k
            · rw [if_pos h60] at hmo
              have HMO := Lib.hid hmo
              clear hmo
              go_wp2_with fail
              go_ret
              exact ⟨ret_int HMO.out.symm, B3.out⟩
            · rw [if_neg h60] at hmo
              have HMO := Lib.hid hmo
              clear hmo
              go_wp2_with fail
              go_ret
              exact ⟨ret_int HMO.out.symm, B3.out⟩
  · rw [show tabCode h n f = 1 from if_pos (by omega)]
    go_enter Tryd.func56, Tryd.ntmps56
    go_wp2_with fail
    refine (l01In_no _ _ _ _ hin).mono ?_
    rintro e w1 ⟨rfl, rfl⟩
    go_wp2_with fail
    go_ret
    exact ⟨rfl, B0.out⟩
set_option maxRecDepth 100000 in
set_option maxHeartbeats 2000000 in
theorem specIsTable (h : List ByteArray) (n : Nat) (f : Nat → List ByteArray) (hv rv : Value) (w : World) (hh : Rd w hv (strs h)) (hr : RdT w rv n f)
    (hsl : (rv = .slice none 0 0 ∧ n = 0) ∨ ∃ g o c, rv = .slice (some ⟨g, o, none⟩) n c) (hfit : TabFits h n f) :
    Calls Tryd.prog 37 #[.agg #[hv, rv]] w fun e w' => e = .returned (.bool (isTab h n f)) ∧ Below w.heap.size w w' := by
  have HC := Lib.hid (fun W (hb : Below w.heap.size w W) => specTableCode h n f hv rv W (hh.below hb) (hr.below hb) hsl hfit)
  obtain ⟨A, c, rfl, _⟩ := hh
  obtain ⟨B, d, rfl⟩ := hr.slc
  obtain ⟨hl, hhl⟩ : ∃ k, k = (strs h).length := ⟨_, rfl⟩
  rw [← hhl] at HC ⊢
  have B0 := Lib.hid (by go_grown : Below w.heap.size w (w.alloc (.cells #[.slice A hl c, .slice B n d] 26)))
  clear hhl hr hsl hfit
  unfold isTab
  obtain ⟨q, hq⟩ : ∃ q, q = tabCode h n f := ⟨_, rfl⟩
  rw [← hq] at HC ⊢
  clear hq
  go_enter Tryd.func37, Tryd.ntmps37
  go_wp2_with fail
  refine (HC.out _ B0.out).mono ?_
  rintro e w1 ⟨rfl, hb1⟩
  have B1 := Lib.hid (B0.out.trans (hb1.mono B0.out.size))
  clear hb1
  go_wp2_with fail
  go_ret
  refine ⟨?_, B1.out⟩
  by_cases h0 : q = 0
  · subst h0; rfl
  · simp [h0]
end Go.Proofs.YtionfjofojfaoaaDoor
