/- JoinLines: the model's. -/
import Derived.Test.YtncdglfcegmmgaaLnLaws
import Derived.Test.YtncdglfcegmmgaaSpecCfg
import Derived.Lib.AppendStr
import Derived.Test.YtncdglfcegmmgaaBytes8
namespace Go.Proofs.Ytncdglfcegmmgaa
open Go.RowKit
set_option linter.unusedVariables false

/-- The bytes of a list of cells, of a line, of lines. -/
def celBytes (l : List Cel) : List UInt8 := l.flatMap fun c => c.txt.data.toList ++ [9]
def finBytes (f : Int) : List UInt8 := if f = 0 then [] else [UInt8.ofNat f.toNat]
def lnBytes (l : Ln) : List UInt8 := celBytes l.cells ++ l.tail.txt.data.toList ++ finBytes l.fin
def allBytes (ls : List Ln) : List UInt8 := ls.flatMap lnBytes
def okFin (l : Ln) : Prop := l.fin = 0 ∨ l.fin = 10 ∨ l.fin = 12
instance (l : Ln) : Decidable (okFin l) := by unfold okFin; infer_instance
/-- What JoinLines answers. -/
def joinLB (c : Cfg) (ls : List Ln) : ByteArray := if validC c = true ∧ (∀ l ∈ ls, okFin l) then ⟨(allBytes ls).toArray⟩ else ⟨#[]⟩
theorem joinLB_no {c : Cfg} (ls : List Ln) (h : validC c = false) : joinLB c ls = ⟨#[]⟩ := if_neg (by rw [h]; rintro ⟨h, _⟩; cases h)
theorem joinLB_bad (c : Cfg) (ls : List Ln) (l : Ln) (h : l ∈ ls) (hb : ¬ okFin l) : joinLB c ls = ⟨#[]⟩ := if_neg (fun k => hb (k.2 l h))
theorem joinLB_yes {c : Cfg} (ls : List Ln) (h : validC c = true) (hk : ∀ l ∈ ls, okFin l) : joinLB c ls = ⟨(allBytes ls).toArray⟩ := if_pos ⟨h, hk⟩
theorem celBytes_len (l : List Cel) : (celBytes l).length = totC l + l.length := by
  induction l with
  | nil => rfl
  | cons c r ih =>
    unfold celBytes at ih ⊢
    simp only [List.flatMap_cons, List.length_append, ih, totC, List.length_cons, List.length_nil, bytes_length]
    omega
theorem finBytes_len (f : Int) : (finBytes f).length ≤ 1 := by unfold finBytes; split <;> simp
theorem allBytes_len (ls : List Ln) : (allBytes ls).length ≤ totL ls + ls.length := by
  induction ls with
  | nil => exact Nat.le_refl _
  | cons l r ih =>
    have h1 := celBytes_len l.cells
    have h2 := finBytes_len l.fin
    unfold allBytes at ih ⊢
    simp only [List.flatMap_cons, lnBytes, List.length_append, totL, List.length_cons, h1, bytes_length]
    omega
theorem celBytes_take (l : List Cel) (j : Nat) (h : j < l.length) : celBytes (l.take (j + 1)) = celBytes (l.take j) ++ l[j].txt.data.toList ++ [9] := by
  unfold celBytes
  rw [List.take_succ_eq_append_getElem h, List.flatMap_append]
  simp
theorem allBytes_take (ls : List Ln) (k : Nat) (h : k < ls.length) : allBytes (ls.take (k + 1)) = allBytes (ls.take k) ++ lnBytes ls[k] := by
  unfold allBytes
  rw [List.take_succ_eq_append_getElem h, List.flatMap_append]
  simp
theorem totL_take (ls : List Ln) (k : Nat) : totL (ls.take k) ≤ totL ls := by
  induction ls generalizing k with
  | nil => simp [totL]
  | cons l r ih =>
    cases k with
    | zero => simp [totL]
    | succ k => have := ih k; simp only [List.take_succ_cons, totL]; omega
theorem celBytes_take_len (l : List Cel) (j : Nat) : (celBytes (l.take j)).length ≤ totC l + l.length := by
  rw [← celBytes_len l]
  conv => rhs; rw [← List.take_append_drop j l]
  unfold celBytes
  rw [List.flatMap_append, List.length_append]
  omega
theorem allBytes_take_len (ls : List Ln) (k : Nat) : (allBytes (ls.take k)).length ≤ totL ls + ls.length := by
  have h1 := allBytes_len (ls.take k)
  have h2 := totL_take ls k
  have h3 : (ls.take k).length ≤ ls.length := List.length_take_le' ..
  omega
theorem Try.infoByteJ : (Try.prog.info? 5).map (fun i => (i.zero, i.size, i.bytes)) = some (some (.int .u8 0), 1, 1) := by kernel_rfl
set_option maxRecDepth 100000 in
set_option maxHeartbeats 4000000 in
theorem specJoinLines (c : Cfg) (ls : List Ln) (v : Value) (w : World) (hv0 : RdL w v ls) (hm : FitL ls) :
    Calls Try.prog 7 #[.agg (cfgV c), v] w fun e w' => e = .returned (.string (joinLB c ls)) ∧ Below w.heap.size w w' := by
  obtain ⟨i0, hi0, hz0, hz1, hz2⟩ := info_parts Try.infoByteJ
  have hS := fun W => specIsConfig c W
  have hlen := hm.1
  have htot := hm.2
  obtain ⟨A, ca, rfl, hA⟩ := hv0
  have HA := Lib.hid hA
  obtain ⟨n, hn⟩ : ∃ n, n = ls.length := ⟨_, rfl⟩
  rw [← hn] at HA hlen ⊢
  have HN := Lib.hid hn
  clear hA hn hm
  cases hv : validC c with
  | false =>
    rw [joinLB_no ls hv]
    rw [hv] at hS
    have HS := Lib.hid hS
    clear hS hv
    have B0 := Lib.hid (by go_grown : Below w.heap.size w ((w.alloc (.cells (cfgV c) 27)).alloc (.cells #[] 5)))
    obtain ⟨m, t, p, d, fr, fd, fl, fe, fm⟩ := c
    unfold cfgV at HS B0 ⊢
    simp only at HS B0 ⊢
    go_enter Try.func7, Try.ntmps7
    go_wp2_with fail
    refine (HS.out _).mono ?_
    rintro e w1 ⟨rfl, hb1⟩
    have B1 := Lib.hid (B0.out.trans (hb1.mono B0.out.size))
    clear hb1
    go_wp2_with fail
    go_ret
    exact ⟨rfl, B1.out⟩
  | true =>
    have HBAD := Lib.hid (fun l h hb => joinLB_bad c ls l h hb)
    have HYES := Lib.hid (fun hk => joinLB_yes (c := c) ls hv hk)
    obtain ⟨res, hres⟩ : ∃ r, r = joinLB c ls := ⟨_, rfl⟩
    rw [← hres] at HBAD HYES ⊢
    rw [hv] at hS
    have HS := Lib.hid hS
    clear hS hv hres
    have B0 := Lib.hid (by go_grown : Below w.heap.size w ((w.alloc (.cells (cfgV c) 27)).alloc (.cells #[] 5)))
    have O0 : Hid (((w.alloc (.cells (cfgV c) 27)).alloc (.cells #[] 5)).ownsRow w.heap.size 5 1 (.slice (some ⟨w.heap.size + 1, 0, none⟩) 0 0) 0 []) := Lib.hid (by
      have h := World.ownsRow_lit (base := w.heap.size) (e := 5) (size := 1) (w.alloc (.cells (cfgV c) 27)) #[] 0 (by simp) (by unfold maxLen; omega) rfl
      rw [show (w.alloc (.cells (cfgV c) 27)).heap.size = w.heap.size + 1 by simp] at h
      exact h)
    obtain ⟨m, t, p, d, fr, fd, fl, fe, fm⟩ := c
    unfold cfgV at HS B0 O0 ⊢
    simp only at HS B0 O0 ⊢
    go_enter Try.func7, Try.ntmps7
    go_wp2_with fail
    refine (HS.out _).mono ?_
    rintro e w1 ⟨rfl, hb1⟩
    have B1 := Lib.hid (B0.out.trans (hb1.mono B0.out.size))
    have O1 := Lib.hid (own_below O0.out hb1)
    clear hb1
    go_wp2_with fail
    go_loopw [5, 7, 9, 16] (fun b _ _ i wr => ∃ (k : Nat) (vb : Value), k ≤ n ∧ i = .int .i64 (k : Int) ∧ vb = b ∧ Hid (wr.ownsRow w.heap.size 5 1 vb (allBytes (ls.take k)).length (u8s (allBytes (ls.take k)))) ∧ Hid (∀ l ∈ ls.take k, okFin l) ∧ Hid (Below w.heap.size w wr)) (fun _ _ _ i _ => n - (intOf i).toNat)
    case atStart => exact ⟨0, _, Nat.zero_le _, rfl, rfl, O1, Lib.hid (fun l hl => by cases hl), B1⟩
    case round =>
      obtain ⟨k, vb, hk, rfl, rfl, HO, HOK, HBE⟩ := hrel
      by_cases hlt : k < n
      · obtain ⟨ga, oa, rfl, hga, hca⟩ := HA.out (by omega)
        have hkl : k < ls.length := by rw [← HN.out]; exact hlt
        obtain ⟨⟨va, p0, hra⟩, p1, p2, p3⟩ := hca k _ (List.getElem?_eq_getElem hkl)
        have a0 := (HBE.out.cell (p := ⟨ga, oa + k * 4, none⟩) hga).trans p0
        have a1 := (HBE.out.cell (p := ⟨ga, oa + k * 4 + 1, none⟩) hga).trans p1
        have a2 := (HBE.out.cell (p := ⟨ga, oa + k * 4 + 2, none⟩) hga).trans p2
        have a3 := (HBE.out.cell (p := ⟨ga, oa + k * 4 + 3, none⟩) hga).trans p3
        have HST := Lib.hid (allBytes_take ls k hkl)
        have HXL := allBytes_take_len ls k
        have HMEM := totL_mem ls _ (List.getElem_mem hkl)
        have HB2 := Lib.hid (HBAD.out _ (List.getElem_mem hkl))
        have HOK2 := Lib.hid (fun (ho : okFin (ls[k]'hkl)) => (by
          intro l hl
          rw [List.take_succ_eq_append_getElem hkl] at hl
          rcases List.mem_append.1 hl with h | h
          · exact HOK.out l h
          · rcases List.mem_singleton.1 h with rfl
            exact ho : ∀ l ∈ ls.take (k + 1), okFin l))
        generalize ls[k] = c at a1 a2 a3 hra HST HMEM HB2 HOK2
        obtain ⟨cl, ⟨x, m'⟩, f⟩ := c
        simp only at a1 a2 a3 hra HMEM
        obtain ⟨X, hX⟩ : ∃ X, X = allBytes (ls.take k) := ⟨_, rfl⟩
        rw [← hX] at HO HST HXL
        have hXlen : X.length ≤ 2097152 := by have := HN.out; omega
        have hxs : x.size ≤ 1048576 := by omega
        have hcl : cl.length ≤ 1048576 := by omega
        have htc : totC cl ≤ 1048576 := by omega
        obtain ⟨A', c', rfl, hin⟩ := hra
        have HIN := Lib.hid hin
        clear hca p0 p1 p2 p3 hin hX HXL HMEM
        by_cases hok : f = 0 ∨ f = 10 ∨ f = 12
        · rcases hok with rfl | rfl | rfl
          · have hok : okFin ⟨cl, ⟨x, m'⟩, 0⟩ := .inl rfl
            have HOKN := Lib.hid (HOK2.out hok)
            clear hok
            go_wp2_with fail
            obtain ⟨z, hz⟩ : ∃ z, z = cl.length := ⟨_, rfl⟩
            obtain ⟨wo, rfl⟩ : ∃ wo : World, wo = wr := ⟨_, rfl⟩
            have HBK := Lib.hid (Blk.new wo 48 #[.slice A' cl.length c', .string x, .int .i64 m', .int .i64 0])
            have HO0 := Lib.hid (own_alloc_block HO.out (.cells #[.slice A' cl.length c', .string x, .int .i64 m', .int .i64 0] 48))
            have HB0 := Lib.hid (HBE.out.alloc HBE.out.size (.cells #[.slice A' cl.length c', .string x, .int .i64 m', .int .i64 0] 48))
            rw [← hz] at HBK HO0 HB0 HIN hcl ⊢
            have HZ := Lib.hid hz
            clear hz
            go_loopw [5, 9, 36] (fun b _ j wx => ∃ (q : Nat) (vb : Value), q ≤ z ∧ j = .int .i64 (q : Int) ∧ vb = b ∧ Hid (wx.ownsRow w.heap.size 5 1 vb (X ++ celBytes (cl.take q)).length (u8s (X ++ celBytes (cl.take q)))) ∧ Hid (Blk wx wo.heap.size 48 #[.slice A' z c', .string x, .int .i64 m', .int .i64 0]) ∧ Hid (Below w.heap.size w wx)) (fun _ _ j _ => z - (intOf j).toNat)
            case atStart => exact ⟨0, _, Nat.zero_le _, rfl, rfl, Lib.hid (by have := HO0.out; simpa [celBytes] using this), HBK, HB0⟩
            case round =>
              obtain ⟨q, vq, hq, rfl, rfl, HOQ, HBQ, HWQ⟩ := hrel
              have hqlen := celBytes_take_len cl q
              have hbase : w.heap.size ≤ wr.heap.size := HWQ.out.size
              have hl0 : (X ++ celBytes (cl.take q)).length ≤ 4194304 := by rw [List.length_append]; have := HZ.out; omega
              by_cases hltq : q < z
              · obtain ⟨gi, oi, rfl, hgi, hci⟩ := HIN.out (by omega)
                have hql : q < cl.length := by rw [← HZ.out]; exact hltq
                obtain ⟨b0, b1⟩ := (hci q _ (List.getElem?_eq_getElem hql)).keep (fun p hp => HWQ.out.cell hp) hgi
                have hty := totC_mem cl _ (List.getElem_mem hql)
                have hct := celBytes_take cl q hql
                generalize cl[q] = cc at b0 b1 hty hct
                obtain ⟨y, my⟩ := cc
                simp only at b0 b1 hty hct
                have hys : y.size ≤ 1048576 := by omega
                obtain ⟨CX, hCX⟩ : ∃ CX, CX = X ++ celBytes (cl.take q) := ⟨_, rfl⟩
                have HCY := Lib.hid (show X ++ celBytes (cl.take (q + 1)) = CX ++ y.data.toList ++ [9] from by rw [hct, hCX]; simp)
                rw [← hCX] at HOQ hl0
                have HOC := Lib.hid (own_alloc_block HOQ.out (.cells #[.string y, .int .i64 my] 46))
                have HBC := Lib.hid (HBQ.out.after ((Below.refl _ _).alloc (Nat.le_refl _) (.cells #[.string y, .int .i64 my] 46)))
                have HWC := Lib.hid (HWQ.out.alloc HWQ.out.size (.cells #[.string y, .int .i64 my] 46))
                have hbase2 : w.heap.size ≤ (wr.alloc (.cells #[.string y, .int .i64 my] 46)).heap.size := HWC.out.size
                clear hci hct hCX hty hqlen
                go_wp2_with (first | (at_builtin; refine Lib.wpList_append_own_string _ rfl _ _ 43 9 rfl w.heap.size 5 i0 Try.underlying43 Try.underlying9 hi0 hz0 hz1 hz2 vq _ _ rfl HOC.out y rfl (by unfold maxLen; omega) (by omega) hbase2 ?_; intro v1 w2 hown1 hg1 _; have O1 := Lib.hid hown1; have G1 := Lib.hid hg1; clear hown1 hg1) | (at_builtin; refine append_one_g rfl _ _ 43 rfl w.heap.size 5 i0 _ 1 Try.underlying43 hi0 hz0 hz1 hz2 rfl v1 _ _ rfl w2 (.int .u8 9) rfl rfl O1.out (by omega) (by omega) (Nat.le_trans hbase2 G1.out.size) ?_; intro v2 w3 hown1 hg1; have O2 := Lib.hid hown1; have G2 := Lib.hid hg1; clear hown1 hg1))
                have HB2w := Lib.hid (HBC.out.grows HOC.out (by decide) G1.out)
                have HW2w := Lib.hid (HWC.out.trans (below_of_grown HOC.out G1.out hbase2))
                have HB3w := Lib.hid ((HB2w.out.after ((Below.refl _ _).alloc (Nat.le_refl _) (.cells #[.int .u8 9] 5))).grows (own_alloc_block O1.out _) (by decide) G2.out)
                have HW3w := Lib.hid ((HW2w.out.alloc HW2w.out.size (.cells #[.int .u8 9] 5)).trans (below_of_grown (own_alloc_block O1.out _) G2.out (by have := HW2w.out.size; simp; omega)))
                go_roundw
                case rel => exact ⟨q + 1, v2, by omega, by go_num, rfl, Lib.hid (own_u8 O2.out (by rw [HCY.out, u8s_app, u8s_app]; rfl)), HB3w, HW3w⟩
                case measure => simp [intOf]; omega
              · have HQ := Lib.hid (show celBytes (cl.take q) = celBytes cl from by rw [List.take_of_length_le (by rw [← HZ.out]; omega)])
                rw [HQ.out] at HOQ hl0
                have t1 : wr.cell? ⟨wo.heap.size, 1, none⟩ = some (.string x) := HBQ.out.cell 1
                have t3 : wr.cell? ⟨wo.heap.size, 3, none⟩ = some (.int .i64 0) := HBQ.out.cell 3
                clear hqlen
                go_wp2_with (at_builtin; refine Lib.wpList_append_own_string _ rfl _ _ 43 9 rfl w.heap.size 5 i0 Try.underlying43 Try.underlying9 hi0 hz0 hz1 hz2 vq _ _ rfl HOQ.out x rfl (by unfold maxLen; omega) (by omega) hbase ?_; intro v1 w2 hown1 hg1 _; have O1 := Lib.hid hown1; have G1 := Lib.hid hg1; clear hown1 hg1; have t3b : w2.cell? ⟨wo.heap.size, 3, none⟩ = some (.int .i64 0) := (HBQ.out.grows HOQ.out (by decide) G1.out).cell 3)
                have HW2w := Lib.hid (HWQ.out.trans (below_of_grown HOQ.out G1.out hbase))
                go_roundw
                case rel => exact ⟨k + 1, v1, by omega, by go_num, rfl, Lib.hid (own_u8 O1.out (by rw [HST.out]; simp [lnBytes, finBytes, u8s_app]; rfl)), HOKN, HW2w⟩
                case measure => simp [intOf]; omega
          · have hok : okFin ⟨cl, ⟨x, m'⟩, 10⟩ := .inr (.inl rfl)
            have HOKN := Lib.hid (HOK2.out hok)
            clear hok
            go_wp2_with fail
            obtain ⟨z, hz⟩ : ∃ z, z = cl.length := ⟨_, rfl⟩
            obtain ⟨wo, rfl⟩ : ∃ wo : World, wo = wr := ⟨_, rfl⟩
            have HBK := Lib.hid (Blk.new wo 48 #[.slice A' cl.length c', .string x, .int .i64 m', .int .i64 10])
            have HO0 := Lib.hid (own_alloc_block HO.out (.cells #[.slice A' cl.length c', .string x, .int .i64 m', .int .i64 10] 48))
            have HB0 := Lib.hid (HBE.out.alloc HBE.out.size (.cells #[.slice A' cl.length c', .string x, .int .i64 m', .int .i64 10] 48))
            rw [← hz] at HBK HO0 HB0 HIN hcl ⊢
            have HZ := Lib.hid hz
            clear hz
            go_loopw [5, 9, 36] (fun b _ j wx => ∃ (q : Nat) (vb : Value), q ≤ z ∧ j = .int .i64 (q : Int) ∧ vb = b ∧ Hid (wx.ownsRow w.heap.size 5 1 vb (X ++ celBytes (cl.take q)).length (u8s (X ++ celBytes (cl.take q)))) ∧ Hid (Blk wx wo.heap.size 48 #[.slice A' z c', .string x, .int .i64 m', .int .i64 10]) ∧ Hid (Below w.heap.size w wx)) (fun _ _ j _ => z - (intOf j).toNat)
            case atStart => exact ⟨0, _, Nat.zero_le _, rfl, rfl, Lib.hid (by have := HO0.out; simpa [celBytes] using this), HBK, HB0⟩
            case round =>
              obtain ⟨q, vq, hq, rfl, rfl, HOQ, HBQ, HWQ⟩ := hrel
              have hqlen := celBytes_take_len cl q
              have hbase : w.heap.size ≤ wr.heap.size := HWQ.out.size
              have hl0 : (X ++ celBytes (cl.take q)).length ≤ 4194304 := by rw [List.length_append]; have := HZ.out; omega
              by_cases hltq : q < z
              · obtain ⟨gi, oi, rfl, hgi, hci⟩ := HIN.out (by omega)
                have hql : q < cl.length := by rw [← HZ.out]; exact hltq
                obtain ⟨b0, b1⟩ := (hci q _ (List.getElem?_eq_getElem hql)).keep (fun p hp => HWQ.out.cell hp) hgi
                have hty := totC_mem cl _ (List.getElem_mem hql)
                have hct := celBytes_take cl q hql
                generalize cl[q] = cc at b0 b1 hty hct
                obtain ⟨y, my⟩ := cc
                simp only at b0 b1 hty hct
                have hys : y.size ≤ 1048576 := by omega
                obtain ⟨CX, hCX⟩ : ∃ CX, CX = X ++ celBytes (cl.take q) := ⟨_, rfl⟩
                have HCY := Lib.hid (show X ++ celBytes (cl.take (q + 1)) = CX ++ y.data.toList ++ [9] from by rw [hct, hCX]; simp)
                rw [← hCX] at HOQ hl0
                have HOC := Lib.hid (own_alloc_block HOQ.out (.cells #[.string y, .int .i64 my] 46))
                have HBC := Lib.hid (HBQ.out.after ((Below.refl _ _).alloc (Nat.le_refl _) (.cells #[.string y, .int .i64 my] 46)))
                have HWC := Lib.hid (HWQ.out.alloc HWQ.out.size (.cells #[.string y, .int .i64 my] 46))
                have hbase2 : w.heap.size ≤ (wr.alloc (.cells #[.string y, .int .i64 my] 46)).heap.size := HWC.out.size
                clear hci hct hCX hty hqlen
                go_wp2_with (first | (at_builtin; refine Lib.wpList_append_own_string _ rfl _ _ 43 9 rfl w.heap.size 5 i0 Try.underlying43 Try.underlying9 hi0 hz0 hz1 hz2 vq _ _ rfl HOC.out y rfl (by unfold maxLen; omega) (by omega) hbase2 ?_; intro v1 w2 hown1 hg1 _; have O1 := Lib.hid hown1; have G1 := Lib.hid hg1; clear hown1 hg1) | (at_builtin; refine append_one_g rfl _ _ 43 rfl w.heap.size 5 i0 _ 1 Try.underlying43 hi0 hz0 hz1 hz2 rfl v1 _ _ rfl w2 (.int .u8 9) rfl rfl O1.out (by omega) (by omega) (Nat.le_trans hbase2 G1.out.size) ?_; intro v2 w3 hown1 hg1; have O2 := Lib.hid hown1; have G2 := Lib.hid hg1; clear hown1 hg1))
                have HB2w := Lib.hid (HBC.out.grows HOC.out (by decide) G1.out)
                have HW2w := Lib.hid (HWC.out.trans (below_of_grown HOC.out G1.out hbase2))
                have HB3w := Lib.hid ((HB2w.out.after ((Below.refl _ _).alloc (Nat.le_refl _) (.cells #[.int .u8 9] 5))).grows (own_alloc_block O1.out _) (by decide) G2.out)
                have HW3w := Lib.hid ((HW2w.out.alloc HW2w.out.size (.cells #[.int .u8 9] 5)).trans (below_of_grown (own_alloc_block O1.out _) G2.out (by have := HW2w.out.size; simp; omega)))
                go_roundw
                case rel => exact ⟨q + 1, v2, by omega, by go_num, rfl, Lib.hid (own_u8 O2.out (by rw [HCY.out, u8s_app, u8s_app]; rfl)), HB3w, HW3w⟩
                case measure => simp [intOf]; omega
              · have HQ := Lib.hid (show celBytes (cl.take q) = celBytes cl from by rw [List.take_of_length_le (by rw [← HZ.out]; omega)])
                rw [HQ.out] at HOQ hl0
                have t1 : wr.cell? ⟨wo.heap.size, 1, none⟩ = some (.string x) := HBQ.out.cell 1
                have t3 : wr.cell? ⟨wo.heap.size, 3, none⟩ = some (.int .i64 10) := HBQ.out.cell 3
                clear hqlen
                go_wp2_with (first | (at_builtin; refine Lib.wpList_append_own_string _ rfl _ _ 43 9 rfl w.heap.size 5 i0 Try.underlying43 Try.underlying9 hi0 hz0 hz1 hz2 vq _ _ rfl HOQ.out x rfl (by unfold maxLen; omega) (by omega) hbase ?_; intro v1 w2 hown1 hg1 _; have O1 := Lib.hid hown1; have G1 := Lib.hid hg1; clear hown1 hg1; have t3b : w2.cell? ⟨wo.heap.size, 3, none⟩ = some (.int .i64 10) := (HBQ.out.grows HOQ.out (by decide) G1.out).cell 3) | (at_builtin; refine append_one_g rfl _ _ 43 rfl w.heap.size 5 i0 _ 1 Try.underlying43 hi0 hz0 hz1 hz2 rfl v1 _ _ rfl w2 (.int .u8 10) rfl rfl O1.out (by omega) (by omega) (Nat.le_trans hbase G1.out.size) ?_; intro v2 w3 hown1 hg1; have O2 := Lib.hid hown1; have G2 := Lib.hid hg1; clear hown1 hg1))
                have HW2w := Lib.hid (HWQ.out.trans (below_of_grown HOQ.out G1.out hbase))
                have HW3w := Lib.hid ((HW2w.out.alloc HW2w.out.size (.cells #[.int .u8 10] 5)).trans (below_of_grown (own_alloc_block O1.out _) G2.out (by have := HW2w.out.size; simp; omega)))
                go_roundw
                case rel => exact ⟨k + 1, v2, by omega, by go_num, rfl, Lib.hid (own_u8 O2.out (by rw [HST.out]; simp [lnBytes, finBytes, u8s_app]; rfl)), HOKN, HW3w⟩
                case measure => simp [intOf]; omega
          · have hok : okFin ⟨cl, ⟨x, m'⟩, 12⟩ := .inr (.inr rfl)
            have HOKN := Lib.hid (HOK2.out hok)
            clear hok
            go_wp2_with fail
            obtain ⟨z, hz⟩ : ∃ z, z = cl.length := ⟨_, rfl⟩
            obtain ⟨wo, rfl⟩ : ∃ wo : World, wo = wr := ⟨_, rfl⟩
            have HBK := Lib.hid (Blk.new wo 48 #[.slice A' cl.length c', .string x, .int .i64 m', .int .i64 12])
            have HO0 := Lib.hid (own_alloc_block HO.out (.cells #[.slice A' cl.length c', .string x, .int .i64 m', .int .i64 12] 48))
            have HB0 := Lib.hid (HBE.out.alloc HBE.out.size (.cells #[.slice A' cl.length c', .string x, .int .i64 m', .int .i64 12] 48))
            rw [← hz] at HBK HO0 HB0 HIN hcl ⊢
            have HZ := Lib.hid hz
            clear hz
            go_loopw [5, 9, 36] (fun b _ j wx => ∃ (q : Nat) (vb : Value), q ≤ z ∧ j = .int .i64 (q : Int) ∧ vb = b ∧ Hid (wx.ownsRow w.heap.size 5 1 vb (X ++ celBytes (cl.take q)).length (u8s (X ++ celBytes (cl.take q)))) ∧ Hid (Blk wx wo.heap.size 48 #[.slice A' z c', .string x, .int .i64 m', .int .i64 12]) ∧ Hid (Below w.heap.size w wx)) (fun _ _ j _ => z - (intOf j).toNat)
            case atStart => exact ⟨0, _, Nat.zero_le _, rfl, rfl, Lib.hid (by have := HO0.out; simpa [celBytes] using this), HBK, HB0⟩
            case round =>
              obtain ⟨q, vq, hq, rfl, rfl, HOQ, HBQ, HWQ⟩ := hrel
              have hqlen := celBytes_take_len cl q
              have hbase : w.heap.size ≤ wr.heap.size := HWQ.out.size
              have hl0 : (X ++ celBytes (cl.take q)).length ≤ 4194304 := by rw [List.length_append]; have := HZ.out; omega
              by_cases hltq : q < z
              · obtain ⟨gi, oi, rfl, hgi, hci⟩ := HIN.out (by omega)
                have hql : q < cl.length := by rw [← HZ.out]; exact hltq
                obtain ⟨b0, b1⟩ := (hci q _ (List.getElem?_eq_getElem hql)).keep (fun p hp => HWQ.out.cell hp) hgi
                have hty := totC_mem cl _ (List.getElem_mem hql)
                have hct := celBytes_take cl q hql
                generalize cl[q] = cc at b0 b1 hty hct
                obtain ⟨y, my⟩ := cc
                simp only at b0 b1 hty hct
                have hys : y.size ≤ 1048576 := by omega
                obtain ⟨CX, hCX⟩ : ∃ CX, CX = X ++ celBytes (cl.take q) := ⟨_, rfl⟩
                have HCY := Lib.hid (show X ++ celBytes (cl.take (q + 1)) = CX ++ y.data.toList ++ [9] from by rw [hct, hCX]; simp)
                rw [← hCX] at HOQ hl0
                have HOC := Lib.hid (own_alloc_block HOQ.out (.cells #[.string y, .int .i64 my] 46))
                have HBC := Lib.hid (HBQ.out.after ((Below.refl _ _).alloc (Nat.le_refl _) (.cells #[.string y, .int .i64 my] 46)))
                have HWC := Lib.hid (HWQ.out.alloc HWQ.out.size (.cells #[.string y, .int .i64 my] 46))
                have hbase2 : w.heap.size ≤ (wr.alloc (.cells #[.string y, .int .i64 my] 46)).heap.size := HWC.out.size
                clear hci hct hCX hty hqlen
                go_wp2_with (first | (at_builtin; refine Lib.wpList_append_own_string _ rfl _ _ 43 9 rfl w.heap.size 5 i0 Try.underlying43 Try.underlying9 hi0 hz0 hz1 hz2 vq _ _ rfl HOC.out y rfl (by unfold maxLen; omega) (by omega) hbase2 ?_; intro v1 w2 hown1 hg1 _; have O1 := Lib.hid hown1; have G1 := Lib.hid hg1; clear hown1 hg1) | (at_builtin; refine append_one_g rfl _ _ 43 rfl w.heap.size 5 i0 _ 1 Try.underlying43 hi0 hz0 hz1 hz2 rfl v1 _ _ rfl w2 (.int .u8 9) rfl rfl O1.out (by omega) (by omega) (Nat.le_trans hbase2 G1.out.size) ?_; intro v2 w3 hown1 hg1; have O2 := Lib.hid hown1; have G2 := Lib.hid hg1; clear hown1 hg1))
                have HB2w := Lib.hid (HBC.out.grows HOC.out (by decide) G1.out)
                have HW2w := Lib.hid (HWC.out.trans (below_of_grown HOC.out G1.out hbase2))
                have HB3w := Lib.hid ((HB2w.out.after ((Below.refl _ _).alloc (Nat.le_refl _) (.cells #[.int .u8 9] 5))).grows (own_alloc_block O1.out _) (by decide) G2.out)
                have HW3w := Lib.hid ((HW2w.out.alloc HW2w.out.size (.cells #[.int .u8 9] 5)).trans (below_of_grown (own_alloc_block O1.out _) G2.out (by have := HW2w.out.size; simp; omega)))
                go_roundw
                case rel => exact ⟨q + 1, v2, by omega, by go_num, rfl, Lib.hid (own_u8 O2.out (by rw [HCY.out, u8s_app, u8s_app]; rfl)), HB3w, HW3w⟩
                case measure => simp [intOf]; omega
              · have HQ := Lib.hid (show celBytes (cl.take q) = celBytes cl from by rw [List.take_of_length_le (by rw [← HZ.out]; omega)])
                rw [HQ.out] at HOQ hl0
                have t1 : wr.cell? ⟨wo.heap.size, 1, none⟩ = some (.string x) := HBQ.out.cell 1
                have t3 : wr.cell? ⟨wo.heap.size, 3, none⟩ = some (.int .i64 12) := HBQ.out.cell 3
                clear hqlen
                go_wp2_with (first | (at_builtin; refine Lib.wpList_append_own_string _ rfl _ _ 43 9 rfl w.heap.size 5 i0 Try.underlying43 Try.underlying9 hi0 hz0 hz1 hz2 vq _ _ rfl HOQ.out x rfl (by unfold maxLen; omega) (by omega) hbase ?_; intro v1 w2 hown1 hg1 _; have O1 := Lib.hid hown1; have G1 := Lib.hid hg1; clear hown1 hg1; have t3b : w2.cell? ⟨wo.heap.size, 3, none⟩ = some (.int .i64 12) := (HBQ.out.grows HOQ.out (by decide) G1.out).cell 3) | (at_builtin; refine append_one_g rfl _ _ 43 rfl w.heap.size 5 i0 _ 1 Try.underlying43 hi0 hz0 hz1 hz2 rfl v1 _ _ rfl w2 (.int .u8 12) rfl rfl O1.out (by omega) (by omega) (Nat.le_trans hbase G1.out.size) ?_; intro v2 w3 hown1 hg1; have O2 := Lib.hid hown1; have G2 := Lib.hid hg1; clear hown1 hg1))
                have HW2w := Lib.hid (HWQ.out.trans (below_of_grown HOQ.out G1.out hbase))
                have HW3w := Lib.hid ((HW2w.out.alloc HW2w.out.size (.cells #[.int .u8 12] 5)).trans (below_of_grown (own_alloc_block O1.out _) G2.out (by have := HW2w.out.size; simp; omega)))
                go_roundw
                case rel => exact ⟨k + 1, v2, by omega, by go_num, rfl, Lib.hid (own_u8 O2.out (by rw [HST.out]; simp [lnBytes, finBytes, u8s_app]; rfl)), HOKN, HW3w⟩
                case measure => simp [intOf]; omega
        · have e0 : (f != 0) = true := by simp; omega
          have e10 : (f != 10) = true := by simp; omega
          have e12 : (f != 12) = true := by simp; omega
          have HR := Lib.hid (HB2.out hok)
          clear hok
          go_wp2
          go_ret
          exact ⟨ret_string HR.out.symm, HBE.out.alloc HBE.out.size _⟩
      · have HR := Lib.hid (HYES.out (by have := HOK.out; rw [List.take_of_length_le (by rw [← HN.out]; omega)] at this; exact this))
        have hown := HO.out
        rw [List.take_of_length_le (by rw [← HN.out]; omega)] at hown
        have hcv := conv_own _ hown
        clear hown
        go_wp2
        go_ret
        exact ⟨ret_string HR.out.symm, HBE.out⟩
end Go.Proofs.Ytncdglfcegmmgaa
