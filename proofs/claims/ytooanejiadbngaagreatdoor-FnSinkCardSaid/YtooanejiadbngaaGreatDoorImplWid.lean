/- The program's WidthsOf. -/
import Derived.Test.YtooanejiadbngaaGreatDoorImplBlks
import Derived.Test.YtooanejiadbngaaGreatDoorWidL
import Derived.Test.YtooanejiadbngaaGreatDoorOwnF
import Derived.RegionTactic
namespace Go.Proofs.YtooanejiadbngaaGreatDoor
open Go.RowKit
set_option linter.unusedVariables false

/-- The first k rows of a table; the others have no cells. -/
def rowsK (f : Nat → List Int) (k : Nat) : Nat → List Int := fun i => if i < k then f i else []
theorem rowsK_step (f : Nat → List Int) (k i : Nat) : rowsK f (k + 1) i = if i = k then f k else rowsK f k i := by
  unfold rowsK
  by_cases h : i = k
  · subst h
    rw [if_pos (by omega), if_pos rfl]
  · rw [if_neg h]
    by_cases h1 : i < k
    · rw [if_pos (by omega), if_pos h1]
    · rw [if_neg (by omega), if_neg h1]
theorem rowsK_all (f : Nat → List Int) (k i : Nat) (h : i < k) : f i = rowsK f k i := by unfold rowsK; rw [if_pos h]
theorem OwnF.made {W : World} {base : Nat} {v : Value} {n : Nat} {xs : List Value} (h : W.ownsRow base 38 1 v n xs) (hx : xs = List.replicate n (.slice none 0 0)) (f : Nat → List Int) : OwnF W base W.heap.size v n (rowsK f 0) := by
  subst hx
  have hz : ∀ (i : Nat) (u : Value), (List.replicate n (Value.slice none 0 0))[i]? = some u → u = .slice none 0 0 := by
    intro i u hu
    exact List.eq_of_mem_replicate (List.mem_of_getElem? hu)
  refine ⟨_, h, fun k hk => (World.ownsRow.lt h k hk).2, fun i u hu => ?_, fun i j u u' _ hu _ => ?_⟩
  · rw [hz i u hu]
    exact ⟨World.ownsRow_nil W base _ 1, fun k hk => by cases hk⟩
  · rw [hz i u hu]
    exact .inl rfl
/-- A row of a table stored. -/
theorem OwnF.put {W0 W : World} {base B c n i : Nat} {u : Value} {f : Nat → List Int} {l : List Int} (h : OwnF W0 base W0.heap.size (.slice (some ⟨B, 0, none⟩) n c) n f) (hb : Below W0.heap.size W0 W) (hi : i < n)
    (hu : W.ownsRow W0.heap.size 3 1 u l.length (ints l)) (hbase : base ≤ W0.heap.size) :
    ∃ x, W.cell? ⟨B, i, none⟩ = some x ∧ W.frozen? ⟨B, i, none⟩ = false ∧ base ≤ B ∧ OwnF (W.setCell ⟨B, i, none⟩ u) base (W.setCell ⟨B, i, none⟩ u).heap.size (.slice (some ⟨B, 0, none⟩) n c) n (fun j => if j = i then l else f j) ∧ ∀ e, 38 ≠ e → Keeps W (W.setCell ⟨B, i, none⟩ u) e := by
  obtain ⟨vs, a, b, cc, d⟩ := h
  have hvl : vs.length = n := own_len a
  have hs := hb.size
  have aW := own_below a hb
  obtain ⟨hs1, hs2⟩ := aW.stored i u
  have hK : ∀ e, 38 ≠ e → Keeps W (W.setCell ⟨B, i, none⟩ u) e := fun e he => Keeps.grown aW he hs2
  have hset : ∀ (j : Nat) (x : Value), (vs.set i u)[j]? = some x → (j = i ∧ x = u) ∨ (j ≠ i ∧ vs[j]? = some x) := by
    intro j x hx
    rw [List.getElem?_set] at hx
    by_cases hij : i = j
    · rw [if_pos hij, if_pos (by omega)] at hx
      exact .inl ⟨hij.symm, by simpa using hx.symm⟩
    · rw [if_neg hij] at hx
      exact .inr ⟨fun h => hij h.symm, hx⟩
  have hrow : ∀ (j : Nat) (x : Value), (vs.set i u)[j]? = some x → (W.setCell ⟨B, i, none⟩ u).ownsRow base 3 1 x (if j = i then l else f j).length (ints (if j = i then l else f j)) := by
    intro j x hx
    rcases hset j x hx with ⟨rfl, rfl⟩ | ⟨hne, hx'⟩
    · rw [if_pos rfl]
      exact own_base (own_keeps hu (hK _ (by decide))) hbase
    · rw [if_neg hne]
      exact own_keeps (own_below (cc j x hx').1 hb) (hK _ (by decide))
  have hfar : ∀ (j : Nat) (x : Value) (k : Nat), vs[j]? = some x → x.ownBlock = some k → u.ownBlock = some k → False := by
    intro j x k hx h1 h2
    have e1 := (World.ownsRow.lt (cc j x hx).1 k h1).2
    have e2 := (World.ownsRow.lt hu k h2).1
    omega
  refine ⟨_, (aW.cellAt i (by omega)).trans (List.getElem?_eq_getElem (by omega)), aW.frozenAt i, (World.ownsRow.lt a B rfl).1, ⟨vs.set i u, hs1, fun k hk => (World.ownsRow.lt hs1 k hk).2, fun j x hx => ⟨hrow j x hx, fun k hk => (World.ownsRow.lt (hrow j x hx) k hk).2⟩, fun j1 j2 x1 x2 hj h1 h2 => ?_⟩, hK⟩
  rcases hset j1 x1 h1 with ⟨rfl, rfl⟩ | ⟨n1, g1⟩ <;> rcases hset j2 x2 h2 with ⟨rfl, rfl⟩ | ⟨n2, g2⟩
  · exact absurd rfl hj
  · cases hk : x1.ownBlock with
    | none => exact .inl rfl
    | some k => exact .inr fun he => hfar j2 x2 k g2 he.symm hk
  · cases hk : x1.ownBlock with
    | none => exact .inl rfl
    | some k => exact .inr fun he => hfar j1 x1 k g1 hk he.symm
  · exact d j1 j2 x1 x2 hj g1 g2
theorem Tryz.infoRowW : (Tryz.prog.info? 38).map (fun i => (i.zero, i.size, i.bytes)) = some (some (.slice none 0 0), 1, 24) := by kernel_rfl
theorem Tryz.infoIntW : (Tryz.prog.info? 3).map (fun i => (i.zero, i.size, i.bytes)) = some (some (.int .i64 0), 1, 8) := by kernel_rfl
theorem nils_zero (z : Nat) : (madeCells (Value.slice none 0 0).cells (z * 1)).toList = List.replicate z (.slice none 0 0) := by
  rw [Nat.mul_one, show (Value.slice none 0 0).cells = #[Value.slice none 0 0] from rfl, toList_madeCells_one]
set_option maxRecDepth 100000 in
set_option maxHeartbeats 8000000 in
theorem implWidthsOf (c : Cfg) (ls : List Ln) (v : Value) (w : World) (hv : RdL w v ls) (hm : FitW ls) :
    Calls Tryz.prog 31 #[.agg (cfgV c), v] w fun e w' => ∃ u, e = .returned u ∧ OwnF w' w.heap.size w'.heap.size u (widN c ls) (widF c ls) ∧ Below w.heap.size w w' := by
  have HF := Lib.hid (fun W (hb : Below w.heap.size w W) => implCanAlign c ls v W (hv.below hb) hm)
  have HBLK0 := Lib.hid (fun W (hb : Below w.heap.size w W) => implBlocksOf c ls v W (hv.below hb) hm)
  have HNEW := Lib.hid (Blk.new w 24 (cfgV c))
  have B0 := Lib.hid (by go_grown : Below w.heap.size w (w.alloc (.cells (cfgV c) 24)))
  obtain ⟨iR, hiR, hzR0, hzR1, hzR2⟩ := info_parts Tryz.infoRowW
  obtain ⟨iI, hiI, hzI0, hzI1, hzI2⟩ := info_parts Tryz.infoIntW
  cases hok : fitsB ls && validC c with
  | false =>
    obtain ⟨A, ca, rfl, _⟩ := hv
    rw [hok] at HF
    have HE : Hid (widN c ls = 0) := Lib.hid (by unfold widN; rw [hok]; rfl)
    rw [HE.out]
    generalize widF c ls = RES
    obtain ⟨n, hn⟩ : ∃ n, n = ls.length := ⟨_, rfl⟩
    rw [← hn] at HF ⊢
    obtain ⟨m, t, p, d, fr, fd, fl, fe, fm⟩ := c
    unfold cfgV at HF B0 ⊢
    simp only at HF B0 ⊢
    clear hok hn HE HBLK0
    go_enter Tryz.func31, Tryz.ntmps31
    go_wp2_with fail
    refine (HF.out _ B0.out).mono ?_
    rintro e w1 ⟨rfl, hb1⟩
    have B1 := Lib.hid (B0.out.trans (hb1.mono B0.out.size))
    clear hb1
    go_wp2_with fail
    go_ret
    exact ⟨_, rfl, OwnF.nil _ _ _ _ _ (World.ownsRow_nil _ _ _ _) (fun k hk => by cases hk), B1.out⟩
  | true =>
    rw [hok] at HF
    have hok' := hok
    simp only [Bool.and_eq_true] at hok
    obtain ⟨hfit, hval⟩ := hok
    have HE : Hid (widN c ls = ls.length) := Lib.hid (by unfold widN; rw [hok']; rfl)
    rw [HE.out]
    rw [bksB_yes hfit hval] at HBLK0
    have HGD := Lib.hid (bksL_good c ls)
    have HTM := Lib.hid (fun l (h : l ∈ ls) => totL_mem ls l h)
    have HCN := Lib.hid (fun T h => cellsN_lt ls T h)
    have HLB : (bksL c ls).length ≤ 100000000 := by
      have h := lineBks_len c ls ls.length (Nat.le_refl _)
      rw [List.take_length] at h
      exact Nat.le_trans h hm.2
    have HWT := Lib.hid (fun k h => widB_take ls (bksL c ls) k h)
    have HWL := Lib.hid (fun l i => widB_len ls l i)
    have HALL : Hid (widB ls ((bksL c ls).take (bksL c ls).length) = widF c ls) := Lib.hid (by rw [List.take_length]; rfl)
    have hlen := hm.1
    have HTOT : Hid (totL ls ≤ 100000000) := Lib.hid hm.2
    obtain ⟨A, ca, rfl, hA⟩ := hv
    have HA := Lib.hid hA
    obtain ⟨n, hn⟩ : ∃ n, n = ls.length := ⟨_, rfl⟩
    rw [← hn] at HA hlen HF HBLK0 ⊢
    have HN := Lib.hid hn
    obtain ⟨RES, hRES⟩ : ∃ r, r = widF c ls := ⟨_, rfl⟩
    rw [← hRES] at HALL ⊢
    obtain ⟨L, hL⟩ : ∃ l, l = bksL c ls := ⟨_, rfl⟩
    rw [← hL] at HBLK0 HGD HWT HALL HLB
    obtain ⟨f0, hf0⟩ : ∃ f, f = widF0 ls := ⟨_, rfl⟩
    have HF0 := Lib.hid hf0
    have HMK := Lib.hid (fun (W : World) (base : Nat) (v : Value) (xs : List Value) (h : W.ownsRow base 38 1 v n xs) (hx : xs = List.replicate n (.slice none 0 0)) => OwnF.made h hx f0)
    have HRS := Lib.hid (fun k i => rowsK_step f0 k i)
    obtain ⟨m, t, p, d, fr, fd, fl, fe, fm⟩ := c
    unfold cfgV at HF HNEW B0 HBLK0 ⊢
    simp only at HF HNEW B0 HBLK0 ⊢
    clear hA hn hm hok' hRES hL hf0 hfit hval HE
    go_enter Tryz.func31, Tryz.ntmps31
    go_wp2_with fail
    refine (HF.out _ B0.out).mono ?_
    rintro e w1 ⟨rfl, hb1⟩
    have B1 := Lib.hid (B0.out.trans (hb1.mono B0.out.size))
    have HC1 := Lib.hid (HNEW.out.after hb1)
    have hbw := B1.out.size
    clear hb1
    obtain ⟨B, hB⟩ : ∃ b, b = w1.heap.size := ⟨_, rfl⟩
    have hbB : w.heap.size ≤ B := by rw [hB]; exact hbw
    have HB := Lib.hid hB
    clear hB
    go_wp2_with (at_make; refine wpList_make_full _ rfl _ _ 72 rfl w1.heap.size 38 iR _ 1 Tryz.underlying72 hiR hzR0 hzR1 _ _ _ _ n rfl rfl rfl rfl (by rw [hzR2]; omega) (by unfold maxLen; omega) (Nat.le_refl _) ?_; intro w2 hown2 hgr2; have HO2 := Lib.hid hown2; have HD2 := Lib.hid ((Below.refl w1.heap.size w1).grown hgr2 (Nat.le_refl _) (fun k hk => by cases hk)); clear hown2 hgr2)
    have B2 := Lib.hid (B1.out.trans (HD2.out.mono B1.out.size))
    have HC2 := Lib.hid (HC1.out.after HD2.out)
    have HOF : Hid (OwnF w2 w.heap.size w2.heap.size (.slice (some ⟨B, 0, none⟩) n n) n (rowsK f0 0)) := Lib.hid (by
      rw [HB.out]
      exact HMK.out _ _ _ _ (own_base HO2.out hbw) (nils_zero n))
    rw [← HB.out]
    clear HB HO2 HD2
    go_loopw [6, 7, 20] (fun _ _ i wr => ∃ (k : Nat), k ≤ n ∧ i = .int .i64 (k : Int) ∧ Hid (OwnF wr w.heap.size wr.heap.size (.slice (some ⟨B, 0, none⟩) n n) n (rowsK f0 k)) ∧ Hid (Below w.heap.size w wr) ∧ Hid (Blk wr w.heap.size 24 #[.int .i64 m, .int .i64 t, .int .i64 p, .int .i64 d, .bool fr, .bool fd, .bool fl, .bool fe, .bool fm])) (fun _ _ i _ => n - (intOf i).toNat)
    case atStart => exact ⟨0, Nat.zero_le _, rfl, HOF, B2, HC2⟩
    case round =>
      obtain ⟨k, hk, rfl, HO, HBE, HBC⟩ := hrel
      by_cases hlt : k < n
      · obtain ⟨ga, oa, rfl, hga, hca⟩ := HA.out (by omega)
        have hkl : k < ls.length := by rw [← HN.out]; exact hlt
        obtain ⟨⟨va, p0, hra⟩, p1, p2, p3⟩ := hca k _ (List.getElem?_eq_getElem hkl)
        have a0 := (HBE.out.cell (p := ⟨ga, oa + k * 4, none⟩) hga).trans p0
        have a1 := (HBE.out.cell (p := ⟨ga, oa + k * 4 + 1, none⟩) hga).trans p1
        have a2 := (HBE.out.cell (p := ⟨ga, oa + k * 4 + 2, none⟩) hga).trans p2
        have a3 := (HBE.out.cell (p := ⟨ga, oa + k * 4 + 3, none⟩) hga).trans p3
        have hmem := HTM.out _ (List.getElem_mem hkl)
        have HCK := Lib.hid (HCN.out k hkl)
        generalize ls[k] = l at a1 a2 a3 hra hmem HCK
        obtain ⟨cl, ⟨x, m'⟩, f⟩ := l
        simp only at a1 a2 a3 hra hmem HCK
        obtain ⟨Ac, cc, rfl, _⟩ := hra
        obtain ⟨z, hz⟩ : ∃ z, z = cl.length := ⟨_, rfl⟩
        have hzl : z ≤ 100000000 := by have := HTOT.out; omega
        rw [← hz] at a0 HCK
        have HFK : Hid (f0 k = List.replicate z 0) := Lib.hid (by rw [HF0.out]; unfold widF0; rw [HCK.out])
        have HSK := Lib.hid (HRS.out k)
        obtain ⟨wo, rfl⟩ : ∃ wo : World, wo = wr := ⟨_, rfl⟩
        have D1 := Lib.hid ((Below.refl wo.heap.size wo).alloc (Nat.le_refl _) (.cells #[.slice Ac z cc, .string x, .int .i64 m', .int .i64 f] 79))
        have hbwo := HBE.out.size
        clear hca p0 p1 p2 p3 hz hmem
        go_wp2_with (at_make; refine wpList_make_full _ rfl _ _ 38 rfl wo.heap.size 3 iI _ 1 Tryz.underlying38 hiI hzI0 hzI1 _ _ _ _ z rfl rfl rfl rfl (by rw [hzI2]; omega) (by unfold maxLen; omega) (by simp) ?_; intro w3 hown3 hgr3; have hd3 := D1.out.trans ((Below.refl wo.heap.size _).grown hgr3 (by simp) (fun k hk => by cases hk)); have hu3 : w3.ownsRow wo.heap.size 3 1 (.slice (some ⟨wo.heap.size + 1, 0, none⟩) z z) (f0 k).length (ints (f0 k)) := (by
            rw [HFK.out, List.length_replicate, ← ints_zero]
            have h := hown3
            simp at h
            simpa using h); obtain ⟨x0, hx0, hfz0, hbB0, hp1, hp2⟩ := OwnF.put HO.out hd3 hlt hu3 hbwo; have HD3 := Lib.hid hd3; have HP1 := Lib.hid hp1; have HP2 := Lib.hid hp2; clear hown3 hgr3 hd3 hu3 hp1 hp2)
        have N1 := Lib.hid (HP1.out.same fun i _ => HSK.out i)
        have N2 := Lib.hid ((HBE.out.trans (HD3.out.mono hbwo)).setCell (p := ⟨B, k, none⟩) hbB0 (.slice (some ⟨wo.heap.size + 1, 0, none⟩) z z))
        have N3 := Lib.hid ((HBC.out.after HD3.out).keeps (HP2.out _ (by decide)))
        go_roundw
        case rel => exact ⟨k + 1, by omega, by go_num, N1, N2, N3⟩
        case measure => simp [intOf]; omega
      · obtain rfl : k = n := by omega
        have hB := HBC.out
        obtain ⟨c0, c1, c2, c3, c4, c5, c6, c7, c8⟩ := hB.boxed
        have HO0 : Hid (OwnF wr w.heap.size wr.heap.size (.slice (some ⟨B, 0, none⟩) k k) k f0) := Lib.hid (HO.out.same fun i hi => rowsK_all f0 k i hi)
        clear hB
        go_wp2_with fail
        refine (HBLK0.out _ HBE.out).mono ?_
        rintro e w3 ⟨vb, rfl, hob, hb3⟩
        have HO1 := Lib.hid ((HO0.out.keeps (.below _ hb3) (.below _ hb3)).retop)
        have HB1 := Lib.hid (HBE.out.trans (hb3.mono HBE.out.size))
        have HOB := Lib.hid hob
        obtain ⟨Ab, cb, hvb⟩ := hob.shape
        subst hvb
        obtain ⟨wb, rfl⟩ : ∃ wb : World, wb = wr := ⟨_, rfl⟩
        obtain ⟨q0, hq0⟩ : ∃ q, q = L.length := ⟨_, rfl⟩
        have HQ0 := Lib.hid hq0
        rw [← hq0] at HLB HOB ⊢
        obtain ⟨vo, hvo⟩ : ∃ vo, vo = Value.slice (some ⟨B, 0, none⟩) k k := ⟨_, rfl⟩
        rw [← hvo] at HO1 ⊢
        have HVO := Lib.hid hvo
        clear hb3 hob c0 c1 c2 c3 c4 c5 c6 c7 c8 hq0 HO HO0 hvo
        go_wp2_with fail
        go_loopw [9, 10, 37] (fun _ _ i wx => ∃ q : Nat, q ≤ q0 ∧ i = .int .i64 (q : Int) ∧ Hid (OwnF wx w.heap.size wx.heap.size vo k (widB ls (L.take q))) ∧ Hid (OwnB wx wb.heap.size (.slice Ab q0 cb) L) ∧ Hid (Below w.heap.size w wx)) (fun _ _ i _ => q0 - (intOf i).toNat)
        case atStart => exact ⟨0, Nat.zero_le _, rfl, Lib.hid (by rw [List.take_zero, widB_zero, ← HF0.out]; exact HO1.out), HOB, HB1⟩
        case round =>
          obtain ⟨q, hq, rfl, HOQ, HOBQ, HBX⟩ := hrel
          by_cases hltq : q < q0
          · obtain ⟨A', c', he, hA'⟩ := HOBQ.out.rd
            injection he with e1 e2 e3
            rw [← e1] at hA'
            have hql : q < L.length := by rw [← HQ0.out]; exact hltq
            obtain ⟨gb, ob, rfl, hgb, hcb⟩ := hA' (by omega)
            obtain ⟨p0, p1, p2, p3⟩ := hcb q _ (List.getElem?_eq_getElem hql)
            obtain ⟨bc, bi, bt, g1, g2, g3, h12, h3, hcell⟩ := HGD.out _ (List.getElem_mem hql)
            have HWQ := Lib.hid (HWT.out q hql)
            obtain ⟨F, hF⟩ : ∃ F, F = widB ls (L.take q) := ⟨_, rfl⟩
            have HFC : Hid (∀ i, (F i).length = cellsN ls i) := Lib.hid (by rw [hF]; exact HWL.out _)
            rw [← hF] at HWQ HOQ
            obtain ⟨bx, hbx⟩ : ∃ b, b = L[q] := ⟨_, rfl⟩
            rw [← hbx] at p0 p1 p2 p3 g1 g2 g3 HWQ
            obtain ⟨b0, b1, b2, b3⟩ := bx
            simp only at g1 g2 g3
            subst g1 g2 g3
            simp only at p0 p1 p2 p3
            rw [← HN.out] at h3
            have HCL := Lib.hid hcell
            have HST : Hid (fillTo F ⟨(bc : Int), (bi : Int), (bt : Int), b3⟩ (bi : Int) = F) := Lib.hid (fillTo_start F ⟨(bc : Int), (bi : Int), (bt : Int), b3⟩)
            have HSP := Lib.hid (fun r h i => fillTo_step F ⟨(bc : Int), (bi : Int), (bt : Int), b3⟩ r h i)
            have HHE := Lib.hid (fun r => fillTo_here F ⟨(bc : Int), (bi : Int), (bt : Int), b3⟩ r)
            have HLN := Lib.hid (fun r i => fillTo_len F ⟨(bc : Int), (bi : Int), (bt : Int), b3⟩ r i)
            have HEND : Hid (fillF F ⟨(bc : Int), (bi : Int), (bt : Int), b3⟩ = fillTo F ⟨(bc : Int), (bi : Int), (bt : Int), b3⟩ (bt : Int)) := Lib.hid rfl
            rw [HEND.out] at HWQ
            obtain ⟨FT, hFT⟩ : ∃ g : Int → Nat → List Int, g = fillTo F ⟨(bc : Int), (bi : Int), (bt : Int), b3⟩ := ⟨_, rfl⟩
            rw [← hFT] at HST HSP HHE HLN HWQ
            obtain ⟨wo, rfl⟩ : ∃ wo : World, wo = wr := ⟨_, rfl⟩
            obtain ⟨H, hH⟩ : ∃ H, H = wo.heap.size := ⟨_, rfl⟩
            have D1 := Lib.hid ((Below.refl wo.heap.size wo).alloc (Nat.le_refl _) (.cells #[.int .i64 (bc : Int), .int .i64 (bi : Int), .int .i64 (bt : Int), .int .i64 b3] 100))
            have HBB : Hid (Blk (wo.alloc (.cells #[.int .i64 (bc : Int), .int .i64 (bi : Int), .int .i64 (bt : Int), .int .i64 b3] 100)) H 100 #[.int .i64 (bc : Int), .int .i64 (bi : Int), .int .i64 (bt : Int), .int .i64 b3]) := Lib.hid (by rw [hH]; exact Blk.new _ _ _)
            have HO2 := Lib.hid ((HOQ.out.keeps (.below _ D1.out) (.below _ D1.out)).retop)
            have HOB2 := Lib.hid (HOBQ.out.keeps (.below _ D1.out))
            have HB2 := Lib.hid (HBX.out.trans (D1.out.mono HBX.out.size))
            clear hA' hcb hF hbx hcell e1 e2 e3 hFT
            go_wp2_with fail
            rw [← hH]
            clear hH
            go_loopw [10] (fun i wy => ∃ r : Nat, bi ≤ r ∧ r ≤ bt ∧ i = .int .i64 (r : Int) ∧ Hid (OwnF wy w.heap.size wy.heap.size vo k (FT (r : Int))) ∧ Hid (OwnB wy wb.heap.size (.slice (some ⟨gb, ob, none⟩) q0 cb) L) ∧ Hid (Below w.heap.size w wy) ∧ Hid (Blk wy H 100 #[.int .i64 (bc : Int), .int .i64 (bi : Int), .int .i64 (bt : Int), .int .i64 b3])) (fun i _ => bt - (intOf i).toNat)
            case atStart => exact ⟨bi, Nat.le_refl _, h12, rfl, Lib.hid (by rw [HST.out]; exact HO2.out), HOB2, HB2, HBB⟩
            case round =>
              obtain ⟨r, hr1, hr2, rfl, HOR, HOBR, HBR, HBBR⟩ := hrel
              have d0 := HBBR.out.cell 0
              have d1 := HBBR.out.cell 1
              have d2 := HBBR.out.cell 2
              have d3 := HBBR.out.cell 3
              simp at d0 d1 d2 d3
              by_cases hltr : r < bt
              · have hzl : (FT (r : Int) r).length = cellsN ls r := by rw [HLN.out, HFC.out]
                have hbl := HCL.out r hr1 hltr
                obtain ⟨go, co, g, rc, x, rfl, k0, k1, k2, hgl, hgb2, hset⟩ := HOR.out.at r bc (by omega) (by rw [hzl]; exact hbl)
                rw [hzl] at k0
                obtain ⟨zl, hzl2⟩ : ∃ z, z = cellsN ls r := ⟨_, rfl⟩
                rw [← hzl2] at k0 hbl
                have HSET := Lib.hid (hset b3)
                have HGB2 := Lib.hid hgb2
                clear hset hzl hzl2 hgb2
                go_wp2_with fail
                go_region
                all_goals
                  have HN1 : Hid (OwnF (wr.setCell ⟨g, bc, none⟩ (.int .i64 b3)) w.heap.size (wr.setCell ⟨g, bc, none⟩ (.int .i64 b3)).heap.size (.slice (some ⟨go, 0, none⟩) k co) k (FT ((r + 1 : Nat) : Int))) := Lib.hid (HSET.out.1.retop.same fun i _ => by
                    rw [HSP.out r (by show (bi : Int) ≤ (r : Int); omega) i, HHE.out r]
                    rfl)
                  have HN2 := Lib.hid (HOBR.out.keeps (HSET.out.2 _ (by decide)))
                  have HN3 := Lib.hid (HBR.out.setCell (p := ⟨g, bc, none⟩) HGB2.out (.int .i64 b3))
                  have HN4 := Lib.hid (HBBR.out.keeps (HSET.out.2 _ (by decide)))
                  go_wp2_with fail
                  go_roundw
                  case rel => exact ⟨r + 1, by omega, by omega, by go_num, HN1, HN2, Lib.hid (by first | exact HN3.out | exact HN3.out.drew), HN4⟩
                  case measure => simp [intOf]; omega
              · obtain rfl : r = bt := by omega
                go_wp2_with fail
                go_roundw
                case rel => exact ⟨q + 1, by omega, by go_num, Lib.hid (by rw [HWQ.out]; exact HOR.out), HOBR, HBR⟩
                case measure => simp [intOf]; omega
          · obtain rfl : q = q0 := by omega
            have HFIN : Hid (OwnF wr w.heap.size wr.heap.size vo k RES) := Lib.hid (by
              have h := HOQ.out
              rw [HQ0.out, HALL.out] at h
              exact h)
            go_wp2_with fail
            go_ret
            exact ⟨_, rfl, HFIN.out, HBX.out⟩
end Go.Proofs.YtooanejiadbngaaGreatDoor
