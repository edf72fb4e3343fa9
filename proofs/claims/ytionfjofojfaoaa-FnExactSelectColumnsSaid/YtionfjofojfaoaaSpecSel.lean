/- The model's SelectColumns. -/
import Derived.Test.YtionfjofojfaoaaImplSel
import Derived.Test.YtionfjofojfaoaaSpecTra
import Derived.Deep.RegionLaw
import Derived.Deep.DeepCutAuto
namespace Go.Proofs.Ytionfjofojfaoaa
open Go.RowKit
set_option linter.unusedVariables false

/-- One of several owned rows with one text more. -/
theorem OwnRs.app {W W' : World} {base b : Nat} {ws : List Value} {F : Nat → List ByteArray} {j : Nat} {u u' : Value} {x : ByteArray} (h : OwnRs W base ws F) (hj : ws[j]? = some u) (ho : W'.ownsRow base 9 1 u' ((F j).length + 1) (strs (F j) ++ [.string x]))
    (hg : W.grownBy W' u.ownBlock) (hat : u'.ownBlock = u.ownBlock ∨ u'.ownBlock = some b) (hb : W.heap.size ≤ b) : OwnRs W' base (ws.set j u') (fun i => if i = j then F j ++ [x] else F i) := by
  have hset : ∀ (i : Nat) (y : Value), (ws.set j u')[i]? = some y → (i = j ∧ y = u') ∨ (i ≠ j ∧ ws[i]? = some y) := by
    intro i y hy
    rw [List.getElem?_set] at hy
    by_cases hij : j = i
    · rw [if_pos hij] at hy
      split at hy
      · exact .inl ⟨hij.symm, by simpa using hy.symm⟩
      · cases hy
    · rw [if_neg hij] at hy
      exact .inr ⟨fun h => hij h.symm, hy⟩
  have hother : ∀ (i : Nat) (y : Value), i ≠ j → ws[i]? = some y → (y.ownBlock = none ∨ y.ownBlock ≠ u'.ownBlock) ∧ (u'.ownBlock = none ∨ u'.ownBlock ≠ y.ownBlock) := by
    intro i y hij hy
    rcases hat with e | e
    · rw [e]
      exact ⟨h.2 i j y u hij hy hj, h.2 j i u y (fun h => hij h.symm) hj hy⟩
    · rw [e]
      have hlt : ∀ k, y.ownBlock = some k → k < W.heap.size := fun k hk => (World.ownsRow.lt (h.1 i y hy) k hk).2
      refine ⟨.inr fun he => ?_, .inr fun he => ?_⟩
      · have := hlt b he; omega
      · have := hlt b he.symm; omega
  refine ⟨fun i y hy => ?_, fun i1 i2 y1 y2 hne h1 h2 => ?_⟩
  · rcases hset i y hy with ⟨rfl, rfl⟩ | ⟨hij, hy'⟩
    · simp only [if_true]
      rw [strs_snoc2, List.length_append]
      exact ho
    · simp only [if_neg hij]
      exact (h.1 i y hy').kept hg (h.2 i j y u hij hy' hj)
  · rcases hset i1 y1 h1 with ⟨rfl, rfl⟩ | ⟨n1, g1⟩ <;> rcases hset i2 y2 h2 with ⟨rfl, rfl⟩ | ⟨n2, g2⟩
    · exact absurd rfl hne
    · exact (hother i2 y2 n2 g2).2
    · exact (hother i1 y1 n1 g1).1
    · exact h.2 i1 i2 y1 y2 hne g1 g2
theorem OwnRs.same {W : World} {base : Nat} {ws : List Value} {F F' : Nat → List ByteArray} (h : OwnRs W base ws F) (he : ∀ i, i < ws.length → F' i = F i) : OwnRs W base ws F' :=
  ⟨fun i u hu => by rw [he i (List.getElem?_eq_some_iff.1 hu).1]; exact h.1 i u hu, h.2⟩
theorem OwnRs.keeps {W W' : World} {base : Nat} {ws : List Value} {F : Nat → List ByteArray} (h : OwnRs W base ws F) (hk : Keeps W W' 9) : OwnRs W' base ws F := ⟨fun i u hu => own_keeps (h.1 i u hu) hk, h.2⟩
/-- The table under way: its block O, the list of its rows in block g. -/
def SelAt (w : World) (O g : Nat) (cs : Array Value) (n : Nat) (hvv : Value) (vs : List Value) (F : Nat → List ByteArray) (W : World) : Prop :=
  Blk W w.heap.size 29 cs ∧ Blk W (w.heap.size + 1) 29 #[.slice none 0 0, .slice none 0 0] ∧ Blk W O 29 #[hvv, .slice (some ⟨g, 0, none⟩) n n] ∧ Blk W g 23 vs.toArray ∧ vs.length = n ∧ OwnRs W w.heap.size (hvv :: vs) F ∧ Below w.heap.size w W ∧ w.heap.size + 1 < O ∧ w.heap.size ≤ g
theorem SelAt.below {w : World} {O g n : Nat} {cs : Array Value} {hvv : Value} {vs : List Value} {F : Nat → List ByteArray} {W W' : World} (h : SelAt w O g cs n hvv vs F W) (hb : Below W.heap.size W W') : SelAt w O g cs n hvv vs F W' := by
  obtain ⟨h1, h2, h3, h4, h5, h6, h7, h8, h9⟩ := h
  exact ⟨h1.after hb, h2.after hb, h3.after hb, h4.after hb, h5, h6.keeps (Keeps.below _ hb), h7.trans (hb.mono h7.size), h8, h9⟩
theorem SelAt.same {w : World} {O g n : Nat} {cs : Array Value} {hvv : Value} {vs : List Value} {F F' : Nat → List ByteArray} {W : World} (h : SelAt w O g cs n hvv vs F W) (he : ∀ i, i < 1 + n → F' i = F i) : SelAt w O g cs n hvv vs F' W := by
  obtain ⟨h1, h2, h3, h4, h5, h6, h7, h8, h9⟩ := h
  exact ⟨h1, h2, h3, h4, h5, h6.same (fun i hi => he i (by simp at hi; omega)), h7, h8, h9⟩
theorem SelAt.toHead {w : World} {O g n : Nat} {cs : Array Value} {hvv u' : Value} {vs : List Value} {F : Nat → List ByteArray} {W W' : World} {x : ByteArray} (h : SelAt w O g cs n hvv vs F W) (ho : W'.ownsRow w.heap.size 9 1 u' ((F 0).length + 1) (strs (F 0) ++ [.string x]))
    (hg : W.grownBy W' hvv.ownBlock) (hat : u'.ownBlock = hvv.ownBlock ∨ u'.ownBlock = some (W.heap.size + 1)) : SelAt w O g cs n u' vs (fun i => if i = 0 then F 0 ++ [x] else F i) (W'.setCell ⟨O, 0, none⟩ u') := by
  obtain ⟨h1, h2, h3, h4, h5, h6, h7, h8, h9⟩ := h
  have hown := h6.1 0 hvv rfl
  have hk : ∀ e, 9 ≠ e → Keeps W W' e := fun e he => Keeps.grown hown he hg
  have b3 := Blk.keeps h3 (hk _ (by decide))
  have hs : ∀ e, 29 ≠ e → Keeps W' (W'.setCell ⟨O, 0, none⟩ u') e := fun e he => Keeps.blk b3 he (grown_set _ _ _ _)
  refine ⟨(Blk.keeps h1 (hk _ (by decide))).other (by omega), (Blk.keeps h2 (hk _ (by decide))).other (by omega), by simpa using b3.set 0 u', Blk.keeps (Blk.keeps h4 (hk _ (by decide))) (hs _ (by decide)), h5, ?_, ?_, h8, h9⟩
  · have := (h6.app (j := 0) rfl ho hg hat (by omega)).keeps (hs _ (by decide))
    simpa using this
  · exact (h7.grown hg h7.size (fun q hq => (World.ownsRow.lt hown q hq).1)).setCell (p := ⟨O, 0, none⟩) (show w.heap.size ≤ O by omega) _
theorem SelAt.toRow {w : World} {O g n i : Nat} {cs : Array Value} {hvv u u' : Value} {vs : List Value} {F : Nat → List ByteArray} {W W' : World} {x : ByteArray} (h : SelAt w O g cs n hvv vs F W) (hu : vs[i]? = some u) (ho : W'.ownsRow w.heap.size 9 1 u' ((F (i + 1)).length + 1) (strs (F (i + 1)) ++ [.string x]))
    (hg : W.grownBy W' u.ownBlock) (hat : u'.ownBlock = u.ownBlock ∨ u'.ownBlock = some (W.heap.size + 1)) : SelAt w O g cs n hvv (vs.set i u') (fun j => if j = i + 1 then F (i + 1) ++ [x] else F j) (W'.setCell ⟨g, i, none⟩ u') := by
  obtain ⟨h1, h2, h3, h4, h5, h6, h7, h8, h9⟩ := h
  have hown := h6.1 (i + 1) u (by simpa using hu)
  have hk : ∀ e, 9 ≠ e → Keeps W W' e := fun e he => Keeps.grown hown he hg
  have b4 := Blk.keeps h4 (hk _ (by decide))
  have hs : ∀ e, 23 ≠ e → Keeps W' (W'.setCell ⟨g, i, none⟩ u') e := fun e he => Keeps.blk b4 he (grown_set _ _ _ _)
  refine ⟨Blk.keeps (Blk.keeps h1 (hk _ (by decide))) (hs _ (by decide)), Blk.keeps (Blk.keeps h2 (hk _ (by decide))) (hs _ (by decide)), Blk.keeps (Blk.keeps h3 (hk _ (by decide))) (hs _ (by decide)), ?_, by rw [List.length_set]; exact h5, ?_, ?_, h8, h9⟩
  · have hb := b4.set i u'
    have e : vs.toArray.setIfInBounds i u' = (vs.set i u').toArray := by simp
    rw [e] at hb
    exact hb
  · have := (h6.app (j := i + 1) (by simpa using hu) ho hg hat (by omega)).keeps (hs _ (by decide))
    simpa using this
  · exact (h7.grown hg h7.size (fun q hq => (World.ownsRow.lt hown q hq).1)).setCell (p := ⟨g, i, none⟩) h9 _
theorem pickB_snoc (r : List ByteArray) (ks : List Int) (p : Nat) (hp : p < ks.length) : pickB r (ks.take (p + 1)) = pickB r (ks.take p) ++ [r.getD ks[p].toNat ByteArray.empty] := by
  unfold pickB
  rw [List.take_succ_eq_append_getElem hp, List.map_append]
  rfl
theorem pickB_length (r : List ByteArray) (ks : List Int) : (pickB r ks).length = ks.length := by simp [pickB]
/-- The rows where p columns have been selected, one more in the head and in the first q rows. -/
def midF (h : List ByteArray) (f : Nat → List ByteArray) (ks : List Int) (p q : Nat) : Nat → List ByteArray
  | 0 => pickB h (ks.take (p + 1))
  | i + 1 => pickB (f i) (ks.take (if i < q then p + 1 else p))
def allF (h : List ByteArray) (f : Nat → List ByteArray) (ks : List Int) (p : Nat) : Nat → List ByteArray
  | 0 => pickB h (ks.take p)
  | i + 1 => pickB (f i) (ks.take p)
set_option maxRecDepth 100000 in
set_option maxHeartbeats 8000000 in
theorem specSelect (h : List ByteArray) (n : Nat) (f : Nat → List ByteArray) (hv rv lv : Value) (ks : List Int) (w : World) (hh : Rd w hv (strs h)) (hr : RdT w rv n f) (hs : SlcOk rv n) (hfit : TabFits h n f) (hk : Rd w lv (ints ks)) (hkl : ks.length ≤ 1048576) :
    Calls Try.prog 32 #[.agg #[hv, rv], lv] w fun e w' => ∃ hv' rv', e = .returned (.tuple #[.agg #[hv', rv'], .bool (selOk h n f ks)]) ∧ TRd w' hv' rv' (selH h n f ks) (selN h n f ks) (selF f ks) ∧ Below w.heap.size w w' := by
  obtain ⟨i0, hi0, hz0, hz1, hz2⟩ := info_parts Try.infoStrCo
  obtain ⟨iR, hiR, hzR0, hzR1, hzR2⟩ := info_parts Try.infoRowTr
  have HIS := Lib.hid (fun W (hb : Below w.heap.size w W) => specIsTable h n f hv rv W (hh.below hb) (hr.below hb) hs hfit)
  have HHD := Lib.hid (fun W (hb : Below w.heap.size w W) => hh.below hb)
  obtain ⟨A, c, rfl, hA⟩ := hh
  rw [strs_length] at hA HHD HIS ⊢
  obtain ⟨B, d, rfl, hB⟩ := hr
  have HAC := Lib.hid hA
  have HBC := Lib.hid hB
  obtain ⟨L, lc, rfl, hlc⟩ := hk
  rw [ints_length] at hlc ⊢
  have HLC := Lib.hid hlc
  have hn1 : n ≤ 1048576 := hfit.2.2.1
  have hh1 : h.length ≤ 1048576 := hfit.1
  have s1 : Below (w.alloc (.cells #[.slice A h.length c, .slice B n d] 29)).heap.size (w.alloc (.cells #[.slice A h.length c, .slice B n d] 29)) ((w.alloc (.cells #[.slice A h.length c, .slice B n d] 29)).alloc (.cells #[.slice none 0 0, .slice none 0 0] 29)) := (Below.refl _ _).alloc (Nat.le_refl _) _
  have hK0 := (Blk.new w 29 #[.slice A h.length c, .slice B n d]).after s1
  have hK1 := Blk.new (w.alloc (.cells #[.slice A h.length c, .slice B n d] 29)) 29 #[.slice none 0 0, .slice none 0 0]
  rw [show (w.alloc (.cells #[.slice A h.length c, .slice B n d] 29)).heap.size = w.heap.size + 1 by simp] at hK1
  have B0 := Lib.hid (by go_grown : Below w.heap.size w ((w.alloc (.cells #[.slice A h.length c, .slice B n d] 29)).alloc (.cells #[.slice none 0 0, .slice none 0 0] 29)))
  have HK0 := Lib.hid hK0
  have HK1 := Lib.hid hK1
  obtain ⟨k0, k1⟩ := hK0.two
  clear hs hfit hK0 hK1 s1 hlc hA hB
  cases hit : isTab h n f with
  | false =>
    have HE : Hid (selOk h n f ks = false) := Lib.hid (by unfold selOk; rw [hit]; rfl)
    rw [hit] at HIS
    clear hit
    go_enter Try.func32, Try.ntmps32
    go_wp2_with fail
    refine (HIS.out _ B0.out).mono ?_
    rintro e w1 ⟨rfl, hb1⟩
    have B1 := Lib.hid (B0.out.trans (hb1.mono B0.out.size))
    have hK1' := HK1.out.after hb1
    clear hb1 k0 k1
    go_wp2_with (refine wpList_store_row rfl _ _ _ rfl (w.heap.size + 1) #[.slice none 0 0, .slice none 0 0] rfl rfl 29 _ hK1' size_tab rfl (one_tab _ _ _ _ _ _) ?_)
    obtain ⟨c0, c1⟩ := (Blk.row hK1' (cs' := #[.slice none 0 0, .slice none 0 0])).two
    have B9 := below_row B1.out (g := w.heap.size + 1) (cs := #[.slice none 0 0, .slice none 0 0]) (by omega)
    refine bodyPost_ret (v := .tuple #[.agg #[.slice none 0 0, .slice none 0 0], .bool false]) (by simp [results, Try.results32, go_sem, c0, c1]) rfl ⟨_, _, by rw [HE.out], ?_, B9⟩
    rw [show selH h n f ks = [] by unfold selH; rw [HE.out, if_neg (by decide)], show selN h n f ks = 0 by unfold selN; rw [HE.out, if_neg (by decide)]]
    exact (resT_zero _ w.heap.size _).trd
  | true =>
    obtain ⟨hlen, hrows, hn60, _, _⟩ := isTab_facts hit
    have HRW := Lib.hid hrows
    have HOK : Hid (selOk h n f ks = (decide (1 ≤ (ks.length : Int) ∧ (ks.length : Int) ≤ 8) && inCols h ks)) := Lib.hid (by unfold selOk; rw [hit, Bool.true_and])
    rw [hit] at HIS
    clear hit hrows
    by_cases hcc : 1 ≤ (ks.length : Int) ∧ (ks.length : Int) ≤ 8
    · have HCC := Lib.hid (fun W => l01In_yes (ks.length : Int) 1 8 W hcc)
      rw [decide_eq_true hcc, Bool.true_and] at HOK
      obtain ⟨hc1, hc8⟩ := hcc
      go_enter Try.func32, Try.ntmps32
      go_wp2_with fail
      refine (HIS.out _ B0.out).mono ?_
      rintro e w1 ⟨rfl, hb1⟩
      have B1 := Lib.hid (B0.out.trans (hb1.mono B0.out.size))
      have HK0' := Lib.hid (HK0.out.after hb1)
      have HK1' := Lib.hid (HK1.out.after hb1)
      clear hb1 k0 k1
      obtain ⟨k0, k1⟩ := HK0'.out.two
      go_wp2_with fail
      refine (HCC.out _).mono ?_
      rintro e w1b ⟨rfl, rfl⟩
      have z1 := B1.out.size
      go_wp2_with (at_make; refine wpList_make_full _ rfl _ _ 24 rfl w.heap.size 23 iR _ 1 Try.underlying24 hiR hzR0 hzR1 _ _ _ _ n rfl rfl rfl rfl (by rw [hzR2]; omega) (by unfold maxLen; omega) z1 ?_; intro w2 hown2 hgr2; have HO2 := Lib.hid hown2; have HD2 := Lib.hid ((Below.refl w1.heap.size w1).grown hgr2 (Nat.le_refl _) (fun k hk => by cases hk)); clear hown2 hgr2)
      have HSTART : Hid (SelAt w w2.heap.size w1.heap.size #[.slice A h.length c, .slice B n d] n (.slice none 0 0) (List.replicate n (.slice none 0 0)) (allF h f ks 0) (w2.alloc (.cells #[.slice none 0 0, .slice (some ⟨w1.heap.size, 0, none⟩) n n] 29))) := Lib.hid (by
        obtain ⟨cs, hcs, hcl, hbg⟩ := own_blk HO2.out rfl
        have e : cs = (List.replicate n (Value.slice none 0 0)).toArray := by
          apply Array.ext'
          rw [hcl]
          exact nils_zeroT n
        subst e
        have s3 : Below w2.heap.size w2 (w2.alloc (.cells #[.slice none 0 0, .slice (some ⟨w1.heap.size, 0, none⟩) n n] 29)) := (Below.refl _ _).alloc (Nat.le_refl _) _
        refine ⟨(HK0'.out.after HD2.out).after s3, (HK1'.out.after HD2.out).after s3, Blk.new _ _ _, hcs.after s3, List.length_replicate, ⟨fun i u hu => ?_, fun i j u u' _ hu _ => ?_⟩, (B1.out.trans (HD2.out.mono B1.out.size)).trans (s3.mono (Nat.le_trans z1 HD2.out.size)), ?_, z1⟩
        · have hz : u = .slice none 0 0 ∧ allF h f ks 0 i = [] := by
            cases i with
            | zero => exact ⟨by simpa using hu.symm, rfl⟩
            | succ i => exact ⟨List.eq_of_mem_replicate (List.mem_of_getElem? (by simpa using hu : (List.replicate n (Value.slice none 0 0))[i]? = some u)), rfl⟩
          rw [hz.1, hz.2]
          exact World.ownsRow_nil _ _ _ _
        · have hz : u = .slice none 0 0 := by
            cases i with
            | zero => simpa using hu.symm
            | succ i => exact List.eq_of_mem_replicate (List.mem_of_getElem? (by simpa using hu : (List.replicate n (Value.slice none 0 0))[i]? = some u))
          rw [hz]
          exact .inl rfl
        · have := HK1'.out.lt
          have := HD2.out.size
          omega)
      obtain ⟨O, hO⟩ : ∃ O, O = w2.heap.size := ⟨_, rfl⟩
      obtain ⟨g, hg⟩ : ∃ g, g = w1.heap.size := ⟨_, rfl⟩
      obtain ⟨w3, hw3⟩ : ∃ W, W = w2.alloc (.cells #[.slice none 0 0, .slice (some ⟨w1.heap.size, 0, none⟩) n n] 29) := ⟨_, rfl⟩
      rw [← hw3, ← hO, ← hg] at HSTART
      rw [← hw3, ← hO, ← hg]
      clear hO hg hw3 k0 k1
      go_loopw [28] (fun i wr => ∃ (p : Nat) (hvv : Value) (vs : List Value), p ≤ ks.length ∧ i = .int .i64 (p : Int) ∧ Hid (SelAt w O g #[.slice A h.length c, .slice B n d] n hvv vs (allF h f ks p) wr) ∧ Hid (∀ j (hj : j < ks.length), j < p → 0 ≤ ks[j] ∧ ks[j] < (h.length : Int))) (fun i _ => ks.length - (intOf i).toNat)
      case atStart => exact ⟨0, _, _, Nat.zero_le _, rfl, HSTART, Lib.hid (fun j hj h0 => by omega)⟩
      case round =>
        obtain ⟨p, hvv, vs, hp, rfl, HST, HIN⟩ := hrel
        obtain ⟨hb1, hb2, hb3, hb4, hvl, hrs, hbw, hOs, hgs⟩ := HST.out
        have HB1 := Lib.hid hb1
        have HB2 := Lib.hid hb2
        have HB3 := Lib.hid hb3
        have HBW := Lib.hid hbw
        have hown := hrs.1 0 hvv rfl
        obtain ⟨Ah, ch, rfl, _⟩ := Rd.of_own hown
        have hlhe : (strs (allF h f ks p 0)).length = p := by rw [strs_length]; show (pickB h (ks.take p)).length = p; rw [pickB_length, List.length_take]; omega
        rw [hlhe] at HST HB3 hown
        have HL0 : Hid ((allF h f ks p 0).length = p) := Lib.hid (by rw [← strs_length]; exact hlhe)
        have HOWN := Lib.hid (own_more hown HL0.out rfl)
        clear hlhe hb1 hb2 hb3 hb4 hvl hrs hbw hown
        obtain ⟨k0, k1⟩ := HB1.out.two
        by_cases hlt : p < ks.length
        · obtain ⟨gl, ol, rfl, hgl, hlcell⟩ := HLC.out (by omega)
          have hcl := (HBW.out.cell (p := ⟨gl, ol + p, none⟩) hgl).trans (hlcell p _ (ints_get ks p hlt))
          clear hlcell
          by_cases hin : 0 ≤ ks[p] ∧ ks[p] ≤ (h.length : Int) - 1
          · obtain ⟨kN, hkN⟩ : ∃ kN : Nat, ks[p] = (kN : Int) := ⟨ks[p].toNat, by omega⟩
            have HIN1 : Hid (∀ j (hj : j < ks.length), j < p + 1 → 0 ≤ ks[j] ∧ ks[j] < (h.length : Int)) := Lib.hid (fun j hj h1 => by
              rcases Nat.lt_or_ge j p with h2 | h2
              · exact HIN.out j hj h2
              · obtain rfl : j = p := by omega
                exact ⟨hin.1, by omega⟩)
            have HPK : Hid (∀ r : List ByteArray, pickB r (ks.take (p + 1)) = pickB r (ks.take p) ++ [r.getD kN ByteArray.empty]) := Lib.hid (fun r => by rw [pickB_snoc r ks p hlt, hkN]; rfl)
            have hkh : kN < h.length := by omega
            have hkh2 : (kN : Int) < (h.length : Int) := by omega
            rw [hkN] at hcl hin
            have HLY := Lib.hid (fun W => l01In_yes (kN : Int) 0 ((h.length : Int) - 1) W hin)
            obtain ⟨gh, oh, rfl, hgh, hhc⟩ := HAC.out (by omega)
            have hcx := (HBW.out.cell (p := ⟨gh, oh + kN, none⟩) hgh).trans (hhc kN _ (strs_get h kN hkh))
            have HX : Hid (h.getD kN ByteArray.empty = h[kN]) := Lib.hid (getD_col _ _ hkh)
            obtain ⟨x, hx⟩ : ∃ x, x = h[kN] := ⟨_, rfl⟩
            rw [← hx] at hcx HX
            obtain ⟨q0, q1⟩ := HB3.out.two
            have p0 := HB3.out.free 0
            have q0a : ∀ o, (wr.alloc o).cell? ⟨O, 0, none⟩ = some (.slice Ah p ch) := fun o => (((Below.refl wr.heap.size wr).alloc (Nat.le_refl _) o).cell (p := ⟨O, 0, none⟩) HB3.out.lt).trans q0
            have hws := HBW.out.size
            clear hin hkN hhc hx
            go_wp2_with fail
            refine (HLY.out _).mono ?_
            rintro e w4 ⟨rfl, rfl⟩
            go_upto_region 9 with fail
            go_cut [] (fun wx => ∃ (g2 cap2 : Nat), Hid (SelAt w O g #[.slice (some ⟨gh, oh, none⟩) h.length c, .slice B n d] n (.slice (some ⟨g2, 0, none⟩) (p + 1) cap2) vs (midF h f ks p 0) wx))
            case first =>
              go_region_law
                (refine step_append_el rfl _ _ 23 rfl w.heap.size 9 i0 _ 1 16 Try.underlying23 hi0 hz0 hz1 hz2 rfl (by decide) (.slice Ah p ch) _ _ rfl wr.drew #[.string x] rfl rfl (by simp [Value.oneCell']) HOWN.out (by omega) (by omega) hws ?_; intro g2 cap2 w5 ho5 hg5 hat5; have hb5 : Blk w5 O 29 #[.slice Ah p ch, .slice (some ⟨g, 0, none⟩) n n] := Blk.keeps (W := wr.drew) HB3.out (Keeps.grown (W := wr.drew) HOWN.out (by decide) hg5); have q2 := hb5.cell 0; have p2 := hb5.free 0; simp at q2; clear hb5; have HO5 := Lib.hid ho5; have HG5 := Lib.hid hg5; have HAT5 := Lib.hid hat5; clear ho5 hg5 hat5)
              all_goals
                have HS5 := Lib.hid ((SelAt.toHead (W := wr.drew) (HST.out.below ((Below.refl wr.heap.size wr).drew)) (by rw [HL0.out]; exact HO5.out) HG5.out HAT5.out).same (F' := midF h f ks p 0) (fun i hi => by
                  cases i with
                  | zero => show pickB h (ks.take (p + 1)) = _; rw [HPK.out, HX.out]; rfl
                  | succ i => rfl))
                go_wp2_with fail
                go_meet
                exact ⟨g2, cap2, HS5⟩
            case rest =>
              obtain ⟨g2, cap2, HS5⟩ := hcut
              have a0 := HS5.out.1.two.1
              have a1 := HS5.out.1.two.2
              clear q0 q1 p0 q0a k0 k1 hcl hcx
              go_wp2_with fail
              go_loopw [53] (fun i wr => ∃ (q : Nat) (vs2 : List Value), q ≤ n ∧ i = .int .i64 (q : Int) ∧ Hid (SelAt w O g #[.slice (some ⟨gh, oh, none⟩) h.length c, .slice B n d] n (.slice (some ⟨g2, 0, none⟩) (p + 1) cap2) vs2 (midF h f ks p q) wr)) (fun i _ => n - (intOf i).toNat)
              case atStart => exact ⟨0, _, Nat.zero_le _, rfl, HS5⟩
              case round =>
                obtain ⟨q, vs2, hq, rfl, HSQ⟩ := hrel
                obtain ⟨hb1, hb2, hb3, hb4, hvl, hrs, hbw, _, _⟩ := HSQ.out
                by_cases hltq : q < n
                · obtain ⟨gb, ob, rfl, hgb, hbc⟩ := HBC.out (by omega)
                  obtain ⟨ur, hcr, hru⟩ := hbc q hltq
                  have hcr := (hbw.cell (p := ⟨gb, ob + q, none⟩) hgb).trans hcr
                  obtain ⟨Ar, cr, rfl, hAr⟩ := hru
                  have hrl := HRW.out q hltq
                  rw [strs_length] at hcr hAr
                  obtain ⟨gr, og, rfl, hgr, hrc⟩ := hAr (by omega)
                  have hkq : kN < (f q).length := by omega
                  have hcy := (hbw.cell (p := ⟨gr, og + kN, none⟩) hgr).trans (hrc kN _ (strs_get _ kN hkq))
                  have HY := Lib.hid (getD_col (f q) kN hkq)
                  obtain ⟨y, hy⟩ : ∃ y, y = (f q)[kN] := ⟨_, rfl⟩
                  rw [← hy] at hcy HY
                  rw [hrl] at hcr
                  obtain ⟨uo, huo⟩ : ∃ u, vs2[q]? = some u := ⟨_, List.getElem?_eq_getElem (by omega)⟩
                  have howo := hrs.1 (q + 1) uo (by simpa using huo)
                  have hml : (midF h f ks p q (q + 1)).length = p := by
                    show (pickB (f q) (ks.take (if q < q then p + 1 else p))).length = p
                    rw [if_neg (by omega), pickB_length, List.length_take]
                    omega
                  obtain ⟨Ao, co, rfl, _⟩ := Rd.of_own howo
                  rw [strs_length, hml] at howo huo
                  have HML := Lib.hid hml
                  have HOO := Lib.hid howo
                  have HUO := Lib.hid huo
                  have HTA : Hid (vs2.toArray[q]? = some (.slice Ao p co)) := Lib.hid (by simpa using huo)
                  have HB3' := Lib.hid hb3
                  have HB4' := Lib.hid hb4
                  have o1 := hb3.two.2
                  have g0 : wr.cell? ⟨g, q, none⟩ = some (.slice Ao p co) := by rw [hb4.cell q]; simpa using huo
                  have pg := hb4.free q
                  have o1a : ∀ o, (wr.alloc o).cell? ⟨O, 1, none⟩ = some (.slice (some ⟨g, 0, none⟩) n n) := fun o => (((Below.refl wr.heap.size wr).alloc (Nat.le_refl _) o).cell (p := ⟨O, 1, none⟩) HB3'.out.lt).trans o1
                  have g0a : ∀ o, (wr.alloc o).cell? ⟨g, q, none⟩ = some (.slice Ao p co) := fun o => (((Below.refl wr.heap.size wr).alloc (Nat.le_refl _) o).cell (p := ⟨g, q, none⟩) HB4'.out.lt).trans g0
                  have hws2 := hbw.size
                  have hya : ∀ o, (wr.alloc o).cell? ⟨gr, og + kN, none⟩ = some (.string y) := fun o => (((Below.refl wr.heap.size wr).alloc (Nat.le_refl _) o).cell (p := ⟨gr, og + kN, none⟩) (Nat.lt_of_lt_of_le hgr hws2)).trans hcy
                  have HYB : Hid (∀ w8, wr.drew.grownBy w8 (Value.slice Ao p co).ownBlock → w8.cell? ⟨gr, og + kN, none⟩ = some (.string y)) := Lib.hid (fun w8 hg8 => (((Below.refl w.heap.size wr.drew).grown hg8 hws2 (fun j hj => (World.ownsRow.lt HOO.out j hj).1)).cell (p := ⟨gr, og + kN, none⟩) hgr).trans hcy)
                  clear hb1 hb2 hb3 hb4 hvl hrs hbw hrc hbc hAr hy howo hml huo hkq hrl
                  have HCY := Lib.hid hcy
                  have HO1 := Lib.hid o1
                  go_wp2_with fail
                  refine wp_region_noPanic ?_
                  refine wp_region_held_drew (S := (fun W => W.cell? ⟨O, 1, none⟩ = some (.slice (some ⟨g, 0, none⟩) n n) ∧ W.cell? ⟨gr, og + kN, none⟩ = some (.string y))) (by kernel_rfl) ⟨o1, hcy⟩ (fun hHeld => ?_)
                  refine wpAnyH_take (i := 0) (oi := ⟨some 58, _, _, _, _, _⟩) (v := .pointer (some ⟨O, 1, none⟩)) rfl (by kernel_rfl) (by kernel_rfl) (by kernel_rfl) (fun _ _ _ h => h) (Or.inl ⟨by rfl, ?_⟩) (by assumption) ?_
                  · intro W hSw
                    obtain ⟨hS1, hS2⟩ := hSw
                    go_simp
                  try simp only [Act.put, List.setIfInBounds_toArray, List.set_cons_zero, List.set_cons_succ]
                  refine wpAnyH_take (i := 1) (oi := ⟨some 59, _, _, _, _, _⟩) (v := .slice (some ⟨g, 0, none⟩) n n) rfl (by kernel_rfl) (by kernel_rfl) (by kernel_rfl) (fun _ _ _ h => h) (Or.inl ⟨by rfl, ?_⟩) (by assumption) ?_
                  · intro W hSw
                    obtain ⟨hS1, hS2⟩ := hSw
                    go_simp
                  try simp only [Act.put, List.setIfInBounds_toArray, List.set_cons_zero, List.set_cons_succ]
                  refine wpAnyH_take (i := 2) (oi := ⟨some 60, _, _, _, _, _⟩) (v := .int .i64 (q : Int)) rfl (by kernel_rfl) (by kernel_rfl) (by kernel_rfl) (fun _ _ _ h => h) (Or.inl ⟨by rfl, ?_⟩) (by assumption) ?_
                  · intro W hSw
                    obtain ⟨hS1, hS2⟩ := hSw
                    go_simp
                  try simp only [Act.put, List.setIfInBounds_toArray, List.set_cons_zero, List.set_cons_succ]
                  refine wpAnyH_take (i := 3) (oi := ⟨some 61, _, _, _, _, _⟩) (v := .pointer (some ⟨O, 1, none⟩)) rfl (by kernel_rfl) (by kernel_rfl) (by kernel_rfl) (fun _ _ _ h => h) (Or.inl ⟨by rfl, ?_⟩) (by assumption) ?_
                  · intro W hSw
                    obtain ⟨hS1, hS2⟩ := hSw
                    go_simp
                  try simp only [Act.put, List.setIfInBounds_toArray, List.set_cons_zero, List.set_cons_succ]
                  refine wpAnyH_take (i := 4) (oi := ⟨some 62, _, _, _, _, _⟩) (v := .slice (some ⟨g, 0, none⟩) n n) rfl (by kernel_rfl) (by kernel_rfl) (by kernel_rfl) (fun _ _ _ h => h) (Or.inl ⟨by rfl, ?_⟩) (by assumption) ?_
                  · intro W hSw
                    obtain ⟨hS1, hS2⟩ := hSw
                    go_simp
                  try simp only [Act.put, List.setIfInBounds_toArray, List.set_cons_zero, List.set_cons_succ]
                  refine wpAnyH_take (i := 5) (oi := ⟨some 63, _, _, _, _, _⟩) (v := .int .i64 (q : Int)) rfl (by kernel_rfl) (by kernel_rfl) (by kernel_rfl) (fun _ _ _ h => h) (Or.inl ⟨by rfl, ?_⟩) (by assumption) ?_
                  · intro W hSw
                    obtain ⟨hS1, hS2⟩ := hSw
                    go_simp
                  try simp only [Act.put, List.setIfInBounds_toArray, List.set_cons_zero, List.set_cons_succ]
                  refine wpAnyH_take (i := 6) (oi := ⟨some 64, _, _, _, _, _⟩) (v := .pointer (some ⟨g, q, none⟩)) rfl (by kernel_rfl) (by kernel_rfl) (by kernel_rfl) (fun _ _ _ h => h) (Or.inl ⟨by rfl, ?_⟩) (by assumption) ?_
                  · intro W hSw
                    obtain ⟨hS1, hS2⟩ := hSw
                    go_simp
                  try simp only [Act.put, List.setIfInBounds_toArray, List.set_cons_zero, List.set_cons_succ]
                  refine wpAnyH_take (i := 8) (oi := ⟨some 66, _, _, _, _, _⟩) (v := .slice (some ⟨gr, og, none⟩) h.length cr) rfl (by kernel_rfl) (by kernel_rfl) (by kernel_rfl) (fun _ _ _ h => h) (Or.inl ⟨by rfl, ?_⟩) (by assumption) ?_
                  · intro W hSw
                    obtain ⟨hS1, hS2⟩ := hSw
                    go_simp
                  try simp only [Act.put, List.setIfInBounds_toArray, List.set_cons_zero, List.set_cons_succ]
                  refine wpAnyH_take (i := 9) (oi := ⟨some 67, _, _, _, _, _⟩) (v := .int .i64 (kN : Int)) rfl (by kernel_rfl) (by kernel_rfl) (by kernel_rfl) (fun _ _ _ h => h) (Or.inl ⟨by rfl, ?_⟩) (by assumption) ?_
                  · intro W hSw
                    obtain ⟨hS1, hS2⟩ := hSw
                    go_simp
                  try simp only [Act.put, List.setIfInBounds_toArray, List.set_cons_zero, List.set_cons_succ]
                  refine wpAnyH_take (i := 10) (oi := ⟨some 68, _, _, _, _, _⟩) (v := .pointer (some ⟨gr, og + kN, none⟩)) rfl (by kernel_rfl) (by kernel_rfl) (by kernel_rfl) (fun _ _ _ h => h) (Or.inl ⟨by rfl, ?_⟩) (by assumption) ?_
                  · intro W hSw
                    obtain ⟨hS1, hS2⟩ := hSw
                    go_simp
                  try simp only [Act.put, List.setIfInBounds_toArray, List.set_cons_zero, List.set_cons_succ]
                  refine wpAnyH_take (i := 11) (oi := ⟨some 69, _, _, _, _, _⟩) (v := .string y) rfl (by kernel_rfl) (by kernel_rfl) (by kernel_rfl) (fun _ _ _ h => h) (Or.inl ⟨by rfl, ?_⟩) (by assumption) ?_
                  · intro W hSw
                    obtain ⟨hS1, hS2⟩ := hSw
                    go_simp
                  try simp only [Act.put, List.setIfInBounds_toArray, List.set_cons_zero, List.set_cons_succ]
                  refine wpAnyH_ready (rs := [7, 12]) (by kernel_rfl) (by simp) ?_
                  refine AllReadyH.cons (o := _) rfl (fun K hK => ?_) (AllReadyH.cons (o := _) rfl (fun K hK => ?_) AllReadyH.nil)
                  · go_simp
                    refine hK.out _ _ (by assumption) (fun hHeldL => ?_)
                    clear hK K
                    try simp only [Act.put, List.setIfInBounds_toArray, List.set_cons_zero, List.set_cons_succ]
                    refine wpAnyH_ready (rs := [12]) (by kernel_rfl) (by simp) ?_
                    refine AllReadyH.cons (o := _) rfl (fun K hK => ?_) AllReadyH.nil
                    go_simp
                    refine hK.out _ _ ⟨o1a _, hya _⟩ (fun hHeldA => ?_)
                    clear hK K
                    try simp only [Act.put, List.setIfInBounds_toArray, List.set_cons_zero, List.set_cons_succ]
                    refine wpAnyH_ready (rs := [13]) (by kernel_rfl) (by simp) ?_
                    refine AllReadyH.cons (o := _) rfl (fun K hK => ?_) AllReadyH.nil
                    refine step_append_el rfl _ _ 23 rfl w.heap.size 9 i0 _ 1 16 Try.underlying23 hi0 hz0 hz1 hz2 rfl (by decide) (.slice Ao p co) _ _ rfl wr.drew #[.string y] rfl rfl (by simp [Value.oneCell']) HOO.out (by omega) (by omega) hws2 ?_
                    intro g3 cap3 w8 ho8 hg8 hat8
                    have hb8 : Blk w8 g 23 vs2.toArray := Blk.keeps (W := wr.drew) HB4'.out (Keeps.grown (W := wr.drew) HOO.out (by decide) hg8)
                    have hb9 : Blk w8 O 29 #[.slice (some ⟨g2, 0, none⟩) (p + 1) cap2, .slice (some ⟨g, 0, none⟩) n n] := Blk.keeps (W := wr.drew) HB3'.out (Keeps.grown (W := wr.drew) HOO.out (by decide) hg8)
                    have g1 : w8.cell? ⟨g, q, none⟩ = some (.slice Ao p co) := (hb8.cell q).trans HTA.out
                    have pg1 := hb8.free q
                    have o1b := hb9.two.2
                    have hyb : w8.cell? ⟨gr, og + kN, none⟩ = some (.string y) := HYB.out w8 hg8
                    have HO8 := Lib.hid ho8
                    have HG8 := Lib.hid hg8
                    have HAT8 := Lib.hid hat8
                    have HN9 := Lib.hid hb9
                    have HBG := Lib.hid hb8
                    clear ho8 hg8 hat8 hb8 hb9
                    refine hK.out _ _ ⟨o1b, hyb⟩ (fun hHeldB => ?_)
                    clear hK K
                    try simp only [Act.put, List.setIfInBounds_toArray]
                    refine wpAnyH_ready (rs := [14]) (by kernel_rfl) (by simp) ?_
                    refine AllReadyH.cons (o := _) rfl (fun K hK => ?_) AllReadyH.nil
                    go_simp
                    refine hK.out _ _ (by assumption) (fun hHeldC => ?_)
                    clear hK K
                    try simp only [Act.put, List.setIfInBounds_toArray, List.set_cons_zero, List.set_cons_succ]
                    refine wpAnyH_ready (rs := [15]) (by kernel_rfl) (by simp) ?_
                    refine AllReadyH.cons (o := _) rfl (fun K hK => ?_) AllReadyH.nil
                    go_simp
                    refine hK.out _ _ ⟨(Blk.keeps HN9.out (Keeps.blk HBG.out (by decide) (grown_set _ _ _ _))).two.2, ?_⟩ (fun hHeldD => ?_)
                    · rw [World.cell?_setCell_far _ _ _ _ (by show g ≠ gr; omega)]; exact hyb
                    clear hK K
                    try simp only [Act.put, List.setIfInBounds_toArray, List.set_cons_zero, List.set_cons_succ]
                    refine wpAnyH_done (by kernel_rfl) ?_ _
                    refine NoPanic.normal ?_
                    clear hHeld hHeldL hHeldA hHeldB hHeldC hHeldD
                    have HN := Lib.hid ((SelAt.toRow (W := wr.drew) (HSQ.out.below ((Below.refl wr.heap.size wr).drew)) HUO.out (by rw [HML.out]; exact HO8.out) HG8.out HAT8.out).same (F' := midF h f ks p (q + 1)) (fun i hi => by
                      cases i with
                      | zero => rfl
                      | succ i =>
                        by_cases hiq : i = q
                        · subst hiq
                          show pickB (f i) (ks.take (if i < i + 1 then p + 1 else p)) = _
                          rw [if_pos (by omega), if_pos rfl, HPK.out, HY.out]
                          show _ = pickB (f i) (ks.take (if i < i then p + 1 else p)) ++ [y]
                          rw [if_neg (by omega)]
                        · show pickB (f i) (ks.take (if i < q + 1 then p + 1 else p)) = _
                          rw [if_neg (show ¬ i + 1 = q + 1 by omega)]
                          show _ = pickB (f i) (ks.take (if i < q then p + 1 else p))
                          by_cases h1 : i < q
                          · rw [if_pos (by omega), if_pos h1]
                          · rw [if_neg (by omega), if_neg h1]))
                    clear g0 g0a o1 o1a pg g1 pg1 o1b hcr hcy
                    go_wp2_with fail
                    go_roundw
                    case rel =>
                      first
                        | exact ⟨q + 1, _, by omega, by go_num, HN⟩
                        | ((repeat apply Exists.intro); exact ⟨⟨q + 1, _, by omega, by go_num, HN⟩, rfl⟩)
                    case measure => simp [intOf]; omega
                  · go_simp
                    refine hK.out _ _ ⟨o1a _, hya _⟩ (fun hHeldA => ?_)
                    clear hK K
                    try simp only [Act.put, List.setIfInBounds_toArray, List.set_cons_zero, List.set_cons_succ]
                    refine wpAnyH_ready (rs := [7]) (by kernel_rfl) (by simp) ?_
                    refine AllReadyH.cons (o := _) rfl (fun K hK => ?_) AllReadyH.nil
                    go_simp
                    refine hK.out _ _ (by assumption) (fun hHeldL => ?_)
                    clear hK K
                    try simp only [Act.put, List.setIfInBounds_toArray, List.set_cons_zero, List.set_cons_succ]
                    refine wpAnyH_ready (rs := [13]) (by kernel_rfl) (by simp) ?_
                    refine AllReadyH.cons (o := _) rfl (fun K hK => ?_) AllReadyH.nil
                    refine step_append_el rfl _ _ 23 rfl w.heap.size 9 i0 _ 1 16 Try.underlying23 hi0 hz0 hz1 hz2 rfl (by decide) (.slice Ao p co) _ _ rfl wr.drew #[.string y] rfl rfl (by simp [Value.oneCell']) HOO.out (by omega) (by omega) hws2 ?_
                    intro g3 cap3 w8 ho8 hg8 hat8
                    have hb8 : Blk w8 g 23 vs2.toArray := Blk.keeps (W := wr.drew) HB4'.out (Keeps.grown (W := wr.drew) HOO.out (by decide) hg8)
                    have hb9 : Blk w8 O 29 #[.slice (some ⟨g2, 0, none⟩) (p + 1) cap2, .slice (some ⟨g, 0, none⟩) n n] := Blk.keeps (W := wr.drew) HB3'.out (Keeps.grown (W := wr.drew) HOO.out (by decide) hg8)
                    have g1 : w8.cell? ⟨g, q, none⟩ = some (.slice Ao p co) := (hb8.cell q).trans HTA.out
                    have pg1 := hb8.free q
                    have o1b := hb9.two.2
                    have hyb : w8.cell? ⟨gr, og + kN, none⟩ = some (.string y) := HYB.out w8 hg8
                    have HO8 := Lib.hid ho8
                    have HG8 := Lib.hid hg8
                    have HAT8 := Lib.hid hat8
                    have HN9 := Lib.hid hb9
                    have HBG := Lib.hid hb8
                    clear ho8 hg8 hat8 hb8 hb9
                    refine hK.out _ _ ⟨o1b, hyb⟩ (fun hHeldB => ?_)
                    clear hK K
                    try simp only [Act.put, List.setIfInBounds_toArray]
                    refine wpAnyH_ready (rs := [14]) (by kernel_rfl) (by simp) ?_
                    refine AllReadyH.cons (o := _) rfl (fun K hK => ?_) AllReadyH.nil
                    go_simp
                    refine hK.out _ _ (by assumption) (fun hHeldC => ?_)
                    clear hK K
                    try simp only [Act.put, List.setIfInBounds_toArray, List.set_cons_zero, List.set_cons_succ]
                    refine wpAnyH_ready (rs := [15]) (by kernel_rfl) (by simp) ?_
                    refine AllReadyH.cons (o := _) rfl (fun K hK => ?_) AllReadyH.nil
                    go_simp
                    refine hK.out _ _ ⟨(Blk.keeps HN9.out (Keeps.blk HBG.out (by decide) (grown_set _ _ _ _))).two.2, ?_⟩ (fun hHeldD => ?_)
                    · rw [World.cell?_setCell_far _ _ _ _ (by show g ≠ gr; omega)]; exact hyb
                    clear hK K
                    try simp only [Act.put, List.setIfInBounds_toArray, List.set_cons_zero, List.set_cons_succ]
                    refine wpAnyH_done (by kernel_rfl) ?_ _
                    refine NoPanic.normal ?_
                    clear hHeld hHeldL hHeldA hHeldB hHeldC hHeldD
                    have HN := Lib.hid ((SelAt.toRow (W := wr.drew) (HSQ.out.below ((Below.refl wr.heap.size wr).drew)) HUO.out (by rw [HML.out]; exact HO8.out) HG8.out HAT8.out).same (F' := midF h f ks p (q + 1)) (fun i hi => by
                      cases i with
                      | zero => rfl
                      | succ i =>
                        by_cases hiq : i = q
                        · subst hiq
                          show pickB (f i) (ks.take (if i < i + 1 then p + 1 else p)) = _
                          rw [if_pos (by omega), if_pos rfl, HPK.out, HY.out]
                          show _ = pickB (f i) (ks.take (if i < i then p + 1 else p)) ++ [y]
                          rw [if_neg (by omega)]
                        · show pickB (f i) (ks.take (if i < q + 1 then p + 1 else p)) = _
                          rw [if_neg (show ¬ i + 1 = q + 1 by omega)]
                          show _ = pickB (f i) (ks.take (if i < q then p + 1 else p))
                          by_cases h1 : i < q
                          · rw [if_pos (by omega), if_pos h1]
                          · rw [if_neg (by omega), if_neg h1]))
                    clear g0 g0a o1 o1a pg g1 pg1 o1b hcr hcy
                    go_wp2_with fail
                    go_roundw
                    case rel =>
                      first
                        | exact ⟨q + 1, _, by omega, by go_num, HN⟩
                        | ((repeat apply Exists.intro); exact ⟨⟨q + 1, _, by omega, by go_num, HN⟩, rfl⟩)
                    case measure => simp [intOf]; omega
                · obtain rfl : q = n := by omega
                  have HNX := Lib.hid (HSQ.out.same (F' := allF h f ks (p + 1)) (fun i hi => by
                    cases i with
                    | zero => rfl
                    | succ i => show pickB (f i) (ks.take (p + 1)) = pickB (f i) (ks.take (if i < q then p + 1 else p)); rw [if_pos (by omega)]))
                  clear hb1 hb2 hb3 hb4 hvl hrs hbw
                  go_wp2_with fail
                  go_roundw
                  case rel => exact ⟨p + 1, _, _, by omega, by go_num, HNX, HIN1⟩
                  case measure => simp [intOf]; omega
          · have HE : Hid (selOk h n f ks = false) := Lib.hid (by rw [HOK.out]; exact inCols_no h ks p hlt (fun hh => hin ⟨hh.1, by omega⟩))
            have HLN := Lib.hid (fun W => l01In_no ks[p] 0 ((h.length : Int) - 1) W hin)
            obtain ⟨x, hx⟩ : ∃ x, x = ks[p] := ⟨_, rfl⟩
            rw [← hx] at hcl HLN
            clear hin hx
            go_wp2_with fail
            refine (HLN.out _).mono ?_
            rintro e w4 ⟨rfl, rfl⟩
            have hK4 := HB2.out
            go_wp2_with (refine wpList_store_row rfl _ _ _ rfl (w.heap.size + 1) #[.slice none 0 0, .slice none 0 0] rfl rfl 29 _ hK4 size_tab rfl (one_tab _ _ _ _ _ _) ?_)
            obtain ⟨c0, c1⟩ := (Blk.row hK4 (cs' := #[.slice none 0 0, .slice none 0 0])).two
            have B9 := below_row HBW.out (g := w.heap.size + 1) (cs := #[.slice none 0 0, .slice none 0 0]) (by omega)
            refine bodyPost_ret (v := .tuple #[.agg #[.slice none 0 0, .slice none 0 0], .bool false]) (by simp [results, Try.results32, go_sem, c0, c1]) rfl ⟨_, _, by rw [HE.out], ?_, B9⟩
            rw [show selH h n f ks = [] by unfold selH; rw [HE.out, if_neg (by decide)], show selN h n f ks = 0 by unfold selN; rw [HE.out, if_neg (by decide)]]
            exact (resT_zero _ w.heap.size _).trd
        · obtain rfl : p = ks.length := by omega
          have HE : Hid (selOk h n f ks = true) := Lib.hid (by rw [HOK.out]; exact inCols_yes h ks (fun j hj => HIN.out j hj hj))
          obtain ⟨q0, q1⟩ := HB3.out.two
          have hK4 := HB2.out
          go_wp2_with (refine wpList_store_row rfl _ _ _ rfl (w.heap.size + 1) #[.slice Ah ks.length ch, .slice (some ⟨g, 0, none⟩) n n] rfl rfl 29 _ hK4 size_tab rfl (one_tab _ _ _ _ _ _) ?_)
          obtain ⟨c0, c1⟩ := (Blk.row hK4 (cs' := #[.slice Ah ks.length ch, .slice (some ⟨g, 0, none⟩) n n])).two
          obtain ⟨_, hb2, _, hb4, hvl, hrs, hbw, _, _⟩ := HST.out
          have hS : ∀ e, 29 ≠ e → Keeps wr (wr.setRow (w.heap.size + 1) #[.slice Ah ks.length ch, .slice (some ⟨g, 0, none⟩) n n]) e := fun e he => Keeps.blk hb2 he (grown_row _ _ _)
          have hb4' := Blk.keeps hb4 (hS _ (by decide))
          have hrs' := hrs.keeps (hS _ (by decide))
          have HT : TRd (wr.setRow (w.heap.size + 1) #[.slice Ah ks.length ch, .slice (some ⟨g, 0, none⟩) n n]) (.slice Ah ks.length ch) (.slice (some ⟨g, 0, none⟩) n n) (selH h n f ks) (selN h n f ks) (selF f ks) := by
            rw [show selN h n f ks = n by unfold selN; rw [HE.out, if_pos rfl], show selH h n f ks = pickB h ks by unfold selH; rw [HE.out, if_pos rfl]]
            have hz := hrs'.1 0 _ rfl
            have e0 : allF h f ks ks.length 0 = pickB h ks := by show pickB h (ks.take ks.length) = _; rw [List.take_length]
            rw [e0] at hz
            refine ⟨Rd.of_own hz, ⟨_, n, rfl, fun h0 => ⟨g, 0, rfl, hb4'.lt, fun i hi => ?_⟩⟩⟩
            obtain ⟨u, hu⟩ : ∃ u, vs[i]? = some u := ⟨_, List.getElem?_eq_getElem (by omega)⟩
            have hr1 := hrs'.1 (i + 1) u (by simpa using hu)
            have e1 : allF h f ks ks.length (i + 1) = selF f ks i := by show pickB (f i) (ks.take ks.length) = _; rw [List.take_length]; rfl
            rw [e1] at hr1
            exact ⟨u, by rw [Nat.zero_add, hb4'.cell i]; simpa using hu, Rd.of_own hr1⟩
          exact bodyPost_ret (v := .tuple #[.agg #[.slice Ah ks.length ch, .slice (some ⟨g, 0, none⟩) n n], .bool true]) (by simp [results, Try.results32, go_sem, c0, c1]) rfl ⟨_, _, by rw [HE.out], HT, below_row hbw (by omega)⟩
    · have HE : Hid (selOk h n f ks = false) := Lib.hid (by rw [HOK.out, decide_eq_false hcc, Bool.false_and])
      have HCC := Lib.hid (fun W => l01In_no (ks.length : Int) 1 8 W hcc)
      clear hcc HOK
      go_enter Try.func32, Try.ntmps32
      go_wp2_with fail
      refine (HIS.out _ B0.out).mono ?_
      rintro e w1 ⟨rfl, hb1⟩
      have B1 := Lib.hid (B0.out.trans (hb1.mono B0.out.size))
      have hK1' := HK1.out.after hb1
      clear hb1 k0 k1
      go_wp2_with fail
      refine (HCC.out _).mono ?_
      rintro e w1b ⟨rfl, rfl⟩
      go_wp2_with (refine wpList_store_row rfl _ _ _ rfl (w.heap.size + 1) #[.slice none 0 0, .slice none 0 0] rfl rfl 29 _ hK1' size_tab rfl (one_tab _ _ _ _ _ _) ?_)
      obtain ⟨c0, c1⟩ := (Blk.row hK1' (cs' := #[.slice none 0 0, .slice none 0 0])).two
      have B9 := below_row B1.out (g := w.heap.size + 1) (cs := #[.slice none 0 0, .slice none 0 0]) (by omega)
      refine bodyPost_ret (v := .tuple #[.agg #[.slice none 0 0, .slice none 0 0], .bool false]) (by simp [results, Try.results32, go_sem, c0, c1]) rfl ⟨_, _, by rw [HE.out], ?_, B9⟩
      rw [show selH h n f ks = [] by unfold selH; rw [HE.out, if_neg (by decide)], show selN h n f ks = 0 by unfold selN; rw [HE.out, if_neg (by decide)]]
      exact (resT_zero _ w.heap.size _).trd
end Go.Proofs.Ytionfjofojfaoaa
