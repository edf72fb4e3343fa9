/- slices.Grow of nothing, slices.Concat of two lists of rows, the program's headAndRows. -/
import Derived.Test.YtionfjofojfaoaaDoorSpecTab
import Derived.Lib.AppendZeros
namespace Go.Proofs.YtionfjofojfaoaaDoor
open Go.RowKit
set_option linter.unusedVariables false

/-- A slice value that is nil, or lies behind an address without a spot. -/
def SlcOk (v : Value) (n : Nat) : Prop := (v = .slice none 0 0 ∧ n = 0) ∨ ∃ g o c, v = .slice (some ⟨g, o, none⟩) n c
theorem SlcOk.of_own {W : World} {base : Nat} {e : TypeId} {size : Nat} {v : Value} {n : Nat} {xs : List Value} (h : W.ownsRow base e size v n xs) : SlcOk v n :=
  h.2.imp id fun ⟨g, cap, cur, h1, _⟩ => ⟨g, 0, cap, h1⟩
/-- An append of a whole slice that reads as ys, to one that the call owns. -/
theorem run_app_rd {P : Program} (W : World) (base : Nat) (t ty e : TypeId) (i : TypeInfo) (z : Value) (bytes : Nat) (ht : P.underlying t = some (.slice e)) (hi : P.info? e = some i) (hz : i.zero = some z) (hsize : i.size = 1) (hby : i.bytes = bytes) (hzs : z.cells.size = 1)
    (v x : Value) (n : Nat) (xs ys : List Value) (hown : W.ownsRow base e 1 v n xs) (hr : Rd W x ys) (hs : SlcOk x ys.length) (h1 : ∀ u ∈ ys, u.oneCell' = true) (hn : n + ys.length ≤ 9223372036854775807) (hbytes : (n + ys.length) * bytes ≤ 140737488355328) (hb : base ≤ W.heap.size) :
    ∃ v3 w3, (Builtin.append_ #[t, t] ty #[v, x]).run P W = .ok v3 w3 ∧ w3.ownsRow base e 1 v3 (n + ys.length) (xs ++ ys) ∧ W.grownBy w3 v.ownBlock := by
  rcases hs with ⟨rfl, h0⟩ | ⟨g, o, c, rfl⟩
  · have hy : ys = [] := List.length_eq_zero_iff.1 h0
    subst hy
    exact ⟨v, W, run_append_owned_none (P := P) W base t ty e i 1 ht hi v n xs hown, by simpa using hown, ⟨rfl, rfl, rfl, Nat.le_refl _, fun _ _ _ => rfl⟩⟩
  · have hnews : ∀ j u, ys[j]? = some u → W.cell? ((⟨g, o, none⟩ : Addr).add j) = some u := by
      intro j u hu
      obtain ⟨A, c', he, hc⟩ := hr
      simp at he
      obtain ⟨rfl, _⟩ := he
      have hj := (List.getElem?_eq_some_iff.1 hu).1
      obtain ⟨g', o', hA, _, hcell⟩ := hc (by omega)
      simp at hA
      obtain ⟨rfl, rfl⟩ := hA
      rw [show ((⟨g, o, none⟩ : Addr).add j) = ⟨g, o + j, none⟩ by simp [Addr.add]]
      exact hcell j u hu
    obtain ⟨v3, w3, hr3, ho3, hg3, _⟩ := run_append_own (P := P) W base t ty e i z 1 bytes ht hi hz hsize hby hzs (by decide) v n xs hown ⟨g, o, none⟩ ys.length c ys (by simp) hnews h1 (by unfold maxLen; omega) hbytes hb
    exact ⟨v3, w3, hr3, ho3, hg3⟩
theorem rdT_vals {W : World} {base : Nat} {v : Value} {n : Nat} {vs : List Value} {f : Nat → List ByteArray} (h : W.ownsRow base 23 1 v n vs) (hr : ∀ (i : Nat) (u : Value), vs[i]? = some u → Rd W u (strs (f i))) : RdT W v n f := by
  have hvl : vs.length = n := own_len h
  obtain ⟨A, ca, hv, hc⟩ := Rd.of_own h
  rw [hvl] at hv hc
  refine ⟨A, ca, hv, fun h0 => ?_⟩
  obtain ⟨g, o, hA, hg, hcell⟩ := hc h0
  refine ⟨g, o, hA, hg, fun i hi => ?_⟩
  have hu := List.getElem?_eq_getElem (l := vs) (i := i) (by omega)
  exact ⟨_, hcell i _ hu, hr i _ hu⟩
theorem own_zero {W : World} {base : Nat} {e : TypeId} (Z : Array Value) (cap : Nat) (hZ : Z.size = cap) (hc : cap ≤ maxLen) (hb : base ≤ W.heap.size) : (W.alloc (.cells Z e)).ownsRow base e 1 (.slice (some ⟨W.heap.size, 0, none⟩) 0 cap) 0 [] :=
  World.ownsRow_made W Z cap hb hc (by omega)
theorem Tryd.infoRowCC : (Tryd.prog.info? 23).map (fun i => (i.zero, i.size, i.bytes)) = some (some (.slice none 0 0), 1, 24) := by kernel_rfl
set_option maxRecDepth 100000 in
set_option maxHeartbeats 2000000 in
theorem growNone (n : Nat) (w : World) (hn : n ≤ 4194304) :
    Calls Tryd.prog 61 #[.slice none 0 0, .int .i64 n] w fun e w' => ∃ v, e = .returned v ∧ w'.ownsRow w.heap.size 23 1 v 0 [] ∧ Below w.heap.size w w' := by
  rcases Nat.eq_zero_or_pos n with rfl | h0
  · go_enter Tryd.func61, Tryd.ntmps61
    go_wp2
    go_ret
    exact ⟨_, rfl, World.ownsRow_nil _ _ _ _, Below.refl _ _⟩
  · obtain ⟨i0, hi, hz0, hz1, hz2⟩ := info_parts Tryd.infoRowCC
    have happ := Lib.run_append_nil_zeros (P := Tryd.prog) w 24 3 24 23 i0 (.slice none 0 0) .i64 .i64 Tryd.underlying24 Tryd.underlying3 hi hz0 n h0 (by omega) (by omega) (by rw [hz2]; omega)
    have hge := grownCap_ge w n 0 23
    have hle := grownCap_le_maxLen w n 0 23 (by unfold maxLen; omega)
    generalize grownCap w n 0 23 = cap at happ hge hle
    have hsz : (Builtin.zeroCells (Value.slice none 0 0).cells n ++ Builtin.zeroCells (Value.slice none 0 0).cells (cap - n)).size = cap := by
      rw [Array.size_append, size_zeroCells, size_zeroCells]
      simp [Value.cells]
      omega
    generalize (Builtin.zeroCells (Value.slice none 0 0).cells n ++ Builtin.zeroCells (Value.slice none 0 0).cells (cap - n)) = Z at happ hsz
    have HA := Lib.hid happ
    have HO := Lib.hid (own_zero (W := w.drew) (base := w.heap.size) (e := 23) Z cap hsz hle (Nat.le_refl _))
    have HB := Lib.hid (show Below w.heap.size w (w.drew.alloc (.cells Z 23)) from ((Below.refl w.heap.size w).drew).alloc (Nat.le_refl _) _)
    unfold maxLen at hle
    clear happ hsz
    go_enter Tryd.func61, Tryd.ntmps61
    go_wp2_with (at_builtin; refine Lib.wpList_append_run _ rfl _ _ _ _ rfl _ _ rfl rfl _ _ HA.out ?_)
    go_ret
    exact ⟨_, rfl, HO.out, HB.out⟩
set_option maxRecDepth 100000 in
set_option maxHeartbeats 4000000 in
theorem concatTwo (g : Nat) (v1 v2 : Value) (xs ys : List Value) (w : World) (hb : Blk w g 24 #[v1, v2]) (h1 : Rd w v1 xs) (h2 : Rd w v2 ys) (s1 : SlcOk v1 xs.length) (s2 : SlcOk v2 ys.length) (o1 : ∀ u ∈ xs, u.oneCell' = true) (o2 : ∀ u ∈ ys, u.oneCell' = true)
    (hx : xs.length ≤ 1048576) (hy : ys.length ≤ 1048576) :
    Calls Tryd.prog 50 #[.slice (some ⟨g, 0, none⟩) 2 2] w fun e w' => ∃ v, e = .returned v ∧ w'.ownsRow w.heap.size 23 1 v (xs.length + ys.length) (xs ++ ys) ∧ Below w.heap.size w w' := by
  obtain ⟨iR, hiR, hzR0, hzR1, hzR2⟩ := info_parts Tryd.infoRowCC
  have HAP := Lib.hid (fun (W : World) (v x : Value) (n : Nat) (us zs : List Value) (hown : W.ownsRow w.heap.size 23 1 v n us) (hr : Rd W x zs) (hs : SlcOk x zs.length) (ho : ∀ u ∈ zs, u.oneCell' = true) (hn : n + zs.length ≤ 2097152) (hb : w.heap.size ≤ W.heap.size) =>
    run_app_rd (P := Tryd.prog) W w.heap.size 24 24 23 iR (.slice none 0 0) 24 Tryd.underlying24 hiR hzR0 hzR1 hzR2 rfl v x n us zs hown hr hs ho (by omega) (by omega) hb)
  have HR1 := Lib.hid (fun W (hb : Below w.heap.size w W) => h1.below hb)
  have HR2 := Lib.hid (fun W (hb : Below w.heap.size w W) => h2.below hb)
  have HS1 := Lib.hid s1
  have HS2 := Lib.hid s2
  have HO1 := Lib.hid o1
  have HO2 := Lib.hid o2
  have HBK := Lib.hid hb
  have hgl := hb.lt
  obtain ⟨A1, c1, rfl, _⟩ := h1
  obtain ⟨A2, c2, rfl, _⟩ := h2
  have c0 : w.cell? ⟨g, 0, none⟩ = some (.slice A1 xs.length c1) := hb.cell 0
  have c1' : w.cell? ⟨g, 1, none⟩ = some (.slice A2 ys.length c2) := hb.cell 1
  clear s1 s2 o1 o2 hb hiR hzR0 hzR1 hzR2
  go_enter Tryd.func50, Tryd.ntmps50
  go_wp2_with fail
  go_loopw [3, 11] (fun s i wr => ((i = .int .i64 0 ∧ s = .int .i64 0) ∨ (i = .int .i64 1 ∧ s = .int .i64 xs.length) ∨ (i = .int .i64 2 ∧ s = .int .i64 ((xs.length + ys.length : Nat) : Int))) ∧ wr = w) (fun _ i _ => 2 - (intOf i).toNat)
  case atStart => exact ⟨.inl ⟨rfl, rfl⟩, rfl⟩
  case round =>
    obtain ⟨⟨rfl, rfl⟩ | ⟨rfl, rfl⟩ | ⟨rfl, rfl⟩, rfl⟩ := hrel
    · go_wp2_with fail
      go_roundw
      case rel => exact ⟨.inr (.inl ⟨rfl, rfl⟩), trivial⟩
      case measure => simp [intOf]
    · go_wp2_with fail
      go_roundw
      case rel => exact ⟨.inr (.inr ⟨rfl, by go_num⟩), trivial⟩
      case measure => simp [intOf]
    · have hcall := growNone (xs.length + ys.length) wr (by omega)
      have HC := Lib.hid hcall
      clear hcall
      go_wp2_with fail
      refine HC.out.mono ?_
      rintro e w1 ⟨v, rfl, ho, hb1⟩
      have HOW := Lib.hid ho
      have HB1 := Lib.hid hb1
      obtain ⟨Av, cv, rfl, _⟩ := Rd.of_own ho
      clear ho hb1 HC
      go_wp2_with fail
      go_loopw [6, 27] (fun v i W => ((i = .int .i64 0 ∧ Hid (W.ownsRow wr.heap.size 23 1 v 0 [])) ∨ (i = .int .i64 1 ∧ Hid (W.ownsRow wr.heap.size 23 1 v xs.length xs)) ∨ (i = .int .i64 2 ∧ Hid (W.ownsRow wr.heap.size 23 1 v (xs.length + ys.length) (xs ++ ys)))) ∧ Hid (Below wr.heap.size wr W)) (fun _ i _ => 2 - (intOf i).toNat)
      case atStart => exact ⟨.inl ⟨rfl, HOW⟩, HB1⟩
      case round =>
        obtain ⟨hcase, HBE⟩ := hrel
        have a0 := (HBE.out.cell (p := ⟨g, 0, none⟩) hgl).trans c0
        have a1 := (HBE.out.cell (p := ⟨g, 1, none⟩) hgl).trans c1'
        rcases hcase with ⟨rfl, HO⟩ | ⟨rfl, HO⟩ | ⟨rfl, HO⟩
        · obtain ⟨v3, w3, hr3, ho3, hg3⟩ := HAP.out _ _ _ _ _ _ HO.out (HR1.out _ HBE.out) HS1.out HO1.out (by omega) HBE.out.size
          have HR3 := Lib.hid hr3
          have HO3 := Lib.hid (own_more ho3 (Nat.zero_add _) (List.nil_append _))
          have HB3 := Lib.hid (HBE.out.grown hg3 HBE.out.size (fun q hq => (World.ownsRow.lt HO.out q hq).1))
          clear hr3 ho3 hg3
          go_wp2_with (at_builtin; refine wpList_append_eq rfl _ _ 24 rfl _ _ rfl rfl _ _ HR3.out ?_)
          go_roundw
          case rel => exact ⟨.inr (.inl ⟨rfl, HO3⟩), HB3⟩
          case measure => simp [intOf]
        · obtain ⟨v3, w3, hr3, ho3, hg3⟩ := HAP.out _ _ _ _ _ _ HO.out (HR2.out _ HBE.out) HS2.out HO2.out (by omega) HBE.out.size
          have HR3 := Lib.hid hr3
          have HO3 := Lib.hid ho3
          have HB3 := Lib.hid (HBE.out.grown hg3 HBE.out.size (fun q hq => (World.ownsRow.lt HO.out q hq).1))
          clear hr3 ho3 hg3
          go_wp2_with (at_builtin; refine wpList_append_eq rfl _ _ 24 rfl _ _ rfl rfl _ _ HR3.out ?_)
          go_roundw
          case rel => exact ⟨.inr (.inr ⟨rfl, HO3⟩), HB3⟩
          case measure => simp [intOf]
        · clear a0 a1
          go_wp2_with fail
          go_ret
          exact ⟨_, rfl, HO.out, HBE.out⟩
set_option maxRecDepth 100000 in
set_option maxHeartbeats 2000000 in
theorem implHeadOwn (h : List ByteArray) (n : Nat) (f : Nat → List ByteArray) (hv rv : Value) (w0 w : World) (hw : Below w0.heap.size w0 w) (hh : Rd w0 hv (strs h)) (hr : RdT w0 rv n f) (hs : SlcOk rv n) (hn : n ≤ 1048576) :
    Calls Tryd.prog 26 #[.agg #[hv, rv]] w fun e w' => ∃ v c, e = .returned (.slice v (1 + n) c) ∧ RdT w' (.slice v (1 + n) c) (1 + n) (rowsA h f) ∧ Below w.heap.size w w' ∧ ∀ W, Below w0.heap.size w0 W → Keeps w' W 23 → RdT W (.slice v (1 + n) c) (1 + n) (rowsA h f) := by
  obtain ⟨us, hul, hur, huc⟩ := hr.vals
  have hrd : Rd w0 rv us := by
    rcases hs with ⟨rfl, h0⟩ | ⟨g, o, c, rfl⟩
    · exact ⟨none, 0, by rw [hul, h0], fun h => by omega⟩
    · refine ⟨some ⟨g, o, none⟩, c, by rw [hul], fun h0 => ?_⟩
      have hu0 := List.getElem?_eq_getElem (l := us) (i := 0) h0
      exact ⟨g, o, rfl, (huc g o c rfl 0 _ hu0).2, fun j u hu => (huc g o c rfl j u hu).1⟩
  have HUR := Lib.hid (fun W (hb : Below w0.heap.size w0 W) i u hu => (hur i u hu).below hb)
  have HHD := Lib.hid (fun W (hb : Below w0.heap.size w0 W) => hh.below hb)
  have HRD := Lib.hid (fun W (hb : Below w.heap.size w W) => hrd.below (hw.trans (hb.mono hw.size)))
  have HW0 := Lib.hid hw
  have HSL := Lib.hid hs
  have HUL := Lib.hid hul
  have HON : Hid (∀ u ∈ us, u.oneCell' = true) := Lib.hid (by
    intro u hu
    obtain ⟨i, hi⟩ := List.getElem?_of_mem hu
    obtain ⟨_, _, rfl, _⟩ := hur i u hi
    rfl)
  obtain ⟨A, c, rfl, _⟩ := hh
  obtain ⟨B, d, rfl⟩ := hr.slc
  obtain ⟨hl, hhl⟩ : ∃ k, k = (strs h).length := ⟨_, rfl⟩
  rw [← hhl] at HHD ⊢
  clear hhl hr hs hur huc hul hrd hw
  have s1 : Below (w.alloc (.cells #[.slice A hl c, .slice B n d] 26)).heap.size (w.alloc (.cells #[.slice A hl c, .slice B n d] 26)) ((w.alloc (.cells #[.slice A hl c, .slice B n d] 26)).alloc (.cells #[.slice A hl c] 23)) := (Below.refl _ _).alloc (Nat.le_refl _) _
  have hE := Blk.new (w.alloc (.cells #[.slice A hl c, .slice B n d] 26)) 23 #[.slice A hl c]
  have hF := Blk.new ((w.alloc (.cells #[.slice A hl c, .slice B n d] 26)).alloc (.cells #[.slice A hl c] 23)) 24 #[.slice (some ⟨w.heap.size + 1, 0, none⟩) 1 1, .slice B n d]
  have hE2 := hE.after ((Below.refl _ _).alloc (Nat.le_refl _) (.cells #[.slice (some ⟨w.heap.size + 1, 0, none⟩) 1 1, .slice B n d] 24))
  rw [show (w.alloc (.cells #[.slice A hl c, .slice B n d] 26)).heap.size = w.heap.size + 1 by simp] at hE2
  rw [show ((w.alloc (.cells #[.slice A hl c, .slice B n d] 26)).alloc (.cells #[.slice A hl c] 23)).heap.size = w.heap.size + 1 + 1 by simp] at hF
  have HF := Lib.hid hF
  have B0 := Lib.hid (by go_grown : Below w.heap.size w (((w.alloc (.cells #[.slice A hl c, .slice B n d] 26)).alloc (.cells #[.slice A hl c] 23)).alloc (.cells #[.slice (some ⟨w.heap.size + 1, 0, none⟩) 1 1, .slice B n d] 24)))
  have HE : Hid (Rd (((w.alloc (.cells #[.slice A hl c, .slice B n d] 26)).alloc (.cells #[.slice A hl c] 23)).alloc (.cells #[.slice (some ⟨w.heap.size + 1, 0, none⟩) 1 1, .slice B n d] 24)) (.slice (some ⟨w.heap.size + 1, 0, none⟩) 1 1) [.slice A hl c]) := Lib.hid ⟨_, _, rfl, fun _ => ⟨_, 0, rfl, hE2.lt, fun j u hu => by
    have hj : j = 0 := by have := (List.getElem?_eq_some_iff.1 hu).1; simp at this; omega
    subst hj
    have := hE2.cell 0
    simp at hu
    subst hu
    exact this⟩⟩
  have hcall := concatTwo (w.heap.size + 1 + 1) _ _ _ us _ hF HE.out (HRD.out _ B0.out) (.inr ⟨_, 0, _, rfl⟩) (by rw [HUL.out]; exact HSL.out) (by simp; rfl) HON.out (by simp) (by rw [HUL.out]; exact hn)
  rw [HUL.out] at hcall
  have HC := Lib.hid hcall
  clear hcall hE hF hE2 s1
  go_enter Tryd.func26, Tryd.ntmps26
  go_wp2_with fail
  refine HC.out.mono ?_
  rintro e w1 ⟨v, rfl, ho, hb⟩
  have B1 := Lib.hid (B0.out.trans (hb.mono B0.out.size))
  have HRW : Hid (∀ W, Below w0.heap.size w0 W → Keeps w1 W 23 → RdT W v (1 + n) (rowsA h f)) := Lib.hid (fun W hbW hkW => rdT_vals (f := rowsA h f) (own_keeps ho hkW) (by
    intro i u hu
    cases i with
    | zero =>
      simp at hu
      subst hu
      exact HHD.out _ hbW
    | succ i =>
      simp at hu
      exact HUR.out _ hbW i u hu))
  have HRT : Hid (RdT w1 v (1 + n) (rowsA h f)) := Lib.hid (HRW.out _ (HW0.out.trans (B1.out.mono HW0.out.size)) (fun _ _ h => h))
  obtain ⟨A1, c1, rfl⟩ := HRT.out.slc
  clear ho hb
  go_wp2_with fail
  go_ret
  exact ⟨_, _, rfl, HRT.out, B1.out, HRW.out⟩
theorem implHeadRows (h : List ByteArray) (n : Nat) (f : Nat → List ByteArray) (hv rv : Value) (w : World) (hh : Rd w hv (strs h)) (hr : RdT w rv n f) (hs : SlcOk rv n) (hn : n ≤ 1048576) :
    Calls Tryd.prog 26 #[.agg #[hv, rv]] w fun e w' => ∃ v c, e = .returned (.slice v (1 + n) c) ∧ RdT w' (.slice v (1 + n) c) (1 + n) (rowsA h f) ∧ Below w.heap.size w w' :=
  (implHeadOwn h n f hv rv w w (Below.refl _ _) hh hr hs hn).mono fun _ _ ⟨v, c, a, b, d, _⟩ => ⟨v, c, a, b, d⟩
end Go.Proofs.YtionfjofojfaoaaDoor
