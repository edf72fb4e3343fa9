/- ParseInt of the program ends as ParseEnd says. -/
import Derived.Test.YtjdbkpckhgncbaaDoorAtoi
namespace Go.Proofs.YtjdbkpckhgncbaaDoor
open Go.RowKit Go.Lib

theorem num_of {s : ByteArray} {v : Int} (h : atoiAll s.data.toList = .ok v) (he : fmtB v = s) : IsNum s v := ⟨atoiAll_bounds h, he⟩
theorem not_num {s : ByteArray} {v : Int} (h : atoiAll s.data.toList = .ok v) (he : fmtB v ≠ s) : NoNum s := fun u hu hs => by
  have := atoi_num ⟨hu, hs⟩
  rw [h] at this
  injection this with this
  subst this
  exact he hs

set_option maxRecDepth 100000 in
set_option maxHeartbeats 400000 in
theorem implParse (s : ByteArray) (w : World) (hs : s.size ≤ 1048576) (hE : Errs w) (hP : Pow w) :
    Calls Tryd.prog 64 #[.string s] w fun e w' => ParseEnd s e ∧ Below w.heap.size w w' := by
  have HA := Lib.hid (atoi_any s w hs hE)
  have HP := Lib.hid hP
  clear hE hP
  go_enter Tryd.func64, Tryd.ntmps64
  go_wp2_with fail
  refine HA.out.mono ?_
  rintro e w1 ⟨hend, hb1⟩
  have HB := Lib.hid hb1
  rcases hend with ⟨v, hv, rfl⟩ | ⟨hno, x, t, p, rfl⟩
  · have hbd := atoiAll_bounds hv
    have HV := Lib.hid hv
    clear hv hb1
    by_cases he : fmtB v = s
    · have hne := sne_no he
      have HE := Lib.hid he
      clear he
      go_wp2_with (go_at_call 33; refine (implFormatInt _ _ hbd.1 hbd.2 (HP.out.below HB.out)).mono ?_; rintro e w2 ⟨rfl, hb2⟩)
      go_ret2
      exact ⟨.inl ⟨v, num_of HV.out HE.out, rfl⟩, HB.out.trans (Below.mono (by assumption) HB.out.size)⟩
    · have hne := sne_yes he
      go_wp2_with (go_at_call 33; refine (implFormatInt _ _ hbd.1 hbd.2 (HP.out.below HB.out)).mono ?_; rintro e w2 ⟨rfl, hb2⟩)
      go_ret2
      exact ⟨.inr ⟨not_num HV.out he, rfl⟩, HB.out.trans (Below.mono (by assumption) HB.out.size)⟩
  · have HN := Lib.hid (atoi_not hno)
    clear hno hb1
    go_wp2
    go_ret2
    exact ⟨.inr ⟨HN.out, rfl⟩, HB.out⟩
end Go.Proofs.YtjdbkpckhgncbaaDoor
