/-
  May it be kept? The program's Right; conditions: the digests are of 32 bytes, the numbers of 64 bits.
-/
import Derived.Test.YtcokpdhhpaahgaaDoorIb
import Derived.Test.YtcokpdhhpaahgaaDoorFt0
import Derived.Test.YtcokpdhhpaahgaaDoorFt1
namespace Go.Proofs.YtcokpdhhpaahgaaDoor
open Go.RowKit
set_option linter.unusedVariables false
set_option linter.unusedSimpArgs false

theorem fits_any (m : Mt) (w : World) (hm : m.Ok) (hi : In m) : Calls Tryd.prog 39 #[.agg m.cells] w fun e w' => e = .returned (.bool (fitB m)) ∧ Below w.heap.size w w' := by
  rcases hi.act with ha | ha
  · exact fits0_any m w hm hi ha
  · exact fits1_any m w hm hi ha
set_option maxRecDepth 100000 in
theorem right_any (m : Mt) (w : World) (hm : m.Ok) : Calls Tryd.prog 19 #[.agg m.cells] w fun e w' => e = .returned (.bool (rightB m)) ∧ Below w.heap.size w w' := by
  have C0 : Hid (Below w.heap.size w (w.alloc (.cells m.cells 27))) := Lib.hid ((Below.refl _ _).alloc (Nat.le_refl _) _)
  have H0 := Lib.hid (has_new w 27 m.cells)
  have S0 := Lib.hid (seen_of H0.out hm)
  have HX := Lib.hid (inBounds_any m (w.alloc (.cells m.cells 27)) hm)
  cases e1 : inB m with
  | false =>
    rw [e1] at HX
    have EF : Hid (false = rightB m) := Lib.hid (by unfold rightB; rw [e1]; rfl)
    clear e1
    go_enter Tryd.func19, Tryd.ntmps19
    go_wp2_with (first
      | (refine wpList_ld 27 _ rfl _ _ S0.out.all rfl rfl ?_)
      | (go_at_call 38; (with_reducible refine HX.out.mono ?_); rintro e w1 ⟨rfl, b1⟩; clear HX; have C1 := Lib.hid (C0.out.trans (b1.mono C0.out.size)); clear b1))
    go_ret
    exact ⟨ret_bool EF.out, C1.out⟩
  | true =>
    have HI := Lib.hid (in_of e1)
    rw [e1] at HX
    have EF : Hid (fitB m = rightB m) := Lib.hid (by unfold rightB; rw [e1]; rfl)
    clear e1
    go_enter Tryd.func19, Tryd.ntmps19
    go_wp2_with (first
      | (refine wpList_ld 27 _ rfl _ _ S0.out.all rfl rfl ?_)
      | (go_at_call 38; (with_reducible refine HX.out.mono ?_); rintro e w1 ⟨rfl, b1⟩; clear HX; have C1 := Lib.hid (C0.out.trans (b1.mono C0.out.size)); have H1 := Lib.hid (H0.out.kept b1); clear b1; have S1 := Lib.hid (seen_of H1.out hm); have HY := Lib.hid (fits_any m w1 hm HI.out))
      | (refine wpList_ld 27 _ rfl _ _ S1.out.all rfl rfl ?_)
      | (go_at_call 39; (with_reducible refine HY.out.mono ?_); rintro e w2 ⟨rfl, b2⟩; clear HY; have C2 := Lib.hid (C1.out.trans (b2.mono C1.out.size)); clear b2))
    go_ret
    exact ⟨ret_bool EF.out, C2.out⟩
end Go.Proofs.YtcokpdhhpaahgaaDoor
