/-
  What a request leaves is of 64 bits again; conditions: as each states.
-/
import Derived.Test.YtcokpdhhpaahgaaDoorUo
namespace Go.Proofs.YtcokpdhhpaahgaaDoor
open Go.RowKit
set_option linter.unusedVariables false
set_option linter.unusedSimpArgs false

theorem begin_ok {m : Mt} {bs : List Int} {f : Fc} {quota : Int} (hm : m.Ok) (hb : Byt bs) : ((beginM m bs f quota).1).Ok := by
  unfold beginM
  split
  · exact hm
  · split
    · exact hm
    · rename_i h1 h2
      split
      · exact hm
      · exact ok_gott (ok_com (ok_phase (setOth_ok hm zeroI_ok) i64_one) (told_is hb (Classical.not_not.1 h2))) i64_zero
theorem write_ok {m : Mt} {num : Int} {len : Nat} {f : Fc} (hm : m.Ok) (hg : 0 ≤ m.gott ∧ m.gott ≤ 6) : ((writeM m num len f).1).Ok := by
  unfold writeM
  split
  · exact hm
  split
  · exact hm
  split
  · exact hm
  split
  · exact hm
  exact ok_gott hm (by unfold I64; omega)
theorem verify_ok {m : Mt} {f : Fc} (hm : m.Ok) : ((verifyM m f).1).Ok := by
  unfold verifyM
  split
  · exact hm
  split
  · exact hm
  split
  · exact hm
  split
  · exact hm
  exact ok_phase hm i64_two
theorem commit_ok {m : Mt} {f : Fc} (hm : m.Ok) : ((commitM m f).1).Ok := by
  unfold commitM
  split
  · exact hm
  split
  · exact hm
  exact ok_trials (ok_gott (ok_com (ok_phase (setOth_ok hm hm.com) (by unfold I64; omega)) zeroI_ok) i64_zero) i64_two
theorem boot_ok {m : Mt} {f : Fc} (hm : m.Ok) : ((bootM m f).1).Ok := by
  unfold bootM
  split
  · exact hm
  split
  · exact ok_trials hm (by have := hm.trials; unfold I64 at *; omega)
  exact over_ok hm
theorem confirm_ok {m : Mt} {f : Fc} (hm : m.Ok) (ha : m.act = 0 ∨ m.act = 1) : ((confirmM m f).1).Ok := by
  unfold confirmM
  split
  · exact hm
  split
  · exact hm
  exact ok_trials (ok_phase (ok_act (ok_least hm (conf_i64 hm)) (by unfold I64; omega)) i64_zero) i64_zero
theorem roll_ok {m : Mt} {f : Fc} (hm : m.Ok) : ((rollM m f).1).Ok := by
  unfold rollM
  split
  · exact hm
  split
  · exact hm
  exact over_ok hm
theorem abort_ok {m : Mt} {f : Fc} (hm : m.Ok) : ((abortM m f).1).Ok := by
  unfold abortM
  split
  · exact hm
  split
  · exact hm
  exact ok_gott (ok_com (ok_phase hm i64_zero) zeroI_ok) i64_zero
theorem step_ok {m : Mt} {kind num : Int} {bs : List Int} {f : Fc} {quota : Int} (hm : m.Ok) (hb : Byt bs) : ((stepM m kind num bs f quota).1).Ok := by
  unfold stepM
  by_cases hr : rightB m = false
  · rw [if_pos hr]; exact hm
  rw [if_neg hr]
  have hr' : rightB m = true := by cases h : rightB m <;> simp_all
  have hi := right_in hr'
  split
  · exact begin_ok hm hb
  split
  · exact write_ok hm hi.gott
  split
  · exact verify_ok hm
  split
  · exact commit_ok hm
  split
  · exact boot_ok hm
  split
  · exact confirm_ok hm hi.act
  split
  · exact roll_ok hm
  split
  · exact abort_ok hm
  split
  · exact hm
  exact hm
end Go.Proofs.YtcokpdhhpaahgaaDoor
