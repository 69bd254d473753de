/-
  The program's Cut; conditions: the flash is there, the mask is short.
-/
import Derived.Test.YtclephjnokbaoaaOps
namespace Go.Proofs.Ytclephjnokbaoaa
open Go.RowKit
set_option linter.unusedVariables false
set_option linter.unusedSimpArgs false

theorem only_grown {w w' : World} {v : Value} {p : Nat → Prop} (hg : w.grownBy w' v.ownBlock) (hv : v = .slice none 0 0) : Below w.heap.size w w' := by
  subst hv
  exact (Below.refl _ w).grown hg (Nat.le_refl _) (fun k hk => by cases hk)
theorem built51m (h : Int) (A : Option Addr) (n z : Nat) : Try.prog.built 51 [(0, .bool true), (1, .int .i64 h), (2, .slice A n z)] = some (cutCells true h (.slice A n z)) := by kernel_rfl
end Go.Proofs.Ytclephjnokbaoaa
