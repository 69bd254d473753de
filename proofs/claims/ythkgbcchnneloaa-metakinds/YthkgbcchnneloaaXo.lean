/-
  Where the active slot lies; conditions: the digests are of 32 bytes.
-/
import Derived.Test.YthkgbcchnneloaaDi
import Derived.Test.YthkgbcchnneloaaSt
namespace Go.Proofs.Ythkgbcchnneloaa
open Go.RowKit
set_option linter.unusedVariables false
set_option linter.unusedSimpArgs false

/-- The active slot's version, in memory. -/
theorem own_at {w : World} {g : Nat} {m : Mt} {kk : Nat} (hg : Has w g 27 m.cells) (h : m.Ok) (hk : m.act = (kk : Int)) (h2 : kk < 2) : w.cell? ⟨g, 1 + kk * 34, none⟩ = some (.int .i64 m.own.ver) := by
  match kk, h2 with
  | 0, _ => rw [show m.own = m.h0 by unfold Mt.own; rw [if_pos (by omega)]]; exact (seen_of hg h).v0
  | 1, _ => rw [show m.own = m.h1 by unfold Mt.own; rw [if_neg (by omega)]]; exact (seen_of hg h).v1
end Go.Proofs.Ythkgbcchnneloaa
