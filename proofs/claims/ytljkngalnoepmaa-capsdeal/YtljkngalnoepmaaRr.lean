/-
  May a config be? The program's Right, the document's own; conditions: the config came in (its name is no longer than a text may be, its numbers are of 64 bits).
-/
import Derived.Test.YtljkngalnoepmaaRra
import Derived.Test.YtljkngalnoepmaaRrb
import Derived.Test.YtljkngalnoepmaaRrc
import Derived.Test.YtljkngalnoepmaaRrd
namespace Go.Proofs.Ytljkngalnoepmaa
open Go.RowKit
set_option linter.unusedVariables false
set_option linter.unusedSimpArgs false

set_option maxRecDepth 100000 in
theorem rright_any (c : Cf) (w : World) (hc : c.Ok) : Calls Try.prog 15 #[.agg c.cells] w fun e w' => e = .returned (.bool (rightB c)) ∧ Below w.heap.size w w' := by
  cases e0 : Nam.validL (Nam.all c.name) with
  | false => exact rr_no c w hc e0
  | true =>
    by_cases h0 : (1 : Int) ≤ (c.kl : Int)
    case neg => exact rr_0 c w hc e0 h0
    by_cases h1 : (c.kl : Int) ≤ 64
    case neg => exact rr_1 c w hc e0 h0 h1
    by_cases h2 : 1 ≤ c.slot
    case neg => exact rr_2 c w hc e0 h0 h1 h2
    by_cases h3 : c.slot ≤ 6
    case neg => exact rr_3 c w hc e0 h0 h1 h2 h3
    by_cases h4 : 0 ≤ c.budget
    case neg => exact rr_4 c w hc e0 h0 h1 h2 h3 h4
    by_cases h5 : c.budget ≤ 1000
    case neg => exact rr_5 c w hc e0 h0 h1 h2 h3 h4 h5
    by_cases h6 : 1 ≤ c.quota
    case neg => exact rr_6 c w hc e0 h0 h1 h2 h3 h4 h5 h6
    by_cases h7 : c.quota ≤ c.slot
    case neg => exact rr_7 c w hc e0 h0 h1 h2 h3 h4 h5 h6 h7
    by_cases h8 : 0 ≤ c.rights
    case neg => exact rr_8 c w hc e0 h0 h1 h2 h3 h4 h5 h6 h7 h8
    by_cases h9 : c.rights ≤ 1023
    case neg => exact rr_9 c w hc e0 h0 h1 h2 h3 h4 h5 h6 h7 h8 h9
    by_cases h10 : (1 : Int) ≤ (c.fl : Int)
    case neg => exact rr_10 c w hc e0 h0 h1 h2 h3 h4 h5 h6 h7 h8 h9 h10
    by_cases h11 : (c.fl : Int) ≤ c.quota * 320
    case neg => exact rr_11 c w hc e0 h0 h1 h2 h3 h4 h5 h6 h7 h8 h9 h10 h11
    exact rr_12 c w hc e0 h0 h1 h2 h3 h4 h5 h6 h7 h8 h9 h10 h11
end Go.Proofs.Ytljkngalnoepmaa
