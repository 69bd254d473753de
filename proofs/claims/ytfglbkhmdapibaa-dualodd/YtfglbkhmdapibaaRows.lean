/-
  No cell of these rows narrows 'for every input' (looked for: loops, veiled, ifaces, maps, wideKeys, modest, calm, conditions, laid).
  DERIVED. THE GIVEN ROWS OF THIS SEAT. 3 by the template 'for every input the law returns true; each argument reads behind the call as it read before'; 0 by the template 'total and deterministic' (their statements: YtfglbkhmdapibaaTotals.lean).
  GIVEN WITH THE SEED: the statements are not yours to turn. If you find one false, say at which input.
  Laid BY PROGRAM, IN A SANDBOX (cutbox-rows.mjs): the forced cells as the released guide's own fill.sh prints them over the translation 1d0718df0b550f11… (all of the seat's roots in one cut). By AI agents, Wed Nov 11 2026. No macro, syntax, notation, axiom, sorry.
-/
import Derived.Test.YtfglbkhmdapibaaChecked
import GoSem.Claim
import GoSem.ClaimJoined
import GoSem.ClaimMapViews
import Derived.JoinedTies
import Derived.KernelRfl
namespace Go.Proofs.Ytfglbkhmdapibaa
/- THE CELL 'sum', in the pinned program and in every row, IS THE sha256 OF THE DUMP (.gsa) THAT YtfglbkhmdapibaaProg.lean LOADS. Nothing in Lean hashes anything: it is a label: what it is worth is what the hold of that sum in a sandbox is worth. -/
noncomputable def Try.pinned : Pinned := { name := "ytfglbkhmdapibaa", sum := "1d0718df0b550f11971c9c91a16ccdf36b66e208ba2ca57a3f4ed285825fcfa5", checked := Try.checked }
namespace Rows
def none {H : Type} : Left H := { results := [], args := [] }

/-- 'waterlinelaw8.DualTells': WHATEVER THE INPUT: true; the input reads as it did. -/
def dualTellsSpec : ChangeSpec := { name := "dualTells", fn := fun _ => fun
  | [d] => { results := [.lit (.bool true)], args := [d] }
  | _ => none }
def dualTellsRow : OpenClaim := { program := "ytfglbkhmdapibaa", sum := "1d0718df0b550f11971c9c91a16ccdf36b66e208ba2ca57a3f4ed285825fcfa5", func := "waterline/waterlinelaw8.DualTells", spec := "dualTells", apart := false }
def DualTellsSaid : Prop := dualTellsRow.holds Try.pinned (OpenSpec.ofChange dualTellsSpec)

/-- ITS FALSE NEIGHBOUR: 'it returns false'. Refute it at one input. -/
def dualTellsWrong : ChangeSpec := { name := "dualTells", fn := fun _ => fun
  | [d] => { results := [.lit (.bool false)], args := [d] }
  | _ => none }
def DualTellsWrongFalsely : Prop := dualTellsRow.holds Try.pinned (OpenSpec.ofChange dualTellsWrong)

/-- 'waterlinelaw8.DualCuts': WHATEVER THE INPUT: true; the input reads as it did. -/
def dualCutsSpec : ChangeSpec := { name := "dualCuts", fn := fun _ => fun
  | [d1, d2] => { results := [.lit (.bool true)], args := [d1, d2] }
  | _ => none }
def dualCutsRow : OpenClaim := { program := "ytfglbkhmdapibaa", sum := "1d0718df0b550f11971c9c91a16ccdf36b66e208ba2ca57a3f4ed285825fcfa5", func := "waterline/waterlinelaw8.DualCuts", spec := "dualCuts", apart := false }
def DualCutsSaid : Prop := dualCutsRow.holds Try.pinned (OpenSpec.ofChange dualCutsSpec)

/-- ITS FALSE NEIGHBOUR: 'it returns false'. Refute it at one input. -/
def dualCutsWrong : ChangeSpec := { name := "dualCuts", fn := fun _ => fun
  | [d1, d2] => { results := [.lit (.bool false)], args := [d1, d2] }
  | _ => none }
def DualCutsWrongFalsely : Prop := dualCutsRow.holds Try.pinned (OpenSpec.ofChange dualCutsWrong)

/-- 'waterlinelaw8.DualOdd': WHATEVER THE INPUT: true; the input reads as it did. -/
def dualOddSpec : ChangeSpec := { name := "dualOdd", fn := fun _ => fun
  | [d1, d2] => { results := [.lit (.bool true)], args := [d1, d2] }
  | _ => none }
def dualOddRow : OpenClaim := { program := "ytfglbkhmdapibaa", sum := "1d0718df0b550f11971c9c91a16ccdf36b66e208ba2ca57a3f4ed285825fcfa5", func := "waterline/waterlinelaw8.DualOdd", spec := "dualOdd", apart := false }
def DualOddSaid : Prop := dualOddRow.holds Try.pinned (OpenSpec.ofChange dualOddSpec)

/-- ITS FALSE NEIGHBOUR: 'it returns false'. Refute it at one input. -/
def dualOddWrong : ChangeSpec := { name := "dualOdd", fn := fun _ => fun
  | [d1, d2] => { results := [.lit (.bool false)], args := [d1, d2] }
  | _ => none }
def DualOddWrongFalsely : Prop := dualOddRow.holds Try.pinned (OpenSpec.ofChange dualOddWrong)

/- THE SECOND FORM. 'bulk': how many values and letters a reading holds, each counted each time it is reached (what is shared counts as often as it is met; a slice's spare places count too). A statement '..UptoSaid' is the law's where the arguments, and the package variables that the reading takes, are together of bulk at most 1048576: NARROWER than '..Said'. Prove '..Said' where nothing that the law and all that it calls make is longer than what came in: it says more and counts as full. Else prove '..UptoSaid'. A law counts once. -/
mutual
def uptoBulk {H : Type} : DataW H → Nat
  | .lit (.string bytes) => bytes.length + 1
  | .lit _ => 1
  | .nil => 1
  | .ptr d => uptoBulk d + 1
  | .slice elems spare => uptoBulkAll elems + uptoBulkAll spare + 1
  | .agg parts => uptoBulkAll parts + 1
  | .iface _ d => uptoBulk d + 1
  | .map entries => uptoBulkEntries entries + 1
  | .held _ => 1
def uptoBulkAll {H : Type} : List (DataW H) → Nat
  | [] => 0
  | d :: r => uptoBulk d + uptoBulkAll r
def uptoBulkEntries {H : Type} : List (Lit × DataW H) → Nat
  | [] => 0
  | x :: r => uptoBulkEntry x + uptoBulkEntries r
def uptoBulkEntry {H : Type} : Lit × DataW H → Nat
  | (.string bytes, d) => bytes.length + uptoBulk d + 1
  | (_, d) => uptoBulk d + 1
 end
def uptoSmall : (H : Type) → List (DataW H) → Bool := fun _ ds => decide (uptoBulkAll ds ≤ 1048576)
def OpenSpec.upto (s : _root_.Go.ChangeSpec) : _root_.Go.OpenSpec := { _root_.Go.OpenSpec.ofChange s with cond := some uptoSmall }

/-- 'waterlinelaw8.DualTells', WHERE WHAT IT READS IS OF BULK AT MOST 1048576: true; the input reads as it did. -/
def dualTellsUptoRow : OpenClaim := { program := "ytfglbkhmdapibaa", sum := "1d0718df0b550f11971c9c91a16ccdf36b66e208ba2ca57a3f4ed285825fcfa5", func := "waterline/waterlinelaw8.DualTells", spec := "dualTells", apart := false, narrowed := true }
def DualTellsUptoSaid : Prop := dualTellsUptoRow.holds Try.pinned (OpenSpec.upto dualTellsSpec)

/-- 'waterlinelaw8.DualCuts', WHERE WHAT IT READS IS OF BULK AT MOST 1048576: true; the input reads as it did. -/
def dualCutsUptoRow : OpenClaim := { program := "ytfglbkhmdapibaa", sum := "1d0718df0b550f11971c9c91a16ccdf36b66e208ba2ca57a3f4ed285825fcfa5", func := "waterline/waterlinelaw8.DualCuts", spec := "dualCuts", apart := false, narrowed := true }
def DualCutsUptoSaid : Prop := dualCutsUptoRow.holds Try.pinned (OpenSpec.upto dualCutsSpec)

/-- 'waterlinelaw8.DualOdd', WHERE WHAT IT READS IS OF BULK AT MOST 1048576: true; the input reads as it did. -/
def dualOddUptoRow : OpenClaim := { program := "ytfglbkhmdapibaa", sum := "1d0718df0b550f11971c9c91a16ccdf36b66e208ba2ca57a3f4ed285825fcfa5", func := "waterline/waterlinelaw8.DualOdd", spec := "dualOdd", apart := false, narrowed := true }
def DualOddUptoSaid : Prop := dualOddUptoRow.holds Try.pinned (OpenSpec.upto dualOddSpec)

end Rows
end Go.Proofs.Ytfglbkhmdapibaa
