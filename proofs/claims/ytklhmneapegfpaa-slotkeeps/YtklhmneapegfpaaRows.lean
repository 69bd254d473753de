/-
  No cell of these rows narrows 'for every input' (looked for: loops, veiled, ifaces, maps, wideKeys, modest, calm, conditions, laid).
  DERIVED. THE GIVEN ROWS OF THIS SEAT. 3 by the template 'for every input the law returns true; each argument reads behind the call as it read before'; 0 by the template 'total and deterministic' (their statements: YtklhmneapegfpaaTotals.lean).
  GIVEN WITH THE SEED: the statements are not yours to turn. If you find one false, say at which input.
  Laid BY PROGRAM, IN A SANDBOX (cutbox-rows.mjs): the forced cells as the released guide's own fill.sh prints them over the translation c3d178cbd8664498… (all of the seat's roots in one cut). By AI agents, Wed Nov 11 2026. No macro, syntax, notation, axiom, sorry.
-/
import Derived.Test.YtklhmneapegfpaaChecked
import GoSem.Claim
import GoSem.ClaimJoined
import GoSem.ClaimMapViews
import Derived.JoinedTies
import Derived.KernelRfl
namespace Go.Proofs.Ytklhmneapegfpaa
/- THE CELL 'sum', in the pinned program and in every row, IS THE sha256 OF THE DUMP (.gsa) THAT YtklhmneapegfpaaProg.lean LOADS. Nothing in Lean hashes anything: it is a label: what it is worth is what the hold of that sum in a sandbox is worth. -/
noncomputable def Try.pinned : Pinned := { name := "ytklhmneapegfpaa", sum := "c3d178cbd86644989a8774a0c65d1f2f4b1de2a134e6376a26b4756f9d5571e8", checked := Try.checked }
namespace Rows
def none {H : Type} : Left H := { results := [], args := [] }

/-- 'waterlinelaw19.SlotKeeps': WHATEVER THE INPUT: true; the input reads as it did. -/
def slotKeepsSpec : ChangeSpec := { name := "slotKeeps", fn := fun _ => fun
  | [d1, d2, d3] => { results := [.lit (.bool true)], args := [d1, d2, d3] }
  | _ => none }
def slotKeepsRow : OpenClaim := { program := "ytklhmneapegfpaa", sum := "c3d178cbd86644989a8774a0c65d1f2f4b1de2a134e6376a26b4756f9d5571e8", func := "waterline/waterlinelaw19.SlotKeeps", spec := "slotKeeps", inPlace := ["internal/bytealg.MakeNoZero"], apart := false }
def SlotKeepsSaid : Prop := slotKeepsRow.holds Try.pinned (OpenSpec.ofChange slotKeepsSpec)

/-- ITS FALSE NEIGHBOUR: 'it returns false'. Refute it at one input. -/
def slotKeepsWrong : ChangeSpec := { name := "slotKeeps", fn := fun _ => fun
  | [d1, d2, d3] => { results := [.lit (.bool false)], args := [d1, d2, d3] }
  | _ => none }
def SlotKeepsWrongFalsely : Prop := slotKeepsRow.holds Try.pinned (OpenSpec.ofChange slotKeepsWrong)

/-- 'waterlinelaw19.SlotWears': WHATEVER THE INPUT: true; the input reads as it did. -/
def slotWearsSpec : ChangeSpec := { name := "slotWears", fn := fun _ => fun
  | [d1, d2] => { results := [.lit (.bool true)], args := [d1, d2] }
  | _ => none }
def slotWearsRow : OpenClaim := { program := "ytklhmneapegfpaa", sum := "c3d178cbd86644989a8774a0c65d1f2f4b1de2a134e6376a26b4756f9d5571e8", func := "waterline/waterlinelaw19.SlotWears", spec := "slotWears", inPlace := ["internal/bytealg.MakeNoZero"], apart := false }
def SlotWearsSaid : Prop := slotWearsRow.holds Try.pinned (OpenSpec.ofChange slotWearsSpec)

/-- ITS FALSE NEIGHBOUR: 'it returns false'. Refute it at one input. -/
def slotWearsWrong : ChangeSpec := { name := "slotWears", fn := fun _ => fun
  | [d1, d2] => { results := [.lit (.bool false)], args := [d1, d2] }
  | _ => none }
def SlotWearsWrongFalsely : Prop := slotWearsRow.holds Try.pinned (OpenSpec.ofChange slotWearsWrong)

/-- 'waterlinelaw19.SlotFrom': WHATEVER THE INPUT: true; the input reads as it did. -/
def slotFromSpec : ChangeSpec := { name := "slotFrom", fn := fun _ => fun
  | [d1, d2, d3, d4, d5] => { results := [.lit (.bool true)], args := [d1, d2, d3, d4, d5] }
  | _ => none }
def slotFromRow : OpenClaim := { program := "ytklhmneapegfpaa", sum := "c3d178cbd86644989a8774a0c65d1f2f4b1de2a134e6376a26b4756f9d5571e8", func := "waterline/waterlinelaw19.SlotFrom", spec := "slotFrom", inPlace := ["internal/bytealg.MakeNoZero"], apart := false }
def SlotFromSaid : Prop := slotFromRow.holds Try.pinned (OpenSpec.ofChange slotFromSpec)

/-- ITS FALSE NEIGHBOUR: 'it returns false'. Refute it at one input. -/
def slotFromWrong : ChangeSpec := { name := "slotFrom", fn := fun _ => fun
  | [d1, d2, d3, d4, d5] => { results := [.lit (.bool false)], args := [d1, d2, d3, d4, d5] }
  | _ => none }
def SlotFromWrongFalsely : Prop := slotFromRow.holds Try.pinned (OpenSpec.ofChange slotFromWrong)

/- THE SECOND FORM. 'bulk': how many values and letters a reading holds, each counted each time it is reached (what is shared counts as often as it is met; a slice's spare places count too). A statement '..UptoSaid' is the law's where the arguments, and the package variables that the reading takes, are together of bulk at most 1048576: NARROWER than '..Said'. Prove '..Said' where nothing that the law and all that it calls make is longer than what came in: it says more and counts as full. Else prove '..UptoSaid'. A law counts once. -/
mutual
def uptoBulk {H : Type} : DataW H → Nat
  | .lit (.string bytes) => bytes.length + 1
  | .lit _ => 1
  | .nil => 1
  | .ptr d => uptoBulk d + 1
  | .slice elems spare => uptoBulkAll elems + uptoBulkAll spare + 1
  | .agg parts => uptoBulkAll parts + 1
  | .iface _ d => uptoBulk d + 1
  | .map entries => uptoBulkEntries entries + 1
  | .held _ => 1
def uptoBulkAll {H : Type} : List (DataW H) → Nat
  | [] => 0
  | d :: r => uptoBulk d + uptoBulkAll r
def uptoBulkEntries {H : Type} : List (Lit × DataW H) → Nat
  | [] => 0
  | x :: r => uptoBulkEntry x + uptoBulkEntries r
def uptoBulkEntry {H : Type} : Lit × DataW H → Nat
  | (.string bytes, d) => bytes.length + uptoBulk d + 1
  | (_, d) => uptoBulk d + 1
 end
def uptoSmall : (H : Type) → List (DataW H) → Bool := fun _ ds => decide (uptoBulkAll ds ≤ 1048576)
def OpenSpec.upto (s : _root_.Go.ChangeSpec) : _root_.Go.OpenSpec := { _root_.Go.OpenSpec.ofChange s with cond := some uptoSmall }

/-- 'waterlinelaw19.SlotKeeps', WHERE WHAT IT READS IS OF BULK AT MOST 1048576: true; the input reads as it did. -/
def slotKeepsUptoRow : OpenClaim := { program := "ytklhmneapegfpaa", sum := "c3d178cbd86644989a8774a0c65d1f2f4b1de2a134e6376a26b4756f9d5571e8", func := "waterline/waterlinelaw19.SlotKeeps", spec := "slotKeeps", inPlace := ["internal/bytealg.MakeNoZero"], apart := false, narrowed := true }
def SlotKeepsUptoSaid : Prop := slotKeepsUptoRow.holds Try.pinned (OpenSpec.upto slotKeepsSpec)

/-- 'waterlinelaw19.SlotWears', WHERE WHAT IT READS IS OF BULK AT MOST 1048576: true; the input reads as it did. -/
def slotWearsUptoRow : OpenClaim := { program := "ytklhmneapegfpaa", sum := "c3d178cbd86644989a8774a0c65d1f2f4b1de2a134e6376a26b4756f9d5571e8", func := "waterline/waterlinelaw19.SlotWears", spec := "slotWears", inPlace := ["internal/bytealg.MakeNoZero"], apart := false, narrowed := true }
def SlotWearsUptoSaid : Prop := slotWearsUptoRow.holds Try.pinned (OpenSpec.upto slotWearsSpec)

/-- 'waterlinelaw19.SlotFrom', WHERE WHAT IT READS IS OF BULK AT MOST 1048576: true; the input reads as it did. -/
def slotFromUptoRow : OpenClaim := { program := "ytklhmneapegfpaa", sum := "c3d178cbd86644989a8774a0c65d1f2f4b1de2a134e6376a26b4756f9d5571e8", func := "waterline/waterlinelaw19.SlotFrom", spec := "slotFrom", inPlace := ["internal/bytealg.MakeNoZero"], apart := false, narrowed := true }
def SlotFromUptoSaid : Prop := slotFromUptoRow.holds Try.pinned (OpenSpec.upto slotFromSpec)

end Rows
end Go.Proofs.Ytklhmneapegfpaa
