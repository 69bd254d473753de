/-
  No cell of these rows narrows 'for every input' (looked for: loops, veiled, ifaces, maps, wideKeys, modest, calm, conditions, laid).
  DERIVED. THE GIVEN ROWS OF THIS SEAT. 4 by the template 'for every input the law returns true; each argument reads behind the call as it read before'; 0 by the template 'total and deterministic' (their statements: YtljkngalnoepmaaTotals.lean).
  GIVEN WITH THE SEED: the statements are not yours to turn. If you find one false, say at which input.
  Laid BY PROGRAM, IN A SANDBOX (cutbox-rows.mjs): the forced cells as the released guide's own fill.sh prints them over the translation 8f723acdda27dc25… (all of the seat's roots in one cut). By AI agents, Wed Nov 11 2026. No macro, syntax, notation, axiom, sorry.
-/
import Derived.Test.YtljkngalnoepmaaChecked
import GoSem.Claim
import GoSem.ClaimJoined
import GoSem.ClaimMapViews
import Derived.JoinedTies
import Derived.KernelRfl
namespace Go.Proofs.Ytljkngalnoepmaa
/- THE CELL 'sum', in the pinned program and in every row, IS THE sha256 OF THE DUMP (.gsa) THAT YtljkngalnoepmaaProg.lean LOADS. Nothing in Lean hashes anything: it is a label: what it is worth is what the hold of that sum in a sandbox is worth. -/
noncomputable def Try.pinned : Pinned := { name := "ytljkngalnoepmaa", sum := "8f723acdda27dc25df7eeee455f9e2722370f6d739162a3ab6507c34dd8d0693", checked := Try.checked }
namespace Rows
def none {H : Type} : Left H := { results := [], args := [] }

/-- 'waterlinelaw15.CapsDeal': WHATEVER THE INPUT: true; the input reads as it did. -/
def capsDealSpec : ChangeSpec := { name := "capsDeal", fn := fun _ => fun
  | [d1, d2, d3] => { results := [.lit (.bool true)], args := [d1, d2, d3] }
  | _ => none }
def capsDealRow : OpenClaim := { program := "ytljkngalnoepmaa", sum := "8f723acdda27dc25df7eeee455f9e2722370f6d739162a3ab6507c34dd8d0693", func := "waterline/waterlinelaw15.CapsDeal", spec := "capsDeal", apart := false }
def CapsDealSaid : Prop := capsDealRow.holds Try.pinned (OpenSpec.ofChange capsDealSpec)

/-- ITS FALSE NEIGHBOUR: 'it returns false'. Refute it at one input. -/
def capsDealWrong : ChangeSpec := { name := "capsDeal", fn := fun _ => fun
  | [d1, d2, d3] => { results := [.lit (.bool false)], args := [d1, d2, d3] }
  | _ => none }
def CapsDealWrongFalsely : Prop := capsDealRow.holds Try.pinned (OpenSpec.ofChange capsDealWrong)

/-- 'waterlinelaw15.CapsApart': WHATEVER THE INPUT: true; the input reads as it did. -/
def capsApartSpec : ChangeSpec := { name := "capsApart", fn := fun _ => fun
  | [d] => { results := [.lit (.bool true)], args := [d] }
  | _ => none }
def capsApartRow : OpenClaim := { program := "ytljkngalnoepmaa", sum := "8f723acdda27dc25df7eeee455f9e2722370f6d739162a3ab6507c34dd8d0693", func := "waterline/waterlinelaw15.CapsApart", spec := "capsApart", apart := false }
def CapsApartSaid : Prop := capsApartRow.holds Try.pinned (OpenSpec.ofChange capsApartSpec)

/-- ITS FALSE NEIGHBOUR: 'it returns false'. Refute it at one input. -/
def capsApartWrong : ChangeSpec := { name := "capsApart", fn := fun _ => fun
  | [d] => { results := [.lit (.bool false)], args := [d] }
  | _ => none }
def CapsApartWrongFalsely : Prop := capsApartRow.holds Try.pinned (OpenSpec.ofChange capsApartWrong)

/-- 'waterlinelaw15.CapsLimits': WHATEVER THE INPUT: true; the input reads as it did. -/
def capsLimitsSpec : ChangeSpec := { name := "capsLimits", fn := fun _ => fun
  | [d1, d2] => { results := [.lit (.bool true)], args := [d1, d2] }
  | _ => none }
def capsLimitsRow : OpenClaim := { program := "ytljkngalnoepmaa", sum := "8f723acdda27dc25df7eeee455f9e2722370f6d739162a3ab6507c34dd8d0693", func := "waterline/waterlinelaw15.CapsLimits", spec := "capsLimits", apart := false }
def CapsLimitsSaid : Prop := capsLimitsRow.holds Try.pinned (OpenSpec.ofChange capsLimitsSpec)

/-- ITS FALSE NEIGHBOUR: 'it returns false'. Refute it at one input. -/
def capsLimitsWrong : ChangeSpec := { name := "capsLimits", fn := fun _ => fun
  | [d1, d2] => { results := [.lit (.bool false)], args := [d1, d2] }
  | _ => none }
def CapsLimitsWrongFalsely : Prop := capsLimitsRow.holds Try.pinned (OpenSpec.ofChange capsLimitsWrong)

/-- 'waterlinelaw15.CapsNames': WHATEVER THE INPUT: true; the input reads as it did. -/
def capsNamesSpec : ChangeSpec := { name := "capsNames", fn := fun _ => fun
  | [d1, d2, d3] => { results := [.lit (.bool true)], args := [d1, d2, d3] }
  | _ => none }
def capsNamesRow : OpenClaim := { program := "ytljkngalnoepmaa", sum := "8f723acdda27dc25df7eeee455f9e2722370f6d739162a3ab6507c34dd8d0693", func := "waterline/waterlinelaw15.CapsNames", spec := "capsNames", apart := false }
def CapsNamesSaid : Prop := capsNamesRow.holds Try.pinned (OpenSpec.ofChange capsNamesSpec)

/-- ITS FALSE NEIGHBOUR: 'it returns false'. Refute it at one input. -/
def capsNamesWrong : ChangeSpec := { name := "capsNames", fn := fun _ => fun
  | [d1, d2, d3] => { results := [.lit (.bool false)], args := [d1, d2, d3] }
  | _ => none }
def CapsNamesWrongFalsely : Prop := capsNamesRow.holds Try.pinned (OpenSpec.ofChange capsNamesWrong)

/- THE SECOND FORM. 'bulk': how many values and letters a reading holds, each counted each time it is reached (what is shared counts as often as it is met; a slice's spare places count too). A statement '..UptoSaid' is the law's where the arguments, and the package variables that the reading takes, are together of bulk at most 1048576: NARROWER than '..Said'. Prove '..Said' where nothing that the law and all that it calls make is longer than what came in: it says more and counts as full. Else prove '..UptoSaid'. A law counts once. -/
mutual
def uptoBulk {H : Type} : DataW H → Nat
  | .lit (.string bytes) => bytes.length + 1
  | .lit _ => 1
  | .nil => 1
  | .ptr d => uptoBulk d + 1
  | .slice elems spare => uptoBulkAll elems + uptoBulkAll spare + 1
  | .agg parts => uptoBulkAll parts + 1
  | .iface _ d => uptoBulk d + 1
  | .map entries => uptoBulkEntries entries + 1
  | .held _ => 1
def uptoBulkAll {H : Type} : List (DataW H) → Nat
  | [] => 0
  | d :: r => uptoBulk d + uptoBulkAll r
def uptoBulkEntries {H : Type} : List (Lit × DataW H) → Nat
  | [] => 0
  | x :: r => uptoBulkEntry x + uptoBulkEntries r
def uptoBulkEntry {H : Type} : Lit × DataW H → Nat
  | (.string bytes, d) => bytes.length + uptoBulk d + 1
  | (_, d) => uptoBulk d + 1
 end
def uptoSmall : (H : Type) → List (DataW H) → Bool := fun _ ds => decide (uptoBulkAll ds ≤ 1048576)
def OpenSpec.upto (s : _root_.Go.ChangeSpec) : _root_.Go.OpenSpec := { _root_.Go.OpenSpec.ofChange s with cond := some uptoSmall }

/-- 'waterlinelaw15.CapsDeal', WHERE WHAT IT READS IS OF BULK AT MOST 1048576: true; the input reads as it did. -/
def capsDealUptoRow : OpenClaim := { program := "ytljkngalnoepmaa", sum := "8f723acdda27dc25df7eeee455f9e2722370f6d739162a3ab6507c34dd8d0693", func := "waterline/waterlinelaw15.CapsDeal", spec := "capsDeal", apart := false, narrowed := true }
def CapsDealUptoSaid : Prop := capsDealUptoRow.holds Try.pinned (OpenSpec.upto capsDealSpec)

/-- 'waterlinelaw15.CapsApart', WHERE WHAT IT READS IS OF BULK AT MOST 1048576: true; the input reads as it did. -/
def capsApartUptoRow : OpenClaim := { program := "ytljkngalnoepmaa", sum := "8f723acdda27dc25df7eeee455f9e2722370f6d739162a3ab6507c34dd8d0693", func := "waterline/waterlinelaw15.CapsApart", spec := "capsApart", apart := false, narrowed := true }
def CapsApartUptoSaid : Prop := capsApartUptoRow.holds Try.pinned (OpenSpec.upto capsApartSpec)

/-- 'waterlinelaw15.CapsLimits', WHERE WHAT IT READS IS OF BULK AT MOST 1048576: true; the input reads as it did. -/
def capsLimitsUptoRow : OpenClaim := { program := "ytljkngalnoepmaa", sum := "8f723acdda27dc25df7eeee455f9e2722370f6d739162a3ab6507c34dd8d0693", func := "waterline/waterlinelaw15.CapsLimits", spec := "capsLimits", apart := false, narrowed := true }
def CapsLimitsUptoSaid : Prop := capsLimitsUptoRow.holds Try.pinned (OpenSpec.upto capsLimitsSpec)

/-- 'waterlinelaw15.CapsNames', WHERE WHAT IT READS IS OF BULK AT MOST 1048576: true; the input reads as it did. -/
def capsNamesUptoRow : OpenClaim := { program := "ytljkngalnoepmaa", sum := "8f723acdda27dc25df7eeee455f9e2722370f6d739162a3ab6507c34dd8d0693", func := "waterline/waterlinelaw15.CapsNames", spec := "capsNames", apart := false, narrowed := true }
def CapsNamesUptoSaid : Prop := capsNamesUptoRow.holds Try.pinned (OpenSpec.upto capsNamesSpec)

end Rows
end Go.Proofs.Ytljkngalnoepmaa
