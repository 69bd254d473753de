/-
  The law's own example answers true; conditions: none.
-/
import Derived.Test.YtklhmneapegfpaaGreatDoorMAr
namespace Go.Proofs.YtklhmneapegfpaaGreatDoor
open Go.RowKit
set_option linter.unusedVariables false
set_option linter.unusedSimpArgs false

theorem Ar.only {w w' : World} {x g : Nat} {P : Pt} {p : Nat → Prop} (h : Ar w x g P) (o : Only p w w') (hp : ¬ p x) : Ar w' x g P := Has.only h o hp
theorem not_in {w : World} {T g m k : Nat} {S : Fs} (hf : Fl w T g m k S) {x : Nat} (hx : w.heap.size ≤ x) : ¬ In3 g m k x := fun e => by have := hf.in _ e; omega
theorem made_live : Pt.made 3 1 2 4 = ⟨1, 2, 4⟩ := rfl
theorem live_is : (aProg (fresh 3) ⟨1, 2, 4⟩ 0 0 [1]).1 = 0 ∧ aLeft (aProg (fresh 3) ⟨1, 2, 4⟩ 0 0 [1]).2 ⟨1, 2, 4⟩ 1 = 4 := by decide +kernel
end Go.Proofs.YtklhmneapegfpaaGreatDoor
