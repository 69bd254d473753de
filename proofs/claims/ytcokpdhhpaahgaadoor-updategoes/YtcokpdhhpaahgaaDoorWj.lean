/-
  States of the loops of UpdateGoes; conditions: none.
-/
import Derived.Test.YtcokpdhhpaahgaaDoorWh
namespace Go.Proofs.YtcokpdhhpaahgaaDoor.updateGoes
open Go.RowKit
set_option linter.unusedVariables false
set_option linter.unusedSimpArgs false

def Coming (w0 : World) (p g r : Nat) (sA : Nat → Mt) (m : Mt) (x : Im) (c : Nat) (i a b : Value) (w : World) : Prop := ∃ k : Nat, i = .int .i64 (k : Int) ∧ k ≤ c ∧ Gd w0 p g r (sA k) m x (fOf x) ⟨0, 0, 0⟩ w
def Booted (w0 : World) (p g r : Nat) (sB : Nat → Mt) (m : Mt) (x : Im) (n : Nat) (i a b : Value) (w : World) : Prop := ∃ k : Nat, i = .int .i64 (k : Int) ∧ k ≤ n ∧ Gd w0 p g r (sB k) m x (fOf x) ⟨0, 0, 0⟩ w
structure Came (w0 : World) (p g r : Nat) (M m : Mt) (x : Im) (p' u : Nat) (k : Mt) (w : World) : Prop where
  d : Gd w0 p g r M m x (fOf x) ⟨0, 0, 0⟩ w
  ok : k.Ok
  a : Has w p' 27 k.cells
  b : Has w u 36 (Rp.cells ⟨0, 0, 0⟩)
  l : r < p'
end Go.Proofs.YtcokpdhhpaahgaaDoor.updateGoes
namespace Go.Proofs.YtcokpdhhpaahgaaDoor
theorem Nz.by {w w' : World} {p g : Nat} {m : Mt} {r : Rp} (h : Nz p m r w) (on : Only (fun b => b = g) w w') (h1 : g ≠ p) (h2 : g ≠ p + 1) : Nz p m r w' := ⟨h.ok, Has.only h.hm on (by omega), Has.only h.hr on (by omega)⟩
end Go.Proofs.YtcokpdhhpaahgaaDoor
