/-
  What a part may: the program's May, the document's own; conditions: none.
-/
import Derived.Test.YtljkngalnoepmaaSl
namespace Go.Proofs.Ytljkngalnoepmaa
open Go.RowKit
set_option linter.unusedVariables false
set_option linter.unusedSimpArgs false

def mayB (p : Cp) (k : Int) : Bool := winB k 1 9 && (bits .and .i64 (p.r / 2 ^ k.toNat) 1 == 1)
theorem may_any (p : Cp) (k : Int) (w : World) : Calls Try.prog 12 #[.agg p.cells, .int .i64 k] w fun e w' => e = .returned (.bool (mayB p k)) ∧ Below w.heap.size w w' := by
  have hb : Below w.heap.size w (w.alloc (.cells p.cells 24)) := (Below.refl _ _).alloc (Nat.le_refl _) _
  have c0 : (w.alloc (.cells p.cells 24)).cell? ⟨w.heap.size, 0, none⟩ = some (.int .i64 p.r) := (has_new w 24 p.cells).at 0
  unfold mayB
  by_cases h1 : 1 ≤ k
  · by_cases h2 : k ≤ 9
    · have hw := win_yes h1 h2
      have d9 : decide (k ≤ 9) = true := decide_eq_true h2
      rw [hw, Bool.true_and]
      go_enter Try.func12, Try.ntmps12
      go_wp2_with (go_at_call 18; (with_reducible refine (within_any _ _ _ _).mono ?_); rintro e w1 ⟨rfl, rfl⟩)
      go_ret
      exact ⟨rfl, hb⟩
    · have hw := win_hi (a := 1) (show 9 < k by omega)
      have d9 : decide (k ≤ 9) = false := decide_eq_false h2
      rw [hw, Bool.false_and]
      go_enter Try.func12, Try.ntmps12
      go_wp2_with (go_at_call 18; (with_reducible refine (within_any _ _ _ _).mono ?_); rintro e w1 ⟨rfl, rfl⟩)
      go_ret
      exact ⟨rfl, hb⟩
  · have hw := win_lo (b := 9) (show k < 1 by omega)
    rw [hw, Bool.false_and]
    go_enter Try.func12, Try.ntmps12
    go_wp2_with (go_at_call 18; (with_reducible refine (within_any _ _ _ _).mono ?_); rintro e w1 ⟨rfl, rfl⟩)
    go_ret
    exact ⟨rfl, hb⟩
theorem rmay_any (p : Cp) (k : Int) (w : World) : Calls Try.prog 13 #[.agg p.cells, .int .i64 k] w fun e w' => e = .returned (.bool (mayB p k)) ∧ Below w.heap.size w w' := by
  have hb : Below w.heap.size w (w.alloc (.cells p.cells 24)) := (Below.refl _ _).alloc (Nat.le_refl _) _
  have c0 : (w.alloc (.cells p.cells 24)).cell? ⟨w.heap.size, 0, none⟩ = some (.int .i64 p.r) := (has_new w 24 p.cells).at 0
  unfold mayB
  by_cases h1 : 1 ≤ k
  · by_cases h2 : k ≤ 9
    · have hw := win_yes h1 h2
      have d9 : decide (k ≤ 9) = true := decide_eq_true h2
      rw [hw, Bool.true_and]
      go_enter Try.func13, Try.ntmps13
      go_wp2
      go_ret
      exact ⟨rfl, hb⟩
    · have hw := win_hi (a := 1) (show 9 < k by omega)
      have d9 : decide (k ≤ 9) = false := decide_eq_false h2
      rw [hw, Bool.false_and]
      go_enter Try.func13, Try.ntmps13
      go_wp2
      go_ret
      exact ⟨rfl, hb⟩
  · have hw := win_lo (b := 9) (show k < 1 by omega)
    rw [hw, Bool.false_and]
    go_enter Try.func13, Try.ntmps13
    go_wp2
    go_ret
    exact ⟨rfl, hb⟩
end Go.Proofs.Ytljkngalnoepmaa
