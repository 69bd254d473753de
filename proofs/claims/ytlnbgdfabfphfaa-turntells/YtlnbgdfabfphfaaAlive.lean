/-
  The document's example holds: the call that every law makes first answers true; conditions: none.
-/
import Derived.Test.YtlnbgdfabfphfaaBig
import Derived.OpenShut
namespace Go.Proofs.Ytlnbgdfabfphfaa
open Go.RowKit

theorem word_bd {x : Int} (h : (Lit.int .u32 x).wf = true) : 0 ≤ x ∧ x ≤ 4294967295 := bounds_u32 h
theorem rot_lit : rotI 1 1 = 2147483648 := by decide +kernel
theorem big_lit : bigI [1] = 16777216 := by decide +kernel
theorem byt_lit : Byt [1] := by intro n hn; simp at hn; omega
theorem right_lit (w : World) : Calls Try.prog 7 #[.int .u32 1, .int .i64 1] w fun e w' => e = .returned (.int .u32 2147483648) ∧ w = w' := by
  have := right_any 1 1 w (by omega)
  rw [rot_lit] at this
  exact this
theorem row_lit (w : World) : Row (w.alloc (.cells #[.int .u8 1] 5)) (some ⟨w.heap.size, 0, none⟩) 1 [1] := by
  refine ⟨rfl, byt_lit, .inr ⟨_, _, rfl, by simp, fun j hj => ?_⟩⟩
  obtain rfl : j = 0 := by omega
  simp
theorem bigl_lit (w : World) : Calls Try.prog 9 #[.slice (some ⟨w.heap.size, 0, none⟩) 1 1] (w.alloc (.cells #[.int .u8 1] 5)) fun e w' => e = .returned (.int .u32 16777216) ∧ w.alloc (.cells #[.int .u8 1] 5) = w' := by
  have := big_any (some ⟨w.heap.size, 0, none⟩) 1 1 [1] _ (row_lit w)
  rw [big_lit] at this
  exact this

set_option maxRecDepth 100000 in
theorem alive_any (w : World) : Calls Try.prog 6 #[] w fun e w' => e = .returned (.bool true) ∧ Grown w w' ∧ Below w.heap.size w w' := by
  go_enter Try.func6, Try.ntmps6
  go_wp2_with (first
    | (go_at_call 7; refine (right_lit _).mono ?_; rintro e w1 ⟨rfl, rfl⟩)
    | (go_at_call 9; refine (bigl_lit w).mono ?_; rintro e w2 ⟨rfl, rfl⟩)
    | (go_at_call 11; refine (bytes_any _ _ (by omega)).mono ?_; rintro e w3 ⟨rfl, rfl⟩))
  go_ret
  exact ⟨rfl, by repeat (first | exact Grown.refl _ | apply Grown.alloc), ((Below.refl _ _).alloc (Nat.le_refl _) _).alloc (by simp) _⟩
end Go.Proofs.Ytlnbgdfabfphfaa
