/-
  The document's example holds: the call that every law makes first answers true; conditions: none.
-/
import Derived.Test.YtknmdpdlcmdaeaaRclean
namespace Go.Proofs.Ytknmdpdlcmdaeaa
open Go.RowKit

theorem clean_A1 : cleanS ⟨#[65, 45, 49]⟩ = ⟨#[97, 49]⟩ := by kernel_rfl
theorem valid_a1 : validL (all ⟨#[97, 49]⟩) = true := by kernel_rfl
theorem count_ab : (all ⟨#[206, 177, 206, 178]⟩).length = 2 := by kernel_rfl

theorem clean_lit (w : World) : Calls Try.prog 13 #[.string ⟨#[65, 45, 49]⟩] w fun e w' => e = .returned (.string ⟨#[97, 49]⟩) ∧ Below w.heap.size w w' := by
  have := clean_any ⟨#[65, 45, 49]⟩ w
  rw [clean_A1] at this
  exact this
theorem valid_lit (w : World) : Calls Try.prog 11 #[.string ⟨#[97, 49]⟩] w fun e w' => e = .returned (.bool true) ∧ Below w.heap.size w w' := by
  have := valid_any ⟨#[97, 49]⟩ w
  rw [valid_a1] at this
  exact this
theorem count_lit (w : World) : Calls Try.prog 9 #[.string ⟨#[206, 177, 206, 178]⟩] w fun e w' => e = .returned (.int .i64 2) ∧ Below w.heap.size w w' := by
  have := count_any ⟨#[206, 177, 206, 178]⟩ w (by simp [ByteArray.size, maxLen])
  rw [count_ab] at this
  exact this

theorem below_then {B : Nat} {a b c : World} (h : Below B a b) (k : Below b.heap.size b c) (hB : B ≤ b.heap.size) : Below B a c := h.trans (k.mono hB)
theorem below_next {a b c : World} (h : Below a.heap.size a b) (k : Below b.heap.size b c) : Below a.heap.size a c := h.trans (k.mono h.size)

set_option maxRecDepth 100000 in
theorem alive_any (w : World) : Calls Try.prog 8 #[] w fun e w' => e = .returned (.bool true) ∧ Below w.heap.size w w' := by
  go_enter Try.func8, Try.ntmps8
  go_wp2_with (first
    | (go_at_call 13; refine (clean_lit _).mono ?_; rintro e w1 ⟨rfl, H1⟩)
    | (go_at_call 11; refine (valid_lit _).mono ?_; rintro e w2 ⟨rfl, H2⟩)
    | (go_at_call 9; refine (count_lit _).mono ?_; rintro e w3 ⟨rfl, H3⟩))
  go_ret
  exact ⟨rfl, below_next (below_next H1 H2) H3⟩
end Go.Proofs.Ytknmdpdlcmdaeaa
