/-
  The document's Chunks and Len, of an image and a chunk that there are; conditions: as each states.
-/
import Derived.Test.YtklhmneapegfpaaSf
namespace Go.Proofs.Ytklhmneapegfpaa
open Go.RowKit
set_option linter.unusedVariables false
set_option linter.unusedSimpArgs false

theorem rchunks_any {n c : Int} (h : 1 ≤ n ∧ n ≤ 100000) (hc : (n - 1) / 320 + 1 = c) (w : World) : Calls Try.prog 9 #[.int .i64 n] w fun e w' => e = .returned (.int .i64 c) ∧ w = w' := by
  have d : decide (n < 1) = false := decide_eq_false (by omega)
  have h1 : ¬ n < 1 := by omega
  go_enter Try.func9, Try.ntmps9
  go_wp2
  go_ret
  exact ⟨ret_int (by first | rfl | omega), rfl⟩
theorem rlen_any {n k c L : Int} (h : 1 ≤ n ∧ n ≤ 100000) (hc : (n - 1) / 320 + 1 = c) (hk : 0 ≤ k ∧ k < c) (hL : min (n - 320 * k) 320 = L) (w : World) : Calls Try.prog 12 #[.int .i64 n, .int .i64 k] w fun e w' => e = .returned (.int .i64 L) ∧ w = w' := by
  have HC := Lib.hid (fun w => rchunks_any h hc w)
  have d0 : decide (k < 0) = false := decide_eq_false (by omega)
  have h0 : ¬ k < 0 := by omega
  have d1 : decide (c ≤ k) = false := decide_eq_false (by omega)
  have h1 : ¬ c ≤ k := by omega
  have q1 : IntKind.i64.wrap (c - 1) = c - 1 := by rw [IntKind.wrap_i64]; omega
  by_cases h2 : k < c - 1
  · have e : L = 320 := by omega
    subst e
    have d2 : decide (k < c - 1) = true := decide_eq_true h2
    clear hc hL
    go_enter Try.func12, Try.ntmps12
    go_wp2_with (go_at_call 9; (with_reducible refine (HC.out _).mono ?_); rintro e w1 ⟨rfl, rfl⟩)
    go_ret
    exact ⟨rfl, rfl⟩
  · have e : L = n - 320 * k := by omega
    have d2 : decide (k < c - 1) = false := decide_eq_false h2
    have q2 : IntKind.i64.wrap (k * 320) = k * 320 := by rw [IntKind.wrap_i64]; omega
    have q3 : IntKind.i64.wrap (n - k * 320) = L := by rw [IntKind.wrap_i64]; omega
    clear hc hL e
    go_enter Try.func12, Try.ntmps12
    go_wp2_with (go_at_call 9; (with_reducible refine (HC.out _).mono ?_); rintro e w1 ⟨rfl, rfl⟩)
    go_ret
    exact ⟨rfl, rfl⟩
end Go.Proofs.Ytklhmneapegfpaa
