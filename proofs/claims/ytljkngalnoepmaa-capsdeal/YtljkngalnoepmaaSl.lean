/-
  The small calls: a number within its limits, how many sectors a config takes, what a part may; conditions: none.
-/
import Derived.Test.YtljkngalnoepmaaMk
namespace Go.Proofs.Ytljkngalnoepmaa
open Go.RowKit
set_option linter.unusedVariables false
set_option linter.unusedSimpArgs false

theorem num_any (n : Int) (w : World) : Calls Try.prog 11 #[.int .i64 n] w fun e w' => e = .returned (.int .i64 n) ∧ w = w' := by
  go_enter Try.func11, Try.ntmps11
  go_wp2
  go_ret
  exact ⟨rfl, rfl⟩
theorem within_any (n a b : Int) (w : World) : Calls Try.prog 18 #[.int .i64 n, .int .i64 a, .int .i64 b] w fun e w' => e = .returned (.bool (winB n a b)) ∧ w = w' := by
  unfold winB
  by_cases h1 : a ≤ n
  · by_cases h2 : n ≤ b
    · have d2 : decide (n ≤ b) = true := decide_eq_true h2
      rw [decide_eq_true h1, d2]
      go_enter Try.func18, Try.ntmps18
      go_wp2
      go_ret
      exact ⟨rfl, rfl⟩
    · have d2 : decide (n ≤ b) = false := decide_eq_false h2
      rw [decide_eq_true h1, d2]
      go_enter Try.func18, Try.ntmps18
      go_wp2
      go_ret
      exact ⟨rfl, rfl⟩
  · rw [decide_eq_false h1, Bool.false_and]
    go_enter Try.func18, Try.ntmps18
    go_wp2
    go_ret
    exact ⟨rfl, rfl⟩
theorem cut_any (n : Int) (w : World) : Calls Try.prog 24 #[.int .i64 n, .int .i64 0, .int .i64 6] w fun e w' => e = .returned (.int .i64 (cutN n)) ∧ w = w' := by
  unfold cutN
  by_cases h1 : n < 0
  · rw [if_pos h1]
    go_enter Try.func24, Try.ntmps24
    go_wp2
    go_ret
    exact ⟨rfl, rfl⟩
  · rw [if_neg h1]
    by_cases h2 : 6 < n
    · rw [if_pos h2]
      go_enter Try.func24, Try.ntmps24
      go_wp2
      go_ret
      exact ⟨rfl, rfl⟩
    · rw [if_neg h2]
      go_enter Try.func24, Try.ntmps24
      go_wp2
      go_ret
      exact ⟨rfl, rfl⟩
theorem rneed_any (c : Cf) (w : World) : Calls Try.prog 17 #[.agg c.cells] w fun e w' => e = .returned (.int .i64 (needN c)) ∧ Below w.heap.size w w' := by
  have hb : Below w.heap.size w (w.alloc (.cells c.cells 38)) := (Below.refl _ _).alloc (Nat.le_refl _) _
  have c2 := (see_b (has_new w 38 c.cells)).c2
  have HK := Lib.hid (cut_any c.slot (w.alloc (.cells c.cells 38)))
  obtain ⟨k, hk, H⟩ : ∃ k, cutN c.slot = k ∧ 0 ≤ k ∧ k ≤ 6 := ⟨_, rfl, cut_in c.slot⟩
  have hN : needN c = 4 + 2 * k := by unfold needN; rw [hk]
  rw [hN]
  rw [hk] at HK
  clear hk hN
  obtain ⟨H1, H2⟩ := H
  go_enter Try.func17, Try.ntmps17
  go_wp2_with (first
    | (go_at_call 24; (with_reducible refine HK.out.mono ?_); rintro e w1 ⟨rfl, rfl⟩))
  go_ret
  exact ⟨rfl, hb⟩
theorem need_any (c : Cf) (w : World) : Calls Try.prog 16 #[.agg c.cells] w fun e w' => e = .returned (.int .i64 (needN c)) ∧ Below w.heap.size w w' := by
  have hb : Below w.heap.size w (w.alloc (.cells c.cells 38)) := (Below.refl _ _).alloc (Nat.le_refl _) _
  have c2 := (see_b (has_new w 38 c.cells)).c2
  unfold needN cutN
  generalize c.slot = s at *
  by_cases h1 : s < 0
  · rw [if_pos h1]
    go_enter Try.func16, Try.ntmps16
    go_wp2
    go_ret
    exact ⟨ret_int (by omega), hb⟩
  · rw [if_neg h1]
    by_cases h2 : 6 < s
    · rw [if_pos h2]
      go_enter Try.func16, Try.ntmps16
      go_wp2
      go_ret
      exact ⟨ret_int (by omega), hb⟩
    · rw [if_neg h2]
      go_enter Try.func16, Try.ntmps16
      go_wp2
      go_ret
      exact ⟨ret_int (by omega), hb⟩
end Go.Proofs.Ytljkngalnoepmaa
