/-
  The walk of the law UpdateStates: which request may be when; conditions: none.
-/
import Derived.Test.YtcokpdhhpaahgaaDoorVs0
import Derived.Test.YtcokpdhhpaahgaaDoorVs1
import Derived.Test.YtcokpdhhpaahgaaDoorVs2
import Derived.Test.YtcokpdhhpaahgaaDoorVs3
import Derived.Test.YtcokpdhhpaahgaaDoorVs4
import Derived.Test.YtcokpdhhpaahgaaDoorVs5
namespace Go.Proofs.YtcokpdhhpaahgaaDoor.updateStates
open Go.RowKit
set_option linter.unusedVariables false
set_option linter.unusedSimpArgs false

set_option maxRecDepth 100000 in
set_option maxHeartbeats 40000000 in
theorem away (p k t : Int) (w : World) (h : p < 0 ∨ 3 < p ∨ k < 2 ∨ 10 < k ∨ t < 0 ∨ 2 < t) : Calls Tryd.prog 7 #[.int .i64 p, .int .i64 k, .int .i64 t] w fun e w' => e = .returned (.bool true) ∧ Below w.heap.size w w' := by
  have HLV := Lib.hid (alive_any w)
  by_cases h0 : p < 0
  · have d0 : decide (p < 0) = true := decide_eq_true h0
    clear h
    go_enter Tryd.func7, Tryd.ntmps7
    go_wp2_with (go_at_call 9; (with_reducible refine HLV.out.mono ?_); rintro e w1 ⟨rfl, b1⟩)
    go_ret
    exact ⟨rfl, b1⟩
  have d0 : decide (p < 0) = false := decide_eq_false h0
  by_cases h1 : 3 < p
  · have d1 : decide (3 < p) = true := decide_eq_true h1
    clear h
    go_enter Tryd.func7, Tryd.ntmps7
    go_wp2_with (go_at_call 9; (with_reducible refine HLV.out.mono ?_); rintro e w1 ⟨rfl, b1⟩)
    go_ret
    exact ⟨rfl, b1⟩
  have d1 : decide (3 < p) = false := decide_eq_false h1
  by_cases h2 : k < 2
  · have d2 : decide (k < 2) = true := decide_eq_true h2
    clear h
    go_enter Tryd.func7, Tryd.ntmps7
    go_wp2_with (go_at_call 9; (with_reducible refine HLV.out.mono ?_); rintro e w1 ⟨rfl, b1⟩)
    go_ret
    exact ⟨rfl, b1⟩
  have d2 : decide (k < 2) = false := decide_eq_false h2
  by_cases h3 : 10 < k
  · have d3 : decide (10 < k) = true := decide_eq_true h3
    clear h
    go_enter Tryd.func7, Tryd.ntmps7
    go_wp2_with (go_at_call 9; (with_reducible refine HLV.out.mono ?_); rintro e w1 ⟨rfl, b1⟩)
    go_ret
    exact ⟨rfl, b1⟩
  have d3 : decide (10 < k) = false := decide_eq_false h3
  by_cases h4 : t < 0
  · have d4 : decide (t < 0) = true := decide_eq_true h4
    clear h
    go_enter Tryd.func7, Tryd.ntmps7
    go_wp2_with (go_at_call 9; (with_reducible refine HLV.out.mono ?_); rintro e w1 ⟨rfl, b1⟩)
    go_ret
    exact ⟨rfl, b1⟩
  have d4 : decide (t < 0) = false := decide_eq_false h4
  have d5 : decide (2 < t) = true := decide_eq_true (by omega)
  clear h
  go_enter Tryd.func7, Tryd.ntmps7
  go_wp2_with (go_at_call 9; (with_reducible refine HLV.out.mono ?_); rintro e w1 ⟨rfl, b1⟩)
  go_ret
  exact ⟨rfl, b1⟩
theorem walk (p k t : Int) (w : World) (wp : (Lit.int .i64 p).wf = true) (wk : (Lit.int .i64 k).wf = true) (wt : (Lit.int .i64 t).wf = true) : Calls Tryd.prog 7 #[.int .i64 p, .int .i64 k, .int .i64 t] w fun e w' => e = .returned (.bool true) ∧ Below w.heap.size w w' := by
  by_cases h : p < 0 ∨ 3 < p ∨ k < 2 ∨ 10 < k ∨ t < 0 ∨ 2 < t
  · exact away p k t w h
  have hp : p = 0 ∨ p = 1 ∨ p = 2 ∨ p = 3 := by omega
  have hk : k = 2 ∨ k = 3 ∨ k = 4 ∨ k = 5 ∨ k = 6 ∨ k = 7 ∨ k = 8 ∨ k = 9 ∨ k = 10 := by omega
  have ht : t = 0 ∨ t = 1 ∨ t = 2 := by omega
  have t0 : 0 ≤ t := by omega
  have t2 : t ≤ 2 := by omega
  clear h
  rcases hp with rfl | rfl | rfl | rfl
  · rcases hk with rfl | rfl | rfl | rfl | rfl | rfl | rfl | rfl | rfl
    · exact st_0_2 t w t0 t2
    · exact st_0_3 t w t0 t2
    · exact st_0_4 t w t0 t2
    · exact st_0_5 t w t0 t2
    · exact st_0_6 t w t0 t2
    · exact st_0_7 t w t0 t2
    · exact st_0_8 t w t0 t2
    · exact st_0_9 t w t0 t2
    · exact st_0_10 t w t0 t2
  · rcases hk with rfl | rfl | rfl | rfl | rfl | rfl | rfl | rfl | rfl
    · exact st_1_2 t w t0 t2
    · exact st_1_3 t w t0 t2
    · exact st_1_4 t w t0 t2
    · exact st_1_5 t w t0 t2
    · exact st_1_6 t w t0 t2
    · exact st_1_7 t w t0 t2
    · exact st_1_8 t w t0 t2
    · exact st_1_9 t w t0 t2
    · exact st_1_10 t w t0 t2
  · rcases hk with rfl | rfl | rfl | rfl | rfl | rfl | rfl | rfl | rfl
    · exact st_2_2 t w t0 t2
    · exact st_2_3 t w t0 t2
    · exact st_2_4 t w t0 t2
    · exact st_2_5 t w t0 t2
    · exact st_2_6 t w t0 t2
    · exact st_2_7 t w t0 t2
    · exact st_2_8 t w t0 t2
    · exact st_2_9 t w t0 t2
    · exact st_2_10 t w t0 t2
  · rcases hk with rfl | rfl | rfl | rfl | rfl | rfl | rfl | rfl | rfl
    · rcases ht with rfl | rfl | rfl
      · exact st_3_2_0 w
      · exact st_3_2_1 w
      · exact st_3_2_2 w
    · rcases ht with rfl | rfl | rfl
      · exact st_3_3_0 w
      · exact st_3_3_1 w
      · exact st_3_3_2 w
    · rcases ht with rfl | rfl | rfl
      · exact st_3_4_0 w
      · exact st_3_4_1 w
      · exact st_3_4_2 w
    · rcases ht with rfl | rfl | rfl
      · exact st_3_5_0 w
      · exact st_3_5_1 w
      · exact st_3_5_2 w
    · rcases ht with rfl | rfl | rfl
      · exact st_3_6_0 w
      · exact st_3_6_1 w
      · exact st_3_6_2 w
    · rcases ht with rfl | rfl | rfl
      · exact st_3_7_0 w
      · exact st_3_7_1 w
      · exact st_3_7_2 w
    · rcases ht with rfl | rfl | rfl
      · exact st_3_8_0 w
      · exact st_3_8_1 w
      · exact st_3_8_2 w
    · rcases ht with rfl | rfl | rfl
      · exact st_3_9_0 w
      · exact st_3_9_1 w
      · exact st_3_9_2 w
    · rcases ht with rfl | rfl | rfl
      · exact st_3_10_0 w
      · exact st_3_10_1 w
      · exact st_3_10_2 w
end Go.Proofs.YtcokpdhhpaahgaaDoor.updateStates
