/-
  May a config be? The program's Right, the document's own; conditions: the config came in (its name is no longer than a text may be, its numbers are of 64 bits).
-/
import Derived.Test.YtljkngalnoepmaaSl
namespace Go.Proofs.Ytljkngalnoepmaa
open Go.RowKit
set_option linter.unusedVariables false
set_option linter.unusedSimpArgs false

set_option maxRecDepth 100000 in
theorem rr_5 (c : Cf) (w : World) (hc : c.Ok) (e0 : Nam.validL (Nam.all c.name) = true) (h0 : (1 : Int) ≤ (c.kl : Int)) (h1 : (c.kl : Int) ≤ 64) (h2 : 1 ≤ c.slot) (h3 : c.slot ≤ 6) (h4 : 0 ≤ c.budget) (h5 : ¬ c.budget ≤ 1000) : Calls Try.prog 15 #[.agg c.cells] w fun e w' => e = .returned (.bool (rightB c)) ∧ Below w.heap.size w w' := by
  have hb0 : Below w.heap.size w (w.alloc (.cells c.cells 38)) := (Below.refl _ _).alloc (Nat.le_refl _) _
  have hh := has_new w 38 c.cells
  have c00 := (see_b hh).c0
  have EF : Hid (false = rightB c) := Lib.hid (by
    unfold rightB
    rw [e0]
    rw [win_yes h0 h1]
    rw [win_yes h2 h3]
    rw [win_hi (show 1000 < c.budget by omega)]
    rfl)
  have HV := Lib.hid (Nam.rvalid_any c.name (w.alloc (.cells c.cells 38)) hc.name)
  rw [e0] at HV
  clear e0
  have d0 : decide ((1 : Int) ≤ (c.kl : Int)) = true := decide_eq_true h0
  have d1 : decide ((c.kl : Int) ≤ 64) = true := decide_eq_true h1
  have d2 : decide (1 ≤ c.slot) = true := decide_eq_true h2
  have d3 : decide (c.slot ≤ 6) = true := decide_eq_true h3
  have d4 : decide (0 ≤ c.budget) = true := decide_eq_true h4
  have d5 : decide (c.budget ≤ 1000) = false := decide_eq_false h5
  go_enter Try.func15, Try.ntmps15
  go_wp2_with (go_at_call 23; (with_reducible refine HV.out.mono ?_); rintro e w1 ⟨rfl, b1⟩; have C1 := Lib.hid (hb0.trans (b1.mono hb0.size)); have S1 := see_b (hh.kept b1); obtain ⟨c0, c1, c2, c3, c4, c5, c6, cl⟩ := S1; clear HV b1 cl hb0 hh)
  go_ret
  exact ⟨ret_bool EF.out, C1.out⟩
set_option maxRecDepth 100000 in
theorem rr_6 (c : Cf) (w : World) (hc : c.Ok) (e0 : Nam.validL (Nam.all c.name) = true) (h0 : (1 : Int) ≤ (c.kl : Int)) (h1 : (c.kl : Int) ≤ 64) (h2 : 1 ≤ c.slot) (h3 : c.slot ≤ 6) (h4 : 0 ≤ c.budget) (h5 : c.budget ≤ 1000) (h6 : ¬ 1 ≤ c.quota) : Calls Try.prog 15 #[.agg c.cells] w fun e w' => e = .returned (.bool (rightB c)) ∧ Below w.heap.size w w' := by
  have hb0 : Below w.heap.size w (w.alloc (.cells c.cells 38)) := (Below.refl _ _).alloc (Nat.le_refl _) _
  have hh := has_new w 38 c.cells
  have c00 := (see_b hh).c0
  have EF : Hid (false = rightB c) := Lib.hid (by
    unfold rightB
    rw [e0]
    rw [win_yes h0 h1]
    rw [win_yes h2 h3]
    rw [win_yes h4 h5]
    rw [win_lo (show c.quota < 1 by omega)]
    rfl)
  have HV := Lib.hid (Nam.rvalid_any c.name (w.alloc (.cells c.cells 38)) hc.name)
  rw [e0] at HV
  clear e0
  have d0 : decide ((1 : Int) ≤ (c.kl : Int)) = true := decide_eq_true h0
  have d1 : decide ((c.kl : Int) ≤ 64) = true := decide_eq_true h1
  have d2 : decide (1 ≤ c.slot) = true := decide_eq_true h2
  have d3 : decide (c.slot ≤ 6) = true := decide_eq_true h3
  have d4 : decide (0 ≤ c.budget) = true := decide_eq_true h4
  have d5 : decide (c.budget ≤ 1000) = true := decide_eq_true h5
  have d6 : decide (1 ≤ c.quota) = false := decide_eq_false h6
  go_enter Try.func15, Try.ntmps15
  go_wp2_with (go_at_call 23; (with_reducible refine HV.out.mono ?_); rintro e w1 ⟨rfl, b1⟩; have C1 := Lib.hid (hb0.trans (b1.mono hb0.size)); have S1 := see_b (hh.kept b1); obtain ⟨c0, c1, c2, c3, c4, c5, c6, cl⟩ := S1; clear HV b1 cl hb0 hh)
  go_ret
  exact ⟨ret_bool EF.out, C1.out⟩
set_option maxRecDepth 100000 in
theorem rr_7 (c : Cf) (w : World) (hc : c.Ok) (e0 : Nam.validL (Nam.all c.name) = true) (h0 : (1 : Int) ≤ (c.kl : Int)) (h1 : (c.kl : Int) ≤ 64) (h2 : 1 ≤ c.slot) (h3 : c.slot ≤ 6) (h4 : 0 ≤ c.budget) (h5 : c.budget ≤ 1000) (h6 : 1 ≤ c.quota) (h7 : ¬ c.quota ≤ c.slot) : Calls Try.prog 15 #[.agg c.cells] w fun e w' => e = .returned (.bool (rightB c)) ∧ Below w.heap.size w w' := by
  have hb0 : Below w.heap.size w (w.alloc (.cells c.cells 38)) := (Below.refl _ _).alloc (Nat.le_refl _) _
  have hh := has_new w 38 c.cells
  have c00 := (see_b hh).c0
  have EF : Hid (false = rightB c) := Lib.hid (by
    unfold rightB
    rw [e0]
    rw [win_yes h0 h1]
    rw [win_yes h2 h3]
    rw [win_yes h4 h5]
    rw [win_hi (show c.slot < c.quota by omega)]
    rfl)
  have HV := Lib.hid (Nam.rvalid_any c.name (w.alloc (.cells c.cells 38)) hc.name)
  rw [e0] at HV
  clear e0
  have d0 : decide ((1 : Int) ≤ (c.kl : Int)) = true := decide_eq_true h0
  have d1 : decide ((c.kl : Int) ≤ 64) = true := decide_eq_true h1
  have d2 : decide (1 ≤ c.slot) = true := decide_eq_true h2
  have d3 : decide (c.slot ≤ 6) = true := decide_eq_true h3
  have d4 : decide (0 ≤ c.budget) = true := decide_eq_true h4
  have d5 : decide (c.budget ≤ 1000) = true := decide_eq_true h5
  have d6 : decide (1 ≤ c.quota) = true := decide_eq_true h6
  have d7 : decide (c.quota ≤ c.slot) = false := decide_eq_false h7
  go_enter Try.func15, Try.ntmps15
  go_wp2_with (go_at_call 23; (with_reducible refine HV.out.mono ?_); rintro e w1 ⟨rfl, b1⟩; have C1 := Lib.hid (hb0.trans (b1.mono hb0.size)); have S1 := see_b (hh.kept b1); obtain ⟨c0, c1, c2, c3, c4, c5, c6, cl⟩ := S1; clear HV b1 cl hb0 hh)
  go_ret
  exact ⟨ret_bool EF.out, C1.out⟩
set_option maxRecDepth 100000 in
theorem rr_8 (c : Cf) (w : World) (hc : c.Ok) (e0 : Nam.validL (Nam.all c.name) = true) (h0 : (1 : Int) ≤ (c.kl : Int)) (h1 : (c.kl : Int) ≤ 64) (h2 : 1 ≤ c.slot) (h3 : c.slot ≤ 6) (h4 : 0 ≤ c.budget) (h5 : c.budget ≤ 1000) (h6 : 1 ≤ c.quota) (h7 : c.quota ≤ c.slot) (h8 : ¬ 0 ≤ c.rights) : Calls Try.prog 15 #[.agg c.cells] w fun e w' => e = .returned (.bool (rightB c)) ∧ Below w.heap.size w w' := by
  have hb0 : Below w.heap.size w (w.alloc (.cells c.cells 38)) := (Below.refl _ _).alloc (Nat.le_refl _) _
  have hh := has_new w 38 c.cells
  have c00 := (see_b hh).c0
  have EF : Hid (false = rightB c) := Lib.hid (by
    unfold rightB
    rw [e0]
    rw [win_yes h0 h1]
    rw [win_yes h2 h3]
    rw [win_yes h4 h5]
    rw [win_yes h6 h7]
    rw [win_lo (show c.rights < 0 by omega)]
    rfl)
  have HV := Lib.hid (Nam.rvalid_any c.name (w.alloc (.cells c.cells 38)) hc.name)
  rw [e0] at HV
  clear e0
  have d0 : decide ((1 : Int) ≤ (c.kl : Int)) = true := decide_eq_true h0
  have d1 : decide ((c.kl : Int) ≤ 64) = true := decide_eq_true h1
  have d2 : decide (1 ≤ c.slot) = true := decide_eq_true h2
  have d3 : decide (c.slot ≤ 6) = true := decide_eq_true h3
  have d4 : decide (0 ≤ c.budget) = true := decide_eq_true h4
  have d5 : decide (c.budget ≤ 1000) = true := decide_eq_true h5
  have d6 : decide (1 ≤ c.quota) = true := decide_eq_true h6
  have d7 : decide (c.quota ≤ c.slot) = true := decide_eq_true h7
  have d8 : decide (0 ≤ c.rights) = false := decide_eq_false h8
  go_enter Try.func15, Try.ntmps15
  go_wp2_with (go_at_call 23; (with_reducible refine HV.out.mono ?_); rintro e w1 ⟨rfl, b1⟩; have C1 := Lib.hid (hb0.trans (b1.mono hb0.size)); have S1 := see_b (hh.kept b1); obtain ⟨c0, c1, c2, c3, c4, c5, c6, cl⟩ := S1; clear HV b1 cl hb0 hh)
  go_ret
  exact ⟨ret_bool EF.out, C1.out⟩
end Go.Proofs.Ytljkngalnoepmaa
