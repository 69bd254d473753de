/-
  May a config be? The program's Right, the document's own; conditions: the config came in (its name is no longer than a text may be, its numbers are of 64 bits).
-/
import Derived.Test.YtljkngalnoepmaaSl
namespace Go.Proofs.Ytljkngalnoepmaa
open Go.RowKit
set_option linter.unusedVariables false
set_option linter.unusedSimpArgs false

set_option maxRecDepth 100000 in
theorem rr_0 (c : Cf) (w : World) (hc : c.Ok) (e0 : Nam.validL (Nam.all c.name) = true) (h0 : ¬ (1 : Int) ≤ (c.kl : Int)) : Calls Try.prog 15 #[.agg c.cells] w fun e w' => e = .returned (.bool (rightB c)) ∧ Below w.heap.size w w' := by
  have hb0 : Below w.heap.size w (w.alloc (.cells c.cells 38)) := (Below.refl _ _).alloc (Nat.le_refl _) _
  have hh := has_new w 38 c.cells
  have c00 := (see_b hh).c0
  have EF : Hid (false = rightB c) := Lib.hid (by
    unfold rightB
    rw [e0]
    rw [win_lo (show (c.kl : Int) < (1 : Int) by omega)]
    rfl)
  have HV := Lib.hid (Nam.rvalid_any c.name (w.alloc (.cells c.cells 38)) hc.name)
  rw [e0] at HV
  clear e0
  have d0 : decide ((1 : Int) ≤ (c.kl : Int)) = false := decide_eq_false h0
  go_enter Try.func15, Try.ntmps15
  go_wp2_with (go_at_call 23; (with_reducible refine HV.out.mono ?_); rintro e w1 ⟨rfl, b1⟩; have C1 := Lib.hid (hb0.trans (b1.mono hb0.size)); have S1 := see_b (hh.kept b1); obtain ⟨c0, c1, c2, c3, c4, c5, c6, cl⟩ := S1; clear HV b1 cl hb0 hh)
  go_ret
  exact ⟨ret_bool EF.out, C1.out⟩
set_option maxRecDepth 100000 in
theorem rr_1 (c : Cf) (w : World) (hc : c.Ok) (e0 : Nam.validL (Nam.all c.name) = true) (h0 : (1 : Int) ≤ (c.kl : Int)) (h1 : ¬ (c.kl : Int) ≤ 64) : Calls Try.prog 15 #[.agg c.cells] w fun e w' => e = .returned (.bool (rightB c)) ∧ Below w.heap.size w w' := by
  have hb0 : Below w.heap.size w (w.alloc (.cells c.cells 38)) := (Below.refl _ _).alloc (Nat.le_refl _) _
  have hh := has_new w 38 c.cells
  have c00 := (see_b hh).c0
  have EF : Hid (false = rightB c) := Lib.hid (by
    unfold rightB
    rw [e0]
    rw [win_hi (show 64 < (c.kl : Int) by omega)]
    rfl)
  have HV := Lib.hid (Nam.rvalid_any c.name (w.alloc (.cells c.cells 38)) hc.name)
  rw [e0] at HV
  clear e0
  have d0 : decide ((1 : Int) ≤ (c.kl : Int)) = true := decide_eq_true h0
  have d1 : decide ((c.kl : Int) ≤ 64) = false := decide_eq_false h1
  go_enter Try.func15, Try.ntmps15
  go_wp2_with (go_at_call 23; (with_reducible refine HV.out.mono ?_); rintro e w1 ⟨rfl, b1⟩; have C1 := Lib.hid (hb0.trans (b1.mono hb0.size)); have S1 := see_b (hh.kept b1); obtain ⟨c0, c1, c2, c3, c4, c5, c6, cl⟩ := S1; clear HV b1 cl hb0 hh)
  go_ret
  exact ⟨ret_bool EF.out, C1.out⟩
set_option maxRecDepth 100000 in
theorem rr_2 (c : Cf) (w : World) (hc : c.Ok) (e0 : Nam.validL (Nam.all c.name) = true) (h0 : (1 : Int) ≤ (c.kl : Int)) (h1 : (c.kl : Int) ≤ 64) (h2 : ¬ 1 ≤ c.slot) : Calls Try.prog 15 #[.agg c.cells] w fun e w' => e = .returned (.bool (rightB c)) ∧ Below w.heap.size w w' := by
  have hb0 : Below w.heap.size w (w.alloc (.cells c.cells 38)) := (Below.refl _ _).alloc (Nat.le_refl _) _
  have hh := has_new w 38 c.cells
  have c00 := (see_b hh).c0
  have EF : Hid (false = rightB c) := Lib.hid (by
    unfold rightB
    rw [e0]
    rw [win_yes h0 h1]
    rw [win_lo (show c.slot < 1 by omega)]
    rfl)
  have HV := Lib.hid (Nam.rvalid_any c.name (w.alloc (.cells c.cells 38)) hc.name)
  rw [e0] at HV
  clear e0
  have d0 : decide ((1 : Int) ≤ (c.kl : Int)) = true := decide_eq_true h0
  have d1 : decide ((c.kl : Int) ≤ 64) = true := decide_eq_true h1
  have d2 : decide (1 ≤ c.slot) = false := decide_eq_false h2
  go_enter Try.func15, Try.ntmps15
  go_wp2_with (go_at_call 23; (with_reducible refine HV.out.mono ?_); rintro e w1 ⟨rfl, b1⟩; have C1 := Lib.hid (hb0.trans (b1.mono hb0.size)); have S1 := see_b (hh.kept b1); obtain ⟨c0, c1, c2, c3, c4, c5, c6, cl⟩ := S1; clear HV b1 cl hb0 hh)
  go_ret
  exact ⟨ret_bool EF.out, C1.out⟩
set_option maxRecDepth 100000 in
theorem rr_3 (c : Cf) (w : World) (hc : c.Ok) (e0 : Nam.validL (Nam.all c.name) = true) (h0 : (1 : Int) ≤ (c.kl : Int)) (h1 : (c.kl : Int) ≤ 64) (h2 : 1 ≤ c.slot) (h3 : ¬ c.slot ≤ 6) : Calls Try.prog 15 #[.agg c.cells] w fun e w' => e = .returned (.bool (rightB c)) ∧ Below w.heap.size w w' := by
  have hb0 : Below w.heap.size w (w.alloc (.cells c.cells 38)) := (Below.refl _ _).alloc (Nat.le_refl _) _
  have hh := has_new w 38 c.cells
  have c00 := (see_b hh).c0
  have EF : Hid (false = rightB c) := Lib.hid (by
    unfold rightB
    rw [e0]
    rw [win_yes h0 h1]
    rw [win_hi (show 6 < c.slot by omega)]
    rfl)
  have HV := Lib.hid (Nam.rvalid_any c.name (w.alloc (.cells c.cells 38)) hc.name)
  rw [e0] at HV
  clear e0
  have d0 : decide ((1 : Int) ≤ (c.kl : Int)) = true := decide_eq_true h0
  have d1 : decide ((c.kl : Int) ≤ 64) = true := decide_eq_true h1
  have d2 : decide (1 ≤ c.slot) = true := decide_eq_true h2
  have d3 : decide (c.slot ≤ 6) = false := decide_eq_false h3
  go_enter Try.func15, Try.ntmps15
  go_wp2_with (go_at_call 23; (with_reducible refine HV.out.mono ?_); rintro e w1 ⟨rfl, b1⟩; have C1 := Lib.hid (hb0.trans (b1.mono hb0.size)); have S1 := see_b (hh.kept b1); obtain ⟨c0, c1, c2, c3, c4, c5, c6, cl⟩ := S1; clear HV b1 cl hb0 hh)
  go_ret
  exact ⟨ret_bool EF.out, C1.out⟩
set_option maxRecDepth 100000 in
theorem rr_4 (c : Cf) (w : World) (hc : c.Ok) (e0 : Nam.validL (Nam.all c.name) = true) (h0 : (1 : Int) ≤ (c.kl : Int)) (h1 : (c.kl : Int) ≤ 64) (h2 : 1 ≤ c.slot) (h3 : c.slot ≤ 6) (h4 : ¬ 0 ≤ c.budget) : Calls Try.prog 15 #[.agg c.cells] w fun e w' => e = .returned (.bool (rightB c)) ∧ Below w.heap.size w w' := by
  have hb0 : Below w.heap.size w (w.alloc (.cells c.cells 38)) := (Below.refl _ _).alloc (Nat.le_refl _) _
  have hh := has_new w 38 c.cells
  have c00 := (see_b hh).c0
  have EF : Hid (false = rightB c) := Lib.hid (by
    unfold rightB
    rw [e0]
    rw [win_yes h0 h1]
    rw [win_yes h2 h3]
    rw [win_lo (show c.budget < 0 by omega)]
    rfl)
  have HV := Lib.hid (Nam.rvalid_any c.name (w.alloc (.cells c.cells 38)) hc.name)
  rw [e0] at HV
  clear e0
  have d0 : decide ((1 : Int) ≤ (c.kl : Int)) = true := decide_eq_true h0
  have d1 : decide ((c.kl : Int) ≤ 64) = true := decide_eq_true h1
  have d2 : decide (1 ≤ c.slot) = true := decide_eq_true h2
  have d3 : decide (c.slot ≤ 6) = true := decide_eq_true h3
  have d4 : decide (0 ≤ c.budget) = false := decide_eq_false h4
  go_enter Try.func15, Try.ntmps15
  go_wp2_with (go_at_call 23; (with_reducible refine HV.out.mono ?_); rintro e w1 ⟨rfl, b1⟩; have C1 := Lib.hid (hb0.trans (b1.mono hb0.size)); have S1 := see_b (hh.kept b1); obtain ⟨c0, c1, c2, c3, c4, c5, c6, cl⟩ := S1; clear HV b1 cl hb0 hh)
  go_ret
  exact ⟨ret_bool EF.out, C1.out⟩
end Go.Proofs.Ytljkngalnoepmaa
