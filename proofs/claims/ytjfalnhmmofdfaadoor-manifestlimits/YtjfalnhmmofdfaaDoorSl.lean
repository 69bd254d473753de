/-
  The small calls: a number within its limits, an error's number, whether a manifest that was read may be one; conditions: as each states.
-/
import Derived.Test.YtjfalnhmmofdfaaDoorMk
import Derived.Test.YtjfalnhmmofdfaaDoorNaCount
namespace Go.Proofs.YtjfalnhmmofdfaaDoor
open Go.RowKit
set_option linter.unusedVariables false
set_option linter.unusedSimpArgs false

theorem ret_bool {a b : Bool} (h : a = b) : Ending.returned (.bool a) = .returned (.bool b) := by rw [h]
theorem lnum_any (n : Int) (w : World) : Calls Tryd.prog 14 #[.int .i64 n] w fun e w' => e = .returned (.int .i64 n) ∧ w = w' := by
  go_enter Tryd.func14, Tryd.ntmps14
  go_wp2
  go_ret
  exact ⟨rfl, rfl⟩
theorem within_any (x : Int) (w : World) : Calls Tryd.prog 44 #[.int .i64 x, .int .i64 1073741824] w fun e w' => e = .returned (.bool (decide (Num x))) ∧ w = w' := by
  by_cases h1 : 1 ≤ x
  · by_cases h2 : x ≤ 1073741824
    · have e : decide (Num x) = true := decide_eq_true ⟨h1, h2⟩
      have d2 : decide (x ≤ 1073741824) = true := decide_eq_true h2
      rw [e]
      clear e
      go_enter Tryd.func44, Tryd.ntmps44
      go_wp2
      go_ret
      exact ⟨rfl, rfl⟩
    · have e : decide (Num x) = false := decide_eq_false (fun h => h2 h.2)
      have d2 : decide (x ≤ 1073741824) = false := decide_eq_false h2
      rw [e]
      clear e
      go_enter Tryd.func44, Tryd.ntmps44
      go_wp2
      go_ret
      exact ⟨rfl, rfl⟩
  · have e : decide (Num x) = false := decide_eq_false (fun h => h1 h.1)
    rw [e]
    clear e
    go_enter Tryd.func44, Tryd.ntmps44
    go_wp2
    go_ret
    exact ⟨rfl, rfl⟩
/-- May a manifest that was read be one? -/
def rightB (m : Mn) : Bool := Nam.validL (Nam.all m.name) && (decide (Num m.ver) && decide (Num m.size))
set_option maxRecDepth 100000 in
theorem right_any (m : Mn) (w : World) : Calls Tryd.prog 22 #[.agg m.cells] w fun e w' => e = .returned (.bool (rightB m)) ∧ Below w.heap.size w w' := by
  have hb : Below w.heap.size w (w.alloc (.cells m.cells 27)) := (Below.refl _ _).alloc (Nat.le_refl _) _
  have hh := has_new w 27 m.cells
  have c0 : (w.alloc (.cells m.cells 27)).cell? ⟨w.heap.size, 0, none⟩ = some (.string m.name) := hh.at 0
  have HV := Lib.hid (Nam.valid_any m.name (w.alloc (.cells m.cells 27)))
  cases hv : Nam.validL (Nam.all m.name) with
  | false =>
    rw [hv] at HV
    have e : rightB m = false := by unfold rightB; rw [hv]; rfl
    rw [e]
    clear e hv
    go_enter Tryd.func22, Tryd.ntmps22
    go_wp2_with (go_at_call 43; (with_reducible refine HV.out.mono ?_); rintro e w1 ⟨rfl, H1⟩)
    go_ret
    exact ⟨rfl, hb.trans (H1.mono hb.size)⟩
  | true =>
    rw [hv] at HV
    have e : rightB m = (decide (Num m.ver) && decide (Num m.size)) := by unfold rightB; rw [hv]; rfl
    rw [e]
    clear e hv
    cases h1 : decide (Num m.ver) with
    | false =>
      go_enter Tryd.func22, Tryd.ntmps22
      go_wp2_with (first
        | (go_at_call 43; (with_reducible refine HV.out.mono ?_); rintro e w1 ⟨rfl, H1⟩; have c1 : w1.cell? ⟨w.heap.size, 1, none⟩ = some (.int .i64 m.ver) := (hh.kept H1).at 1; have HW := Lib.hid (within_any m.ver w1); rw [h1] at HW)
        | (go_at_call 44; (with_reducible refine HW.out.mono ?_); rintro e w2 ⟨rfl, rfl⟩))
      go_ret
      exact ⟨rfl, hb.trans (H1.mono hb.size)⟩
    | true =>
      cases h2 : decide (Num m.size) with
      | false =>
        go_enter Tryd.func22, Tryd.ntmps22
        go_wp2_with (first
          | (go_at_call 43; (with_reducible refine HV.out.mono ?_); rintro e w1 ⟨rfl, H1⟩; have c1 : w1.cell? ⟨w.heap.size, 1, none⟩ = some (.int .i64 m.ver) := (hh.kept H1).at 1; have c2 : w1.cell? ⟨w.heap.size, 2, none⟩ = some (.int .i64 m.size) := (hh.kept H1).at 2; have HW := Lib.hid (within_any m.ver w1); rw [h1] at HW; have HX := Lib.hid (within_any m.size w1); rw [h2] at HX)
          | (go_at_call 44; (with_reducible refine HW.out.mono ?_); rintro e w2 ⟨rfl, rfl⟩; clear HW)
          | (go_at_call 44; (with_reducible refine HX.out.mono ?_); rintro e w3 ⟨rfl, rfl⟩))
        go_ret
        exact ⟨rfl, hb.trans (H1.mono hb.size)⟩
      | true =>
        go_enter Tryd.func22, Tryd.ntmps22
        go_wp2_with (first
          | (go_at_call 43; (with_reducible refine HV.out.mono ?_); rintro e w1 ⟨rfl, H1⟩; have c1 : w1.cell? ⟨w.heap.size, 1, none⟩ = some (.int .i64 m.ver) := (hh.kept H1).at 1; have c2 : w1.cell? ⟨w.heap.size, 2, none⟩ = some (.int .i64 m.size) := (hh.kept H1).at 2; have HW := Lib.hid (within_any m.ver w1); rw [h1] at HW; have HX := Lib.hid (within_any m.size w1); rw [h2] at HX)
          | (go_at_call 44; (with_reducible refine HW.out.mono ?_); rintro e w2 ⟨rfl, rfl⟩; clear HW)
          | (go_at_call 44; (with_reducible refine HX.out.mono ?_); rintro e w3 ⟨rfl, rfl⟩))
        go_ret
        exact ⟨rfl, hb.trans (H1.mono hb.size)⟩
end Go.Proofs.YtjfalnhmmofdfaaDoor
