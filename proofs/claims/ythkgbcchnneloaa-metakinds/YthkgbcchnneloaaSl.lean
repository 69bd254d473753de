/-
  The small calls: a number within its limits, an image that may be, how many chunks it takes, whether bytes are all 0; conditions: as each states.
-/
import Derived.Test.YthkgbcchnneloaaEq
namespace Go.Proofs.Ythkgbcchnneloaa
open Go.RowKit
set_option linter.unusedVariables false
set_option linter.unusedSimpArgs false

theorem ret_bool {a b : Bool} (h : a = b) : Ending.returned (.bool a) = .returned (.bool b) := by rw [h]
theorem ret_int {a b : Int} (h : a = b) : Ending.returned (.int .i64 a) = .returned (.int .i64 b) := by rw [h]
theorem wpList_build_to {w : World} {ops : Array Oper} {rest : List Oper} {o : Oper} {a : Act} {Q : Exit → Act → World → Prop} (hg : o.guard = none) (t : TypeId) (parts : Array (Nat × Operand)) (ho : o.op = .build t parts)
    (cells : Array Value) (hb : Try.prog.built t (parts.map fun (i, x) => (i, a.eval x)).toList = some cells) (h : wpList Try.prog ops Q rest (a.put o.dst (.agg cells)) w) : wpList Try.prog ops Q (o :: rest) a w :=
  wpList_build hg t parts ho (by rw [hb]; rfl) (by rw [hb]; exact h)
/-- A load whose run is known, guarded or not. -/
theorem wpList_ld {w : World} {ops : Array Oper} {rest : List Oper} {o : Oper} {a : Act} {Q : Exit → Act → World → Prop} (ty : TypeId) (x : Operand) (ho : o.op = .load ty x) (p v : Value) (hr : (Instr.loadAt ty p).run Try.prog w = .ok v w) (hx : a.eval x = p) (hw : Region.wanted o (yielded ops a.tmps) = true)
    (h : wpList Try.prog ops Q rest (a.put o.dst v) w) : wpList Try.prog ops Q (o :: rest) a w :=
  wpList_step fun K hK => by
    rw [if_pos hw]
    unfold Oper.wp execOp
    simp only [ho, hx, Sem.run_bind, hr, Result.andThen_ok]
    exact hK _ _ h
theorem wpList_eqI {w : World} {ops : Array Oper} {rest : List Oper} {o : Oper} {a : Act} {Q : Exit → Act → World → Prop} (hg : o.guard = none) (x y : Operand) (ho : o.op = .binOp .eql 24 x y 24) (i k : Im) (hx : a.eval x = .agg i.cells) (hy : a.eval y = .agg k.cells) (hi : i.Ok) (hk : k.Ok) (z : Bool) (hz : decide (i = k) = z)
    (h : wpList Try.prog ops Q rest (a.put o.dst (.bool z)) w) : wpList Try.prog ops Q (o :: rest) a w :=
  wpList_plain hg fun K hK => by
    have h1 := run_eqGuard_agg (P := Try.prog) w .eql 24 x y i.cells k.cells (by kernel_rfl)
    have h2 := run_eql_struct (P := Try.prog) w 24 i.cells k.cells
    rw [eq24 hi hk w, hz] at h2
    unfold Oper.wp execOp
    simp only [ho, hx, hy, Sem.run_bind, h1, h2, Result.andThen_ok]
    exact hK _ _ h
theorem lnum_any (n : Int) (w : World) : Calls Try.prog 13 #[.int .i64 n] w fun e w' => e = .returned (.int .i64 n) ∧ w = w' := by
  go_enter Try.func13, Try.ntmps13
  go_wp2
  go_ret
  exact ⟨rfl, rfl⟩
theorem within_any (x y : Int) (w : World) : Calls Try.prog 38 #[.int .i64 x, .int .i64 y] w fun e w' => e = .returned (.bool (decide (0 ≤ x ∧ x ≤ y))) ∧ w = w' := by
  by_cases h1 : 0 ≤ x
  · by_cases h2 : x ≤ y
    · have d2 : decide (x ≤ y) = true := decide_eq_true h2
      rw [decide_eq_true (⟨h1, h2⟩ : 0 ≤ x ∧ x ≤ y)]
      go_enter Try.func38, Try.ntmps38
      go_wp2
      go_ret
      exact ⟨rfl, rfl⟩
    · have d2 : decide (x ≤ y) = false := decide_eq_false h2
      rw [decide_eq_false (fun h : 0 ≤ x ∧ x ≤ y => h2 h.2)]
      go_enter Try.func38, Try.ntmps38
      go_wp2
      go_ret
      exact ⟨rfl, rfl⟩
  · rw [decide_eq_false (fun h : 0 ≤ x ∧ x ≤ y => h1 h.1)]
    go_enter Try.func38, Try.ntmps38
    go_wp2
    go_ret
    exact ⟨rfl, rfl⟩
theorem im_0 (i : Im) : i.cells[0]? = some (.int .i64 i.ver) := rfl
theorem im_1 (i : Im) : i.cells[1]? = some (.int .i64 i.size) := rfl
theorem isOne_any (i : Im) (w : World) : Calls Try.prog 40 #[.agg i.cells] w fun e w' => e = .returned (.bool (decide (i.ver ≠ 0))) ∧ Below w.heap.size w w' := by
  have hb : Below w.heap.size w (w.alloc (.cells i.cells 24)) := (Below.refl _ _).alloc (Nat.le_refl _) _
  have c0 : (w.alloc (.cells i.cells 24)).cell? ⟨w.heap.size, 0, none⟩ = some (.int .i64 i.ver) := (has_new w 24 i.cells).at 0
  go_enter Try.func40, Try.ntmps40
  go_wp2
  go_ret
  exact ⟨ret_bool (by by_cases e : i.ver = 0 <;> simp [e]), hb⟩
theorem chunks_any (i : Im) (w : World) (h0 : 0 ≤ i.size ∧ i.size ≤ 1920) : Calls Try.prog 42 #[.agg i.cells] w fun e w' => e = .returned (.int .i64 (chunkN i.size)) ∧ Below w.heap.size w w' := by
  have hb : Below w.heap.size w (w.alloc (.cells i.cells 24)) := (Below.refl _ _).alloc (Nat.le_refl _) _
  have c1 : (w.alloc (.cells i.cells 24)).cell? ⟨w.heap.size, 1, none⟩ = some (.int .i64 i.size) := (has_new w 24 i.cells).at 1
  obtain ⟨h1, h2⟩ := h0
  go_enter Try.func42, Try.ntmps42
  go_wp2
  go_ret
  exact ⟨ret_int (by unfold chunkN; omega), hb⟩
theorem okI_zero {i : Im} (h : i.ver = 0 ∨ i.size = 0) : okI i = decide (i = zeroI) := by
  unfold okI
  rw [decide_eq_false (show ¬ (1 ≤ i.ver ∧ i.ver ≤ 1073741824 ∧ 1 ≤ i.size ∧ i.size ≤ 1920) by omega), Bool.or_false]
theorem okI_more {i : Im} (h : ¬ i.ver = 0) (h' : ¬ i.size = 0) : okI i = (decide (0 ≤ i.ver ∧ i.ver ≤ 1073741824) && decide (0 ≤ i.size ∧ i.size ≤ 1920)) := by
  unfold okI
  rw [decide_eq_false (show ¬ i = zeroI from fun e => h (by rw [e]; rfl)), Bool.false_or, Bool.eq_iff_iff]
  simp only [Bool.and_eq_true, decide_eq_true_eq]
  omega
set_option maxRecDepth 100000 in
theorem rightImage_any (i : Im) (w : World) (hi : i.Ok) : Calls Try.prog 39 #[.agg i.cells] w fun e w' => e = .returned (.bool (okI i)) ∧ Below w.heap.size w w' := by
  have hb : Below w.heap.size w (w.alloc (.cells i.cells 24)) := (Below.refl _ _).alloc (Nat.le_refl _) _
  have hh := has_new w 24 i.cells
  have c0 : (w.alloc (.cells i.cells 24)).cell? ⟨w.heap.size, 0, none⟩ = some (.int .i64 i.ver) := hh.at 0
  have c1 : (w.alloc (.cells i.cells 24)).cell? ⟨w.heap.size, 1, none⟩ = some (.int .i64 i.size) := hh.at 1
  by_cases h0 : i.ver = 0
  · rw [okI_zero (.inl h0)]
    go_enter Try.func39, Try.ntmps39
    go_wp2_with (first
      | (refine wpList_load_row rfl 24 _ rfl w.heap.size rfl 24 _ (0, 0) _ hh Try.underlying24 rfl (size24 hi) ?_)
      | (refine wpList_build_to rfl 24 _ rfl _ built24 ?_)
      | (refine wpList_eqI rfl (.tmp 11) (.tmp 12) rfl i zeroI rfl rfl hi zeroI_ok _ rfl ?_))
    go_ret
    exact ⟨rfl, hb⟩
  · by_cases h1 : i.size = 0
    · rw [okI_zero (.inr h1)]
      go_enter Try.func39, Try.ntmps39
      go_wp2_with (first
        | (refine wpList_load_row rfl 24 _ rfl w.heap.size rfl 24 _ (0, 0) _ hh Try.underlying24 rfl (size24 hi) ?_)
        | (refine wpList_build_to rfl 24 _ rfl _ built24 ?_)
        | (refine wpList_eqI rfl (.tmp 11) (.tmp 12) rfl i zeroI rfl rfl hi zeroI_ok _ rfl ?_))
      go_ret
      exact ⟨rfl, hb⟩
    · rw [okI_more h0 h1]
      have d0 : (i.ver == 0) = false := by simp [h0]
      have d1 : (i.size == 0) = false := by simp [h1]
      have HW1 := Lib.hid (within_any i.ver 1073741824 (w.alloc (.cells i.cells 24)))
      have HW2 := Lib.hid (within_any i.size 1920 (w.alloc (.cells i.cells 24)))
      cases e1 : decide (0 ≤ i.ver ∧ i.ver ≤ 1073741824) with
      | false =>
        rw [e1] at HW1
        clear e1
        go_enter Try.func39, Try.ntmps39
        go_wp2_with (first
          | (go_at_call 38; (with_reducible refine HW1.out.mono ?_); rintro e w1 ⟨rfl, rfl⟩))
        go_ret
        exact ⟨rfl, hb⟩
      | true =>
        rw [e1] at HW1
        clear e1
        cases e2 : decide (0 ≤ i.size ∧ i.size ≤ 1920) with
        | false =>
          rw [e2] at HW2
          clear e2
          go_enter Try.func39, Try.ntmps39
          go_wp2_with (first
            | (go_at_call 38; (with_reducible refine HW1.out.mono ?_); rintro e w1 ⟨rfl, rfl⟩; clear HW1)
            | (go_at_call 38; (with_reducible refine HW2.out.mono ?_); rintro e w1 ⟨rfl, rfl⟩))
          go_ret
          exact ⟨rfl, hb⟩
        | true =>
          rw [e2] at HW2
          clear e2
          go_enter Try.func39, Try.ntmps39
          go_wp2_with (first
            | (go_at_call 38; (with_reducible refine HW1.out.mono ?_); rintro e w1 ⟨rfl, rfl⟩; clear HW1)
            | (go_at_call 38; (with_reducible refine HW2.out.mono ?_); rintro e w1 ⟨rfl, rfl⟩))
          go_ret
          exact ⟨rfl, hb⟩
end Go.Proofs.Ythkgbcchnneloaa
