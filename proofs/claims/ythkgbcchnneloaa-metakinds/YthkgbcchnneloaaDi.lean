/-
  The document's own small calls: an image that may be, how many chunks it takes; conditions: as each states.
-/
import Derived.Test.YthkgbcchnneloaaSl
namespace Go.Proofs.Ythkgbcchnneloaa
open Go.RowKit
set_option linter.unusedVariables false
set_option linter.unusedSimpArgs false

theorem rchunks_any (n : Int) (w : World) (h : 0 ≤ n ∧ n ≤ 1920) : Calls Try.prog 15 #[.int .i64 n] w fun e w' => e = .returned (.int .i64 (chunkN n)) ∧ w = w' := by
  obtain ⟨h1, h2⟩ := h
  by_cases h0 : n < 1
  · have e : chunkN n = 0 := by unfold chunkN; omega
    rw [e]
    clear e
    go_enter Try.func15, Try.ntmps15
    go_wp2
    go_ret
    exact ⟨rfl, rfl⟩
  · go_enter Try.func15, Try.ntmps15
    go_wp2
    go_ret
    exact ⟨ret_int (by unfold chunkN; omega), rfl⟩
theorem okI_no {i : Im} (h : ¬ i = zeroI) (h' : ¬ (1 ≤ i.ver ∧ i.ver ≤ 1073741824 ∧ 1 ≤ i.size ∧ i.size ≤ 1920)) : okI i = false := by
  unfold okI
  rw [decide_eq_false h, decide_eq_false h', Bool.or_false]
theorem okI_rest {i : Im} (h : ¬ i = zeroI) (h1 : 1 ≤ i.ver) (h2 : i.ver ≤ 1073741824) (h3 : 1 ≤ i.size) : okI i = decide (i.size ≤ 1920) := by
  unfold okI
  rw [decide_eq_false h, Bool.false_or, decide_eq_decide]
  exact ⟨fun h => h.2.2.2, fun h => ⟨h1, h2, h3, h⟩⟩
set_option maxRecDepth 100000 in
theorem image_none (i : Im) (w : World) (hi : i.Ok) (h0 : ¬ 0 < i.ver) : Calls Try.prog 14 #[.agg i.cells, .bool true] w fun e w' => e = .returned (.bool (okI i)) ∧ Below w.heap.size w w' := by
  have hb : Below w.heap.size w (w.alloc (.cells i.cells 24)) := (Below.refl _ _).alloc (Nat.le_refl _) _
  have hh := has_new w 24 i.cells
  have c0 : (w.alloc (.cells i.cells 24)).cell? ⟨w.heap.size, 0, none⟩ = some (.int .i64 i.ver) := hh.at 0
  have c1 : (w.alloc (.cells i.cells 24)).cell? ⟨w.heap.size, 1, none⟩ = some (.int .i64 i.size) := hh.at 1
  by_cases z : i = zeroI
  · have e : okI i = true := by rw [z]; rfl
    have HZ := Lib.hid (decide_eq_true z)
    rw [e]
    clear e z
    go_enter Try.func14, Try.ntmps14
    go_wp2_with (first
        | (refine wpList_load_row rfl 24 _ rfl w.heap.size rfl 24 _ (0, 0) _ hh Try.underlying24 rfl (size24 hi) ?_)
        | (refine wpList_build_to rfl 24 _ rfl _ built24 ?_)
        | (refine wpList_eqI rfl (.tmp 5) (.tmp 6) rfl i zeroI rfl rfl hi zeroI_ok _ HZ.out ?_))
    go_ret
    exact ⟨rfl, hb⟩
  · have e : okI i = false := okI_no z (by omega)
    have HZ := Lib.hid (decide_eq_false z)
    rw [e]
    clear e z
    go_enter Try.func14, Try.ntmps14
    go_wp2_with (first
        | (refine wpList_load_row rfl 24 _ rfl w.heap.size rfl 24 _ (0, 0) _ hh Try.underlying24 rfl (size24 hi) ?_)
        | (refine wpList_build_to rfl 24 _ rfl _ built24 ?_)
        | (refine wpList_eqI rfl (.tmp 5) (.tmp 6) rfl i zeroI rfl rfl hi zeroI_ok _ HZ.out ?_))
    go_ret
    exact ⟨rfl, hb⟩
set_option maxRecDepth 100000 in
theorem image_one (i : Im) (w : World) (hi : i.Ok) : Calls Try.prog 14 #[.agg i.cells, .bool false] w fun e w' => e = .returned (.bool (okI i)) ∧ Below w.heap.size w w' := by
  have hb : Below w.heap.size w (w.alloc (.cells i.cells 24)) := (Below.refl _ _).alloc (Nat.le_refl _) _
  have hh := has_new w 24 i.cells
  have c0 : (w.alloc (.cells i.cells 24)).cell? ⟨w.heap.size, 0, none⟩ = some (.int .i64 i.ver) := hh.at 0
  have c1 : (w.alloc (.cells i.cells 24)).cell? ⟨w.heap.size, 1, none⟩ = some (.int .i64 i.size) := hh.at 1
  by_cases z : i = zeroI
  · have e : okI i = true := by rw [z]; rfl
    have HZ := Lib.hid (decide_eq_true z)
    rw [e]
    clear e z
    go_enter Try.func14, Try.ntmps14
    go_wp2_with (first
        | (refine wpList_load_row rfl 24 _ rfl w.heap.size rfl 24 _ (0, 0) _ hh Try.underlying24 rfl (size24 hi) ?_)
        | (refine wpList_build_to rfl 24 _ rfl _ built24 ?_)
        | (refine wpList_eqI rfl (.tmp 5) (.tmp 6) rfl i zeroI rfl rfl hi zeroI_ok _ HZ.out ?_))
    go_ret
    exact ⟨rfl, hb⟩
  · have HZ := Lib.hid (decide_eq_false z)
    by_cases h0 : 1 ≤ i.ver
    rotate_left
    · have e : okI i = false := okI_no z (by omega)
      have g0 : decide (1 ≤ i.ver) = false := decide_eq_false h0
      rw [e]
      clear e z
      go_enter Try.func14, Try.ntmps14
      go_wp2_with (first
            | (refine wpList_load_row rfl 24 _ rfl w.heap.size rfl 24 _ (0, 0) _ hh Try.underlying24 rfl (size24 hi) ?_)
            | (refine wpList_build_to rfl 24 _ rfl _ built24 ?_)
            | (refine wpList_eqI rfl (.tmp 5) (.tmp 6) rfl i zeroI rfl rfl hi zeroI_ok _ HZ.out ?_))
      go_ret
      exact ⟨rfl, hb⟩
    have g0 : decide (1 ≤ i.ver) = true := decide_eq_true h0
    by_cases h1 : i.ver ≤ 1073741824
    rotate_left
    · have e : okI i = false := okI_no z (by omega)
      have g1 : decide (i.ver ≤ 1073741824) = false := decide_eq_false h1
      rw [e]
      clear e z
      go_enter Try.func14, Try.ntmps14
      go_wp2_with (first
            | (refine wpList_load_row rfl 24 _ rfl w.heap.size rfl 24 _ (0, 0) _ hh Try.underlying24 rfl (size24 hi) ?_)
            | (refine wpList_build_to rfl 24 _ rfl _ built24 ?_)
            | (refine wpList_eqI rfl (.tmp 5) (.tmp 6) rfl i zeroI rfl rfl hi zeroI_ok _ HZ.out ?_))
      go_ret
      exact ⟨rfl, hb⟩
    have g1 : decide (i.ver ≤ 1073741824) = true := decide_eq_true h1
    by_cases h2 : 1 ≤ i.size
    rotate_left
    · have e : okI i = false := okI_no z (by omega)
      have g2 : decide (1 ≤ i.size) = false := decide_eq_false h2
      rw [e]
      clear e z
      go_enter Try.func14, Try.ntmps14
      go_wp2_with (first
            | (refine wpList_load_row rfl 24 _ rfl w.heap.size rfl 24 _ (0, 0) _ hh Try.underlying24 rfl (size24 hi) ?_)
            | (refine wpList_build_to rfl 24 _ rfl _ built24 ?_)
            | (refine wpList_eqI rfl (.tmp 5) (.tmp 6) rfl i zeroI rfl rfl hi zeroI_ok _ HZ.out ?_))
      go_ret
      exact ⟨rfl, hb⟩
    have g2 : decide (1 ≤ i.size) = true := decide_eq_true h2
    rw [okI_rest z h0 h1 h2]
    clear z
    go_enter Try.func14, Try.ntmps14
    go_wp2_with (first
        | (refine wpList_load_row rfl 24 _ rfl w.heap.size rfl 24 _ (0, 0) _ hh Try.underlying24 rfl (size24 hi) ?_)
        | (refine wpList_build_to rfl 24 _ rfl _ built24 ?_)
        | (refine wpList_eqI rfl (.tmp 5) (.tmp 6) rfl i zeroI rfl rfl hi zeroI_ok _ HZ.out ?_))
    go_ret
    exact ⟨rfl, hb⟩
end Go.Proofs.Ythkgbcchnneloaa
