/-
  The walk of the law RequestTorn: no beginning of a request, or of an answer, is one, and none with more behind; conditions: the request's bytes lie as they read.
-/
import Derived.Test.YtjfgnoidoeaaeaaLv
namespace Go.Proofs.Ytjfgnoidoeaaeaa
open Go.RowKit
set_option linter.unusedVariables false
set_option linter.unusedSimpArgs false
theorem below_on {B : Nat} {w0 w w' : World} {o : Obj} (h : Below B w0 w) (hB : B ≤ w.heap.size) (on : Only (fun b => b = w.heap.size) (w.alloc o) w') : Below B w0 w' :=
  (h.alloc hB o).trans (on.to_below (by rw [World.size_alloc]; omega) (fun b e => by omega))
theorem has_on {w w' : World} {g : Nat} {t : TypeId} {cs : Array Value} {o : Obj} (h : Has w g t cs) (on : Only (fun b => b = w.heap.size) (w.alloc o) w') : Has w' g t cs := (h.more o).only on (by have := h.size; omega)
theorem row_on {w w' : World} {A : Option Addr} {n : Nat} {zs : List Int} {o : Obj} (h : Row w A n zs) (on : Only (fun b => b = w.heap.size) (w.alloc o) w') : Row w' A n zs :=
  row_under (row_below ((Below.refl _ _).alloc (Nat.le_refl _) o) h) (row_lies h) on (fun b e => by omega)
/-- What Read and ReadAnswer answer of what is none. -/
def NotQ (w : World) (e : Ending) (w' : World) : Prop := ∃ A c, e = .returned (.tuple #[.agg (qc 0 0 (.slice A 0 c)), .int .i64 6]) ∧ Below w.heap.size w w'
theorem read_not (A : Option Addr) (n c : Nat) (zs : List Int) (w : World) (h : ¬ GoodQ zs) (hr : Row w A n zs) (hn : n ≤ 1000000) : Calls Try.prog 8 #[.slice A n c] w (NotQ w) := by
  refine (read_any A n c zs w hr hn).mono ?_
  intro e w' hx
  obtain ⟨A', c', rfl, _, _, b⟩ := readsq_of (k := 0) (n := 0) (e := 6) (bs := []) (by unfold toldK; rw [if_neg h]) (by unfold toldN; rw [if_neg h]) (by unfold toldE; rw [if_neg h]) (by unfold toldB; rw [if_neg h]) hx
  exact ⟨A', c', rfl, b⟩
def IsR (r : Rp) (x : Int) (w : World) (e : Ending) (w' : World) : Prop := e = .returned (.tuple #[.agg r.cells, .int .i64 x]) ∧ Below w.heap.size w w'
theorem ans_not (A : Option Addr) (n c : Nat) (zs : List Int) (w : World) (h : ¬ GoodR zs) (hr : Row w A n zs) (hn : n ≤ 1000000) : Calls Try.prog 10 #[.slice A n c] w (IsR zeroR 6 w) := by
  refine (readAnswer_any A n c zs w hr hn).mono ?_
  rintro e w' ⟨rfl, b⟩
  exact ⟨by unfold respR respE; rw [if_neg h, if_neg h], b⟩
theorem ans_yes (A : Option Addr) (n c : Nat) (r : Rp) (w : World) (h : respB r = true) (hr : Row w A n (respL r)) (hn : n ≤ 1000000) : Calls Try.prog 10 #[.slice A n c] w (IsR r 0 w) := by
  refine (readAnswer_any A n c (respL r) w hr hn).mono ?_
  rintro e w' ⟨rfl, b⟩
  obtain ⟨g, e1⟩ := resp_back h
  exact ⟨by unfold respR respE; rw [if_pos g, if_pos g, e1], b⟩
end Go.Proofs.Ytjfgnoidoeaaeaa
namespace Go.Proofs.Ytjfgnoidoeaaeaa.requestTorn
open Go.RowKit
set_option linter.unusedVariables false
set_option linter.unusedSimpArgs false

set_option maxRecDepth 100000 in
set_option maxHeartbeats 8000000 in
theorem walk_out (k n : Int) (A : Option Addr) (l c : Nat) (r : Rp) (t : Int) (w : World) (h : 1000 < (l : Int) ∨ k < 1 ∨ 9 < k ∨ n < 0 ∨ 2147483647 < n ∨ r.err < 0 ∨ 16 < r.err ∨ r.num < 0 ∨ 2147483647 < r.num ∨ r.gott < 0 ∨ 2147483647 < r.gott ∨ t < 0) :
    Calls Try.prog 4 #[.agg (qc k n (.slice A l c)), .agg r.cells, .int .i64 t] w fun e w' => e = .returned (.bool true) ∧ Below w.heap.size w w' := by
  have C0 : Hid (Below w.heap.size w ((w.alloc (.cells (qc k n (.slice A l c)) 24)).alloc (.cells r.cells 27))) := Lib.hid (((Below.refl _ _).alloc (Nat.le_refl _) _).alloc (by simp) _)
  have H0 : Hid (Has ((w.alloc (.cells (qc k n (.slice A l c)) 24)).alloc (.cells r.cells 27)) w.heap.size 24 (qc k n (.slice A l c))) := Lib.hid ((has_new w 24 (qc k n (.slice A l c))).more _)
  have g0 := has_new (w.alloc (.cells (qc k n (.slice A l c)) 24)) 27 r.cells
  rw [World.size_alloc] at g0
  have G0 := Lib.hid g0
  have HLV := Lib.hid (live_any ((w.alloc (.cells (qc k n (.slice A l c)) 24)).alloc (.cells r.cells 27)))
  clear g0
  by_cases i0 : 1000 < (l : Int)
  · have d0 := decide_eq_true i0
    clear h i0
    go_enter Try.func4, Try.ntmps4
    go_wp2_with (first | (go_at_call 6; (with_reducible refine HLV.out.mono ?_); rintro e w1 ⟨rfl, b1⟩; clear HLV; have H1 := Lib.hid (H0.out.kept b1); have G1 := Lib.hid (G0.out.kept b1); have C1 := Lib.hid (C0.out.trans (b1.mono C0.out.size)); clear b1 H0 G0; have q0 : w1.cell? ⟨w.heap.size, 0, none⟩ = some (.int .i64 k) := H1.out.at 0; have q1 : w1.cell? ⟨w.heap.size, 1, none⟩ = some (.int .i64 n) := H1.out.at 1; have q2 : w1.cell? ⟨w.heap.size, 2, none⟩ = some (.slice A l c) := H1.out.at 2; have s0 := Lib.hid (ld25 (show w1.cell? ⟨w.heap.size + 1, 0, none⟩ = some (.int .i64 r.err) from G1.out.at 0)); have s1 : w1.cell? ⟨w.heap.size + 1, 1, none⟩ = some (.int .i64 r.num) := G1.out.at 1; have s2 : w1.cell? ⟨w.heap.size + 1, 2, none⟩ = some (.int .i64 r.gott) := G1.out.at 2) | (refine wpList_ld 25 _ rfl _ _ s0.out rfl rfl ?_))
    go_ret
    exact ⟨rfl, C1.out⟩
  have d0 := decide_eq_false i0
  by_cases i1 : k < 1
  · have d1 := decide_eq_true i1
    clear h i1
    go_enter Try.func4, Try.ntmps4
    go_wp2_with (first | (go_at_call 6; (with_reducible refine HLV.out.mono ?_); rintro e w1 ⟨rfl, b1⟩; clear HLV; have H1 := Lib.hid (H0.out.kept b1); have G1 := Lib.hid (G0.out.kept b1); have C1 := Lib.hid (C0.out.trans (b1.mono C0.out.size)); clear b1 H0 G0; have q0 : w1.cell? ⟨w.heap.size, 0, none⟩ = some (.int .i64 k) := H1.out.at 0; have q1 : w1.cell? ⟨w.heap.size, 1, none⟩ = some (.int .i64 n) := H1.out.at 1; have q2 : w1.cell? ⟨w.heap.size, 2, none⟩ = some (.slice A l c) := H1.out.at 2; have s0 := Lib.hid (ld25 (show w1.cell? ⟨w.heap.size + 1, 0, none⟩ = some (.int .i64 r.err) from G1.out.at 0)); have s1 : w1.cell? ⟨w.heap.size + 1, 1, none⟩ = some (.int .i64 r.num) := G1.out.at 1; have s2 : w1.cell? ⟨w.heap.size + 1, 2, none⟩ = some (.int .i64 r.gott) := G1.out.at 2) | (refine wpList_ld 25 _ rfl _ _ s0.out rfl rfl ?_))
    go_ret
    exact ⟨rfl, C1.out⟩
  have d1 := decide_eq_false i1
  by_cases i2 : 9 < k
  · have d2 := decide_eq_true i2
    clear h i2
    go_enter Try.func4, Try.ntmps4
    go_wp2_with (first | (go_at_call 6; (with_reducible refine HLV.out.mono ?_); rintro e w1 ⟨rfl, b1⟩; clear HLV; have H1 := Lib.hid (H0.out.kept b1); have G1 := Lib.hid (G0.out.kept b1); have C1 := Lib.hid (C0.out.trans (b1.mono C0.out.size)); clear b1 H0 G0; have q0 : w1.cell? ⟨w.heap.size, 0, none⟩ = some (.int .i64 k) := H1.out.at 0; have q1 : w1.cell? ⟨w.heap.size, 1, none⟩ = some (.int .i64 n) := H1.out.at 1; have q2 : w1.cell? ⟨w.heap.size, 2, none⟩ = some (.slice A l c) := H1.out.at 2; have s0 := Lib.hid (ld25 (show w1.cell? ⟨w.heap.size + 1, 0, none⟩ = some (.int .i64 r.err) from G1.out.at 0)); have s1 : w1.cell? ⟨w.heap.size + 1, 1, none⟩ = some (.int .i64 r.num) := G1.out.at 1; have s2 : w1.cell? ⟨w.heap.size + 1, 2, none⟩ = some (.int .i64 r.gott) := G1.out.at 2) | (refine wpList_ld 25 _ rfl _ _ s0.out rfl rfl ?_))
    go_ret
    exact ⟨rfl, C1.out⟩
  have d2 := decide_eq_false i2
  by_cases i3 : n < 0
  · have d3 := decide_eq_true i3
    clear h i3
    go_enter Try.func4, Try.ntmps4
    go_wp2_with (first | (go_at_call 6; (with_reducible refine HLV.out.mono ?_); rintro e w1 ⟨rfl, b1⟩; clear HLV; have H1 := Lib.hid (H0.out.kept b1); have G1 := Lib.hid (G0.out.kept b1); have C1 := Lib.hid (C0.out.trans (b1.mono C0.out.size)); clear b1 H0 G0; have q0 : w1.cell? ⟨w.heap.size, 0, none⟩ = some (.int .i64 k) := H1.out.at 0; have q1 : w1.cell? ⟨w.heap.size, 1, none⟩ = some (.int .i64 n) := H1.out.at 1; have q2 : w1.cell? ⟨w.heap.size, 2, none⟩ = some (.slice A l c) := H1.out.at 2; have s0 := Lib.hid (ld25 (show w1.cell? ⟨w.heap.size + 1, 0, none⟩ = some (.int .i64 r.err) from G1.out.at 0)); have s1 : w1.cell? ⟨w.heap.size + 1, 1, none⟩ = some (.int .i64 r.num) := G1.out.at 1; have s2 : w1.cell? ⟨w.heap.size + 1, 2, none⟩ = some (.int .i64 r.gott) := G1.out.at 2) | (refine wpList_ld 25 _ rfl _ _ s0.out rfl rfl ?_))
    go_ret
    exact ⟨rfl, C1.out⟩
  have d3 := decide_eq_false i3
  by_cases i4 : 2147483647 < n
  · have d4 := decide_eq_true i4
    clear h i4
    go_enter Try.func4, Try.ntmps4
    go_wp2_with (first | (go_at_call 6; (with_reducible refine HLV.out.mono ?_); rintro e w1 ⟨rfl, b1⟩; clear HLV; have H1 := Lib.hid (H0.out.kept b1); have G1 := Lib.hid (G0.out.kept b1); have C1 := Lib.hid (C0.out.trans (b1.mono C0.out.size)); clear b1 H0 G0; have q0 : w1.cell? ⟨w.heap.size, 0, none⟩ = some (.int .i64 k) := H1.out.at 0; have q1 : w1.cell? ⟨w.heap.size, 1, none⟩ = some (.int .i64 n) := H1.out.at 1; have q2 : w1.cell? ⟨w.heap.size, 2, none⟩ = some (.slice A l c) := H1.out.at 2; have s0 := Lib.hid (ld25 (show w1.cell? ⟨w.heap.size + 1, 0, none⟩ = some (.int .i64 r.err) from G1.out.at 0)); have s1 : w1.cell? ⟨w.heap.size + 1, 1, none⟩ = some (.int .i64 r.num) := G1.out.at 1; have s2 : w1.cell? ⟨w.heap.size + 1, 2, none⟩ = some (.int .i64 r.gott) := G1.out.at 2) | (refine wpList_ld 25 _ rfl _ _ s0.out rfl rfl ?_))
    go_ret
    exact ⟨rfl, C1.out⟩
  have d4 := decide_eq_false i4
  by_cases i5 : r.err < 0
  · have d5 := decide_eq_true i5
    clear h i5
    go_enter Try.func4, Try.ntmps4
    go_wp2_with (first | (go_at_call 6; (with_reducible refine HLV.out.mono ?_); rintro e w1 ⟨rfl, b1⟩; clear HLV; have H1 := Lib.hid (H0.out.kept b1); have G1 := Lib.hid (G0.out.kept b1); have C1 := Lib.hid (C0.out.trans (b1.mono C0.out.size)); clear b1 H0 G0; have q0 : w1.cell? ⟨w.heap.size, 0, none⟩ = some (.int .i64 k) := H1.out.at 0; have q1 : w1.cell? ⟨w.heap.size, 1, none⟩ = some (.int .i64 n) := H1.out.at 1; have q2 : w1.cell? ⟨w.heap.size, 2, none⟩ = some (.slice A l c) := H1.out.at 2; have s0 := Lib.hid (ld25 (show w1.cell? ⟨w.heap.size + 1, 0, none⟩ = some (.int .i64 r.err) from G1.out.at 0)); have s1 : w1.cell? ⟨w.heap.size + 1, 1, none⟩ = some (.int .i64 r.num) := G1.out.at 1; have s2 : w1.cell? ⟨w.heap.size + 1, 2, none⟩ = some (.int .i64 r.gott) := G1.out.at 2) | (refine wpList_ld 25 _ rfl _ _ s0.out rfl rfl ?_))
    go_ret
    exact ⟨rfl, C1.out⟩
  have d5 := decide_eq_false i5
  by_cases i6 : 16 < r.err
  · have d6 := decide_eq_true i6
    clear h i6
    go_enter Try.func4, Try.ntmps4
    go_wp2_with (first | (go_at_call 6; (with_reducible refine HLV.out.mono ?_); rintro e w1 ⟨rfl, b1⟩; clear HLV; have H1 := Lib.hid (H0.out.kept b1); have G1 := Lib.hid (G0.out.kept b1); have C1 := Lib.hid (C0.out.trans (b1.mono C0.out.size)); clear b1 H0 G0; have q0 : w1.cell? ⟨w.heap.size, 0, none⟩ = some (.int .i64 k) := H1.out.at 0; have q1 : w1.cell? ⟨w.heap.size, 1, none⟩ = some (.int .i64 n) := H1.out.at 1; have q2 : w1.cell? ⟨w.heap.size, 2, none⟩ = some (.slice A l c) := H1.out.at 2; have s0 := Lib.hid (ld25 (show w1.cell? ⟨w.heap.size + 1, 0, none⟩ = some (.int .i64 r.err) from G1.out.at 0)); have s1 : w1.cell? ⟨w.heap.size + 1, 1, none⟩ = some (.int .i64 r.num) := G1.out.at 1; have s2 : w1.cell? ⟨w.heap.size + 1, 2, none⟩ = some (.int .i64 r.gott) := G1.out.at 2) | (refine wpList_ld 25 _ rfl _ _ s0.out rfl rfl ?_))
    go_ret
    exact ⟨rfl, C1.out⟩
  have d6 := decide_eq_false i6
  by_cases i7 : r.num < 0
  · have d7 := decide_eq_true i7
    clear h i7
    go_enter Try.func4, Try.ntmps4
    go_wp2_with (first | (go_at_call 6; (with_reducible refine HLV.out.mono ?_); rintro e w1 ⟨rfl, b1⟩; clear HLV; have H1 := Lib.hid (H0.out.kept b1); have G1 := Lib.hid (G0.out.kept b1); have C1 := Lib.hid (C0.out.trans (b1.mono C0.out.size)); clear b1 H0 G0; have q0 : w1.cell? ⟨w.heap.size, 0, none⟩ = some (.int .i64 k) := H1.out.at 0; have q1 : w1.cell? ⟨w.heap.size, 1, none⟩ = some (.int .i64 n) := H1.out.at 1; have q2 : w1.cell? ⟨w.heap.size, 2, none⟩ = some (.slice A l c) := H1.out.at 2; have s0 := Lib.hid (ld25 (show w1.cell? ⟨w.heap.size + 1, 0, none⟩ = some (.int .i64 r.err) from G1.out.at 0)); have s1 : w1.cell? ⟨w.heap.size + 1, 1, none⟩ = some (.int .i64 r.num) := G1.out.at 1; have s2 : w1.cell? ⟨w.heap.size + 1, 2, none⟩ = some (.int .i64 r.gott) := G1.out.at 2) | (refine wpList_ld 25 _ rfl _ _ s0.out rfl rfl ?_))
    go_ret
    exact ⟨rfl, C1.out⟩
  have d7 := decide_eq_false i7
  by_cases i8 : 2147483647 < r.num
  · have d8 := decide_eq_true i8
    clear h i8
    go_enter Try.func4, Try.ntmps4
    go_wp2_with (first | (go_at_call 6; (with_reducible refine HLV.out.mono ?_); rintro e w1 ⟨rfl, b1⟩; clear HLV; have H1 := Lib.hid (H0.out.kept b1); have G1 := Lib.hid (G0.out.kept b1); have C1 := Lib.hid (C0.out.trans (b1.mono C0.out.size)); clear b1 H0 G0; have q0 : w1.cell? ⟨w.heap.size, 0, none⟩ = some (.int .i64 k) := H1.out.at 0; have q1 : w1.cell? ⟨w.heap.size, 1, none⟩ = some (.int .i64 n) := H1.out.at 1; have q2 : w1.cell? ⟨w.heap.size, 2, none⟩ = some (.slice A l c) := H1.out.at 2; have s0 := Lib.hid (ld25 (show w1.cell? ⟨w.heap.size + 1, 0, none⟩ = some (.int .i64 r.err) from G1.out.at 0)); have s1 : w1.cell? ⟨w.heap.size + 1, 1, none⟩ = some (.int .i64 r.num) := G1.out.at 1; have s2 : w1.cell? ⟨w.heap.size + 1, 2, none⟩ = some (.int .i64 r.gott) := G1.out.at 2) | (refine wpList_ld 25 _ rfl _ _ s0.out rfl rfl ?_))
    go_ret
    exact ⟨rfl, C1.out⟩
  have d8 := decide_eq_false i8
  by_cases i9 : r.gott < 0
  · have d9 := decide_eq_true i9
    clear h i9
    go_enter Try.func4, Try.ntmps4
    go_wp2_with (first | (go_at_call 6; (with_reducible refine HLV.out.mono ?_); rintro e w1 ⟨rfl, b1⟩; clear HLV; have H1 := Lib.hid (H0.out.kept b1); have G1 := Lib.hid (G0.out.kept b1); have C1 := Lib.hid (C0.out.trans (b1.mono C0.out.size)); clear b1 H0 G0; have q0 : w1.cell? ⟨w.heap.size, 0, none⟩ = some (.int .i64 k) := H1.out.at 0; have q1 : w1.cell? ⟨w.heap.size, 1, none⟩ = some (.int .i64 n) := H1.out.at 1; have q2 : w1.cell? ⟨w.heap.size, 2, none⟩ = some (.slice A l c) := H1.out.at 2; have s0 := Lib.hid (ld25 (show w1.cell? ⟨w.heap.size + 1, 0, none⟩ = some (.int .i64 r.err) from G1.out.at 0)); have s1 : w1.cell? ⟨w.heap.size + 1, 1, none⟩ = some (.int .i64 r.num) := G1.out.at 1; have s2 : w1.cell? ⟨w.heap.size + 1, 2, none⟩ = some (.int .i64 r.gott) := G1.out.at 2) | (refine wpList_ld 25 _ rfl _ _ s0.out rfl rfl ?_))
    go_ret
    exact ⟨rfl, C1.out⟩
  have d9 := decide_eq_false i9
  by_cases i10 : 2147483647 < r.gott
  · have d10 := decide_eq_true i10
    clear h i10
    go_enter Try.func4, Try.ntmps4
    go_wp2_with (first | (go_at_call 6; (with_reducible refine HLV.out.mono ?_); rintro e w1 ⟨rfl, b1⟩; clear HLV; have H1 := Lib.hid (H0.out.kept b1); have G1 := Lib.hid (G0.out.kept b1); have C1 := Lib.hid (C0.out.trans (b1.mono C0.out.size)); clear b1 H0 G0; have q0 : w1.cell? ⟨w.heap.size, 0, none⟩ = some (.int .i64 k) := H1.out.at 0; have q1 : w1.cell? ⟨w.heap.size, 1, none⟩ = some (.int .i64 n) := H1.out.at 1; have q2 : w1.cell? ⟨w.heap.size, 2, none⟩ = some (.slice A l c) := H1.out.at 2; have s0 := Lib.hid (ld25 (show w1.cell? ⟨w.heap.size + 1, 0, none⟩ = some (.int .i64 r.err) from G1.out.at 0)); have s1 : w1.cell? ⟨w.heap.size + 1, 1, none⟩ = some (.int .i64 r.num) := G1.out.at 1; have s2 : w1.cell? ⟨w.heap.size + 1, 2, none⟩ = some (.int .i64 r.gott) := G1.out.at 2) | (refine wpList_ld 25 _ rfl _ _ s0.out rfl rfl ?_))
    go_ret
    exact ⟨rfl, C1.out⟩
  have d10 := decide_eq_false i10
  by_cases i11 : t < 0
  · have d11 := decide_eq_true i11
    clear h i11
    go_enter Try.func4, Try.ntmps4
    go_wp2_with (first | (go_at_call 6; (with_reducible refine HLV.out.mono ?_); rintro e w1 ⟨rfl, b1⟩; clear HLV; have H1 := Lib.hid (H0.out.kept b1); have G1 := Lib.hid (G0.out.kept b1); have C1 := Lib.hid (C0.out.trans (b1.mono C0.out.size)); clear b1 H0 G0; have q0 : w1.cell? ⟨w.heap.size, 0, none⟩ = some (.int .i64 k) := H1.out.at 0; have q1 : w1.cell? ⟨w.heap.size, 1, none⟩ = some (.int .i64 n) := H1.out.at 1; have q2 : w1.cell? ⟨w.heap.size, 2, none⟩ = some (.slice A l c) := H1.out.at 2; have s0 := Lib.hid (ld25 (show w1.cell? ⟨w.heap.size + 1, 0, none⟩ = some (.int .i64 r.err) from G1.out.at 0)); have s1 : w1.cell? ⟨w.heap.size + 1, 1, none⟩ = some (.int .i64 r.num) := G1.out.at 1; have s2 : w1.cell? ⟨w.heap.size + 1, 2, none⟩ = some (.int .i64 r.gott) := G1.out.at 2) | (refine wpList_ld 25 _ rfl _ _ s0.out rfl rfl ?_))
    go_ret
    exact ⟨rfl, C1.out⟩
  have d11 := decide_eq_false i11
  omega
end Go.Proofs.Ytjfgnoidoeaaeaa.requestTorn
