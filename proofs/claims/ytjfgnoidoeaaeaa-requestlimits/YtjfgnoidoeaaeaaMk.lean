/-
  Requests and answers in memory: their cells, how they are read, stored, told apart; the small calls; conditions: as each states.
-/
import Derived.Test.YtjfgnoidoeaaeaaMp
import Derived.Test.YtjfgnoidoeaaeaaRx
import Derived.Test.YtjfgnoidoeaaeaaLive
import Derived.Laws.StructEq
import Derived.Laws.CopyRow
import Derived.Deep.WholeRow
import Derived.Deep.RegionHeld3
import Derived.Deep.Cut
namespace Go.Proofs.Ytjfgnoidoeaaeaa
open Go.RowKit
set_option linter.unusedVariables false
set_option linter.unusedSimpArgs false

/-- A request's cells (v: its bytes), an answer's. -/
def qc (k n : Int) (v : Value) : Array Value := #[.int .i64 k, .int .i64 n, v]
def nilV : Value := .slice none 0 0
def Rp.cells (r : Rp) : Array Value := #[.int .i64 r.err, .int .i64 r.num, .int .i64 r.gott]
theorem qc_all (k n : Int) (A : Option Addr) (l c : Nat) : (qc k n (.slice A l c)).all (·.oneCell') = true := by simp [qc, Value.oneCell']
theorem rp_all (r : Rp) : r.cells.all (·.oneCell') = true := by simp [Rp.cells, Value.oneCell']
theorem size24 (k n : Int) (v : Value) : (Try.prog.info? 24).map (·.size) = some (qc k n v).size := by show _ = some 3; kernel_rfl
theorem size27 (r : Rp) : (Try.prog.info? 27).map (·.size) = some r.cells.size := by show _ = some 3; kernel_rfl
theorem zero24_run : ∀ w : World, (zeroValue 24).run Try.prog w = .ok (.agg (qc 0 0 nilV)) w := (zero_of_info (P := Try.prog) (t := 24) (n := 3) (by kernel_rfl)).1
theorem zero27_run : ∀ w : World, (zeroValue 27).run Try.prog w = .ok (.agg zeroR.cells) w := (zero_of_info (P := Try.prog) (t := 27) (n := 3) (by kernel_rfl)).1
theorem built24 : Try.prog.built 24 [] = some (qc 0 0 nilV) := by kernel_rfl
theorem built24b (k n : Int) : Try.prog.built 24 [(0, .int .i64 k), (1, .int .i64 n)] = some (qc k n nilV) := by kernel_rfl
theorem built27 : Try.prog.built 27 [] = some zeroR.cells := by kernel_rfl
theorem built27b (e n g : Int) : Try.prog.built 27 [(0, .int .i64 e), (1, .int .i64 n), (2, .int .i64 g)] = some (Rp.cells ⟨e, n, g⟩) := by kernel_rfl
theorem as24_yes (W : World) (v : Value) : (Instr.typeAssert (.iface 24 v) 55 24 true).run Try.prog W = .ok (.tuple #[v, .bool true]) W := by kernel_rfl
theorem as24_nil (W : World) : (Instr.typeAssert .nilIface 55 24 true).run Try.prog W = .ok (.tuple #[.agg (qc 0 0 nilV), .bool false]) W := by kernel_rfl
theorem as27_yes (W : World) (v : Value) : (Instr.typeAssert (.iface 27 v) 55 27 true).run Try.prog W = .ok (.tuple #[v, .bool true]) W := by kernel_rfl
theorem as27_nil (W : World) : (Instr.typeAssert .nilIface 55 27 true).run Try.prog W = .ok (.tuple #[.agg zeroR.cells, .bool false]) W := by kernel_rfl
theorem mkI24 (x : Value) (w : World) : (Instr.makeInterface 24 x).run Try.prog w = .ok (.iface 24 x) w := run_makeInterface w 24 x (by kernel_rfl)
theorem mkI27 (x : Value) (w : World) : (Instr.makeInterface 27 x).run Try.prog w = .ok (.iface 27 x) w := run_makeInterface w 27 x (by kernel_rfl)
theorem ld24 {w : World} {g : Nat} {k n : Int} {v : Value} (hg : Has w g 24 (qc k n v)) : (Instr.loadAt 24 (.pointer (some ⟨g, 0, none⟩))).run Try.prog w = .ok (.agg (qc k n v)) w := by
  simp only [Instr.loadAt, Instr.sureAddr, Sem.run_bind, Sem.run_pure, Result.andThen_ok, run_loadVar_row w g 24 24 (qc k n v) (0, 0) _ hg Try.underlying24 rfl (size24 k n v)]
theorem ld27 {w : World} {g : Nat} {r : Rp} (hg : Has w g 27 r.cells) : (Instr.loadAt 27 (.pointer (some ⟨g, 0, none⟩))).run Try.prog w = .ok (.agg r.cells) w := by
  simp only [Instr.loadAt, Instr.sureAddr, Sem.run_bind, Sem.run_pure, Result.andThen_ok, run_loadVar_row w g 27 27 r.cells (0, 0) _ hg Try.underlying27 rfl (size27 r)]
theorem ld25 {W : World} {g k : Nat} {x : Int} (h : W.cell? ⟨g, k, none⟩ = some (.int .i64 x)) : (Instr.loadAt 25 (.pointer (some ⟨g, k, none⟩))).run Try.prog W = .ok (.int .i64 x) W := by
  go_simp
theorem ret_bool {a b : Bool} (h : a = b) : Ending.returned (.bool a) = .returned (.bool b) := by rw [h]
theorem wpList_build_to {w : World} {ops : Array Oper} {rest : List Oper} {o : Oper} {a : Act} {Q : Exit → Act → World → Prop} (hg : o.guard = none) (t : TypeId) (parts : Array (Nat × Operand)) (ho : o.op = .build t parts)
    (cells : Array Value) (hb : Try.prog.built t (parts.map fun (i, x) => (i, a.eval x)).toList = some cells) (h : wpList Try.prog ops Q rest (a.put o.dst (.agg cells)) w) : wpList Try.prog ops Q (o :: rest) a w :=
  wpList_build hg t parts ho (by rw [hb]; rfl) (by rw [hb]; exact h)
/-- A load whose run is known, guarded or not. -/
theorem wpList_ld {w : World} {ops : Array Oper} {rest : List Oper} {o : Oper} {a : Act} {Q : Exit → Act → World → Prop} (ty : TypeId) (x : Operand) (ho : o.op = .load ty x) (p v : Value) (hr : (Instr.loadAt ty p).run Try.prog w = .ok v w) (hx : a.eval x = p) (hw : Region.wanted o (yielded ops a.tmps) = true)
    (h : wpList Try.prog ops Q rest (a.put o.dst v) w) : wpList Try.prog ops Q (o :: rest) a w :=
  wpList_step fun K hK => by
    rw [if_pos hw]
    unfold Oper.wp execOp
    simp only [ho, hx, Sem.run_bind, hr, Result.andThen_ok]
    exact hK _ _ h
/-- A whole value stored into a block that is known whole; the world behind it under a name. -/
theorem wpList_row {w : World} {ops : Array Oper} {rest : List Oper} {o : Oper} {a : Act} {Q : Exit → Act → World → Prop} (hgd : o.guard = none) (ty : TypeId) (x y : Operand) (ho : o.op = .store ty x y)
    (g : Nat) (cells : Array Value) (hx : a.eval x = .pointer (some ⟨g, 0, none⟩)) (hy : a.eval y = .agg cells) (t : TypeId) (old : Array Value) (hg : Has w g t old) (hi : (Try.prog.info? ty).map (·.size) = some cells.size)
    (hold : old.size = cells.size) (h1 : cells.all (·.oneCell') = true)
    (h : ∀ w', Has w' g t cells → Only (fun b => b = g) w w' → wpList Try.prog ops Q rest (a.put o.dst undef) w') : wpList Try.prog ops Q (o :: rest) a w :=
  wpList_store_row hgd ty x y ho g cells hx hy t old hg hi hold h1 (h _ (setRow_heap _ _ _ _ _ _ hg) ((Only.refl (fun b => b = g) w).setRow rfl _))
theorem yields_ld {ops : Array Oper} {S : World → Prop} {o : Oper} {a : Act} (hw : Region.wanted o (yielded ops a.tmps) = true) (ty : TypeId) (x : Operand) (ho : o.op = .load ty x) (p v : Value)
    (hS : ∀ W, S W → (Instr.loadAt ty p).run Try.prog W = .ok v W) (hx : a.eval x = p) : YieldsIf Try.prog ops S o v a :=
  Or.inl ⟨hw, fun W hW => by
    unfold execOp
    simp only [ho, hx, Sem.run_bind, hS W hW, Result.andThen_ok, Sem.run_pure]⟩
theorem num_any' (n : Int) (w : World) : Calls Try.prog 14 #[.int .i64 n] w fun e w' => e = .returned (.int .i64 n) ∧ w = w' := by
  go_enter Try.func14, Try.ntmps14
  go_wp2
  go_ret
  exact ⟨rfl, rfl⟩
theorem within_any (x l m : Int) (w : World) : Calls Try.prog 30 #[.int .i64 x, .int .i64 l, .int .i64 m] w fun e w' => e = .returned (.bool (inB x l m)) ∧ w = w' := by
  unfold inB
  by_cases h1 : l ≤ x
  · rw [show decide (l ≤ x ∧ x ≤ m) = decide (x ≤ m) by rw [Bool.eq_iff_iff]; simp [h1]]
    generalize hd : decide (x ≤ m) = d
    go_enter Try.func30, Try.ntmps30
    go_wp2
    go_ret
    exact ⟨rfl, rfl⟩
  · rw [show decide (l ≤ x ∧ x ≤ m) = false by simp [h1]]
    go_enter Try.func30, Try.ntmps30
    go_wp2
    go_ret
    exact ⟨rfl, rfl⟩
set_option maxRecDepth 100000 in
theorem rightReq_any (k n : Int) (A : Option Addr) (l c : Nat) (w : World) : Calls Try.prog 17 #[.agg (qc k n (.slice A l c))] w fun e w' => e = .returned (.bool (reqB k n l)) ∧ Below w.heap.size w w' := by
  have C0 : Hid (Below w.heap.size w (w.alloc (.cells (qc k n (.slice A l c)) 24))) := Lib.hid ((Below.refl _ _).alloc (Nat.le_refl _) _)
  have H0 := has_new w 24 (qc k n (.slice A l c))
  have q0 : (w.alloc (.cells (qc k n (.slice A l c)) 24)).cell? ⟨w.heap.size, 0, none⟩ = some (.int .i64 k) := H0.at 0
  have q1 : (w.alloc (.cells (qc k n (.slice A l c)) 24)).cell? ⟨w.heap.size, 1, none⟩ = some (.int .i64 n) := H0.at 1
  have q2 : (w.alloc (.cells (qc k n (.slice A l c)) 24)).cell? ⟨w.heap.size, 2, none⟩ = some (.slice A l c) := H0.at 2
  clear H0
  have HA := Lib.hid (within_any k 1 9)
  have HB := Lib.hid (within_any n 0 2147483647)
  unfold reqB
  generalize inB k 1 9 = x at *
  generalize inB n 0 2147483647 = y at *
  generalize hz : decide ((l : Int) ≤ 1000) = z at *
  cases x with
  | false =>
    rw [Bool.false_and]
    go_enter Try.func17, Try.ntmps17
    go_wp2_with (first | (go_at_call 30; (with_reducible refine (HA.out _).mono ?_); rintro e w1 ⟨rfl, rfl⟩) | (go_at_call 30; (with_reducible refine (HB.out _).mono ?_); rintro e w1 ⟨rfl, rfl⟩))
    go_ret
    exact ⟨rfl, C0.out⟩
  | true =>
    cases y with
    | false =>
      go_enter Try.func17, Try.ntmps17
      go_wp2_with (first | (go_at_call 30; (with_reducible refine (HA.out _).mono ?_); rintro e w1 ⟨rfl, rfl⟩) | (go_at_call 30; (with_reducible refine (HB.out _).mono ?_); rintro e w1 ⟨rfl, rfl⟩))
      go_ret
      exact ⟨rfl, C0.out⟩
    | true =>
      go_enter Try.func17, Try.ntmps17
      go_wp2_with (first | (go_at_call 30; (with_reducible refine (HA.out _).mono ?_); rintro e w1 ⟨rfl, rfl⟩) | (go_at_call 30; (with_reducible refine (HB.out _).mono ?_); rintro e w1 ⟨rfl, rfl⟩))
      go_ret
      exact ⟨rfl, C0.out⟩
set_option maxRecDepth 100000 in
theorem rightResp_any (r : Rp) (w : World) : Calls Try.prog 29 #[.agg r.cells] w fun e w' => e = .returned (.bool (respB r)) ∧ Below w.heap.size w w' := by
  have C0 : Hid (Below w.heap.size w (w.alloc (.cells r.cells 27))) := Lib.hid ((Below.refl _ _).alloc (Nat.le_refl _) _)
  have H0 := has_new w 27 r.cells
  have q0 : (w.alloc (.cells r.cells 27)).cell? ⟨w.heap.size, 0, none⟩ = some (.int .i64 r.err) := H0.at 0
  have q1 : (w.alloc (.cells r.cells 27)).cell? ⟨w.heap.size, 1, none⟩ = some (.int .i64 r.num) := H0.at 1
  have q2 : (w.alloc (.cells r.cells 27)).cell? ⟨w.heap.size, 2, none⟩ = some (.int .i64 r.gott) := H0.at 2
  have q3 := ld25 q0
  clear H0
  have HA := Lib.hid (within_any r.err 0 16)
  have HB := Lib.hid (within_any r.num 0 2147483647)
  have HC := Lib.hid (within_any r.gott 0 2147483647)
  unfold respB
  generalize inB r.err 0 16 = x at *
  generalize inB r.num 0 2147483647 = y at *
  generalize inB r.gott 0 2147483647 = z at *
  cases x with
  | false =>
    rw [Bool.false_and]
    go_enter Try.func29, Try.ntmps29
    go_wp2_with (first | (refine wpList_ld 25 _ rfl _ _ q3 rfl rfl ?_) | (go_at_call 30; (with_reducible refine (HA.out _).mono ?_); rintro e w1 ⟨rfl, rfl⟩) | (go_at_call 30; (with_reducible refine (HB.out _).mono ?_); rintro e w1 ⟨rfl, rfl⟩) | (go_at_call 30; (with_reducible refine (HC.out _).mono ?_); rintro e w1 ⟨rfl, rfl⟩))
    go_ret
    exact ⟨rfl, C0.out⟩
  | true =>
    cases y with
    | false =>
      go_enter Try.func29, Try.ntmps29
      go_wp2_with (first | (refine wpList_ld 25 _ rfl _ _ q3 rfl rfl ?_) | (go_at_call 30; (with_reducible refine (HA.out _).mono ?_); rintro e w1 ⟨rfl, rfl⟩) | (go_at_call 30; (with_reducible refine (HB.out _).mono ?_); rintro e w1 ⟨rfl, rfl⟩) | (go_at_call 30; (with_reducible refine (HC.out _).mono ?_); rintro e w1 ⟨rfl, rfl⟩))
      go_ret
      exact ⟨rfl, C0.out⟩
    | true =>
      go_enter Try.func29, Try.ntmps29
      go_wp2_with (first | (refine wpList_ld 25 _ rfl _ _ q3 rfl rfl ?_) | (go_at_call 30; (with_reducible refine (HA.out _).mono ?_); rintro e w1 ⟨rfl, rfl⟩) | (go_at_call 30; (with_reducible refine (HB.out _).mono ?_); rintro e w1 ⟨rfl, rfl⟩) | (go_at_call 30; (with_reducible refine (HC.out _).mono ?_); rintro e w1 ⟨rfl, rfl⟩))
      go_ret
      exact ⟨rfl, C0.out⟩
end Go.Proofs.Ytjfgnoidoeaaeaa
