/-
  Which versions may come, and what the least one is from then on: the program's answers and the document's; conditions: as each states.
-/
import Derived.Test.YtjljciimppmlnaaMk
import Derived.BigQuiet
import Derived.Laws.CopyOwn
namespace Go.Proofs.Ytjljciimppmlnaa
open Go.RowKit
set_option linter.unusedVariables false
set_option linter.unusedSimpArgs false

theorem ret_bool {a b : Bool} (h : a = b) : Ending.returned (.bool a) = .returned (.bool b) := by rw [h]
theorem ret_int {a b : Int} (h : a = b) : Ending.returned (.int .i64 a) = .returned (.int .i64 b) := by rw [h]
theorem wpList_build_to {w : World} {ops : Array Oper} {rest : List Oper} {o : Oper} {a : Act} {Q : Exit → Act → World → Prop} (hw : Region.wanted o (yielded ops a.tmps) = true) (t : TypeId) (parts : Array (Nat × Operand)) (ho : o.op = .build t parts)
    (cells : Array Value) (hb : Try.prog.built t (parts.map fun (i, x) => (i, a.eval x)).toList = some cells) (h : wpList Try.prog ops Q rest (a.put o.dst (.agg cells)) w) : wpList Try.prog ops Q (o :: rest) a w :=
  wpList_step fun K hK => by
    rw [if_pos hw]
    exact wp_build t parts ho (by rw [hb]; rfl) (by rw [hb]; exact hK _ _ h)
/-- A load whose run is known, guarded or not. -/
theorem wpList_ld {w : World} {ops : Array Oper} {rest : List Oper} {o : Oper} {a : Act} {Q : Exit → Act → World → Prop} (ty : TypeId) (x : Operand) (ho : o.op = .load ty x) (p v : Value) (hr : (Instr.loadAt ty p).run Try.prog w = .ok v w) (hx : a.eval x = p) (hw : Region.wanted o (yielded ops a.tmps) = true)
    (h : wpList Try.prog ops Q rest (a.put o.dst v) w) : wpList Try.prog ops Q (o :: rest) a w :=
  wpList_step fun K hK => by
    rw [if_pos hw]
    unfold Oper.wp execOp
    simp only [ho, hx, Sem.run_bind, hr, Result.andThen_ok]
    exact hK _ _ h

/-- Which version may come. -/
def mayV (m : Mt) (v : Int) : Bool := decide (1 ≤ v ∧ v ≤ 1073741824 ∧ m.least ≤ v)
/-- The least one from then on. -/
def confN (m : Mt) : Int := if m.oth.ver ≤ 0 then m.least else if m.least < m.oth.ver then m.oth.ver else m.least

theorem may_any (m : Mt) (v : Int) (w : World) (hm : m.Ok) : Calls Try.prog 6 #[.agg m.cells, .int .i64 v] w fun e w' => e = .returned (.bool (mayV m v)) ∧ Below w.heap.size w w' := by
  have hb : Below w.heap.size w (w.alloc (.cells m.cells 27)) := (Below.refl _ _).alloc (Nat.le_refl _) _
  have c0 := (seen_of (has_new w 27 m.cells) hm).least
  by_cases h1 : 1 ≤ v
  · by_cases h2 : v ≤ 1073741824
    · have d2 : decide (v ≤ 1073741824) = true := decide_eq_true h2
      by_cases h3 : m.least ≤ v
      · have d3 : decide (m.least ≤ v) = true := decide_eq_true h3
        rw [show mayV m v = true from decide_eq_true ⟨h1, h2, h3⟩]
        go_enter Try.func6, Try.ntmps6
        go_wp2
        go_ret
        exact ⟨rfl, hb⟩
      · have d3 : decide (m.least ≤ v) = false := decide_eq_false h3
        rw [show mayV m v = false from decide_eq_false fun h => h3 h.2.2]
        go_enter Try.func6, Try.ntmps6
        go_wp2
        go_ret
        exact ⟨rfl, hb⟩
    · have d2 : decide (v ≤ 1073741824) = false := decide_eq_false h2
      rw [show mayV m v = false from decide_eq_false fun h => h2 h.2.1]
      go_enter Try.func6, Try.ntmps6
      go_wp2
      go_ret
      exact ⟨rfl, hb⟩
  · rw [show mayV m v = false from decide_eq_false fun h => h1 h.1]
    go_enter Try.func6, Try.ntmps6
    go_wp2
    go_ret
    exact ⟨rfl, hb⟩
theorem rmay_any (m : Mt) (v : Int) (w : World) (hm : m.Ok) : Calls Try.prog 7 #[.agg m.cells, .int .i64 v] w fun e w' => e = .returned (.bool (mayV m v)) ∧ Below w.heap.size w w' := by
  have hb : Below w.heap.size w (w.alloc (.cells m.cells 27)) := (Below.refl _ _).alloc (Nat.le_refl _) _
  have c0 := (seen_of (has_new w 27 m.cells) hm).least
  by_cases h1 : 1 ≤ v
  · by_cases h2 : v ≤ 1073741824
    · have d2 : decide (v ≤ 1073741824) = true := decide_eq_true h2
      by_cases h3 : m.least ≤ v
      · have d3 : decide (m.least ≤ v) = true := decide_eq_true h3
        rw [show mayV m v = true from decide_eq_true ⟨h1, h2, h3⟩]
        go_enter Try.func7, Try.ntmps7
        go_wp2
        go_ret
        exact ⟨rfl, hb⟩
      · have d3 : decide (m.least ≤ v) = false := decide_eq_false h3
        rw [show mayV m v = false from decide_eq_false fun h => h3 h.2.2]
        go_enter Try.func7, Try.ntmps7
        go_wp2
        go_ret
        exact ⟨rfl, hb⟩
    · have d2 : decide (v ≤ 1073741824) = false := decide_eq_false h2
      rw [show mayV m v = false from decide_eq_false fun h => h2 h.2.1]
      go_enter Try.func7, Try.ntmps7
      go_wp2
      go_ret
      exact ⟨rfl, hb⟩
  · rw [show mayV m v = false from decide_eq_false fun h => h1 h.1]
    go_enter Try.func7, Try.ntmps7
    go_wp2
    go_ret
    exact ⟨rfl, hb⟩
theorem wait_any (m : Mt) (w : World) (hm : m.Ok) : Calls Try.prog 10 #[.agg m.cells] w fun e w' => e = .returned (.agg m.oth.cells) ∧ Below w.heap.size w w' := by
  have hz24 := zero24_run
  have hb : Below w.heap.size w ((w.alloc (.cells m.cells 27)).alloc (.cells zeroI.cells 24)) := ((Below.refl _ _).alloc (Nat.le_refl _) _).alloc (by simp) _
  have g9 : Has ((w.alloc (.cells m.cells 27)).alloc (.cells zeroI.cells 24)) (w.heap.size + 1) 24 zeroI.cells := by have := has_new (w.alloc (.cells m.cells 27)) 24 zeroI.cells; rwa [World.size_alloc] at this
  have S := seen_of ((has_new w 27 m.cells).more (.cells zeroI.cells 24)) hm
  have c0 := S.act
  have l0 := S.l0
  have l1 := S.l1
  unfold Mt.oth
  by_cases h : m.act = 0
  · rw [if_pos h]
    go_enter Try.func10, Try.ntmps10
    go_wp2_with (first
      | (refine wpList_ld 24 _ rfl _ _ l1 rfl rfl ?_)
      | (refine wpList_store_row rfl 24 _ _ rfl (w.heap.size + 1) m.h1.cells rfl rfl 24 _ g9 (size24 hm.h1) (old24 zeroI_ok hm.h1) (im_all _) ?_))
    exact bodyPost_ret (results_cell_row rfl _ _ (w.heap.size + 1) 24 m.h1.cells (0, 0) _ rfl (setRow_heap _ _ _ _ _ _ g9) Try.underlying24 rfl (size24 hm.h1)) rfl ⟨rfl, below_setRow hb (by omega) _⟩
  · rw [if_neg h]
    have d0 : (m.act == 0) = false := by simp [h]
    go_enter Try.func10, Try.ntmps10
    go_wp2_with (first
      | (refine wpList_ld 24 _ rfl _ _ l0 rfl rfl ?_)
      | (refine wpList_store_row rfl 24 _ _ rfl (w.heap.size + 1) m.h0.cells rfl rfl 24 _ g9 (size24 hm.h0) (old24 zeroI_ok hm.h0) (im_all _) ?_))
    exact bodyPost_ret (results_cell_row rfl _ _ (w.heap.size + 1) 24 m.h0.cells (0, 0) _ rfl (setRow_heap _ _ _ _ _ _ g9) Try.underlying24 rfl (size24 hm.h0)) rfl ⟨rfl, below_setRow hb (by omega) _⟩
theorem oth_ok {m : Mt} (h : m.Ok) : m.oth.Ok := by unfold Mt.oth; by_cases e : m.act = 0 <;> simp [e, h.h0, h.h1]
theorem rconfirm_any (m : Mt) (w : World) (hm : m.Ok) : Calls Try.prog 9 #[.agg m.cells] w fun e w' => e = .returned (.int .i64 (confN m)) ∧ Below w.heap.size w w' := by
  have hb : Below w.heap.size w (w.alloc (.cells m.cells 27)) := (Below.refl _ _).alloc (Nat.le_refl _) _
  have S := seen_of (has_new w 27 m.cells) hm
  have c0 := S.act
  have v0 := S.v0
  have v1 := S.v1
  have c69 := S.least
  clear S
  have EF : Hid (confN m = if m.oth.ver ≤ 0 then m.least else if m.least < m.oth.ver then m.oth.ver else m.least) := Lib.hid rfl
  obtain ⟨cn, hcn⟩ : ∃ x, confN m = x := ⟨_, rfl⟩
  rw [hcn] at EF ⊢
  clear hcn
  by_cases h0 : m.act = 0
  · have eo : m.oth = m.h1 := if_pos h0
    rw [eo] at EF
    clear eo
    have d0 : (m.act == 0) = true := by simp [h0]
    have d0' : (m.act != 0) = false := by simp [h0]
    by_cases h2 : m.least < m.h1.ver
    · by_cases h1 : 0 < m.h1.ver
      · have d1 : decide (0 < m.h1.ver) = true := decide_eq_true h1
        have E := Lib.hid (EF.out.trans ((if_neg (by omega)).trans (if_pos h2)))
        clear EF
        go_enter Try.func9, Try.ntmps9
        go_wp2_with (go_quiet (fail))
        go_ret
        exact ⟨ret_int E.out.symm, below_drewN hb _⟩
      · have d1 : decide (0 < m.h1.ver) = false := decide_eq_false h1
        have E := Lib.hid (EF.out.trans (if_pos (by omega)))
        clear EF
        go_enter Try.func9, Try.ntmps9
        go_wp2_with (go_quiet (fail))
        go_ret
        exact ⟨ret_int E.out.symm, below_drewN hb _⟩
    · have E : Hid (cn = m.least) := Lib.hid (by rw [EF.out]; split <;> first | rfl | exact if_neg h2)
      clear EF
      go_enter Try.func9, Try.ntmps9
      go_wp2_with (go_quiet (fail))
      go_ret
      exact ⟨ret_int E.out.symm, below_drewN hb _⟩
  · have eo : m.oth = m.h0 := if_neg h0
    rw [eo] at EF
    clear eo
    have d0 : (m.act == 0) = false := by simp [h0]
    have d0' : (m.act != 0) = true := by simp [h0]
    by_cases h2 : m.least < m.h0.ver
    · by_cases h1 : 0 < m.h0.ver
      · have d1 : decide (0 < m.h0.ver) = true := decide_eq_true h1
        have E := Lib.hid (EF.out.trans ((if_neg (by omega)).trans (if_pos h2)))
        clear EF
        go_enter Try.func9, Try.ntmps9
        go_wp2_with (go_quiet (fail))
        go_ret
        exact ⟨ret_int E.out.symm, below_drewN hb _⟩
      · have d1 : decide (0 < m.h0.ver) = false := decide_eq_false h1
        have E := Lib.hid (EF.out.trans (if_pos (by omega)))
        clear EF
        go_enter Try.func9, Try.ntmps9
        go_wp2_with (go_quiet (fail))
        go_ret
        exact ⟨ret_int E.out.symm, below_drewN hb _⟩
    · have E : Hid (cn = m.least) := Lib.hid (by rw [EF.out]; split <;> first | rfl | exact if_neg h2)
      clear EF
      go_enter Try.func9, Try.ntmps9
      go_wp2_with (go_quiet (fail))
      go_ret
      exact ⟨ret_int E.out.symm, below_drewN hb _⟩
end Go.Proofs.Ytjljciimppmlnaa
