/-
  The laws' own example answers as the document says; the steps of the laws' walks; conditions: none.
-/
import Derived.Test.YtcokpdhhpaahgaaDoorUd
namespace Go.Proofs.YtcokpdhhpaahgaaDoor
open Go.RowKit
set_option linter.unusedVariables false
set_option linter.unusedSimpArgs false

theorem row_none0 (w : World) : Row w none 0 [] := ⟨rfl, byt_nil, .inl rfl⟩
def zeroF : Fc := ⟨false, false, List.replicate 32 0, false⟩
theorem zeroF_ok : zeroF.Ok := ⟨List.length_replicate, byt_rep _⟩
def zeroQ : Rq := ⟨0, 0, none, 0, 0, []⟩
theorem built32 : Tryd.prog.built 32 [] = some zeroF.cells := by kernel_rfl
theorem built30 (k : Int) : Tryd.prog.built 30 [(0, .int .i64 k)] = some (Rq.cells ⟨k, 0, none, 0, 0, []⟩) := by kernel_rfl
/-- Two that are the same compare so, guarded or not. -/
theorem wpList_eqT {w : World} {ops : Array Oper} {rest : List Oper} {o : Oper} {a : Act} {Q : Exit → Act → World → Prop} (x y : Operand) (ho : o.op = .binOp .eql 27 x y 27) (m k : Mt) (hx : a.eval x = .agg m.cells) (hy : a.eval y = .agg k.cells) (hm : m.Ok) (hmk : k = m) (hw : Region.wanted o (yielded ops a.tmps) = true)
    (h : wpList Tryd.prog ops Q rest (a.put o.dst (.bool true)) w) : wpList Tryd.prog ops Q (o :: rest) a w :=
  wpList_step fun K hK => by
    subst hmk
    rw [if_pos hw]
    have h1 := run_eqGuard_agg (P := Tryd.prog) w .eql 27 x y k.cells k.cells (by kernel_rfl)
    have h2 := run_eql_struct (P := Tryd.prog) w 27 k.cells k.cells
    rw [same27 hm w, Result.andThen_ok] at h2
    unfold Oper.wp execOp
    simp only [ho, hx, hy, Sem.run_bind, h1, h2, Result.andThen_ok]
    exact hK _ _ h
theorem wpList_neT {w : World} {ops : Array Oper} {rest : List Oper} {o : Oper} {a : Act} {Q : Exit → Act → World → Prop} (x y : Operand) (ho : o.op = .binOp .neq 27 x y 27) (m k : Mt) (hx : a.eval x = .agg m.cells) (hy : a.eval y = .agg k.cells) (hm : m.Ok) (hmk : k = m) (hw : Region.wanted o (yielded ops a.tmps) = true)
    (h : wpList Tryd.prog ops Q rest (a.put o.dst (.bool false)) w) : wpList Tryd.prog ops Q (o :: rest) a w :=
  wpList_step fun K hK => by
    subst hmk
    rw [if_pos hw]
    have h1 := run_eqGuard_agg (P := Tryd.prog) w .neq 27 x y k.cells k.cells (by kernel_rfl)
    have h2 := run_neq_struct (P := Tryd.prog) w 27 k.cells k.cells
    rw [same27 hm w, Result.andThen_ok] at h2
    unfold Oper.wp execOp
    simp only [ho, hx, hy, Sem.run_bind, h1, h2, Result.andThen_ok]
    exact hK _ _ h
theorem stood36 : Tryd.prog.stoodInHeld 36 = false := by kernel_rfl
theorem under36 : Tryd.prog.underlying 36 = some (.struct (Tryd.prog.fieldsOf 36)) := by kernel_rfl
theorem not_agg34 (w : World) : (isAgg 34).run Tryd.prog w = .ok false w := by unfold isAgg; rw [Sem.run_bind, run_underlying Tryd.underlying34 w]; rfl
theorem part_int34 (k : Nat) (cs : Array Value) (x : Int) (h : cs[k]? = some (.int .i64 x)) (w : World) : (part 34 cs k).run Tryd.prog w = .ok (.int .i64 x) w := by
  unfold part
  rw [Sem.run_bind, not_agg34]
  simp [h]
theorem same36 (r : Rp) (w : World) : (Op.equalIn 10000 36 (.agg r.cells) (.agg r.cells)).run Tryd.prog w = .ok true w := by
  have p0 := fun w => part_int34 0 r.cells r.err rfl w
  have p1 := fun w => part_int 1 r.cells r.num rfl w
  have p2 := fun w => part_int 2 r.cells r.gott rfl w
  rw [show (10000 : Nat) = 9999 + 1 from rfl, run_equalIn_agg w 9999 36 _ _ under36 stood36]
  simp only [Program.fieldsOf, Tryd.underlying36, Op.eqFields, ne_eq, reduceCtorEq, not_false_eq_true, if_true, Sem.run_bind, p0, p1, p2, Result.andThen_ok, run_equalIn_int w 9998 34 .i64 .i64 _ _ Tryd.underlying34, run_equalIn_int w 9998 3 .i64 .i64 _ _ Tryd.underlying3, beq_self_eq_true, Bool.not_true, Bool.false_eq_true, if_false, Sem.run_pure, Sem.run_ite]
  rfl
theorem wpList_eqR {w : World} {ops : Array Oper} {rest : List Oper} {o : Oper} {a : Act} {Q : Exit → Act → World → Prop} (x y : Operand) (ho : o.op = .binOp .eql 36 x y 36) (r s : Rp) (hx : a.eval x = .agg r.cells) (hy : a.eval y = .agg s.cells) (hrs : s = r) (hw : Region.wanted o (yielded ops a.tmps) = true)
    (h : wpList Tryd.prog ops Q rest (a.put o.dst (.bool true)) w) : wpList Tryd.prog ops Q (o :: rest) a w :=
  wpList_step fun K hK => by
    subst hrs
    rw [if_pos hw]
    have h1 := run_eqGuard_agg (P := Tryd.prog) w .eql 36 x y s.cells s.cells (by kernel_rfl)
    have h2 := run_eql_struct (P := Tryd.prog) w 36 s.cells s.cells
    rw [same36 s w, Result.andThen_ok] at h2
    unfold Oper.wp execOp
    simp only [ho, hx, hy, Sem.run_bind, h1, h2, Result.andThen_ok]
    exact hK _ _ h
/-- A build whose cells are known, guarded or not. -/
theorem wpList_bld {w : World} {ops : Array Oper} {rest : List Oper} {o : Oper} {a : Act} {Q : Exit → Act → World → Prop} (t : TypeId) (parts : Array (Nat × Operand)) (ho : o.op = .build t parts)
    (cells : Array Value) (hb : Tryd.prog.built t (parts.map fun (i, x) => (i, a.eval x)).toList = some cells) (hw : Region.wanted o (yielded ops a.tmps) = true) (h : wpList Tryd.prog ops Q rest (a.put o.dst (.agg cells)) w) : wpList Tryd.prog ops Q (o :: rest) a w :=
  wpList_step fun K hK => by
    rw [if_pos hw]
    exact wp_build t parts ho (by rw [hb]; rfl) (by rw [hb]; exact hK _ _ h)
theorem ld36 {w : World} {g : Nat} {r : Rp} (hg : Has w g 36 r.cells) : (Instr.loadAt 36 (.pointer (some ⟨g, 0, none⟩))).run Tryd.prog w = .ok (.agg r.cells) w := by
  simp only [Instr.loadAt, Instr.sureAddr, Sem.run_bind, Sem.run_pure, Result.andThen_ok, run_loadVar_row w g 36 36 r.cells (0, 0) _ hg Tryd.underlying36 rfl (size36 r)]
/-- The example: what is kept, and what it answers. -/
def exM : Mt := ⟨0, ⟨1, 5, List.replicate 32 0⟩, zeroI, 0, 0, zeroI, 0, 0⟩
theorem ex1_ok : Im.Ok ⟨1, 5, List.replicate 32 0⟩ := ⟨List.length_replicate, byt_rep _, i64_one, by show I64 5; unfold I64; omega⟩
theorem exM_ok : exM.Ok := ok_h0 zeroT_ok ex1_ok
theorem exM_right : rightB exM = true := by decide
theorem ex_step : stepM exM 9 0 [] zeroF 1 = (exM, ⟨0, 0, 0⟩) := by
  unfold stepM
  rw [if_neg (by rw [exM_right]; decide)]
  rfl
set_option maxRecDepth 100000 in
set_option maxHeartbeats 4000000 in
theorem alive_any (w : World) : Calls Tryd.prog 9 #[] w fun e w' => e = .returned (.bool true) ∧ Below w.heap.size w w' := by
  have hz27 := zero27_run
  have hz36 := zero36_run
  have H0 := Lib.hid (has_new w 27 zeroT.cells)
  have B0 := Lib.hid (show Below w.heap.size w (w.alloc (.cells zeroT.cells 27)) from (Below.refl _ _).alloc (Nat.le_refl _) _)
  have HD := Lib.hid (fun W => do_any exM ⟨9, 0, none, 0, 0, []⟩ zeroF 1 W exM_ok zeroF_ok (by unfold I64; omega) (by show I64 9; unfold I64; omega) i64_zero (row_none0 W) (Nat.le_refl _) (Nat.zero_le _))
  simp only [ex_step] at HD
  have HC : Hid (∀ W, Calls Tryd.prog 12 #[.int .i64 1] W fun e w' => e = .returned (.int .i64 1) ∧ W = w') := Lib.hid (fun W => chunksI_any 1 W i64_one)
  have HL : Hid (∀ W, Calls Tryd.prog 14 #[.int .i64 321, .int .i64 1] W fun e w' => e = .returned (.int .i64 1) ∧ W = w') := Lib.hid (fun W => lenI_any 321 1 W (by unfold I64; omega) i64_one)
  go_enter Tryd.func9, Tryd.ntmps9
  go_wp2_with (first
    | (refine wpList_bld 27 _ rfl _ built27 rfl ?_)
    | (refine wpList_bld 24 _ rfl _ (built24b 1 5) rfl ?_)
    | (refine wpList_bld 30 _ rfl _ (built30 9) rfl ?_)
    | (refine wpList_bld 32 _ rfl _ built32 rfl ?_)
    | (refine wpList_bld 36 _ rfl _ built36 rfl ?_)
    | (refine wpList_row rfl 27 _ _ rfl w.heap.size zeroT.cells rfl rfl 27 _ H0.out (size27 zeroT_ok) rfl (mt_all _) ?_; intro w1 hs on; have H1 := Lib.hid hs; have B1 := Lib.hid (B0.out.trans (on.to_below B0.out.size (fun b e => by omega))); clear hs on)
    | (refine wpList_st24 rfl _ _ rfl w.heap.size 1 ⟨1, 5, List.replicate 32 0⟩ rfl rfl zeroT exM zeroT_ok ex1_ok H1.out (mt_put0 _ zeroT_ok ex1_ok) (by omega) ?_; intro w2 hs on; have H2 := Lib.hid hs; have B2 := Lib.hid (B1.out.trans (on.to_below B1.out.size (fun b e => by omega))); clear hs on)
    | (refine wpList_ld 27 _ rfl _ _ (ld27 H4.out exM_ok) rfl rfl ?_)
    | (refine wpList_ld 27 _ rfl _ _ (ld27 N4.out exM_ok) rfl rfl ?_)
    | (refine wpList_ld 27 _ rfl _ _ (ld27 H2.out exM_ok) rfl rfl ?_)
    | (refine wpList_ld 36 _ rfl _ _ (ld36 R4.out) rfl rfl ?_)
    | (go_at_call 10; (refine (HD.out _).mono ?_); rintro e w3 ⟨rfl, b3⟩; have H3 := Lib.hid (((H2.out.kept b3).more (.cells zeroT.cells 27)).more (.cells zeroR.cells 36)); have B3 := Lib.hid (B2.out.trans (b3.mono B2.out.size)); have LT := Lib.hid (show w.heap.size < w3.heap.size from (H2.out.kept b3).size); clear b3; have N3 : Hid (Has ((w3.alloc (.cells zeroT.cells 27)).alloc (.cells zeroR.cells 36)) w3.heap.size 27 zeroT.cells) := Lib.hid ((has_new w3 27 zeroT.cells).more _); have R3 : Hid (Has ((w3.alloc (.cells zeroT.cells 27)).alloc (.cells zeroR.cells 36)) (w3.heap.size + 1) 36 zeroR.cells) := Lib.hid (has_new' _ 36 zeroR.cells _ (by simp)))
    | (refine wpList_row rfl 27 _ _ rfl w3.heap.size exM.cells rfl rfl 27 _ N3.out (size27 exM_ok) (old27 zeroT_ok exM_ok) (mt_all _) ?_; intro w4 hs on; have H4' := Lib.hid (Has.only H3.out on (by have := LT.out; omega)); have N4' := Lib.hid hs; have R4' := Lib.hid (Has.only R3.out on (by omega)); have B4' := Lib.hid (((B3.out.alloc B3.out.size _).alloc (by have := B3.out.size; simp; omega) _).trans (on.to_below (B := w.heap.size) (by have := B3.out.size; simp; omega) (fun b e => by have := LT.out; omega))); clear hs on)
    | (refine wpList_row rfl 36 _ _ rfl (w3.heap.size + 1) zeroR.cells rfl rfl 36 _ R4'.out (size36 _) rfl (rp_all _) ?_; intro w5 hs on; have H4 := Lib.hid (Has.only H4'.out on (by have := LT.out; omega)); have N4 := Lib.hid (Has.only N4'.out on (by omega)); have R4 := Lib.hid hs; have B4 := Lib.hid (B4'.out.trans (on.to_below B4'.out.size (fun b e => by have := LT.out; omega))); clear hs on)
    | (go_at_call 12; (with_reducible refine (HC.out _).mono ?_); rintro e wx ⟨rfl, rfl⟩)
    | (go_at_call 14; (with_reducible refine (HL.out _).mono ?_); rintro e wx ⟨rfl, rfl⟩)
    | (refine wpList_eqT _ _ rfl exM exM rfl rfl exM_ok rfl rfl ?_)
    | (refine wpList_eqR _ _ rfl zeroR zeroR rfl rfl rfl rfl ?_))
  go_ret
  exact ⟨rfl, B4.out⟩
end Go.Proofs.YtcokpdhhpaahgaaDoor
