/-
  The laws' own example answers as the document says; two requests that are one; an answer compared; conditions: the rows lie as they read.
-/
import Derived.Test.YtjfgnoidoeaaeaaRr
namespace Go.Proofs.Ytjfgnoidoeaaeaa
open Go.RowKit
set_option linter.unusedVariables false
set_option linter.unusedSimpArgs false

theorem bytes_beq (a : ByteArray) : (a.toList == a.toList) = true := by simp
theorem row_own {w : World} {base : Nat} {A : Option Addr} {n c : Nat} {zs : List Int} (h : Own w base (.slice A n c) n zs) : Row w A n zs := by
  obtain ⟨A', c', e, _, h', _⟩ := h.form
  cases e
  exact h'
set_option maxRecDepth 100000 in
theorem same_any (k n : Int) (A : Option Addr) (l c : Nat) (A' : Option Addr) (c' : Nat) (bs : List Int) (w : World) (h1 : Row w A l bs) (h2 : Row w A' l bs) :
    Calls Try.prog 13 #[.agg (qc k n (.slice A l c)), .agg (qc k n (.slice A' l c'))] w fun e w' => e = .returned (.bool true) ∧ Below w.heap.size w w' := by
  have b1 : Below w.heap.size w (w.alloc (.cells (qc k n (.slice A l c)) 24)) := (Below.refl _ _).alloc (Nat.le_refl _) _
  have b2 : Below w.heap.size w ((w.alloc (.cells (qc k n (.slice A l c)) 24)).alloc (.cells (qc k n (.slice A' l c')) 24)) := b1.alloc b1.size _
  have C2 := Lib.hid b2
  have h3 := (has_new w 24 (qc k n (.slice A l c))).more (.cells (qc k n (.slice A' l c')) 24)
  have h4 := has_new (w.alloc (.cells (qc k n (.slice A l c)) 24)) 24 (qc k n (.slice A' l c'))
  rw [World.size_alloc] at h4
  generalize hW : (w.alloc (.cells (qc k n (.slice A l c)) 24)).alloc (.cells (qc k n (.slice A' l c')) 24) = W at *
  have q0 : W.cell? ⟨w.heap.size, 0, none⟩ = some (.int .i64 k) := h3.at 0
  have q1 : W.cell? ⟨w.heap.size, 1, none⟩ = some (.int .i64 n) := h3.at 1
  have q2 : W.cell? ⟨w.heap.size, 2, none⟩ = some (.slice A l c) := h3.at 2
  have p0 : W.cell? ⟨w.heap.size + 1, 0, none⟩ = some (.int .i64 k) := h4.at 0
  have p1 : W.cell? ⟨w.heap.size + 1, 1, none⟩ = some (.int .i64 n) := h4.at 1
  have p2 : W.cell? ⟨w.heap.size + 1, 2, none⟩ = some (.slice A' l c') := h4.at 2
  have v1 := conv_row (c := c) (row_below b2 h1)
  have v2 := conv_row (c := c') (row_below b2 h2)
  clear h3 h4 b1 b2 h1 h2
  subst hW
  go_enter Try.func13, Try.ntmps13
  go_wp2
  go_ret
  exact ⟨rfl, C2.out⟩
theorem not_agg25 (w : World) : (isAgg 25).run Try.prog w = .ok false w := by unfold isAgg; rw [Sem.run_bind, run_underlying Try.underlying25 w]; rfl
theorem not_agg3 (w : World) : (isAgg 3).run Try.prog w = .ok false w := by unfold isAgg; rw [Sem.run_bind, run_underlying Try.underlying3 w]; rfl
theorem part_int25 (k : Nat) (cs : Array Value) (x : Int) (h : cs[k]? = some (.int .i64 x)) (w : World) : (part 25 cs k).run Try.prog w = .ok (.int .i64 x) w := by
  unfold part
  rw [Sem.run_bind, not_agg25]
  simp [h]
theorem part_int3 (k : Nat) (cs : Array Value) (x : Int) (h : cs[k]? = some (.int .i64 x)) (w : World) : (part 3 cs k).run Try.prog w = .ok (.int .i64 x) w := by
  unfold part
  rw [Sem.run_bind, not_agg3]
  simp [h]
theorem stood27 : Try.prog.stoodInHeld 27 = false := by kernel_rfl
theorem under27 : Try.prog.underlying 27 = some (.struct (Try.prog.fieldsOf 27)) := by kernel_rfl
theorem same27 (r : Rp) (w : World) : (Op.equalIn 10000 27 (.agg r.cells) (.agg r.cells)).run Try.prog w = .ok true w := by
  have p0 := fun w => part_int25 0 r.cells r.err rfl w
  have p1 := fun w => part_int3 1 r.cells r.num rfl w
  have p2 := fun w => part_int3 2 r.cells r.gott rfl w
  rw [show (10000 : Nat) = 9999 + 1 from rfl, run_equalIn_agg w 9999 27 _ _ under27 stood27]
  simp only [Program.fieldsOf, Try.underlying27, Op.eqFields, ne_eq, reduceCtorEq, not_false_eq_true, if_true, Sem.run_bind, p0, p1, p2, Result.andThen_ok, run_equalIn_int w 9998 25 .i64 .i64 _ _ Try.underlying25, run_equalIn_int w 9998 3 .i64 .i64 _ _ Try.underlying3, beq_self_eq_true, Bool.not_true, Bool.false_eq_true, if_false, Sem.run_pure, Sem.run_ite]
  rfl
theorem wpList_eqR {w : World} {ops : Array Oper} {rest : List Oper} {o : Oper} {a : Act} {Q : Exit → Act → World → Prop} (x y : Operand) (ho : o.op = .binOp .eql 27 x y 27) (r s : Rp) (hx : a.eval x = .agg r.cells) (hy : a.eval y = .agg s.cells) (hrs : s = r) (hw : Region.wanted o (yielded ops a.tmps) = true)
    (h : wpList Try.prog ops Q rest (a.put o.dst (.bool true)) w) : wpList Try.prog ops Q (o :: rest) a w :=
  wpList_step fun K hK => by
    subst hrs
    rw [if_pos hw]
    have h1 := run_eqGuard_agg (P := Try.prog) w .eql 27 x y s.cells s.cells (by kernel_rfl)
    have h2 := run_eql_struct (P := Try.prog) w 27 s.cells s.cells
    rw [same27 s w, Result.andThen_ok] at h2
    unfold Oper.wp execOp
    simp only [ho, hx, hy, Sem.run_bind, h1, h2, Result.andThen_ok]
    exact hK _ _ h
theorem yields_neq27 {ops : Array Oper} {S : World → Prop} {o : Oper} {a : Act} (hw : Region.wanted o (yielded ops a.tmps) = true) (x y : Operand) (ho : o.op = .binOp .neq 27 x y 27) (r : Rp) (hx : a.eval x = .agg r.cells) (hy : a.eval y = .agg r.cells) :
    YieldsIf Try.prog ops S o (.bool false) a :=
  Or.inl ⟨hw, fun W hW => by
    have h1 := run_eqGuard_agg (P := Try.prog) W .neq 27 x y r.cells r.cells (by kernel_rfl)
    have h2 := run_neq_struct (P := Try.prog) W 27 r.cells r.cells
    rw [same27 r W] at h2
    unfold execOp
    simp only [ho, hx, hy, Sem.run_bind, h1, Result.andThen_ok]
    simp [h1, h2]⟩
/-- The rest of a region, under a condition that says more. -/
theorem wpAnyH_strong {P : Program} {md : Region.Mode} {ops : Array Oper} {Q : Exit → Act → World → Prop} {S S' : World → Prop} (hs : ∀ w, S' w → S w) :
    ∀ (fuel : Nat) (listed : Array Bool) (a : Act) (w : World), wpAnyH P md ops Q S' fuel listed a w → wpAnyH P md ops Q S fuel listed a w
  | 0, _, _, _, h => h
  | fuel + 1, _, _, _, h => ⟨h.1, fun i hi => wpOp_mono (fun a' w' h' => ⟨hs w' h'.1, wpAnyH_strong hs fuel _ a' w' h'.2⟩) (h.2 i hi)⟩
theorem readsq_of {zs : List Int} {k n e : Int} {bs : List Int} {w w' : World} {x : Ending} (hk : toldK zs = k) (hn : toldN zs = n) (he : toldE zs = e) (hb : toldB zs = bs) (h : ReadsQ zs w x w') : ∃ A c, x = .returned (.tuple #[.agg (qc k n (.slice A bs.length c)), .int .i64 e]) ∧ bs.length ≤ c ∧ Own w' w.heap.size (.slice A bs.length c) bs.length bs ∧ Below w.heap.size w w' := by
  obtain ⟨u, e1, h2, h3⟩ := h
  rw [hk, hn, he] at e1
  rw [hb] at h2
  obtain ⟨A, c, rfl, hc, _, _⟩ := h2.form
  exact ⟨A, c, e1, hc, h2, h3⟩
theorem bytes_nil (k n : Int) (w : World) (hk : I64 k) (hn : I64 n) : Calls Try.prog 7 #[.agg (qc k n nilV)] w (Gives (reqOut k n []).length (reqOut k n []) w) := bytes_any' k n none 0 0 [] w hk hn (row_nil w)
def exQ : List Int := reqL 4 7 []
theorem ex_right : reqB 4 7 ([] : List Int).length = true := by decide
theorem ex_out : reqOut 4 7 [] = exQ := by unfold reqOut; rw [if_pos ex_right]; rfl
theorem ex_good : GoodQ exQ ∧ reqK exQ = 4 ∧ reqN exQ = 7 ∧ exQ.drop 7 = [] := req_back ex_right
theorem ex_len : exQ.length = 7 := req_len 4 7 []
set_option maxRecDepth 100000 in
set_option maxHeartbeats 4000000 in
theorem live_any (w : World) : Calls Try.prog 6 #[] w fun e w' => e = .returned (.bool true) ∧ Below w.heap.size w w' := by
  have hz24 := zero24_run
  have HR0 := Lib.hid (read_any none 0 0 [] w (row_nil w) (by omega))
  have HK : Hid (toldK [] = 0 ∧ toldN [] = 0 ∧ toldE [] = 6 ∧ toldB [] = []) := Lib.hid (by unfold toldK toldN toldE toldB; rw [if_neg not_nil_q, if_neg not_nil_q, if_neg not_nil_q, if_neg not_nil_q]; exact ⟨rfl, rfl, rfl, rfl⟩)
  have HG : Hid (toldK exQ = 4 ∧ toldN exQ = 7 ∧ toldE exQ = 0 ∧ toldB exQ = []) := Lib.hid (by obtain ⟨g, h1, h2, h3⟩ := ex_good; unfold toldK toldN toldE toldB; rw [if_pos g, if_pos g, if_pos g, if_pos g]; exact ⟨h1, h2, rfl, h3⟩)
  go_enter Try.func6, Try.ntmps6
  go_wp2_with (first
    | (go_at_call 8; (with_reducible refine HR0.out.mono ?_); rintro e w1 h; clear HR0; obtain ⟨A1, c1, rfl, _, u1, b1⟩ := readsq_of HK.out.1 HK.out.2.1 HK.out.2.2.1 HK.out.2.2.2 h; have C1 := Lib.hid b1; have hne := has_new w1 24 (qc 0 0 nilV); clear h u1 b1)
    | (refine wpList_row rfl 24 _ _ rfl w1.heap.size (qc 0 0 (.slice A1 0 c1)) rfl rfl 24 _ hne (size24 _ _ _) rfl (qc_all _ _ _ _ _) ?_; intro w2 hs2 on2; have C2 := Lib.hid ((C1.out.alloc C1.out.size (.cells (qc 0 0 nilV) 24)).trans (on2.to_below (C1.out.alloc C1.out.size (.cells (qc 0 0 nilV) 24)).size (fun b e => by have := C1.out.size; omega))); have HB := bytes_nil 4 7 w2 (by unfold I64; omega) (by unfold I64; omega); rw [ex_out, ex_len] at HB; have HB2 := Lib.hid HB; clear HB hs2 on2 hne)
    | (refine wpList_build_to rfl 24 _ rfl _ (built24b _ _) ?_)
    | (go_at_call 7; (refine HB2.out.mono ?_); rintro e w3 ⟨v3, rfl, o3, b3⟩; clear HB2; have C3 := Lib.hid (C2.out.trans (b3.mono C2.out.size)); obtain ⟨A3, c3, rfl, hc3, r3, _⟩ := o3.form; have HR3 := Lib.hid (read_any A3 7 c3 exQ w3 r3 (by omega)); clear o3 b3 r3)
    | (go_at_call 8; (with_reducible refine HR3.out.mono ?_); rintro e w4 h; clear HR3; obtain ⟨A4, c4, rfl, _, u4, b4⟩ := readsq_of HG.out.1 HG.out.2.1 HG.out.2.2.1 HG.out.2.2.2 h; have C4 := Lib.hid (C3.out.trans (b4.mono C3.out.size)); have hne4 := has_new w4 24 (qc 0 0 nilV); clear h u4 b4)
    | (refine wpList_row rfl 24 _ _ rfl w4.heap.size (qc 4 7 (.slice A4 0 c4)) rfl rfl 24 _ hne4 (size24 _ _ _) rfl (qc_all _ _ _ _ _) ?_; intro w5 hs5 on5; have C5 := Lib.hid ((C4.out.alloc C4.out.size (.cells (qc 0 0 nilV) 24)).trans (on5.to_below (C4.out.alloc C4.out.size (.cells (qc 0 0 nilV) 24)).size (fun b e => by have := C4.out.size; omega))); have q0 : w5.cell? ⟨w4.heap.size, 0, none⟩ = some (.int .i64 4) := hs5.at 0; have q1 : w5.cell? ⟨w4.heap.size, 1, none⟩ = some (.int .i64 7) := hs5.at 1; clear hs5 on5 hne4)
    | (go_at_call 14; (with_reducible refine (num_any' _ _).mono ?_); rintro e wn ⟨rfl, rfl⟩))
  go_ret
  exact ⟨rfl, C5.out⟩
end Go.Proofs.Ytjfgnoidoeaaeaa
