/-
  The law's nine requests and nine answers in two rows: how they are laid, one by one; which of them may be written; conditions: none.
-/
import Derived.Test.YtjfgnoidoeaaeaaLv
import Derived.Great.Walk
import Derived.Deep.MidRow
namespace Go.Proofs.Ytjfgnoidoeaaeaa
open Go.RowKit
set_option linter.unusedVariables false
set_option linter.unusedSimpArgs false

def zerS (p l : Nat) : Value := .slice (some ⟨p, 0, none⟩) l l
def OK9 : List Bool := [true, true, false, false, true, false, false, true, false]
def IS9 : List Bool := [true, false, false, true, false, true, false, false, false]
def R9 : List Rp := [⟨16, 0, 0⟩, ⟨17, 0, 0⟩, ⟨-1, 0, 0⟩, ⟨0, 2147483647, 0⟩, ⟨0, 2147483648, 0⟩, ⟨0, 0, 2147483647⟩, ⟨0, 0, 2147483648⟩, ⟨0, -1, 0⟩, ⟨0, 0, -1⟩]
def cellsQ (p q : Nat) : Array Value := ((qc 1 0 nilV).toList ++ ((qc 9 0 nilV).toList ++ ((qc 0 0 nilV).toList ++ ((qc 10 0 nilV).toList ++ ((qc 1 2147483647 nilV).toList ++ ((qc 1 2147483648 nilV).toList ++ ((qc 1 (-1) nilV).toList ++ ((qc 1 0 (zerS p 1000)).toList ++ (qc 1 0 (zerS q 1001)).toList)))))))).toArray
def cellsR : Array Value := (R9.flatMap fun r => r.cells.toList).toArray
set_option maxRecDepth 100000 in
theorem builtQ (p q : Nat) : Try.prog.builtSlice 24 9 [(0, .agg (qc 1 0 nilV)), (1, .agg (qc 9 0 nilV)), (2, .agg (qc 0 0 nilV)), (3, .agg (qc 10 0 nilV)), (4, .agg (qc 1 2147483647 nilV)), (5, .agg (qc 1 2147483648 nilV)), (6, .agg (qc 1 (-1) nilV)), (7, .agg (qc 1 0 (zerS p 1000))), (8, .agg (qc 1 0 (zerS q 1001)))] = some (cellsQ p q) := by kernel_rfl
set_option maxRecDepth 100000 in
theorem builtR : Try.prog.builtSlice 27 9 ((R9.map fun k => Value.agg k.cells).zipIdx.map fun x => (x.2, x.1)) = some cellsR := by kernel_rfl
theorem size24l (l : List Value) (h : l.length = 3) : (Try.prog.info? 24).map (·.size) = some l.length := by rw [h]; kernel_rfl
theorem size27l (l : List Value) (h : l.length = 3) : (Try.prog.info? 27).map (·.size) = some l.length := by rw [h]; kernel_rfl
/-- A request in a row: what is read of it there. -/
theorem ldQ {w : World} {g o : Nat} {k n : Int} {v : Value} (h0 : w.cell? ⟨g, o, none⟩ = some (.int .i64 k)) (h1 : w.cell? ⟨g, o + 1, none⟩ = some (.int .i64 n)) (h2 : w.cell? ⟨g, o + 2, none⟩ = some v) : (Instr.loadAt 24 (.pointer (some ⟨g, o, none⟩))).run Try.prog w = .ok (.agg (qc k n v)) w := by
  have hr : w.rangeAt g o (qc k n v).toList := fun j u hu => by
    match j, hu with
    | 0, hu => cases hu; exact h0
    | 1, hu => cases hu; exact h1
    | 2, hu => cases hu; exact h2
    | j + 3, hu => simp [qc] at hu
  exact run_loadAt_mid w g o 24 (qc k n v).toList _ hr Try.underlying24 rfl (size24l _ rfl)
theorem ldR {w : World} {g o : Nat} {r : Rp} (h0 : w.cell? ⟨g, o, none⟩ = some (.int .i64 r.err)) (h1 : w.cell? ⟨g, o + 1, none⟩ = some (.int .i64 r.num)) (h2 : w.cell? ⟨g, o + 2, none⟩ = some (.int .i64 r.gott)) : (Instr.loadAt 27 (.pointer (some ⟨g, o, none⟩))).run Try.prog w = .ok (.agg r.cells) w := by
  have hr : w.rangeAt g o r.cells.toList := fun j u hu => by
    match j, hu with
    | 0, hu => cases hu; exact h0
    | 1, hu => cases hu; exact h1
    | 2, hu => cases hu; exact h2
    | j + 3, hu => simp [Rp.cells] at hu
  exact run_loadAt_mid w g o 27 r.cells.toList _ hr Try.underlying27 rfl (size27l _ rfl)
theorem made_row {w : World} {z l : Nat} (h : Has w z 5 (zeroBytes l)) : Row w (some ⟨z, 0, none⟩) l (List.replicate l 0) := by
  have e := has_row (L := List.replicate l 0) h (byt_rep l)
  rwa [List.length_replicate] at e
/-- The request at place i: its row of zeros, and whether it may be written. -/
theorem nineQ {p q i : Nat} (hi : i < 9) : ∃ (k n : Int) (A : Option Addr) (l : Nat) (b : Bool), I64 k ∧ I64 n ∧ reqB k n l = b ∧ OK9[i]? = some b ∧
    (∀ W g, Has W g 24 (cellsQ p q) → (Instr.loadAt 24 (.pointer (some ⟨g, i * 3, none⟩))).run Try.prog W = .ok (.agg (qc k n (.slice A l l))) W) ∧
    (∀ W, Has W p 5 (zeroBytes 1000) → Has W q 5 (zeroBytes 1001) → Row W A l (List.replicate l 0)) := by
  have z : ∀ W : World, Row W none 0 (List.replicate 0 0) := fun W => row_nil W
  rcases (show i = 0 ∨ i = 1 ∨ i = 2 ∨ i = 3 ∨ i = 4 ∨ i = 5 ∨ i = 6 ∨ i = 7 ∨ i = 8 by omega) with rfl | rfl | rfl | rfl | rfl | rfl | rfl | rfl | rfl
  · exact ⟨1, 0, none, 0, true, by unfold I64; omega, by unfold I64; omega, by decide, rfl, fun W g h => ldQ (h.at 0) (h.at 1) (h.at 2), fun W _ _ => z W⟩
  · exact ⟨9, 0, none, 0, true, by unfold I64; omega, by unfold I64; omega, by decide, rfl, fun W g h => ldQ (h.at 3) (h.at 4) (h.at 5), fun W _ _ => z W⟩
  · exact ⟨0, 0, none, 0, false, by unfold I64; omega, by unfold I64; omega, by decide, rfl, fun W g h => ldQ (h.at 6) (h.at 7) (h.at 8), fun W _ _ => z W⟩
  · exact ⟨10, 0, none, 0, false, by unfold I64; omega, by unfold I64; omega, by decide, rfl, fun W g h => ldQ (h.at 9) (h.at 10) (h.at 11), fun W _ _ => z W⟩
  · exact ⟨1, 2147483647, none, 0, true, by unfold I64; omega, by unfold I64; omega, by decide, rfl, fun W g h => ldQ (h.at 12) (h.at 13) (h.at 14), fun W _ _ => z W⟩
  · exact ⟨1, 2147483648, none, 0, false, by unfold I64; omega, by unfold I64; omega, by decide, rfl, fun W g h => ldQ (h.at 15) (h.at 16) (h.at 17), fun W _ _ => z W⟩
  · exact ⟨1, -1, none, 0, false, by unfold I64; omega, by unfold I64; omega, by decide, rfl, fun W g h => ldQ (h.at 18) (h.at 19) (h.at 20), fun W _ _ => z W⟩
  · exact ⟨1, 0, some ⟨p, 0, none⟩, 1000, true, by unfold I64; omega, by unfold I64; omega, by decide, rfl, fun W g h => ldQ (h.at 21) (h.at 22) (h.at 23), fun W h _ => made_row h⟩
  · exact ⟨1, 0, some ⟨q, 0, none⟩, 1001, false, by unfold I64; omega, by unfold I64; omega, by decide, rfl, fun W g h => ldQ (h.at 24) (h.at 25) (h.at 26), fun W _ h => made_row h⟩
theorem nineR {i : Nat} (hi : i < 9) : ∃ (r : Rp) (b : Bool), I64 r.err ∧ I64 r.num ∧ I64 r.gott ∧ respB r = b ∧ IS9[i]? = some b ∧
    (∀ W g, Has W g 27 cellsR → (Instr.loadAt 27 (.pointer (some ⟨g, i * 3, none⟩))).run Try.prog W = .ok (.agg r.cells) W) := by
  rcases (show i = 0 ∨ i = 1 ∨ i = 2 ∨ i = 3 ∨ i = 4 ∨ i = 5 ∨ i = 6 ∨ i = 7 ∨ i = 8 by omega) with rfl | rfl | rfl | rfl | rfl | rfl | rfl | rfl | rfl
  · exact ⟨⟨16, 0, 0⟩, true, by unfold I64; decide, by unfold I64; decide, by unfold I64; decide, by decide, rfl, fun W g h => ldR (h.at 0) (h.at 1) (h.at 2)⟩
  · exact ⟨⟨17, 0, 0⟩, false, by unfold I64; decide, by unfold I64; decide, by unfold I64; decide, by decide, rfl, fun W g h => ldR (h.at 3) (h.at 4) (h.at 5)⟩
  · exact ⟨⟨-1, 0, 0⟩, false, by unfold I64; decide, by unfold I64; decide, by unfold I64; decide, by decide, rfl, fun W g h => ldR (h.at 6) (h.at 7) (h.at 8)⟩
  · exact ⟨⟨0, 2147483647, 0⟩, true, by unfold I64; decide, by unfold I64; decide, by unfold I64; decide, by decide, rfl, fun W g h => ldR (h.at 9) (h.at 10) (h.at 11)⟩
  · exact ⟨⟨0, 2147483648, 0⟩, false, by unfold I64; decide, by unfold I64; decide, by unfold I64; decide, by decide, rfl, fun W g h => ldR (h.at 12) (h.at 13) (h.at 14)⟩
  · exact ⟨⟨0, 0, 2147483647⟩, true, by unfold I64; decide, by unfold I64; decide, by unfold I64; decide, by decide, rfl, fun W g h => ldR (h.at 15) (h.at 16) (h.at 17)⟩
  · exact ⟨⟨0, 0, 2147483648⟩, false, by unfold I64; decide, by unfold I64; decide, by unfold I64; decide, by decide, rfl, fun W g h => ldR (h.at 18) (h.at 19) (h.at 20)⟩
  · exact ⟨⟨0, -1, 0⟩, false, by unfold I64; decide, by unfold I64; decide, by unfold I64; decide, by decide, rfl, fun W g h => ldR (h.at 21) (h.at 22) (h.at 23)⟩
  · exact ⟨⟨0, 0, -1⟩, false, by unfold I64; decide, by unfold I64; decide, by unfold I64; decide, by decide, rfl, fun W g h => ldR (h.at 24) (h.at 25) (h.at 26)⟩
theorem bools_at {w : World} {g i : Nat} {L : List Bool} {b : Bool} (h : Has w g 4 (L.map Value.bool).toArray) (hb : L[i]? = some b) : w.cell? ⟨g, i, none⟩ = some (.bool b) := by
  rw [h.at, List.getElem?_toArray, List.getElem?_map, hb]; rfl
theorem ld4 {W : World} {g k : Nat} {b : Bool} (h : W.cell? ⟨g, k, none⟩ = some (.bool b)) : (Instr.loadAt 4 (.pointer (some ⟨g, k, none⟩))).run Try.prog W = .ok (.bool b) W := by
  go_simp
theorem out_long {k n : Int} {l : Nat} {b : Bool} (h : reqB k n l = b) : decide ((0 : Int) < ((reqOut k n (List.replicate l 0)).length : Int)) = b := by
  unfold reqOut
  rw [List.length_replicate, h]
  cases b with
  | true => rw [if_pos rfl, req_len]; exact decide_eq_true (by omega)
  | false => rw [if_neg (by simp)]; rfl
theorem rout_long {r : Rp} {b : Bool} (h : respB r = b) : decide ((0 : Int) < ((respOut r).length : Int)) = b := by
  unfold respOut
  rw [h]
  cases b with
  | true => rw [if_pos rfl, resp_len]; rfl
  | false => rw [if_neg (by simp)]; rfl
/-- A build of a region that draws; a row that is made there; a row of requests. -/
theorem yields_bld {ops : Array Oper} {S : World → Prop} {o : Oper} {a : Act} (hw : Region.wanted o (yielded ops a.tmps) = true) (t : TypeId) (parts : Array (Nat × Operand)) (ho : o.op = .build t parts) (cells : Array Value)
    (hb : Try.prog.built t (parts.map fun (i, x) => (i, a.eval x)).toList = some cells) : YieldsIf Try.prog ops S o (.agg cells) a :=
  Or.inl ⟨hw, fun W hW => by
    have h1 := run_build (P := Try.prog) W t (parts.map fun (i, x) => (i, a.eval x)) cells hb
    unfold execOp
    simp only [ho, Sem.run_bind, h1, Result.andThen_ok, Sem.run_pure]⟩
theorem step_mk {w : World} {ops : Array Oper} {o : Oper} {a : Act} {K : Act → World → Prop} {Q : Exit → Act → World → Prop} {E : Prop} (hw : Region.wanted o (yielded ops a.tmps) = true) (x y : Operand) (ho : o.op = .makeSlice 22 x y)
    (l : Nat) (hx : a.eval x = .int .i64 (l : Int)) (hy : a.eval y = .int .i64 (l : Int)) (hl : l ≤ 1000000)
    (h : K (a.put o.dst (zerS w.heap.size l)) (w.alloc (.cells (zeroBytes l) 5))) : if Region.wanted o (yielded ops a.tmps) = true then Oper.wp Try.prog o a w K Q else E := by
  rw [if_pos hw]
  have e := make_bytes .i64 .i64 l l (Nat.le_refl _) hl w
  unfold Oper.wp execOp
  simp only [ho, hx, hy, Sem.run_bind, e, Result.andThen_ok]
  exact h
theorem step_nine {w : World} {ops : Array Oper} {o : Oper} {a : Act} {K : Act → World → Prop} {Q : Exit → Act → World → Prop} {E : Prop} (hw : Region.wanted o (yielded ops a.tmps) = true) (p q : Nat) (x0 x1 x2 x3 x4 x5 x6 x7 x8 : Operand)
    (ho : o.op = .buildSlice 43 9 #[(0, x0), (1, x1), (2, x2), (3, x3), (4, x4), (5, x5), (6, x6), (7, x7), (8, x8)])
    (h0 : a.eval x0 = .agg (qc 1 0 nilV)) (h1 : a.eval x1 = .agg (qc 9 0 nilV)) (h2 : a.eval x2 = .agg (qc 0 0 nilV)) (h3 : a.eval x3 = .agg (qc 10 0 nilV)) (h4 : a.eval x4 = .agg (qc 1 2147483647 nilV)) (h5 : a.eval x5 = .agg (qc 1 2147483648 nilV)) (h6 : a.eval x6 = .agg (qc 1 (-1) nilV)) (h7 : a.eval x7 = .agg (qc 1 0 (zerS p 1000))) (h8 : a.eval x8 = .agg (qc 1 0 (zerS q 1001)))
    (h : K (a.put o.dst (.slice (some ⟨w.heap.size, 0, none⟩) 9 9)) (w.alloc (.cells (cellsQ p q) 24))) : if Region.wanted o (yielded ops a.tmps) = true then Oper.wp Try.prog o a w K Q else E := by
  rw [if_pos hw]
  have hf : Try.prog.builtSlice 24 9 ((#[(0, x0), (1, x1), (2, x2), (3, x3), (4, x4), (5, x5), (6, x6), (7, x7), (8, x8)] : Array (Nat × Operand)).map fun (i, x) => (i, a.eval x)).toList = some (cellsQ p q) := by
    simp only [List.map_toArray, List.map_cons, List.map_nil, h0, h1, h2, h3, h4, h5, h6, h7, h8]
    exact builtQ p q
  unfold Program.builtSlice at hf
  cases hie : Try.prog.info? 24 with
  | none => simp [hie] at hf
  | some ie =>
    simp only [hie] at hf
    cases hz : ie.zero with
    | none => simp [hz] at hf
    | some z =>
      simp only [hz] at hf
      by_cases hc : 9 * ie.size > 2 ^ 24 ∨ 9 * ie.size = 0
      · simp [hc] at hf
      · rw [if_neg hc] at hf
        exact wp_buildSlice 43 24 9 _ ho (cellsQ p q) ie z Try.underlying43 hie hz (fun h' => hc (Or.inl h')) (fun h' => hc (Or.inr h')) hf h
theorem wpList_nineR {w : World} {ops : Array Oper} {rest : List Oper} {o : Oper} {a : Act} {Q : Exit → Act → World → Prop} (hg : o.guard = none) (x0 x1 x2 x3 x4 x5 x6 x7 x8 : Operand)
    (ho : o.op = .buildSlice 45 9 #[(0, x0), (1, x1), (2, x2), (3, x3), (4, x4), (5, x5), (6, x6), (7, x7), (8, x8)])
    (h0 : a.eval x0 = .agg (Rp.cells ⟨16, 0, 0⟩)) (h1 : a.eval x1 = .agg (Rp.cells ⟨17, 0, 0⟩)) (h2 : a.eval x2 = .agg (Rp.cells ⟨-1, 0, 0⟩)) (h3 : a.eval x3 = .agg (Rp.cells ⟨0, 2147483647, 0⟩)) (h4 : a.eval x4 = .agg (Rp.cells ⟨0, 2147483648, 0⟩)) (h5 : a.eval x5 = .agg (Rp.cells ⟨0, 0, 2147483647⟩)) (h6 : a.eval x6 = .agg (Rp.cells ⟨0, 0, 2147483648⟩)) (h7 : a.eval x7 = .agg (Rp.cells ⟨0, -1, 0⟩)) (h8 : a.eval x8 = .agg (Rp.cells ⟨0, 0, -1⟩))
    (h : wpList Try.prog ops Q rest (a.put o.dst (.slice (some ⟨w.heap.size, 0, none⟩) 9 9)) (w.alloc (.cells cellsR 27))) : wpList Try.prog ops Q (o :: rest) a w := by
  refine Great.wpList_buildSliceTo hg 45 27 9 _ ho w.heap.size rfl o.dst rfl Try.underlying45 cellsR ?_ h
  simp only [List.map_toArray, List.map_cons, List.map_nil, h0, h1, h2, h3, h4, h5, h6, h7, h8]
  exact builtR
end Go.Proofs.Ytjfgnoidoeaaeaa
