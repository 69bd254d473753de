/-
  A request, an answer, a row of bytes that came in: what is told of their cells; conditions: none.
-/
import Derived.Test.YtjfgnoidoeaaeaaMk
import Derived.Deep.Slices
import Derived.Deep.Strs
import Derived.ProofKit
namespace Go.Proofs.Ytjfgnoidoeaaeaa
open Go.ChangeShapes Go.WideShapes Go.ChangeAt Go.RowKit
set_option linter.unusedVariables false
set_option linter.unusedSimpArgs false

theorem int_of {H : Type} {enc : TypeId × Value → H} {w : World} {fuel : Nat} {l : List Value} {x : DataW H × List MemPlace} (h : DataW.trod enc Try.prog w 0 (fun _ => true) true fuel 3 l = some x) : ∃ v : Int, l = [.int .i64 v] ∧ I64 v := by
  obtain ⟨v, c, _, hv⟩ := DataW.trod_int Try.underlying3 h
  have hb := bounds_i64 hv
  exact ⟨v, c, hb.1, hb.2⟩
theorem err_of {H : Type} {enc : TypeId × Value → H} {w : World} {fuel : Nat} {l : List Value} {x : DataW H × List MemPlace} (h : DataW.trod enc Try.prog w 0 (fun _ => true) true fuel 25 l = some x) : ∃ v : Int, l = [.int .i64 v] ∧ I64 v := by
  obtain ⟨v, c, _, hv⟩ := DataW.trod_int Try.underlying25 h
  have hb := bounds_i64 hv
  exact ⟨v, c, hb.1, hb.2⟩
theorem bytes_of {H : Type} {enc : TypeId × Value → H} {w : World} {n : Nat} {v : Value} {y : DataW H × List MemPlace} (h : DataW.trod enc Try.prog w 0 (fun _ => true) true n 22 [v] = some y) : ∃ A L C zs, v = .slice A L C ∧ Row w A L zs ∧ L ≤ C := by
  rcases open_ints Try.underlying22 Try.underlying5 (by kernel_rfl) h with ⟨hcs, _⟩ | ⟨x, l, c, zs, hcs, _, hl, hm, hz, _, hcell, hwz⟩
  · simp only [List.cons.injEq, and_true] at hcs
    exact ⟨none, 0, 0, [], hcs, row_nil w, Nat.le_refl _⟩
  · simp only [List.cons.injEq, and_true] at hcs
    exact ⟨some x, l, c, zs.take l, hcs, row_of (cap := c) (.inr ⟨x, rfl, hl, hm, by simpa using hz, hcell, hwz⟩), hl⟩
set_option maxRecDepth 100000 in
theorem rq_of {H : Type} {enc : TypeId × Value → H} {w : World} {fuel : Nat} {cs : Array Value} {x : DataW H × List MemPlace} (h : DataW.trod enc Try.prog w 0 (fun _ => true) true fuel 24 (Value.agg cs).cells.toList = some x) : ∃ (k n : Int) (A : Option Addr) (L C : Nat) (zs : List Int), cs = qc k n (.slice A L C) ∧ I64 k ∧ I64 n ∧ Row w A L zs ∧ L ≤ C := by
  have e24 : Try.prog.cellsOf 24 = 3 := by kernel_rfl
  have e22 : Try.prog.cellsOf 22 = 1 := by kernel_rfl
  have e3 : Try.prog.cellsOf 3 = 1 := by kernel_rfl
  have h0 : DataW.trod enc Try.prog w 0 (fun _ => true) true fuel 24 cs.toList = some x := h
  obtain ⟨z0, z1, z2, k, _, hl, g0, g1, g2⟩ := Deep.trod_struct3 Try.underlying24 h0
  rw [e24] at hl
  simp only [e3, e22] at g0 g1 g2
  generalize hcs : cs.toList = l at *
  match l, hl with
  | [v0, v1, v2], _ =>
    have g0' : DataW.trod enc Try.prog w 0 (fun _ => true) true k 3 [v0] = some z0 := g0
    have g1' : DataW.trod enc Try.prog w 0 (fun _ => true) true k 3 [v1] = some z1 := g1
    have g2' : DataW.trod enc Try.prog w 0 (fun _ => true) true k 22 [v2] = some z2 := g2
    obtain ⟨a, c0, ha⟩ := int_of g0'
    obtain ⟨b, c1, hb⟩ := int_of g1'
    obtain ⟨A, L, C, zs, rfl, hr, hc⟩ := bytes_of g2'
    cases c0
    cases c1
    exact ⟨a, b, A, L, C, zs, Array.ext' hcs, ha, hb, hr, hc⟩
set_option maxRecDepth 100000 in
theorem rp_of {H : Type} {enc : TypeId × Value → H} {w : World} {fuel : Nat} {cs : Array Value} {x : DataW H × List MemPlace} (h : DataW.trod enc Try.prog w 0 (fun _ => true) true fuel 27 (Value.agg cs).cells.toList = some x) : ∃ r : Rp, cs = r.cells ∧ I64 r.err ∧ I64 r.num ∧ I64 r.gott := by
  have e27 : Try.prog.cellsOf 27 = 3 := by kernel_rfl
  have e25 : Try.prog.cellsOf 25 = 1 := by kernel_rfl
  have e3 : Try.prog.cellsOf 3 = 1 := by kernel_rfl
  have h0 : DataW.trod enc Try.prog w 0 (fun _ => true) true fuel 27 cs.toList = some x := h
  obtain ⟨z0, z1, z2, k, _, hl, g0, g1, g2⟩ := Deep.trod_struct3 Try.underlying27 h0
  rw [e27] at hl
  simp only [e3, e25] at g0 g1 g2
  generalize hcs : cs.toList = l at *
  match l, hl with
  | [v0, v1, v2], _ =>
    have g0' : DataW.trod enc Try.prog w 0 (fun _ => true) true k 25 [v0] = some z0 := g0
    have g1' : DataW.trod enc Try.prog w 0 (fun _ => true) true k 3 [v1] = some z1 := g1
    have g2' : DataW.trod enc Try.prog w 0 (fun _ => true) true k 3 [v2] = some z2 := g2
    obtain ⟨a, c0, ha⟩ := err_of g0'
    obtain ⟨b, c1, hb⟩ := int_of g1'
    obtain ⟨d, c2, hd⟩ := int_of g2'
    cases c0
    cases c1
    cases c2
    exact ⟨⟨a, b, d⟩, Array.ext' hcs, ha, hb, hd⟩
end Go.Proofs.Ytjfgnoidoeaaeaa
