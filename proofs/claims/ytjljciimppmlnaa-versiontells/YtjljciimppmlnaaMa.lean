/-
  What is kept that came in: what is told of its cells; a row of bytes that came in; conditions: none.
-/
import Derived.Test.YtjljciimppmlnaaMk
import Derived.Deep.Strs
import Derived.ProofKit
namespace Go.Proofs.Ytjljciimppmlnaa
open Go.ChangeShapes Go.WideShapes Go.ChangeAt Go.RowKit
set_option linter.unusedVariables false
set_option linter.unusedSimpArgs false

set_option maxRecDepth 100000 in
theorem dig_of {H : Type} {enc : TypeId × Value → H} {w : World} {fuel : Nat} {l : List Value} {x : DataW H × List MemPlace} (h : DataW.trod enc Try.prog w 0 (fun _ => true) true fuel 22 l = some x) : ∃ ds : List Int, l = nums ds ∧ ds.length = 32 ∧ Byt ds := by
  have e22 : Try.prog.cellsOf 22 = 32 := by kernel_rfl
  have e5 : Try.prog.cellsOf 5 = 1 := by kernel_rfl
  obtain ⟨xs, m, _, _, hl, hxl, hel⟩ := DataW.trod_array Try.underlying22 h
  rw [e22] at hl
  have key : ∀ i, i < 32 → ∃ z : Int, l[i]? = some (.int .u8 z) ∧ 0 ≤ z ∧ z ≤ 255 := by
    intro i hi
    have hE := hel i hi
    rw [e5, Nat.mul_one, List.getElem?_eq_getElem (by omega)] at hE
    obtain ⟨z, e1, _, hw⟩ := DataW.trod_int Try.underlying5 hE
    have h0 : ((l.drop i).take 1)[0]? = some (.int .u8 z) := by rw [e1]; rfl
    exact ⟨z, by simpa using h0, bounds_u8 hw⟩
  refine ⟨l.map (fun v => match v with | .int _ z => z | _ => 0), ?_, by rw [List.length_map, hl], ?_⟩
  · refine List.ext_getElem? fun i => ?_
    by_cases hi : i < 32
    · obtain ⟨z, e, _⟩ := key i hi
      simp [nums, e]
    · rw [List.getElem?_eq_none (by omega), List.getElem?_eq_none (by simp [nums]; omega)]
  · intro n hn
    obtain ⟨v, hv, rfl⟩ := List.mem_map.1 hn
    obtain ⟨i, hi, rfl⟩ := List.mem_iff_getElem.1 hv
    obtain ⟨z, e, hz⟩ := key i (by omega)
    rw [List.getElem?_eq_getElem hi] at e
    rw [Option.some.inj e]
    exact hz
theorem cut_at (l : List Value) (k n : Nat) : l.drop k = (l.drop k).take n ++ l.drop (k + n) := by rw [← List.drop_drop, List.take_append_drop]
theorem int_of {H : Type} {enc : TypeId × Value → H} {w : World} {fuel : Nat} {l : List Value} {x : DataW H × List MemPlace} (h : DataW.trod enc Try.prog w 0 (fun _ => true) true fuel 3 l = some x) : ∃ v : Int, l = [.int .i64 v] ∧ I64 v := by
  obtain ⟨v, c, _, hv⟩ := DataW.trod_int Try.underlying3 h
  have hb := bounds_i64 hv
  exact ⟨v, c, hb.1, hb.2⟩
set_option maxRecDepth 100000 in
theorem im_of {H : Type} {enc : TypeId × Value → H} {w : World} {fuel : Nat} {l : List Value} {x : DataW H × List MemPlace} (h : DataW.trod enc Try.prog w 0 (fun _ => true) true fuel 24 l = some x) : ∃ i : Im, l = i.list ∧ i.Ok := by
  have e24 : Try.prog.cellsOf 24 = 34 := by kernel_rfl
  have e22 : Try.prog.cellsOf 22 = 32 := by kernel_rfl
  have e3 : Try.prog.cellsOf 3 = 1 := by kernel_rfl
  obtain ⟨z0, z1, z2, k, _, hl, g0, g1, g2⟩ := Deep.trod_struct3 Try.underlying24 h
  rw [e24] at hl
  simp only [e3, e22] at g0 g1 g2
  obtain ⟨v, c0, hv⟩ := int_of g0
  obtain ⟨n, c1, hn⟩ := int_of g1
  obtain ⟨ds, c2, hd, hb⟩ := dig_of g2
  refine ⟨⟨v, n, ds⟩, ?_, hd, hb, hv, hn⟩
  have e : l = (l.drop 0).take 1 ++ ((l.drop 1).take 1 ++ ((l.drop 2).take 32 ++ l.drop 34)) := by
    rw [← cut_at l 2 32, ← cut_at l 1 1, ← cut_at l 0 1, List.drop_zero]
  rw [e, c0, c1, c2, List.drop_eq_nil_of_le (by omega)]
  simp [Im.list]
set_option maxRecDepth 100000 in
theorem two_of {H : Type} {enc : TypeId × Value → H} {w : World} {fuel : Nat} {l : List Value} {x : DataW H × List MemPlace} (h : DataW.trod enc Try.prog w 0 (fun _ => true) true fuel 25 l = some x) : ∃ i k : Im, l = i.list ++ k.list ∧ i.Ok ∧ k.Ok := by
  have e25 : Try.prog.cellsOf 25 = 68 := by kernel_rfl
  have e24 : Try.prog.cellsOf 24 = 34 := by kernel_rfl
  obtain ⟨xs, m, _, _, hl, hxl, hel⟩ := DataW.trod_array Try.underlying25 h
  rw [e25] at hl
  have h0 := hel 0 (by omega)
  have h1 := hel 1 (by omega)
  rw [e24, List.getElem?_eq_getElem (by omega)] at h0 h1
  obtain ⟨i, c0, hi⟩ := im_of h0
  obtain ⟨k, c1, hk⟩ := im_of h1
  refine ⟨i, k, ?_, hi, hk⟩
  have e : l = (l.drop (0 * 34)).take 34 ++ ((l.drop (1 * 34)).take 34 ++ l.drop 68) := by
    rw [show 1 * 34 = 34 from rfl, ← cut_at l 34 34, Nat.zero_mul, ← cut_at l 0 34, List.drop_zero]
  rw [e, c0, c1, List.drop_eq_nil_of_le (by omega)]
  simp
set_option maxRecDepth 100000 in
theorem mt_of {H : Type} {enc : TypeId × Value → H} {w : World} {fuel : Nat} {cs : Array Value} {x : DataW H × List MemPlace} (h : DataW.trod enc Try.prog w 0 (fun _ => true) true fuel 27 (Value.agg cs).cells.toList = some x) : ∃ m : Mt, cs = m.cells ∧ m.Ok := by
  have e27 : Try.prog.cellsOf 27 = 107 := by kernel_rfl
  have e25 : Try.prog.cellsOf 25 = 68 := by kernel_rfl
  have e24 : Try.prog.cellsOf 24 = 34 := by kernel_rfl
  have e3 : Try.prog.cellsOf 3 = 1 := by kernel_rfl
  obtain ⟨xs, n, _, _, hl, hxl, hel⟩ := DataW.trod_struct Try.underlying27 h
  rw [e27] at hl
  have hx : xs.length = 7 := hxl
  have f0 : DataW.trod enc Try.prog w 0 (fun _ => true) true n 3 (((Value.agg cs).cells.toList.drop 0).take (Try.prog.cellsOf 3)) = some xs[0] := by
    have g := hel 0 _ rfl
    rw [List.getElem?_eq_getElem (by omega)] at g
    exact g
  have f1 : DataW.trod enc Try.prog w 0 (fun _ => true) true n 25 (((Value.agg cs).cells.toList.drop 1).take (Try.prog.cellsOf 25)) = some xs[1] := by
    have g := hel 1 _ rfl
    rw [List.getElem?_eq_getElem (by omega)] at g
    exact g
  have f2 : DataW.trod enc Try.prog w 0 (fun _ => true) true n 3 (((Value.agg cs).cells.toList.drop 69).take (Try.prog.cellsOf 3)) = some xs[2] := by
    have g := hel 2 _ rfl
    rw [List.getElem?_eq_getElem (by omega)] at g
    exact g
  have f3 : DataW.trod enc Try.prog w 0 (fun _ => true) true n 3 (((Value.agg cs).cells.toList.drop 70).take (Try.prog.cellsOf 3)) = some xs[3] := by
    have g := hel 3 _ rfl
    rw [List.getElem?_eq_getElem (by omega)] at g
    exact g
  have f4 : DataW.trod enc Try.prog w 0 (fun _ => true) true n 24 (((Value.agg cs).cells.toList.drop 71).take (Try.prog.cellsOf 24)) = some xs[4] := by
    have g := hel 4 _ rfl
    rw [List.getElem?_eq_getElem (by omega)] at g
    exact g
  have f5 : DataW.trod enc Try.prog w 0 (fun _ => true) true n 3 (((Value.agg cs).cells.toList.drop 105).take (Try.prog.cellsOf 3)) = some xs[5] := by
    have g := hel 5 _ rfl
    rw [List.getElem?_eq_getElem (by omega)] at g
    exact g
  have f6 : DataW.trod enc Try.prog w 0 (fun _ => true) true n 3 (((Value.agg cs).cells.toList.drop 106).take (Try.prog.cellsOf 3)) = some xs[6] := by
    have g := hel 6 _ rfl
    rw [List.getElem?_eq_getElem (by omega)] at g
    exact g
  rw [e3] at f0 f2 f3 f5 f6
  rw [e25] at f1
  rw [e24] at f4
  obtain ⟨v0, c0, h0⟩ := int_of f0
  obtain ⟨i, k, c1, hi, hk⟩ := two_of f1
  obtain ⟨v2, c2, h2⟩ := int_of f2
  obtain ⟨v3, c3, h3⟩ := int_of f3
  obtain ⟨j, c4, hj⟩ := im_of f4
  obtain ⟨v5, c5, h5⟩ := int_of f5
  obtain ⟨v6, c6, h6⟩ := int_of f6
  refine ⟨⟨v0, i, k, v2, v3, j, v5, v6⟩, ?_, ⟨hi, hk, hj, h0, h2, h3, h5, h6⟩⟩
  apply Array.ext'
  have hl' : cs.toList.length = 107 := hl
  show cs.toList = _
  try simp only [Value.cells] at c0 c1 c2 c3 c4 c5 c6
  generalize cs.toList = l at *
  have e : l = (l.drop 0).take 1 ++ ((l.drop 1).take 68 ++ ((l.drop 69).take 1 ++ ((l.drop 70).take 1 ++ ((l.drop 71).take 34 ++ ((l.drop 105).take 1 ++ ((l.drop 106).take 1 ++ l.drop 107)))))) := by
    rw [← cut_at l 106 1, ← cut_at l 105 1, ← cut_at l 71 34, ← cut_at l 70 1, ← cut_at l 69 1, ← cut_at l 1 68, ← cut_at l 0 1, List.drop_zero]
  rw [e, c0, c1, c2, c3, c4, c5, c6, List.drop_eq_nil_of_le (by omega)]
  simp [Mt.cells, Mt.list]
end Go.Proofs.Ytjljciimppmlnaa
