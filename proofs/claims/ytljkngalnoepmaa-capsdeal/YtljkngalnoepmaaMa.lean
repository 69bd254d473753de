/-
  Configs, and a part, that came in: what is told of their cells; conditions: none.
-/
import Derived.Test.YtljkngalnoepmaaMk
import Derived.Deep.Slices
import Derived.Deep.Strs
import Derived.ProofKit
namespace Go.Proofs.Ytljkngalnoepmaa
open Go.ChangeShapes Go.WideShapes Go.ChangeAt Go.RowKit
set_option linter.unusedVariables false
set_option linter.unusedSimpArgs false

theorem add_plain (b off i : Nat) : (⟨b, off, none⟩ : Addr).add i = ⟨b, off + i, none⟩ := by unfold Addr.add; split <;> simp_all
theorem plain_at {w : World} {a : Addr} {v : Value} (h : w.cell? (a.add 0) = some v) : ∃ b off, a = ⟨b, off, none⟩ := by
  obtain ⟨b, off, spot⟩ := a
  have hspot : spot = none := by simpa [Addr.add] using World.cell?_spot h
  subst hspot
  exact ⟨b, off, rfl⟩
theorem num_of {H : Type} {enc : TypeId × Value → H} {w : World} {n : Nat} {v : Value} {y : DataW H × List MemPlace} (h : DataW.trod enc Try.prog w 0 (fun _ => true) true n 3 [v] = some y) : ∃ i, v = .int .i64 i ∧ I64 i := by
  obtain ⟨i, e, _, hw⟩ := DataW.trod_int Try.underlying3 h
  simp only [List.cons.injEq, and_true] at e
  exact ⟨i, e, bounds_i64 hw⟩
theorem str_of {H : Type} {enc : TypeId × Value → H} {w : World} {n : Nat} {v : Value} {y : DataW H × List MemPlace} (h : DataW.trod enc Try.prog w 0 (fun _ => true) true n 9 [v] = some y) : ∃ s, v = .string s ∧ s.size ≤ maxLen := by
  obtain ⟨s, e, _, hw⟩ := DataW.trod_string Try.underlying9 h
  simp only [List.cons.injEq, and_true] at e
  exact ⟨s, e, hw⟩
theorem sl_of {H : Type} {enc : TypeId × Value → H} {w : World} {n : Nat} {v : Value} {y : DataW H × List MemPlace} (h : DataW.trod enc Try.prog w 0 (fun _ => true) true n 36 [v] = some y) : ∃ A L C, v = .slice A L C := by
  rcases DataW.trod_slice Try.underlying36 h with ⟨e, _⟩ | ⟨a, len, cap, _, _, _, _, e, _⟩
  · simp only [List.cons.injEq, and_true] at e
    exact ⟨none, 0, 0, e⟩
  · simp only [List.cons.injEq, and_true] at e
    exact ⟨some a, len, cap, e⟩
instance : Inhabited Cf := ⟨⟨ByteArray.empty, none, 0, 0, 0, 0, 0, 0, none, 0, 0⟩⟩
set_option maxRecDepth 100000 in
theorem cfs_of {H : Type} {enc : TypeId × Value → H} {w : World} {fuel : Nat} {a : Option Addr} {len cap : Nat} {x : DataW H × List MemPlace} (h : DataW.trod enc Try.prog w 0 (fun _ => true) true fuel 22 [.slice a len cap] = some x) :
    ∃ cs : List Cf, Cfs w w.heap.size a len cs ∧ (∀ c ∈ cs, c.Ok) ∧ len ≤ cap ∧ cap ≤ maxLen := by
  have h7 : Try.prog.cellsOf 38 = 7 := by kernel_rfl
  have e3 : Try.prog.cellsOf 3 = 1 := by kernel_rfl
  have e9 : Try.prog.cellsOf 9 = 1 := by kernel_rfl
  have e36 : Try.prog.cellsOf 36 = 1 := by kernel_rfl
  rcases Deep.open_slice Try.underlying22 h with ⟨hcs, _⟩ | ⟨p, l, c, m, n, D, Pl, hcs, _, hl, hm, hmm, _, hi⟩
  · simp only [List.cons.injEq, Value.slice.injEq, and_true] at hcs
    obtain ⟨rfl, rfl, rfl⟩ := hcs
    exact ⟨[], cfs_none _ _ _, fun c hc => by simp at hc, Nat.le_refl _, Nat.zero_le _⟩
  · simp only [List.cons.injEq, Value.slice.injEq, and_true] at hcs
    obtain ⟨rfl, rfl, rfl⟩ := hcs
    rw [if_pos rfl] at hmm
    subst hmm
    rw [h7] at hi
    by_cases h0 : len = 0
    · subst h0
      exact ⟨[], cfs_none _ _ _, fun c hc => by simp at hc, hl, hm⟩
    have each : ∀ i, i < len → ∃ c : Cf, (∀ j v, c.list[j]? = some v → w.cell? ((p.add (i * 7)).add j) = some v) ∧ c.Ok := by
      intro i hil
      obtain ⟨cs', hc, ht⟩ := hi i (by omega)
      obtain ⟨_, hcl, hat⟩ := World.cells?_some hc
      obtain ⟨xs, n', _, _, _, hxl, hf⟩ := DataW.trod_struct Try.underlying38 ht
      match cs', hcl, xs, hxl with
      | [v0, v1, v2, v3, v4, v5, v6], _, [y0, y1, y2, y3, y4, y5, y6], _ =>
        have f0 : DataW.trod enc Try.prog w 0 (fun _ => true) true n' 9 (List.take (Try.prog.cellsOf 9) [v0, v1, v2, v3, v4, v5, v6]) = some y0 := hf 0 _ rfl
        have f1 : DataW.trod enc Try.prog w 0 (fun _ => true) true n' 36 (List.take (Try.prog.cellsOf 36) [v1, v2, v3, v4, v5, v6]) = some y1 := hf 1 _ rfl
        have f2 : DataW.trod enc Try.prog w 0 (fun _ => true) true n' 3 (List.take (Try.prog.cellsOf 3) [v2, v3, v4, v5, v6]) = some y2 := hf 2 _ rfl
        have f3 : DataW.trod enc Try.prog w 0 (fun _ => true) true n' 3 (List.take (Try.prog.cellsOf 3) [v3, v4, v5, v6]) = some y3 := hf 3 _ rfl
        have f4 : DataW.trod enc Try.prog w 0 (fun _ => true) true n' 3 (List.take (Try.prog.cellsOf 3) [v4, v5, v6]) = some y4 := hf 4 _ rfl
        have f5 : DataW.trod enc Try.prog w 0 (fun _ => true) true n' 3 (List.take (Try.prog.cellsOf 3) [v5, v6]) = some y5 := hf 5 _ rfl
        have f6 : DataW.trod enc Try.prog w 0 (fun _ => true) true n' 36 (List.take (Try.prog.cellsOf 36) [v6]) = some y6 := hf 6 _ rfl
        rw [e9] at f0
        rw [e36] at f1 f6
        rw [e3] at f2 f3 f4 f5
        obtain ⟨s, rfl, hs⟩ := str_of (y := y0) f0
        obtain ⟨A, L, C, rfl⟩ := sl_of (y := y1) f1
        obtain ⟨k2, rfl, i2⟩ := num_of (y := y2) f2
        obtain ⟨k3, rfl, i3⟩ := num_of (y := y3) f3
        obtain ⟨k4, rfl, i4⟩ := num_of (y := y4) f4
        obtain ⟨k5, rfl, i5⟩ := num_of (y := y5) f5
        obtain ⟨A', L', C', rfl⟩ := sl_of (y := y6) f6
        refine ⟨⟨s, A, L, C, k2, k3, k4, k5, A', L', C'⟩, fun j v hv => ?_, ⟨hs, i2, i3, i4, i5⟩⟩
        have hj : j < 7 := (List.getElem?_eq_some_iff.1 hv).1
        rw [hat j hj]
        exact hv
    obtain ⟨f, hf⟩ := Deep.choose_lt each
    obtain ⟨b, off, rfl⟩ := plain_at (by have := (hf 0 (by omega)).1 0 _ rfl; rw [Deep.add_add] at this; exact this)
    have hlen : ((List.range len).map f).length = len := by simp
    have hget : ∀ i, i < len → ((List.range len).map f)[i]? = some (f i) := fun i hil => by simp [hil]
    have hb : b < w.heap.size := by
      have := (hf 0 (by omega)).1 0 _ rfl
      rw [Deep.add_add, add_plain] at this
      exact World.block_lt_of_cell? _ _ this
    refine ⟨(List.range len).map f, ⟨⟨by rw [cfs_len, hlen], .inr ⟨b, off, rfl, hb, fun j v hv => ?_⟩⟩, hlen⟩, ?_, hl, hm⟩
    · have hj : j < len * 7 := by have := (List.getElem?_eq_some_iff.1 hv).1; rw [cfs_len, hlen] at this; exact this
      obtain ⟨i, r, hr, rfl⟩ : ∃ i r, r < 7 ∧ j = i * 7 + r := ⟨j / 7, j % 7, Nat.mod_lt _ (by omega), by omega⟩
      obtain ⟨u, hu⟩ : ∃ u, (f i).list[r]? = some u := ⟨_, List.getElem?_eq_getElem (show r < (f i).list.length by simpa [Cf.list] using hr)⟩
      have e := cfs_at (hget i (by omega)) hu
      rw [e] at hv
      cases hv
      have := (hf i (by omega)).1 r _ hu
      rw [Deep.add_add, add_plain] at this
      exact this
    · intro c hc
      obtain ⟨i, hi2, rfl⟩ := List.mem_map.1 hc
      exact (hf i (List.mem_range.1 hi2)).2
set_option maxRecDepth 100000 in
theorem cap_of {H : Type} {enc : TypeId × Value → H} {w : World} {fuel : Nat} {cs : Array Value} {x : DataW H × List MemPlace} (hs : cs.size = Try.prog.cellsOf 24) (h : DataW.trod enc Try.prog w 0 (fun _ => true) true fuel 24 (Value.agg cs).cells.toList = some x) : ∃ p : Cp, cs = p.cells := by
  have h5 : Try.prog.cellsOf 24 = 3 := by kernel_rfl
  have e3 : Try.prog.cellsOf 3 = 1 := by kernel_rfl
  rw [h5] at hs
  obtain ⟨xs, n', _, _, _, hxl, hf⟩ := DataW.trod_struct Try.underlying24 h
  obtain ⟨l⟩ := cs
  match l, hs, xs, hxl with
  | [v0, v1, v2], _, [y0, y1, y2], _ =>
    have f0 : DataW.trod enc Try.prog w 0 (fun _ => true) true n' 3 (List.take (Try.prog.cellsOf 3) [v0, v1, v2]) = some y0 := hf 0 _ rfl
    have f1 : DataW.trod enc Try.prog w 0 (fun _ => true) true n' 3 (List.take (Try.prog.cellsOf 3) [v1, v2]) = some y1 := hf 1 _ rfl
    have f2 : DataW.trod enc Try.prog w 0 (fun _ => true) true n' 3 (List.take (Try.prog.cellsOf 3) [v2]) = some y2 := hf 2 _ rfl
    rw [e3] at f0 f1 f2
    obtain ⟨k0, rfl, _⟩ := num_of (y := y0) f0
    obtain ⟨k1, rfl, _⟩ := num_of (y := y1) f1
    obtain ⟨k2, rfl, _⟩ := num_of (y := y2) f2
    exact ⟨⟨k0, k1, k2⟩, rfl⟩
end Go.Proofs.Ytljkngalnoepmaa
