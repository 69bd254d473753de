/-
  Requests, and what was found beside, that came in: what is told of their cells; conditions: none.
-/
import Derived.Test.YtcokpdhhpaahgaaDoorVd
import Derived.Test.YtcokpdhhpaahgaaDoorMMt
import Derived.Deep.Slices
import Derived.Deep.Strs
import Derived.ProofKit
namespace Go.Proofs.YtcokpdhhpaahgaaDoor
open Go.ChangeShapes Go.WideShapes Go.ChangeAt Go.RowKit
set_option linter.unusedVariables false
set_option linter.unusedSimpArgs false

def Rq.list (q : Rq) : List Value := [.int .i64 q.kind, .int .i64 q.num, .slice q.A q.len q.cap]
set_option maxRecDepth 100000 in
theorem rql_one {H : Type} {enc : TypeId × Value → H} {w : World} {fuel : Nat} {l : List Value} {x : DataW H × List MemPlace} (h : DataW.trod enc Tryd.prog w 0 (fun _ => true) true fuel 30 l = some x) : ∃ q : Rq, l = q.list ∧ QIn w q := by
  have e30 : Tryd.prog.cellsOf 30 = 3 := by kernel_rfl
  have e28 : Tryd.prog.cellsOf 28 = 1 := by kernel_rfl
  have e3 : Tryd.prog.cellsOf 3 = 1 := by kernel_rfl
  obtain ⟨z0, z1, z2, k, _, hl, g0, g1, g2⟩ := Deep.trod_struct3 Tryd.underlying30 h
  rw [e30] at hl
  simp only [e3, e28] at g0 g1 g2
  match l, hl with
  | [v0, v1, v2], _ =>
    have g0' : DataW.trod enc Tryd.prog w 0 (fun _ => true) true k 3 [v0] = some z0 := g0
    have g1' : DataW.trod enc Tryd.prog w 0 (fun _ => true) true k 3 [v1] = some z1 := g1
    have g2' : DataW.trod enc Tryd.prog w 0 (fun _ => true) true k 28 [v2] = some z2 := g2
    obtain ⟨a, c0, ha⟩ := int_of g0'
    obtain ⟨b, c1, hb⟩ := int_of g1'
    obtain ⟨A, L, C, zs, rfl, hr, hc⟩ := bytes_of g2'
    cases c0
    cases c1
    exact ⟨⟨a, b, A, L, C, zs⟩, rfl, ⟨ha, hb, hr, hc⟩⟩
theorem rq_of {H : Type} {enc : TypeId × Value → H} {w : World} {fuel : Nat} {cs : Array Value} {x : DataW H × List MemPlace} (h : DataW.trod enc Tryd.prog w 0 (fun _ => true) true fuel 30 (Value.agg cs).cells.toList = some x) : ∃ q : Rq, cs = q.cells ∧ QIn w q := by
  obtain ⟨q, e, h1⟩ := rql_one h
  exact ⟨q, Array.ext' e, h1⟩
set_option maxRecDepth 100000 in
theorem fcl_one {H : Type} {enc : TypeId × Value → H} {w : World} {fuel : Nat} {l : List Value} {x : DataW H × List MemPlace} (h : DataW.trod enc Tryd.prog w 0 (fun _ => true) true fuel 32 l = some x) : ∃ f : Fc, l = f.list ∧ f.Ok := by
  have e32 : Tryd.prog.cellsOf 32 = 35 := by kernel_rfl
  have e22 : Tryd.prog.cellsOf 22 = 32 := by kernel_rfl
  have e4 : Tryd.prog.cellsOf 4 = 1 := by kernel_rfl
  obtain ⟨xs, n, _, _, hl, hxl, hel⟩ := DataW.trod_struct Tryd.underlying32 h
  rw [e32] at hl
  have hx : xs.length = 4 := hxl
  have f0 : DataW.trod enc Tryd.prog w 0 (fun _ => true) true n 4 ((l.drop 0).take (Tryd.prog.cellsOf 4)) = some xs[0] := by
    have g := hel 0 _ rfl
    rw [List.getElem?_eq_getElem (by omega)] at g
    exact g
  have f1 : DataW.trod enc Tryd.prog w 0 (fun _ => true) true n 4 ((l.drop 1).take (Tryd.prog.cellsOf 4)) = some xs[1] := by
    have g := hel 1 _ rfl
    rw [List.getElem?_eq_getElem (by omega)] at g
    exact g
  have f2 : DataW.trod enc Tryd.prog w 0 (fun _ => true) true n 22 ((l.drop 2).take (Tryd.prog.cellsOf 22)) = some xs[2] := by
    have g := hel 2 _ rfl
    rw [List.getElem?_eq_getElem (by omega)] at g
    exact g
  have f3 : DataW.trod enc Tryd.prog w 0 (fun _ => true) true n 4 ((l.drop 34).take (Tryd.prog.cellsOf 4)) = some xs[3] := by
    have g := hel 3 _ rfl
    rw [List.getElem?_eq_getElem (by omega)] at g
    exact g
  rw [e4] at f0 f1 f3
  rw [e22] at f2
  obtain ⟨a, c0, _⟩ := DataW.trod_bool Tryd.underlying4 f0
  obtain ⟨b, c1, _⟩ := DataW.trod_bool Tryd.underlying4 f1
  obtain ⟨ds, c2, hd, hb⟩ := dig_of f2
  obtain ⟨c, c3, _⟩ := DataW.trod_bool Tryd.underlying4 f3
  refine ⟨⟨a, b, ds, c⟩, ?_, hd, hb⟩
  have e : l = (l.drop 0).take 1 ++ ((l.drop 1).take 1 ++ ((l.drop 2).take 32 ++ ((l.drop 34).take 1 ++ l.drop 35))) := by
    rw [← cut_at l 34 1, ← cut_at l 2 32, ← cut_at l 1 1, ← cut_at l 0 1, List.drop_zero]
  rw [e, c0, c1, c2, c3, List.drop_eq_nil_of_le (by omega)]
  simp [Fc.list]
theorem fc_of {H : Type} {enc : TypeId × Value → H} {w : World} {fuel : Nat} {cs : Array Value} {x : DataW H × List MemPlace} (h : DataW.trod enc Tryd.prog w 0 (fun _ => true) true fuel 32 (Value.agg cs).cells.toList = some x) : ∃ f : Fc, cs = f.cells ∧ f.Ok := by
  obtain ⟨f, e, h1⟩ := fcl_one h
  exact ⟨f, Array.ext' e, h1⟩
instance : Inhabited Rq := ⟨zeroQ⟩
instance : Inhabited Fc := ⟨zeroF⟩
theorem add_plain (b off i : Nat) : (⟨b, off, none⟩ : Addr).add i = ⟨b, off + i, none⟩ := by unfold Addr.add; split <;> simp_all
theorem plain_at {w : World} {a : Addr} {v : Value} (h : w.cell? (a.add 0) = some v) : ∃ b off, a = ⟨b, off, none⟩ := by
  obtain ⟨b, off, spot⟩ := a
  have hspot : spot = none := by simpa [Addr.add] using World.cell?_spot h
  subst hspot
  exact ⟨b, off, rfl⟩
/-- A row of requests; a row of what was found beside each. -/
def QRow (w : World) (A : Option Addr) (len : Nat) (f : Nat → Rq) : Prop :=
  len = 0 ∨ ∃ b off, A = some ⟨b, off, none⟩ ∧ b < w.heap.size ∧ ∀ i, i < len → (∀ j v, (f i).list[j]? = some v → w.cell? ⟨b, off + i * 3 + j, none⟩ = some v) ∧ QIn w (f i)
def FRow (w : World) (A : Option Addr) (len : Nat) (f : Nat → Fc) : Prop :=
  len = 0 ∨ ∃ b off, A = some ⟨b, off, none⟩ ∧ b < w.heap.size ∧ ∀ i, i < len → (∀ j v, (f i).list[j]? = some v → w.cell? ⟨b, off + i * 35 + j, none⟩ = some v) ∧ (f i).Ok
set_option maxRecDepth 100000 in
theorem qrow_of {H : Type} {enc : TypeId × Value → H} {w : World} {fuel : Nat} {a : Option Addr} {len cap : Nat} {x : DataW H × List MemPlace} (h : DataW.trod enc Tryd.prog w 0 (fun _ => true) true fuel 42 [.slice a len cap] = some x) :
    (∃ f, QRow w a len f) ∧ len ≤ cap ∧ cap ≤ maxLen := by
  have h3 : Tryd.prog.cellsOf 30 = 3 := by kernel_rfl
  rcases Deep.open_slice Tryd.underlying42 h with ⟨hcs, _⟩ | ⟨p, l, c, m, n, D, Pl, hcs, _, hl, hm, hmm, _, hi⟩
  · simp only [List.cons.injEq, Value.slice.injEq, and_true] at hcs
    obtain ⟨rfl, rfl, rfl⟩ := hcs
    exact ⟨⟨fun _ => zeroQ, .inl rfl⟩, Nat.le_refl _, Nat.zero_le _⟩
  · simp only [List.cons.injEq, Value.slice.injEq, and_true] at hcs
    obtain ⟨rfl, rfl, rfl⟩ := hcs
    rw [if_pos rfl] at hmm
    subst hmm
    rw [h3] at hi
    by_cases h0 : len = 0
    · exact ⟨⟨fun _ => zeroQ, .inl h0⟩, hl, hm⟩
    have each : ∀ i, i < len → ∃ q : Rq, (∀ j v, q.list[j]? = some v → w.cell? ((p.add (i * 3)).add j) = some v) ∧ QIn w q := by
      intro i hil
      obtain ⟨cs', hc, ht⟩ := hi i (by omega)
      obtain ⟨_, hcl, hat⟩ := World.cells?_some hc
      obtain ⟨q, rfl, hq⟩ := rql_one ht
      refine ⟨q, fun j v hv => ?_, hq⟩
      have hj : j < 3 := (List.getElem?_eq_some_iff.1 hv).1
      rw [hat j hj]
      exact hv
    obtain ⟨f, hf⟩ := Deep.choose_lt each
    obtain ⟨b, off, rfl⟩ := plain_at (by have := (hf 0 (by omega)).1 0 _ rfl; rw [Deep.add_add] at this; exact this)
    refine ⟨⟨f, .inr ⟨b, off, rfl, ?_, fun i hil => ⟨fun j v hv => ?_, (hf i hil).2⟩⟩⟩, hl, hm⟩
    · have := (hf 0 (by omega)).1 0 _ rfl
      rw [Deep.add_add, add_plain] at this
      exact World.block_lt_of_cell? _ _ this
    · have := (hf i hil).1 j v hv
      rw [Deep.add_add, add_plain, ← Nat.add_assoc] at this
      exact this
set_option maxRecDepth 100000 in
theorem frow_of {H : Type} {enc : TypeId × Value → H} {w : World} {fuel : Nat} {a : Option Addr} {len cap : Nat} {x : DataW H × List MemPlace} (h : DataW.trod enc Tryd.prog w 0 (fun _ => true) true fuel 43 [.slice a len cap] = some x) :
    (∃ f, FRow w a len f) ∧ len ≤ cap ∧ cap ≤ maxLen := by
  have h3 : Tryd.prog.cellsOf 32 = 35 := by kernel_rfl
  rcases Deep.open_slice Tryd.underlying43 h with ⟨hcs, _⟩ | ⟨p, l, c, m, n, D, Pl, hcs, _, hl, hm, hmm, _, hi⟩
  · simp only [List.cons.injEq, Value.slice.injEq, and_true] at hcs
    obtain ⟨rfl, rfl, rfl⟩ := hcs
    exact ⟨⟨fun _ => zeroF, .inl rfl⟩, Nat.le_refl _, Nat.zero_le _⟩
  · simp only [List.cons.injEq, Value.slice.injEq, and_true] at hcs
    obtain ⟨rfl, rfl, rfl⟩ := hcs
    rw [if_pos rfl] at hmm
    subst hmm
    rw [h3] at hi
    by_cases h0 : len = 0
    · exact ⟨⟨fun _ => zeroF, .inl h0⟩, hl, hm⟩
    have each : ∀ i, i < len → ∃ f : Fc, (∀ j v, f.list[j]? = some v → w.cell? ((p.add (i * 35)).add j) = some v) ∧ f.Ok := by
      intro i hil
      obtain ⟨cs', hc, ht⟩ := hi i (by omega)
      obtain ⟨_, hcl, hat⟩ := World.cells?_some hc
      obtain ⟨f, rfl, hq⟩ := fcl_one ht
      refine ⟨f, fun j v hv => ?_, hq⟩
      have hj : j < 35 := by have := (List.getElem?_eq_some_iff.1 hv).1; rwa [fl_len hq] at this
      rw [hat j hj]
      exact hv
    obtain ⟨f, hf⟩ := Deep.choose_lt each
    obtain ⟨b, off, rfl⟩ := plain_at (by have := (hf 0 (by omega)).1 0 _ rfl; rw [Deep.add_add] at this; exact this)
    refine ⟨⟨f, .inr ⟨b, off, rfl, ?_, fun i hil => ⟨fun j v hv => ?_, (hf i hil).2⟩⟩⟩, hl, hm⟩
    · have := (hf 0 (by omega)).1 0 _ rfl
      rw [Deep.add_add, add_plain] at this
      exact World.block_lt_of_cell? _ _ this
    · have := (hf i hil).1 j v hv
      rw [Deep.add_add, add_plain, ← Nat.add_assoc] at this
      exact this
end Go.Proofs.YtcokpdhhpaahgaaDoor
