/-
  The items that came in; conditions: as each states.
-/
import Derived.Test.YtjocpfkobojchaaFc
import Derived.Test.YtjocpfkobojchaaRx
import Derived.Deep.Slices
import Derived.Deep.Fields
import Derived.ChangeOld
import Derived.OpenShut
import Derived.ProofKit
import Derived.ShutString
namespace Go.Proofs.Ytjocpfkobojchaa
open Go.ChangeShapes Go.WideShapes Go.ChangeAt Go.RowKit
set_option linter.unusedVariables false
set_option linter.unusedSimpArgs false

def I64 (a : Int) : Prop := -9223372036854775808 ≤ a ∧ a ≤ 9223372036854775807
/-- An item as the law was handed it: four cells from o on, its row. -/
structure ItemAt (w : World) (b o : Nat) (raw : Bool) (n s : Int) (A : Option Addr) (L C : Nat) (bs : List Int) : Prop where
  c0 : w.cell? ⟨b, o, none⟩ = some (.bool raw)
  c1 : w.cell? ⟨b, o + 1, none⟩ = some (.int .i64 n)
  c2 : w.cell? ⟨b, o + 2, none⟩ = some (.int .i64 s)
  c3 : w.cell? ⟨b, o + 3, none⟩ = some (.slice A L C)
  i1 : I64 n
  i2 : I64 s
  rb : Row w A L bs
  lb : L ≤ C
theorem ItemAt.kept {w w' : World} {b o : Nat} {raw : Bool} {n s : Int} {A : Option Addr} {L C : Nat} {bs : List Int} (h : ItemAt w b o raw n s A L C bs) (hb : Below w.heap.size w w') : ItemAt w' b o raw n s A L C bs := by
  have hlt : b < w.heap.size := World.block_lt_of_cell? _ _ h.c0
  exact ⟨(hb.cell (p := ⟨b, o, none⟩) hlt).trans h.c0, (hb.cell (p := ⟨b, o + 1, none⟩) hlt).trans h.c1, (hb.cell (p := ⟨b, o + 2, none⟩) hlt).trans h.c2, (hb.cell (p := ⟨b, o + 3, none⟩) hlt).trans h.c3, h.i1, h.i2, row_below hb h.rb, h.lb⟩
/-- All of them. -/
def Items (w : World) (a : Option Addr) (len : Nat) : Prop := len = 0 ∨ ∃ b off, a = some ⟨b, off, none⟩ ∧ ∀ i, i < len → ∃ raw n s A L C bs, ItemAt w b (off + i * 4) raw n s A L C bs
theorem Items.kept {w w' : World} {a : Option Addr} {len : Nat} (h : Items w a len) (hb : Below w.heap.size w w') : Items w' a len := by
  rcases h with h | ⟨b, off, ha, h⟩
  · exact .inl h
  · refine .inr ⟨b, off, ha, fun i hi => ?_⟩
    obtain ⟨raw, n, s, A, L, C, bs, hi⟩ := h i hi
    exact ⟨raw, n, s, A, L, C, bs, hi.kept hb⟩
theorem plain_at {w : World} {a : Addr} {v : Value} (h : w.cell? (a.add 0) = some v) : ∃ b off, a = ⟨b, off, none⟩ := by
  obtain ⟨b, off, spot⟩ := a
  have hspot : spot = none := by simpa [Addr.add] using World.cell?_spot h
  subst hspot
  exact ⟨b, off, rfl⟩
/-- A number that came in. -/
theorem num_of {H : Type} {enc : TypeId × Value → H} {w : World} {n : Nat} {v : Value} {y : DataW H × List MemPlace} (h : DataW.trod enc Try.prog w 0 (fun _ => true) true n 3 [v] = some y) : ∃ i, v = .int .i64 i ∧ I64 i := by
  obtain ⟨i, e, _, hw⟩ := DataW.trod_int Try.underlying3 h
  simp only [List.cons.injEq, and_true] at e
  have := bounds_i64 hw
  exact ⟨i, e, by omega, by omega⟩
theorem bool_of {H : Type} {enc : TypeId × Value → H} {w : World} {n : Nat} {v : Value} {y : DataW H × List MemPlace} (h : DataW.trod enc Try.prog w 0 (fun _ => true) true n 4 [v] = some y) : ∃ b, v = .bool b := by
  obtain ⟨b, e, _⟩ := DataW.trod_bool Try.underlying4 h
  simp only [List.cons.injEq, and_true] at e
  exact ⟨b, e⟩
/-- A row that came in. -/
theorem bytes_of {H : Type} {enc : TypeId × Value → H} {w : World} {n : Nat} {v : Value} {y : DataW H × List MemPlace} (h : DataW.trod enc Try.prog w 0 (fun _ => true) true n 29 [v] = some y) : ∃ A L C zs, v = .slice A L C ∧ Row w A L zs ∧ L ≤ C := by
  rcases open_ints Try.underlying29 Try.underlying5 (by kernel_rfl) h with ⟨hcs, _⟩ | ⟨x, l, c, zs, hcs, _, hl, hm, hz, _, hcell, hwz⟩
  · simp only [List.cons.injEq, and_true] at hcs
    exact ⟨none, 0, 0, [], hcs, row_nil w, Nat.le_refl _⟩
  · simp only [List.cons.injEq, and_true] at hcs
    exact ⟨some x, l, c, zs.take l, hcs, row_of (cap := c) (.inr ⟨x, rfl, hl, hm, by simpa using hz, hcell, hwz⟩), hl⟩
set_option maxRecDepth 100000 in
/-- The items that came in. -/
theorem items_of {H : Type} {enc : TypeId × Value → H} {w : World} {fuel : Nat} {a : Option Addr} {len cap : Nat} {x : DataW H × List MemPlace} (h : DataW.trod enc Try.prog w 0 (fun _ => true) true fuel 22 [.slice a len cap] = some x) : Items w a len := by
  have h5 : Try.prog.cellsOf 33 = 4 := by kernel_rfl
  have e3 : Try.prog.cellsOf 3 = 1 := by kernel_rfl
  have e4 : Try.prog.cellsOf 4 = 1 := by kernel_rfl
  have e29 : Try.prog.cellsOf 29 = 1 := by kernel_rfl
  by_cases h0 : len = 0
  · exact .inl h0
  rcases Deep.open_slice Try.underlying22 h with ⟨hcs, _⟩ | ⟨p, l, c, m, n, D, Pl, hcs, _, hl, hm, hmm, _, hi⟩
  · simp only [List.cons.injEq, Value.slice.injEq, and_true] at hcs
    exact absurd hcs.2.1 h0
  · simp only [List.cons.injEq, Value.slice.injEq, and_true] at hcs
    obtain ⟨rfl, rfl, rfl⟩ := hcs
    rw [if_pos rfl] at hmm
    subst hmm
    rw [h5] at hi
    have each : ∀ i, i < len → ∃ v0 v1 v2 v3, (∀ j, j < 4 → w.cell? ((p.add (i * 4)).add j) = [v0, v1, v2, v3][j]?) ∧ (∃ t, v0 = .bool t) ∧ (∃ k, v1 = .int .i64 k ∧ I64 k) ∧ (∃ k, v2 = .int .i64 k ∧ I64 k) ∧ (∃ A L C zs, v3 = .slice A L C ∧ Row w A L zs ∧ L ≤ C) := by
      intro i hil
      obtain ⟨cs', hc, ht⟩ := hi i (by omega)
      obtain ⟨_, hcl, hat⟩ := World.cells?_some hc
      obtain ⟨xs, n', _, _, _, hxl, hf⟩ := DataW.trod_struct Try.underlying33 ht
      match cs', hcl, xs, hxl with
      | [v0, v1, v2, v3], _, [y0, y1, y2, y3], _ =>
        have f0 : DataW.trod enc Try.prog w 0 (fun _ => true) true n' 4 (List.take (Try.prog.cellsOf 4) [v0, v1, v2, v3]) = some y0 := hf 0 _ rfl
        have f1 : DataW.trod enc Try.prog w 0 (fun _ => true) true n' 3 (List.take (Try.prog.cellsOf 3) [v1, v2, v3]) = some y1 := hf 1 _ rfl
        have f2 : DataW.trod enc Try.prog w 0 (fun _ => true) true n' 3 (List.take (Try.prog.cellsOf 3) [v2, v3]) = some y2 := hf 2 _ rfl
        have f3 : DataW.trod enc Try.prog w 0 (fun _ => true) true n' 29 (List.take (Try.prog.cellsOf 29) [v3]) = some y3 := hf 3 _ rfl
        rw [e4] at f0
        rw [e3] at f1 f2
        rw [e29] at f3
        exact ⟨v0, v1, v2, v3, hat, bool_of (y := y0) f0, num_of (y := y1) f1, num_of (y := y2) f2, bytes_of (y := y3) f3⟩
    obtain ⟨v0, v1, v2, v3, hat0, _⟩ := each 0 (by omega)
    have hc0 := hat0 0 (by omega)
    rw [Deep.add_add] at hc0
    obtain ⟨b, off, rfl⟩ := plain_at (v := v0) hc0
    refine .inr ⟨b, off, rfl, fun i hil => ?_⟩
    obtain ⟨v0, v1, v2, v3, hat, ⟨t, rfl⟩, ⟨k1, rfl, i1⟩, ⟨k2, rfl, i2⟩, ⟨A, L, C, zs, rfl, r1, l1⟩⟩ := each i hil
    have c0 := hat 0 (by omega)
    have c1 := hat 1 (by omega)
    have c2 := hat 2 (by omega)
    have c3 := hat 3 (by omega)
    rw [Deep.add_add, addr_add] at c0 c1 c2 c3
    exact ⟨t, k1, k2, A, L, C, zs, c0, c1, c2, c3, i1, i2, r1, l1⟩
end Go.Proofs.Ytjocpfkobojchaa
