/-
  The calls that came in; what is done in one part of a flash turns nothing of another one; conditions: as each states.
-/
import Derived.Test.YtgignmjojlolfaaDoorLive
import Derived.Test.YtgignmjojlolfaaDoorDig
import Derived.Deep.Slices
import Derived.Deep.Fields
import Derived.ChangeOld
import Derived.OpenShut
namespace Go.Proofs.YtgignmjojlolfaaDoor
open Go.ChangeShapes Go.WideShapes Go.ChangeAt Go.RowKit
set_option linter.unusedVariables false
set_option linter.unusedSimpArgs false

/-- A call as the law was handed it: six cells from o on, its two rows. -/
structure ActAt (w : World) (b o : Nat) (way at' n : Int) (BA : Option Addr) (BL BC : Nat) (bs : List Int) (MA : Option Addr) (ML MC : Nat) (ms : List Int) (ot : Bool) : Prop where
  c0 : w.cell? ⟨b, o, none⟩ = some (.int .i64 way)
  c1 : w.cell? ⟨b, o + 1, none⟩ = some (.int .i64 at')
  c2 : w.cell? ⟨b, o + 2, none⟩ = some (.int .i64 n)
  c3 : w.cell? ⟨b, o + 3, none⟩ = some (.slice BA BL BC)
  c4 : w.cell? ⟨b, o + 4, none⟩ = some (.slice MA ML MC)
  c5 : w.cell? ⟨b, o + 5, none⟩ = some (.bool ot)
  i1 : I64 at'
  i2 : I64 n
  rb : Row w BA BL bs
  lb : BL ≤ BC
  rm : Row w MA ML ms
  lm : ML ≤ MC
theorem ActAt.kept {w w' : World} {b o : Nat} {way at' n : Int} {BA : Option Addr} {BL BC : Nat} {bs : List Int} {MA : Option Addr} {ML MC : Nat} {ms : List Int} {ot : Bool} (h : ActAt w b o way at' n BA BL BC bs MA ML MC ms ot) (hb : Below w.heap.size w w') : ActAt w' b o way at' n BA BL BC bs MA ML MC ms ot := by
  have hlt : b < w.heap.size := World.block_lt_of_cell? _ _ h.c0
  exact ⟨(hb.cell (p := ⟨b, o, none⟩) hlt).trans h.c0, (hb.cell (p := ⟨b, o + 1, none⟩) hlt).trans h.c1, (hb.cell (p := ⟨b, o + 2, none⟩) hlt).trans h.c2, (hb.cell (p := ⟨b, o + 3, none⟩) hlt).trans h.c3, (hb.cell (p := ⟨b, o + 4, none⟩) hlt).trans h.c4, (hb.cell (p := ⟨b, o + 5, none⟩) hlt).trans h.c5, h.i1, h.i2, row_below hb h.rb, h.lb, row_below hb h.rm, h.lm⟩
/-- All of them. -/
def Acts (w : World) (a : Option Addr) (len : Nat) : Prop := len = 0 ∨ ∃ b off, a = some ⟨b, off, none⟩ ∧ ∀ i, i < len → ∃ way at' n BA BL BC bs MA ML MC ms ot, ActAt w b (off + i * 6) way at' n BA BL BC bs MA ML MC ms ot
/-- The call's own copy. -/
def actCells (way at' q : Int) (BA : Option Addr) (BL BC : Nat) (MA : Option Addr) (ML MC : Nat) (ot : Bool) : Array Value := #[.int .i64 way, .int .i64 at', .int .i64 q, .slice BA BL BC, .slice MA ML MC, .bool ot]
theorem act_cells {w : World} {ab : Nat} {way at' q : Int} {BA : Option Addr} {BL BC : Nat} {MA : Option Addr} {ML MC : Nat} {ot : Bool} (h : Has w ab 38 (actCells way at' q BA BL BC MA ML MC ot)) :
    w.cell? ⟨ab, 0, none⟩ = some (.int .i64 way) ∧ w.cell? ⟨ab, 1, none⟩ = some (.int .i64 at') ∧ w.cell? ⟨ab, 2, none⟩ = some (.int .i64 q) ∧ w.cell? ⟨ab, 3, none⟩ = some (.slice BA BL BC) ∧ w.cell? ⟨ab, 4, none⟩ = some (.slice MA ML MC) ∧ w.cell? ⟨ab, 5, none⟩ = some (.bool ot) :=
  ⟨h.at 0, h.at 1, h.at 2, h.at 3, h.at 4, h.at 5⟩
/-- A slice that was handed in does not lie in a flash that came later. -/
theorem clear_in {w : World} {g m k : Nat} {A : Option Addr} {n : Nat} {zs : List Int} (h : Row w A n zs) (hl : ∀ b, In3 g m k b → w.heap.size ≤ b) : Clear g m k A n := by
  rcases h.2.2 with h0 | ⟨b, off, rfl, hb, _⟩
  · exact .inl h0
  · exact .inr fun x hx e => by
      cases hx
      have := hl _ e
      simp only [] at this
      omega
theorem add_plain (b off i : Nat) : (⟨b, off, none⟩ : Addr).add i = ⟨b, off + i, none⟩ := by unfold Addr.add; split <;> simp_all
theorem plain_at {w : World} {a : Addr} {v : Value} (h : w.cell? (a.add 0) = some v) : ∃ b off, a = ⟨b, off, none⟩ := by
  obtain ⟨b, off, spot⟩ := a
  have hspot : spot = none := by simpa [Addr.add] using World.cell?_spot h
  subst hspot
  exact ⟨b, off, rfl⟩
/-- A number that came in. -/
theorem num_of {H : Type} {enc : TypeId × Value → H} {w : World} {n : Nat} {v : Value} {y : DataW H × List MemPlace} (h : DataW.trod enc Tryd.prog w 0 (fun _ => true) true n 3 [v] = some y) : ∃ i, v = .int .i64 i ∧ I64 i := by
  obtain ⟨i, e, _, hw⟩ := DataW.trod_int Tryd.underlying3 h
  simp only [List.cons.injEq, and_true] at e
  have := bounds_i64 hw
  exact ⟨i, e, by omega, by omega⟩
theorem bool_of {H : Type} {enc : TypeId × Value → H} {w : World} {n : Nat} {v : Value} {y : DataW H × List MemPlace} (h : DataW.trod enc Tryd.prog w 0 (fun _ => true) true n 4 [v] = some y) : ∃ b, v = .bool b := by
  obtain ⟨b, e, _⟩ := DataW.trod_bool Tryd.underlying4 h
  simp only [List.cons.injEq, and_true] at e
  exact ⟨b, e⟩
/-- A row that came in. -/
theorem bytes_of {H : Type} {enc : TypeId × Value → H} {w : World} {n : Nat} {v : Value} {y : DataW H × List MemPlace} (h : DataW.trod enc Tryd.prog w 0 (fun _ => true) true n 36 [v] = some y) : ∃ A L C zs, v = .slice A L C ∧ Row w A L zs ∧ L ≤ C := by
  rcases open_ints Tryd.underlying36 Tryd.underlying5 (by kernel_rfl) h with ⟨hcs, _⟩ | ⟨x, l, c, zs, hcs, _, hl, hm, hz, _, hcell, hwz⟩
  · simp only [List.cons.injEq, and_true] at hcs
    exact ⟨none, 0, 0, [], hcs, row_nil w, Nat.le_refl _⟩
  · simp only [List.cons.injEq, and_true] at hcs
    exact ⟨some x, l, c, zs.take l, hcs, row_of (cap := c) (.inr ⟨x, rfl, hl, hm, by simpa using hz, hcell, hwz⟩), hl⟩
set_option maxRecDepth 100000 in
/-- The calls that came in. -/
theorem acts_of {H : Type} {enc : TypeId × Value → H} {w : World} {fuel : Nat} {a : Option Addr} {len cap : Nat} {x : DataW H × List MemPlace} (h : DataW.trod enc Tryd.prog w 0 (fun _ => true) true fuel 24 [.slice a len cap] = some x) : Acts w a len := by
  have h5 : Tryd.prog.cellsOf 38 = 6 := by kernel_rfl
  have e3 : Tryd.prog.cellsOf 3 = 1 := by kernel_rfl
  have e4 : Tryd.prog.cellsOf 4 = 1 := by kernel_rfl
  have e28 : Tryd.prog.cellsOf 36 = 1 := by kernel_rfl
  by_cases h0 : len = 0
  · exact .inl h0
  rcases Deep.open_slice Tryd.underlying24 h with ⟨hcs, _⟩ | ⟨p, l, c, m, n, D, Pl, hcs, _, hl, hm, hmm, _, hi⟩
  · simp only [List.cons.injEq, Value.slice.injEq, and_true] at hcs
    exact absurd hcs.2.1 h0
  · simp only [List.cons.injEq, Value.slice.injEq, and_true] at hcs
    obtain ⟨rfl, rfl, rfl⟩ := hcs
    rw [if_pos rfl] at hmm
    subst hmm
    rw [h5] at hi
    have each : ∀ i, i < len → ∃ v0 v1 v2 v3 v4 v5, (∀ j, j < 6 → w.cell? ((p.add (i * 6)).add j) = [v0, v1, v2, v3, v4, v5][j]?) ∧ (∃ k, v0 = .int .i64 k ∧ I64 k) ∧ (∃ k, v1 = .int .i64 k ∧ I64 k) ∧ (∃ k, v2 = .int .i64 k ∧ I64 k) ∧ (∃ A L C zs, v3 = .slice A L C ∧ Row w A L zs ∧ L ≤ C) ∧ (∃ A L C zs, v4 = .slice A L C ∧ Row w A L zs ∧ L ≤ C) ∧ ∃ t, v5 = .bool t := by
      intro i hil
      obtain ⟨cs', hc, ht⟩ := hi i (by omega)
      obtain ⟨_, hcl, hat⟩ := World.cells?_some hc
      obtain ⟨xs, n', _, _, _, hxl, hf⟩ := DataW.trod_struct Tryd.underlying38 ht
      match cs', hcl, xs, hxl with
      | [v0, v1, v2, v3, v4, v5], _, [y0, y1, y2, y3, y4, y5], _ =>
        have f0 : DataW.trod enc Tryd.prog w 0 (fun _ => true) true n' 3 (List.take (Tryd.prog.cellsOf 3) [v0, v1, v2, v3, v4, v5]) = some y0 := hf 0 _ rfl
        have f1 : DataW.trod enc Tryd.prog w 0 (fun _ => true) true n' 3 (List.take (Tryd.prog.cellsOf 3) [v1, v2, v3, v4, v5]) = some y1 := hf 1 _ rfl
        have f2 : DataW.trod enc Tryd.prog w 0 (fun _ => true) true n' 3 (List.take (Tryd.prog.cellsOf 3) [v2, v3, v4, v5]) = some y2 := hf 2 _ rfl
        have f3 : DataW.trod enc Tryd.prog w 0 (fun _ => true) true n' 36 (List.take (Tryd.prog.cellsOf 36) [v3, v4, v5]) = some y3 := hf 3 _ rfl
        have f4 : DataW.trod enc Tryd.prog w 0 (fun _ => true) true n' 36 (List.take (Tryd.prog.cellsOf 36) [v4, v5]) = some y4 := hf 4 _ rfl
        have f5 : DataW.trod enc Tryd.prog w 0 (fun _ => true) true n' 4 (List.take (Tryd.prog.cellsOf 4) [v5]) = some y5 := hf 5 _ rfl
        rw [e3] at f0 f1 f2
        rw [e28] at f3 f4
        rw [e4] at f5
        exact ⟨v0, v1, v2, v3, v4, v5, hat, num_of (y := y0) f0, num_of (y := y1) f1, num_of (y := y2) f2, bytes_of (y := y3) f3, bytes_of (y := y4) f4, bool_of (y := y5) f5⟩
    obtain ⟨v0, v1, v2, v3, v4, v5, hat0, _⟩ := each 0 (by omega)
    have hc0 := hat0 0 (by omega)
    rw [Deep.add_add] at hc0
    obtain ⟨b, off, rfl⟩ := plain_at (v := v0) hc0
    refine .inr ⟨b, off, rfl, fun i hil => ?_⟩
    obtain ⟨v0, v1, v2, v3, v4, v5, hat, ⟨k0, rfl, _⟩, ⟨k1, rfl, i1⟩, ⟨k2, rfl, i2⟩, ⟨A, L, C, zs, rfl, r1, l1⟩, ⟨A', L', C', zs', rfl, r2, l2⟩, ⟨t, rfl⟩⟩ := each i hil
    have c0 := hat 0 (by omega)
    have c1 := hat 1 (by omega)
    have c2 := hat 2 (by omega)
    have c3 := hat 3 (by omega)
    have c4 := hat 4 (by omega)
    have c5 := hat 5 (by omega)
    rw [Deep.add_add, add_plain] at c0 c1 c2 c3 c4 c5
    exact ⟨k0, k1, k2, A, L, C, zs, A', L', C', zs', t, c0, c1, c2, c3, c4, c5, i1, i2, r1, l1, r2, l2⟩
end Go.Proofs.YtgignmjojlolfaaDoor
