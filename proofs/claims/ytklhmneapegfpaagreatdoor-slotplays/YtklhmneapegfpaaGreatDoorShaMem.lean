/-
  Words on memory: a block that is known whole, a row of bytes, what stays; conditions: as each states.
-/
import Derived.Test.YtklhmneapegfpaaGreatDoorShaMix
import Derived.Laws.Rows
import Derived.Below
import Derived.Deep.Draws
namespace Go.Proofs.YtklhmneapegfpaaGreatDoor.Sha
open Go.RowKit
set_option linter.unusedSimpArgs false

/-- Block g is just these cells, none of them frozen. -/
def Has (w : World) (g : Nat) (t : TypeId) (cs : Array Value) : Prop := w.heap[g]? = some (.cells cs t (0, 0))
theorem Has.size {w : World} {g : Nat} {t : TypeId} {cs : Array Value} (h : Has w g t cs) : g < w.heap.size := by
  unfold Has at h
  exact (Array.getElem?_eq_some_iff.1 h).1
theorem Has.at {w : World} {g : Nat} {t : TypeId} {cs : Array Value} (h : Has w g t cs) (i : Nat) : w.cell? ⟨g, i, none⟩ = cs[i]? := cell_of_row w g i cs t (0, 0) h
theorem Has.soft {w : World} {g : Nat} {t : TypeId} {cs : Array Value} (h : Has w g t cs) (i : Nat) : w.frozen? ⟨g, i, none⟩ = false := frozen_of_row w g i cs t h
theorem has_new (w : World) (t : TypeId) (cs : Array Value) : Has (w.alloc (.cells cs t)) w.heap.size t cs := heap_alloc_new w _
theorem Has.more {w : World} {g : Nat} {t : TypeId} {cs : Array Value} (h : Has w g t cs) (o : Obj) : Has (w.alloc o) g t cs := (Below.heap_alloc w o g h.size).trans h
theorem Has.put {w : World} {g : Nat} {t : TypeId} {cs : Array Value} (h : Has w g t cs) (i : Nat) (v : Value) : Has (w.setCell ⟨g, i, none⟩ v) g t (cs.setIfInBounds i v) := heap_setCell_same w g i cs t v h
theorem Has.by {w : World} {g : Nat} {t : TypeId} {cs : Array Value} (h : Has w g t cs) {a : Addr} (hne : g ≠ a.block) (v : Value) : Has (w.setCell a v) g t cs := (heap_setCell_other w a g v hne).trans h
theorem Has.below {w w' : World} {g B : Nat} {t : TypeId} {cs : Array Value} (h : Has w g t cs) (hb : Below B w w') (hg : g < B) : Has w' g t cs := (hb.block g hg).trans h
theorem Has.kept {w w' : World} {g : Nat} {t : TypeId} {cs : Array Value} (h : Has w g t cs) (hb : Below w.heap.size w w') : Has w' g t cs := h.below hb h.size

theorem row_lt {w : World} {a : Option Addr} {n : Nat} {zs : List Int} {B : Nat} {w' : World} (h : Row w a n zs) (hB : w.heap.size ≤ B) (hb : Below B w w') : Row w' a n zs := by
  obtain ⟨h1, h2, h3⟩ := h
  refine ⟨h1, h2, ?_⟩
  rcases h3 with h0 | ⟨b, off, ha, hbw, hc⟩
  · exact .inl h0
  · exact .inr ⟨b, off, ha, Nat.lt_of_lt_of_le hbw hb.size, fun j hj => (hb.cell (p := ⟨b, off + j, none⟩) (Nat.lt_of_lt_of_le hbw hB)).trans (hc j hj)⟩
theorem row_below {w w' : World} {a : Option Addr} {n : Nat} {zs : List Int} (hb : Below w.heap.size w w') (h : Row w a n zs) : Row w' a n zs := row_lt h (Nat.le_refl _) hb
/-- A row of n bytes, n above 0: its address and its cells. -/
theorem row_open {w : World} {a : Option Addr} {n : Nat} {zs : List Int} (h : Row w a n zs) (hn : 0 < n) : ∃ b off, a = some ⟨b, off, none⟩ ∧ b < w.heap.size ∧ ∀ j, j < n → w.cell? ⟨b, off + j, none⟩ = some (.int .u8 (zs.getD j 0)) := by
  rcases h.2.2 with h0 | h1
  · omega
  · exact h1
theorem row_mk {w : World} {b off n : Nat} {zs : List Int} (hl : zs.length = n) (hb : Byt zs) (hw : b < w.heap.size) (hc : ∀ j, j < n → w.cell? ⟨b, off + j, none⟩ = some (.int .u8 (zs.getD j 0))) : Row w (some ⟨b, off, none⟩) n zs := ⟨hl, hb, .inr ⟨b, off, rfl, hw, hc⟩⟩
theorem getD_drop (zs : List Int) (k j : Nat) : (zs.drop k).getD j 0 = zs.getD (k + j) 0 := by simp [List.getD_eq_getElem?_getD, List.getElem?_drop]
theorem getD_take (zs : List Int) (k j : Nat) (h : j < k) : (zs.take k).getD j 0 = zs.getD j 0 := by simp [List.getD_eq_getElem?_getD, List.getElem?_take, h]
theorem row_from {w : World} {b off n : Nat} {zs : List Int} (h : Row w (some ⟨b, off, none⟩) n zs) (k : Nat) (hk : k < n) : Row w (some ⟨b, off + k, none⟩) (n - k) (zs.drop k) := by
  obtain ⟨b', off', e, hw, hc⟩ := row_open h (by omega)
  cases e
  exact row_mk (by rw [List.length_drop, h.1]) (byt_drop h.2.1 k) hw (fun j hj => by rw [getD_drop, show off + k + j = off + (k + j) by omega]; exact hc (k + j) (by omega))
theorem row_upto {w : World} {a : Option Addr} {n : Nat} {zs : List Int} (h : Row w a n zs) (k : Nat) (hk : k ≤ n) : Row w a k (zs.take k) := by
  refine ⟨by rw [List.length_take, h.1]; omega, byt_take h.2.1 k, ?_⟩
  by_cases h0 : k = 0
  · exact .inl h0
  · obtain ⟨b, off, rfl, hw, hc⟩ := row_open h (by omega)
    exact .inr ⟨b, off, rfl, hw, fun j hj => by rw [getD_take _ _ _ hj]; exact hc j (by omega)⟩

/-- 64 words: those of l, zeros behind. -/
def wcells (l : List Int) : Array Value := ((l ++ List.replicate (64 - l.length) 0).map (Value.int .u32)).toArray
theorem wcells_size {l : List Int} (h : l.length ≤ 64) : (wcells l).size = 64 := by simp [wcells]; omega
theorem wcells_at {l : List Int} (h : l.length ≤ 64) {i : Nat} (hi : i < 64) : (wcells l)[i]? = some (.int .u32 (l.getD i 0)) := by
  simp only [wcells, List.getElem?_toArray, List.getElem?_map, List.getElem?_append, List.getD_eq_getElem?_getD]
  by_cases hl : i < l.length
  · simp [hl]
  · simp [hl, List.getElem?_replicate, show i - l.length < 64 - l.length by omega]
theorem wcells_put {l : List Int} (h : l.length < 64) (x : Int) : (wcells l).setIfInBounds l.length (.int .u32 x) = wcells (l ++ [x]) := by
  apply Array.ext_getElem?
  intro i
  rw [Array.getElem?_setIfInBounds, wcells_size (by omega)]
  by_cases hi : i < 64
  · rw [wcells_at (l := l ++ [x]) (by rw [List.length_append]; simp; omega) hi, wcells_at (l := l) (by omega) hi]
    by_cases e : l.length = i
    · subst e; simp [h]
    · simp only [e, if_false, Option.some.injEq, Value.int.injEq, true_and, List.getD_eq_getElem?_getD, List.getElem?_append]
      by_cases hl : i < l.length
      · simp [hl]
      · rw [if_neg hl, List.getElem?_eq_none (by omega), List.getElem?_eq_none (by simp; omega)]
  · rw [Array.getElem?_eq_none (xs := wcells l) (by rw [wcells_size (by omega)]; omega), Array.getElem?_eq_none (xs := wcells (l ++ [x])) (by rw [wcells_size (by rw [List.length_append]; simp; omega)]; omega)]
    simp [show ¬ l.length = i by omega]
theorem wcells_full {l : List Int} (h : l.length = 64) : wcells l = (l.map (Value.int .u32)).toArray := by simp [wcells, h]
end Go.Proofs.YtklhmneapegfpaaGreatDoor.Sha
