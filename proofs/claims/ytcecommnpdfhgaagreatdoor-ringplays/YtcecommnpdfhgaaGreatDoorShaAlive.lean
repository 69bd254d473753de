/-
  The document's own hash of bytes, and the bytes of a text; conditions: as each states.
-/
import Derived.Test.YtcecommnpdfhgaaGreatDoorShaRs
import Derived.Lib.SlBytesConst
namespace Go.Proofs.YtcecommnpdfhgaaGreatDoor.Sha
open Go.RowKit
set_option linter.unusedVariables false
set_option linter.unusedSimpArgs false

/-- A text's bytes, as the conversion of a constant lays them. -/
theorem row_text (w : World) (zs : List Int) (hb : Byt zs) (n : Nat) (hn : zs.length = n) (fr : Nat × Nat) : Row (w.alloc (.cells (nums zs).toArray 5 fr)) (some ⟨w.heap.size, 0, none⟩) n zs := by
  refine row_mk hn hb (by simp) (fun j hj => ?_)
  rw [cell_of_row _ w.heap.size (0 + j) (nums zs).toArray 5 fr (heap_alloc_new w _), Nat.zero_add]
  simp only [nums, List.getElem?_toArray, List.getElem?_map, List.getD_eq_getElem?_getD]
  rw [List.getElem?_eq_getElem (by omega)]
  rfl
end Go.Proofs.YtcecommnpdfhgaaGreatDoor.Sha
