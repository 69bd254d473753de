/-
  The calls of package ring that write: fill, Put; conditions: the area and its flash are there, the row does not lie in the flash.
-/
import Derived.Test.YtclephjnokbaoaaRgM
namespace Go.Proofs.Ytclephjnokbaoaa
open Go.RowKit
set_option linter.unusedVariables false
set_option linter.unusedSimpArgs false

theorem erase_len (S : Fs) (P : Pt) (s : Int) : (aErase S P s).2.wear.length = S.wear.length := (aErase_wears S P s).1
theorem Fl.lt {w : World} {T g m k : Nat} {S : Fs} (h : Fl w T g m k S) {b : Nat} (hb : In3 g m k b) : b < w.heap.size := by
  obtain ⟨_, _, _, _, _, a, _⟩ := h
  rcases hb with rfl | rfl | rfl
  · exact a.str.size
  · exact a.mem.size
  · exact a.wear.size
end Go.Proofs.Ytclephjnokbaoaa
