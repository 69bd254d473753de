/-
  The document's example is kept; conditions: none.
-/
import Derived.Test.YtjfgnoidoeaaeaaWb
import Derived.Test.YtjfgnoidoeaaeaaRn
namespace Go.Proofs.Ytjfgnoidoeaaeaa
open Go.RowKit
set_option linter.unusedVariables false
set_option linter.unusedSimpArgs false

theorem wnew (w : World) : Wr (w.alloc (.cells #[.pointer none, .int .i64 0] 50)) w.heap.size (fun _ => False) [] := ⟨byt_nil, by simp, fun h => h, none, [], has_new _ _ _, rfl, rfl⟩
theorem plus_lt {P : Nat → Prop} {w w' : World} (h : ∀ b, P b → b < w'.heap.size) : ∀ b, Plus P w w' b → b < w'.heap.size := by
  rintro b (h1 | h1)
  · exact h b h1
  · exact h1.2
theorem WrTo.lt {p : Nat} {P : Nat → Prop} {zs : List Int} {w w' : World} (h : WrTo p P zs w w') (hP : ∀ b, P b → b < w.heap.size) : ∀ b, Plus P w w' b → b < w'.heap.size := plus_lt fun b hb => Nat.lt_of_lt_of_le (hP b hb) h.2.size
theorem cut28 : cutN 2 8 = 2 := by decide
theorem num258 : numL 258 2 = [1, 2] := by decide
theorem got12 : got ⟨[1, 2], false⟩ 2 = [1, 2] := rfl
theorem aft12 : aft ⟨[1, 2], false⟩ 2 = ⟨[], false⟩ := rfl
theorem val12 : w64 (val [1, 2]) = 258 := by decide
end Go.Proofs.Ytjfgnoidoeaaeaa
