/-
  The law's own example answers true; conditions: none.
-/
import Derived.Test.YtclephjnokbaoaaRers
namespace Go.Proofs.Ytclephjnokbaoaa
open Go.RowKit
set_option linter.unusedVariables false
set_option linter.unusedSimpArgs false

theorem Fl.away {w : World} {T g m k : Nat} {S : Fs} (hf : Fl w T g m k S) {b off : Nat} (hb : w.heap.size ≤ b) : Away g m k (some ⟨b, off, none⟩) := fun x hx e => by
  cases hx
  have := hf.in _ e
  simp only [] at this
  omega
theorem Fl.lit {w : World} {T g m k : Nat} {S : Fs} (hf : Fl w T g m k S) (o : Obj) : Fl (w.alloc o) T g m k S := hf.kept ((Below.refl _ w).alloc (Nat.le_refl _) o)
/-- What a call on a flash of the law's own leaves, seen from the law's start. -/
theorem below_to {w w1 w2 : World} {g m k : Nat} (h : Below w.heap.size w w1) (hg : w.heap.size ≤ g) (hm : w.heap.size ≤ m) (hk : w.heap.size ≤ k) (o : Only (In3 g m k) w1 w2) : Below w.heap.size w w2 :=
  h.trans (o.to_below h.size (by rintro b (rfl | rfl | rfl) <;> assumption))
theorem below_lit {w w1 : World} (h : Below w.heap.size w w1) (o : Obj) : Below w.heap.size w (w1.alloc o) := h.alloc h.size o
theorem sect3 : sect 3 = 3 := rfl
theorem first5 : (prog (fresh 3) 0 [5]).1 = 0 ∧ (prog (fresh 3) 0 [5]).2.ops = 1 ∧ (prog (prog (fresh 3) 0 [5]).2 0 [6]).1 = 3 ∧ (prog (prog (fresh 3) 0 [5]).2 0 [6]).2.wear.length = 3 ∧ (read (prog (prog (fresh 3) 0 [5]).2 0 [6]).2 0 1).length = 1 := by decide +kernel
theorem i64_small {a : Int} (h : -1000000 ≤ a ∧ a ≤ 1000000) : I64 a := ⟨by omega, by omega⟩
theorem byt_one {x : Int} (h : 0 ≤ x ∧ x ≤ 255) : Byt [x] := byt_same 1 x h
end Go.Proofs.Ytclephjnokbaoaa
