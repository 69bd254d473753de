/-
  Facts for the laws' walks: a shift, the order of texts, a drawn region under a condition that says more; conditions: as each states.
-/
import Derived.Test.YtjocpfkobojchaaLive
import Derived.Deep.RegionHeld3
namespace Go.Proofs.Ytjocpfkobojchaa
open Go.RowKit
set_option linter.unusedVariables false
set_option linter.unusedSimpArgs false

theorem wpAnyH_strong {P : Program} {md : Region.Mode} {ops : Array Oper} {Q : Exit → Act → World → Prop} {S S' : World → Prop} (hs : ∀ w, S' w → S w) :
    ∀ (fuel : Nat) (listed : Array Bool) (a : Act) (w : World), wpAnyH P md ops Q S' fuel listed a w → wpAnyH P md ops Q S fuel listed a w
  | 0, _, _, _, h => h
  | fuel + 1, _, _, _, h => ⟨h.1, fun i hi => wpOp_mono (fun a' w' h' => ⟨hs w' h'.1, wpAnyH_strong hs fuel _ a' w' h'.2⟩) (h.2 i hi)⟩
theorem shl_one (k : Nat) (h : k ≤ 7) : wrap64 ((2 : Int) ^ (8 * k)) = 256 ^ k := by
  rw [pow_bits]
  unfold wrap64
  match k, h with
  | 0, _ => rfl
  | 1, _ => rfl
  | 2, _ => rfl
  | 3, _ => rfl
  | 4, _ => rfl
  | 5, _ => rfl
  | 6, _ => rfl
  | 7, _ => rfl
/-- Of two numbers that fit, the order of their texts. -/
theorem str_less {a b : Int} {k : Nat} (ha : Fit a k) (hb : Fit b k) : Op.bytesLess (strOfNums (numL a k)).toList (strOfNums (numL b k)).toList = decide (a < b) := by
  rw [ByteArray.toList_eq, ByteArray.toList_eq, strOfNums_data, strOfNums_data, num_less, Int.emod_eq_of_lt ha.1 ha.2, Int.emod_eq_of_lt hb.1 hb.2]
end Go.Proofs.Ytjocpfkobojchaa
