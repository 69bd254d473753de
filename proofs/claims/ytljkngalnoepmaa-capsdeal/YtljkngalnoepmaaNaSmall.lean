/-
  The small calls: which runes may be in a name, which great ones are made small; how many runes a text has; conditions: the text's length is an int.
-/
import Derived.Test.YtljkngalnoepmaaRows
import Derived.Test.YtljkngalnoepmaaNaPlain
import Derived.WalkKit
import Derived.WalkSmall
import Derived.Lib.Hide
namespace Go.Proofs.Ytljkngalnoepmaa.Nam
open Go.RowKit

theorem good_of {r : Int} (h : (97 ≤ r ∧ r ≤ 122) ∨ (48 ≤ r ∧ r ≤ 57) ∨ (945 ≤ r ∧ r ≤ 969)) : goodB r = true := by simp [goodB]; omega
theorem bad_of {r : Int} (h : ¬ ((97 ≤ r ∧ r ≤ 122) ∨ (48 ≤ r ∧ r ≤ 57) ∨ (945 ≤ r ∧ r ≤ 969))) : goodB r = false := by simp [goodB]; omega

theorem parts (r : Int) :
    (r < 48 ∧ decide (r ≤ 57) = true ∧ decide (r ≤ 122) = true ∧ decide (r ≤ 969) = true) ∨ ((48 ≤ r ∧ r ≤ 57) ∧ decide (r ≤ 57) = true ∧ decide (r ≤ 122) = true ∧ decide (r ≤ 969) = true) ∨
    ((57 < r ∧ r < 97) ∧ decide (r ≤ 57) = false ∧ decide (r ≤ 122) = true ∧ decide (r ≤ 969) = true) ∨ ((97 ≤ r ∧ r ≤ 122) ∧ decide (r ≤ 57) = false ∧ decide (r ≤ 122) = true ∧ decide (r ≤ 969) = true) ∨
    ((122 < r ∧ r < 945) ∧ decide (r ≤ 57) = false ∧ decide (r ≤ 122) = false ∧ decide (r ≤ 969) = true) ∨ ((945 ≤ r ∧ r ≤ 969) ∧ decide (r ≤ 57) = false ∧ decide (r ≤ 122) = false ∧ decide (r ≤ 969) = true) ∨
    (969 < r ∧ decide (r ≤ 57) = false ∧ decide (r ≤ 122) = false ∧ decide (r ≤ 969) = false) := by
  simp only [decide_eq_true_eq, decide_eq_false_iff_not]; omega

theorem allowed_any (r : Int) (w : World) : Calls Try.prog 25 #[.int .i32 r] w fun e w' => e = .returned (.bool (goodB r)) ∧ w = w' := by
  rcases parts r with ⟨h, h1, h2, h3⟩ | ⟨⟨h, h'⟩, h1, h2, h3⟩ | ⟨⟨h, h'⟩, h1, h2, h3⟩ | ⟨⟨h, h'⟩, h1, h2, h3⟩ | ⟨⟨h, h'⟩, h1, h2, h3⟩ | ⟨⟨h, h'⟩, h1, h2, h3⟩ | ⟨h, h1, h2, h3⟩
  all_goals
    first | rw [good_of (r := r) (by omega)] | rw [bad_of (r := r) (by omega)]
    go_enter Try.func25, Try.ntmps25
    go_wp2
    go_ret
    exact ⟨rfl, rfl⟩

theorem good_any (r : Int) (w : World) : Calls Try.prog 26 #[.int .i32 r] w fun e w' => e = .returned (.bool (goodB r)) ∧ w = w' := by
  rcases parts r with ⟨h, h1, h2, h3⟩ | ⟨⟨h, h'⟩, h1, h2, h3⟩ | ⟨⟨h, h'⟩, h1, h2, h3⟩ | ⟨⟨h, h'⟩, h1, h2, h3⟩ | ⟨⟨h, h'⟩, h1, h2, h3⟩ | ⟨⟨h, h'⟩, h1, h2, h3⟩ | ⟨h, h1, h2, h3⟩
  all_goals
    first | rw [good_of (r := r) (by omega)] | rw [bad_of (r := r) (by omega)]
    go_enter Try.func26, Try.ntmps26
    go_wp2
    go_ret
    exact ⟨rfl, rfl⟩

theorem low_of {r : Int} (h : (65 ≤ r ∧ r ≤ 90) ∨ (913 ≤ r ∧ r ≤ 937 ∧ r ≠ 930)) : lowI r = r + 32 := by simp [lowI, h]
theorem high_of {r : Int} (h : ¬ ((65 ≤ r ∧ r ≤ 90) ∨ (913 ≤ r ∧ r ≤ 937 ∧ r ≠ 930))) : lowI r = r := by simp [lowI, h]
theorem lparts (r : Int) :
    (r < 65 ∧ decide (r ≤ 90) = true ∧ decide (r ≤ 937) = true ∧ (r != 930) = true) ∨ ((65 ≤ r ∧ r ≤ 90) ∧ decide (r ≤ 90) = true ∧ decide (r ≤ 937) = true ∧ (r != 930) = true) ∨
    ((90 < r ∧ r < 913) ∧ decide (r ≤ 90) = false ∧ decide (r ≤ 937) = true ∧ (r != 930) = true) ∨ ((913 ≤ r ∧ r < 930) ∧ decide (r ≤ 90) = false ∧ decide (r ≤ 937) = true ∧ (r != 930) = true) ∨
    (r = 930 ∧ decide (r ≤ 90) = false ∧ decide (r ≤ 937) = true ∧ (r != 930) = false) ∨ ((930 < r ∧ r ≤ 937) ∧ decide (r ≤ 90) = false ∧ decide (r ≤ 937) = true ∧ (r != 930) = true) ∨
    (937 < r ∧ decide (r ≤ 90) = false ∧ decide (r ≤ 937) = false ∧ (r != 930) = true) := by
  simp only [decide_eq_true_eq, decide_eq_false_iff_not, bne_iff_ne, ne_eq, bne_eq_false_iff_eq]; omega

end Go.Proofs.Ytljkngalnoepmaa.Nam
