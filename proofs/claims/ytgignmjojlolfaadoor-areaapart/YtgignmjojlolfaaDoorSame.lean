/-
  Plain facts: what is done in the first sectors of a flash turns nothing of the others; conditions: as each states.
-/
import Derived.Test.YtgignmjojlolfaaDoorDig
namespace Go.Proofs.YtgignmjojlolfaaDoor
set_option linter.unusedVariables false
set_option linter.unusedSimpArgs false

/-- The two are the same from sector l on. -/
structure SameFrom (l : Nat) (S R : Fs) : Prop where
  ml : S.mem.length = R.mem.length
  wl : S.wear.length = R.wear.length
  mem : ∀ j, 320 * l ≤ j → S.mem.getD j 0 = R.mem.getD j 0
  wear : ∀ q, l ≤ q → S.wear.getD q 0 = R.wear.getD q 0
theorem SameFrom.refl (l : Nat) (S : Fs) : SameFrom l S S := ⟨rfl, rfl, fun _ _ => rfl, fun _ _ => rfl⟩
theorem SameFrom.trans {l : Nat} {S R Q : Fs} (h : SameFrom l S R) (k : SameFrom l R Q) : SameFrom l S Q :=
  ⟨h.ml.trans k.ml, h.wl.trans k.wl, fun j hj => (h.mem j hj).trans (k.mem j hj), fun q hq => (h.wear q hq).trans (k.wear q hq)⟩
theorem put_same {mem b m : List Int} {a l : Nat} (h : a + b.length ≤ 320 * l) (j : Nat) (hj : 320 * l ≤ j) : mem.getD j 0 = (put mem a b m).getD j 0 := by
  by_cases hl : j < mem.length
  · rw [put_at _ _ _ _ _ hl, if_neg (by omega)]
  · rw [List.getD_eq_getElem?_getD, List.getD_eq_getElem?_getD, List.getElem?_eq_none (by omega), List.getElem?_eq_none (by rw [put_len]; omega)]
theorem work_same {S : Fs} {a l : Nat} {b : List Int} (h : a + b.length ≤ 320 * l) : SameFrom l S (work S a b).2 := by
  have hw := work_wear S a b
  refine ⟨?_, by rw [hw.1], ?_, fun q _ => by rw [hw.1]⟩
  · unfold work
    split <;> exact (put_len ..).symm
  · intro j hj
    unfold work
    split <;> exact put_same h j hj
theorem prog_same {S : Fs} {a : Int} {l : Nat} {b : List Int} (h : a + b.length ≤ (320 * l : Nat)) : SameFrom l S (prog S a b).2 := by
  unfold prog
  split
  · exact SameFrom.refl _ _
  · split
    · exact SameFrom.refl _ _
    · split
      · exact SameFrom.refl _ _
      · rename_i h1 h2 _
        simp only [Decidable.not_not] at h2
        exact work_same (by have := h2.1; omega)
theorem worn_same {S : Fs} {s l : Nat} (h : s < l) : SameFrom l S (worn S s) := by
  refine ⟨rfl, by simp [worn], fun _ _ => rfl, fun q hq => ?_⟩
  show S.wear.getD q 0 = (S.wear.set s _).getD q 0
  rw [List.getD_eq_getElem?_getD, List.getD_eq_getElem?_getD, List.getElem?_set_ne (by omega)]
theorem erase_same {S : Fs} {s : Int} {l : Nat} (h : s < (l : Int)) : SameFrom l S (erase S s).2 := by
  unfold erase
  split
  · exact SameFrom.refl _ _
  · split
    · exact SameFrom.refl _ _
    · rename_i h2
      simp only [Decidable.not_not] at h2
      have := h2.1
      exact (worn_same (by omega)).trans (work_same (by rw [ffs_len]; omega))
theorem aProg_same {S : Fs} {P : Pt} {l : Nat} (h : P.fst + P.cnt ≤ l) (s a : Int) (b : List Int) : SameFrom l S (aProg S P s a b).2 := by
  unfold aProg
  split
  · rename_i hi
    obtain ⟨⟨h1, h2⟩, h3, h4, h5⟩ := hi
    exact prog_same (by unfold Pt.place; omega)
  · exact SameFrom.refl _ _
theorem aErase_same {S : Fs} {P : Pt} {l : Nat} (h : P.fst + P.cnt ≤ l) (s : Int) : SameFrom l S (aErase S P s).2 := by
  unfold aErase
  split
  · rename_i hi
    split
    · exact SameFrom.refl _ _
    · exact erase_same (by have := hi.2; omega)
  · exact SameFrom.refl _ _
theorem dig_same {l : Nat} {S R : Fs} (h : SameFrom l S R) {P : Pt} (hp : l ≤ P.fst) : aDig S P = aDig R P := by
  have hw : ∀ s : Nat, wearAt S ((P.fst : Int) + (s : Int)) = wearAt R ((P.fst : Int) + (s : Int)) := fun s => by
    have ht : there S ((P.fst : Int) + (s : Int)) ↔ there R ((P.fst : Int) + (s : Int)) := by unfold there; rw [h.wl]
    unfold wearAt
    by_cases h2 : there S ((P.fst : Int) + (s : Int))
    · rw [if_pos h2, if_pos (ht.1 h2), show ((P.fst : Int) + (s : Int)).toNat = P.fst + s by omega, h.wear (P.fst + s) (by omega)]
    · rw [if_neg h2, if_neg (fun x => h2 (ht.2 x))]
  have e : ∀ k, dWear S P k = dWear R P k := fun k => by
    induction k with
    | zero => rfl
    | succ k ih => rw [dWear, dWear, ih, hw]
  have d : S.mem.drop (P.fst * 320) = R.mem.drop (P.fst * 320) := by
    refine list_eq (by rw [List.length_drop, List.length_drop, h.ml]) fun j hj => ?_
    rw [getD_drop, getD_drop]
    exact h.mem _ (by omega)
  unfold aDig dRow dSec
  rw [e, d]
end Go.Proofs.YtgignmjojlolfaaDoor
