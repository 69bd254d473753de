/-
  Plain lists, no program: the runes of a row of bytes, which runes may be in a name, what is left of a text; conditions: none.
-/
import Derived.Lib.MapLaws
import Derived.Laws.Cover4
namespace Go.Proofs.Ytljkngalnoepmaa.Nam
open Go.Lib

/-- The runes of a row of bytes, at most n of them. -/
def rsN : Nat → List UInt8 → List Int
  | 0, _ => []
  | n + 1, l => if l = [] then [] else ((decodeL l).1 : Int) :: rsN n (l.drop (decodeL l).2)
def rs (l : List UInt8) : List Int := rsN l.length l

theorem rsN_nil : ∀ n, rsN n [] = []
  | 0 => rfl
  | _ + 1 => by simp [rsN]
theorem rsN_fuel : ∀ (n m : Nat) (l : List UInt8), l.length ≤ n → l.length ≤ m → rsN n l = rsN m l
  | 0, m, l, hn, _ => by
    have : l = [] := List.eq_nil_of_length_eq_zero (by omega)
    subst this
    rw [rsN_nil, rsN_nil]
  | n + 1, 0, l, _, hm => by
    have : l = [] := List.eq_nil_of_length_eq_zero (by omega)
    subst this
    rw [rsN_nil, rsN_nil]
  | n + 1, m + 1, l, hn, hm => by
    by_cases hne : l = []
    · subst hne
      rw [rsN_nil, rsN_nil]
    · have hw := decodeL_width l
      have hl : 0 < l.length := List.length_pos_iff.2 hne
      simp only [rsN, if_neg hne]
      rw [rsN_fuel n m _ (by rw [List.length_drop]; omega) (by rw [List.length_drop]; omega)]
theorem rs_nil : rs [] = [] := rfl
theorem rs_step (l : List UInt8) (hne : l ≠ []) : rs l = ((decodeL l).1 : Int) :: rs (l.drop (decodeL l).2) := by
  have hw := decodeL_width l
  have hl : 0 < l.length := List.length_pos_iff.2 hne
  unfold rs
  obtain ⟨n, hn⟩ : ∃ n, l.length = n + 1 := ⟨l.length - 1, by omega⟩
  rw [hn]
  simp only [rsN, if_neg hne]
  rw [rsN_fuel n _ _ (by rw [List.length_drop]; omega) (Nat.le_refl _)]

/-- The runes from place pos of a string on. -/
def rest (s : ByteArray) (pos : Nat) : List Int := rs (s.data.toList.drop pos)
def all (s : ByteArray) : List Int := rs s.data.toList
theorem size_list (s : ByteArray) : s.data.toList.length = s.size := (size_eq s).symm
theorem rest_zero (s : ByteArray) : rest s 0 = all s := rfl
theorem rest_step (s : ByteArray) (pos : Nat) (h : pos < s.size) : rest s pos = ((Utf8.decode s pos).1 : Int) :: rest s (pos + (Utf8.decode s pos).2) := by
  have hne : s.data.toList.drop pos ≠ [] := by
    intro h0
    have := congrArg List.length h0
    rw [List.length_drop, size_list] at this
    simp at this
    omega
  unfold rest
  rw [rs_step _ hne, decodeL_drop, List.drop_drop]
theorem rest_end (s : ByteArray) (pos : Nat) (h : ¬ pos < s.size) : rest s pos = [] := by
  unfold rest
  rw [List.drop_eq_nil_of_le (by rw [size_list]; omega), rs_nil]
theorem width_in (s : ByteArray) (pos : Nat) (h : pos < s.size) : 1 ≤ (Utf8.decode s pos).2 ∧ pos + (Utf8.decode s pos).2 ≤ s.size := by
  have hne : s.data.toList.drop pos ≠ [] := by
    intro h0
    have := congrArg List.length h0
    rw [List.length_drop, size_list] at this
    simp at this
    omega
  have h1 := decodeL_le _ hne
  have h2 := decodeL_width (s.data.toList.drop pos)
  rw [decodeL_drop] at h1 h2
  rw [List.length_drop, size_list] at h1
  omega
theorem rs_len : ∀ (n : Nat) (l : List UInt8), l.length ≤ n → (rs l).length ≤ l.length
  | 0, l, h => by
    have : l = [] := List.eq_nil_of_length_eq_zero (by omega)
    subst this
    simp [rs_nil]
  | n + 1, l, h => by
    by_cases hne : l = []
    · subst hne; simp [rs_nil]
    · have hw := decodeL_width l
      have hl : 0 < l.length := List.length_pos_iff.2 hne
      rw [rs_step l hne, List.length_cons]
      have := rs_len n (l.drop (decodeL l).2) (by rw [List.length_drop]; omega)
      rw [List.length_drop] at this
      omega

/-- May a rune be in a name? -/
def goodB (r : Int) : Bool := decide ((97 ≤ r ∧ r ≤ 122) ∨ (48 ≤ r ∧ r ≤ 57) ∨ (945 ≤ r ∧ r ≤ 969))
def lowI (r : Int) : Int := if (65 ≤ r ∧ r ≤ 90) ∨ (913 ≤ r ∧ r ≤ 937 ∧ r ≠ 930) then r + 32 else r
def validL (l : List Int) : Bool := decide (1 ≤ l.length) && decide (l.length ≤ 8) && l.all goodB
def keep (l : List Int) : List Int := (l.map lowI).filter goodB
def cleanL (l : List Int) : List Int := (keep l).take 8
def cleanS (s : ByteArray) : ByteArray := runesBytes (cleanL (all s))

theorem keep_snoc (l : List Int) (r : Int) : keep (l ++ [r]) = keep l ++ if goodB (lowI r) = true then [lowI r] else [] := by
  unfold keep
  simp [List.filter_cons]
theorem cleanL_full (l m : List Int) (h : 8 ≤ (keep l).length) : cleanL (l ++ m) = (keep l).take 8 := by
  unfold cleanL keep
  rw [List.map_append, List.filter_append]
  exact List.take_append_of_le_length h
theorem cleanL_all (l : List Int) (h : (keep l).length ≤ 8) : cleanL l = keep l := List.take_of_length_le h
end Go.Proofs.Ytljkngalnoepmaa.Nam
