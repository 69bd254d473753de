/-
  Bits that are set beside in a cell's bytes, one by one, by a mask that goes round; a row that is turned byte by byte; conditions: none.
-/
import Derived.Test.YtdlbdhamlmladaaAlive
namespace Go.Proofs.Ytdlbdhamlmladaa
open Go.RowKit
set_option linter.unusedVariables false
set_option linter.unusedSimpArgs false

/-- A mask that goes round. -/
def roundL (ms : List Int) (m n : Nat) : List Int := (List.range n).map fun i => ms.getD (i % m) 0
theorem round_at (ms : List Int) (m : Nat) {n i : Nat} (h : i < n) : (roundL ms m n).getD i 0 = ms.getD (i % m) 0 := by
  simp [roundL, List.getD_eq_getElem?_getD, List.getElem?_map, List.getElem?_range h]
theorem round_byt {ms : List Int} (h : Byt ms) (m n : Nat) : Byt (roundL ms m n) := by
  intro v hv
  obtain ⟨i, _, rfl⟩ := List.mem_map.1 hv
  exact byt_at h _
/-- So many bytes have the mask's bits set beside, the others are as they were. -/
def mixL (xs ms : List Int) (n j : Nat) : List Int := (List.range n).map fun i => if i < j then Go.bits .or .u8 (xs.getD i 0) (ms.getD i 0) else xs.getD i 0
theorem mix_len (xs ms : List Int) (n j : Nat) : (mixL xs ms n j).length = n := by simp [mixL]
theorem mix_get (xs ms : List Int) {n j i : Nat} (h : i < n) : (mixL xs ms n j).getD i 0 = if i < j then Go.bits .or .u8 (xs.getD i 0) (ms.getD i 0) else xs.getD i 0 := by
  simp [mixL, List.getD_eq_getElem?_getD, List.getElem?_map, List.getElem?_range h]
theorem mix_none (xs ms : List Int) {n : Nat} (h : xs.length = n) : mixL xs ms n 0 = xs := by
  refine list_eq (by rw [mix_len, h]) fun j hj => ?_
  rw [mix_len] at hj
  rw [mix_get _ _ hj, if_neg (by omega)]
theorem mix_all (xs ms : List Int) (n : Nat) : mixL xs ms n n = orL xs ms n n := by
  refine list_eq (by rw [mix_len, or_len]) fun j hj => ?_
  rw [mix_len] at hj
  rw [mix_get _ _ hj, or_get _ _ hj, if_pos hj, if_pos hj]
theorem mix_more (xs ms : List Int) {n j : Nat} : (mixL xs ms n j).set j (Go.bits .or .u8 (xs.getD j 0) (ms.getD j 0)) = mixL xs ms n (j + 1) := by
  refine list_eq (by rw [List.length_set, mix_len, mix_len]) fun i hi => ?_
  rw [List.length_set] at hi
  rw [getD_set _ _ _ _ hi]
  rw [mix_len] at hi
  rw [mix_get _ _ hi, mix_get _ _ hi]
  by_cases e : j = i
  · subst e
    rw [if_pos rfl, if_pos (by omega)]
  · rw [if_neg e]
    by_cases h2 : i < j
    · rw [if_pos h2, if_pos (by omega)]
    · rw [if_neg h2, if_neg (by omega)]
/-- A row's bytes, from the beginning of its block on. -/
def Full (w : World) (G n : Nat) (xs : List Int) : Prop := ∃ cur, Has w G 5 cur ∧ cur.toList.take n = nums xs ∧ xs.length = n
theorem Full.at {w : World} {G n : Nat} {xs : List Int} (h : Full w G n xs) {j : Nat} (hj : j < n) : w.cell? ⟨G, j, none⟩ = some (.int .u8 (xs.getD j 0)) := by
  obtain ⟨cur, h1, h2, h3⟩ := h
  rw [h1.at]
  have q1 : cur[j]? = (cur.toList.take n)[j]? := by rw [List.getElem?_take, if_pos hj]; simp
  rw [q1, h2]
  simp only [nums, List.getElem?_map, List.getD_eq_getElem?_getD]
  rw [List.getElem?_eq_getElem (by omega)]
  rfl
theorem Full.soft {w : World} {G n : Nat} {xs : List Int} (h : Full w G n xs) (j : Nat) : w.frozen? ⟨G, j, none⟩ = false := by
  obtain ⟨cur, h1, _⟩ := h
  exact h1.soft j
theorem Full.set {w : World} {G n : Nat} {xs : List Int} (h : Full w G n xs) {j : Nat} (hj : j < n) (y : Int) : Full (w.setCell ⟨G, j, none⟩ (.int .u8 y)) G n (xs.set j y) := by
  obtain ⟨cur, h1, h2, h3⟩ := h
  refine ⟨_, h1.put j (.int .u8 y), ?_, by rw [List.length_set, h3]⟩
  have hn : nums (xs.set j y) = (nums xs).set j (.int .u8 y) := by simp [nums, List.map_set]
  rw [hn, ← h2, Array.toList_setIfInBounds, List.take_set]
theorem Full.row {w : World} {G n : Nat} {xs : List Int} (h : Full w G n xs) (hb : Byt xs) : Row w (some ⟨G, 0, none⟩) n xs := by
  have hs : G < w.heap.size := by obtain ⟨cur, h1, _⟩ := h; exact h1.size
  have hl : xs.length = n := by obtain ⟨cur, _, _, h3⟩ := h; exact h3
  exact row_mk hl hb hs (fun j hj => by rw [Nat.zero_add]; exact h.at hj)
theorem full_own {w : World} {base : Nat} {v : Value} {n : Nat} {zs : List Int} (h : Own w base v n zs) (hn : 0 < n) : ∃ g cap, v = .slice (some ⟨g, 0, none⟩) n cap ∧ base ≤ g ∧ n ≤ cap ∧ Full w g n zs := by
  obtain ⟨g, cap, cur, h1, h2, h3, h4, h5, _⟩ := own_block h hn
  exact ⟨g, cap, h1, h2, h4, cur, h3, h5, h.len⟩
theorem mod_nat (j m : Nat) : (j : Int).tmod (m : Int) = ((j % m : Nat) : Int) := by rw [Int.tmod_eq_emod_of_nonneg (by omega)]; omega
end Go.Proofs.Ytdlbdhamlmladaa
