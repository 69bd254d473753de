/-
  Plain facts on the flash of AreaBudget; conditions: as each states.
-/
import Derived.Test.YtgignmjojlolfaaLive
namespace Go.Proofs.Ytgignmjojlolfaa
open Go.RowKit
set_option linter.unusedVariables false
set_option linter.unusedSimpArgs false

theorem and1023 (n : Int) : bits .and .i64 n 1023 = n % 1024 := by
  have h7 : (BitVec.ofInt 64 1023).toNat = 2 ^ 10 - 1 := by decide
  have key : (BitVec.ofInt 64 n &&& BitVec.ofInt 64 1023).toNat = (n % ((2 ^ 64 : Nat) : Int)).toNat % 2 ^ 10 := by
    rw [BitVec.toNat_and, BitVec.toNat_ofInt, h7, Nat.and_two_pow_sub_one_eq_mod]
  show IntKind.i64.wrap ((BitVec.ofInt 64 n &&& BitVec.ofInt 64 1023).toNat : Nat) = n % 1024
  rw [key, IntKind.wrap_i64]
  omega
/-- Three sectors, each erased as often as hs says, at most b times; d operations at most. -/
structure Bud (S : Fs) (b : Nat) (hs : List Int) (d : Nat) : Prop where
  off : S.off = false
  cut : S.cut = none
  len : S.wear.length = 4
  hl : hs.length = 3
  is : ∀ s, s < 3 → S.wear.getD (1 + s) 0 = hs.getD s 0
  lo : ∀ s, s < 3 → 0 ≤ hs.getD s 0 ∧ hs.getD s 0 ≤ (b : Int)
  few : Few S
  ops : S.ops ≤ d
theorem Bud.wear {S : Fs} {b : Nat} {hs : List Int} {d : Nat} (h : Bud S b hs d) {s : Nat} (h3 : s < 3) : wearAt S (1 + (s : Int)) = hs.getD s 0 := by
  unfold wearAt
  rw [if_pos ⟨by omega, by have := h.len; omega⟩, show (1 + (s : Int)).toNat = 1 + s by omega, h.is s h3]
theorem Bud.left {S : Fs} {b : Nat} {hs : List Int} {d : Nat} (h : Bud S b hs d) {s : Nat} (h3 : s < 3) : aLeft S ⟨1, 3, b⟩ s = (b : Int) - hs.getD s 0 := by
  unfold aLeft
  rw [if_pos ⟨by omega, by simp only []; omega⟩]
  have := h.lo s h3
  have e := h.wear h3
  simp only []
  rw [show (((1 : Nat) : Int) + (s : Int)) = 1 + (s : Int) from rfl, e]
  omega
theorem Bud.no {S : Fs} {b : Nat} {hs : List Int} {d : Nat} (h : Bud S b hs d) {s : Nat} (h3 : s < 3) (hb : ¬ hs.getD s 0 < (b : Int)) : aErase S ⟨1, 3, b⟩ s = (5, S) := by
  unfold aErase
  rw [if_pos ⟨by omega, by simp only []; omega⟩, h.left h3, if_pos (by have := h.lo s h3; omega)]
theorem Bud.yes {S : Fs} {b : Nat} {hs : List Int} {d : Nat} (h : Bud S b hs d) {s : Nat} (h3 : s < 3) (hb : hs.getD s 0 < (b : Int)) : (aErase S ⟨1, 3, b⟩ s).1 = 0 ∧ Bud (aErase S ⟨1, 3, b⟩ s).2 b (hs.set s (hs.getD s 0 + 1)) (d + 1) := by
  have e : aErase S ⟨1, 3, b⟩ s = erase S (1 + (s : Int)) := by
    unfold aErase
    rw [if_pos ⟨by omega, by simp only []; omega⟩, h.left h3, if_neg (by omega)]
    rfl
  have hl := h.len
  have hfe := few_erase h.few (1 + (s : Int))
  rw [e]
  rw [erase_ok' h.off ⟨by omega, by omega⟩, show (1 + (s : Int)).toNat = 1 + s by omega] at hfe ⊢
  have hc : (worn S (1 + s)).cut = none := h.cut
  rw [work_none hc] at hfe ⊢
  refine ⟨rfl, h.off, h.cut, by simp [worn, hl], by rw [List.length_set]; exact h.hl, ?_, ?_, hfe, by show S.ops + 1 ≤ d + 1; have := h.ops; omega⟩
  · intro q hq
    show (S.wear.set (1 + s) (S.wear.getD (1 + s) 0 + 1)).getD (1 + q) 0 = _
    rw [getD_set _ _ _ _ (by omega), getD_set _ _ _ _ (by rw [h.hl]; exact hq), h.is s h3, h.is q hq]
    by_cases hx : s = q
    · rw [if_pos (by omega), if_pos hx]
    · rw [if_neg (by omega), if_neg hx]
  · intro q hq
    rw [getD_set _ _ _ _ (by rw [h.hl]; exact hq)]
    have h1 := h.lo s h3
    have h2 := h.lo q hq
    split <;> omega
theorem bud_fresh (b : Nat) : Bud (fresh 4) b [0, 0, 0] 0 := by
  refine ⟨rfl, rfl, fresh_wear 4, rfl, ?_, ?_, few_fresh 4, Nat.le_refl _⟩
  · intro s hs
    rcases s with _ | _ | _ | s
    · rfl
    · rfl
    · rfl
    · omega
  · intro s hs
    rcases s with _ | _ | _ | s
    · exact ⟨Int.le_refl _, by show (0 : Int) ≤ b; omega⟩
    · exact ⟨Int.le_refl _, by show (0 : Int) ≤ b; omega⟩
    · exact ⟨Int.le_refl _, by show (0 : Int) ≤ b; omega⟩
    · omega
theorem made_bud {b : Nat} (h : b ≤ 1000) : Pt.made 4 1 3 (b : Int) = ⟨1, 3, b⟩ := by
  have e : (min (max (b : Int) 0) 1000).toNat = b := by omega
  unfold Pt.made
  rw [if_pos (by omega), e]
  rfl
theorem bud_ok {b : Nat} (h : b ≤ 1000) : Pt.Ok ⟨1, 3, b⟩ 4 := ⟨Nat.le_refl 4, by decide, h⟩
theorem had_at {w : World} {hb : Nat} {hs : List Int} (h : Has w hb 30 (ints hs).toArray) {s : Nat} (hl : s < hs.length) : w.cell? ⟨hb, s, none⟩ = some (.int .i64 (hs.getD s 0)) := by
  rw [h.at]
  simp [ints, List.getElem?_map, List.getD_eq_getElem?_getD, List.getElem?_eq_getElem hl]
theorem had_put {w : World} {hb : Nat} {hs : List Int} (h : Has w hb 30 (ints hs).toArray) (s : Nat) (x : Int) : Has (w.setCell ⟨hb, s, none⟩ (.int .i64 x)) hb 30 (ints (hs.set s x)).toArray := by
  have := h.put s (.int .i64 x)
  simpa [ints, List.map_set] using this
theorem Fl.onlyq {w w' : World} {T g m k : Nat} {S : Fs} {p : Nat → Prop} (h : Fl w T g m k S) (hc : S.cut = none) (o : Only p w w') (hp : ∀ b, p b → ¬ In3 g m k b) : Fl w' T g m k S := by
  obtain ⟨c, a, A, n, z, h1, h2⟩ := h
  refine ⟨c, a, A, n, z, h1.only o hp, ?_⟩
  rw [hc] at h2 ⊢
  exact h2
/-- What stands ahead of each erase. -/
def Going (w w1 : World) (T g m k x hb b len : Nat) (v : Value) (wr : World) : Prop :=
  ∃ (S : Fs) (hs : List Int) (j : Nat), v = .int .i64 (j : Int) ∧ j ≤ len ∧ Bud S b hs j ∧ Fl wr T g m k S ∧ Ar wr x g ⟨1, 3, b⟩ ∧ Has wr hb 30 (ints hs).toArray ∧ Below w1.heap.size w1 wr
end Go.Proofs.Ytgignmjojlolfaa
