/-
  The walk of the law UpdateChunks: an image's chunks are as long as it, each a sector, but for the last one; conditions: none.
-/
import Derived.Test.YtcokpdhhpaahgaaDoorVa
namespace Go.Proofs.YtcokpdhhpaahgaaDoor.updateChunks
open Go.RowKit
set_option linter.unusedVariables false
set_option linter.unusedSimpArgs false

/-- What was counted so far. -/
def Counted (size x : Int) (w0 : World) (va vi vn : Value) (w : World) : Prop :=
  ∃ q : Nat, va = .int .i64 (if (q : Int) < x then (q : Int) * 320 else size) ∧ vi = .int .i64 (q : Int) ∧ (q : Int) ≤ x ∧ Below w0.heap.size w0 w
set_option maxRecDepth 100000 in
set_option maxHeartbeats 4000000 in
theorem walk (size : Int) (w : World) (ws : (Lit.int .i64 size).wf = true) :
    Calls Tryd.prog 8 #[.int .i64 size] w fun e w' => e = .returned (.bool true) ∧ Below w.heap.size w w' := by
  have HLV := Lib.hid (alive_any w)
  have hs : I64 size := bounds_i64 ws
  have HC0 := fun W => chunksI_any size W hs
  have HL0 := fun (k : Int) (hk : I64 k) W => lenI_any size k W hs hk
  by_cases h1 : size < 0
  · have d1 : decide (size < 0) = true := decide_eq_true h1
    go_enter Tryd.func8, Tryd.ntmps8
    go_wp2_with (go_at_call 9; (with_reducible refine HLV.out.mono ?_); rintro e w1 ⟨rfl, b1⟩)
    go_ret
    exact ⟨rfl, b1⟩
  have d1 : decide (size < 0) = false := decide_eq_false h1
  by_cases h2 : 5000 < size
  · have d2 : decide (5000 < size) = true := decide_eq_true h2
    go_enter Tryd.func8, Tryd.ntmps8
    go_wp2_with (go_at_call 9; (with_reducible refine HLV.out.mono ?_); rintro e w1 ⟨rfl, b1⟩)
    go_ret
    exact ⟨rfl, b1⟩
  have d2 : decide (5000 < size) = false := decide_eq_false h2
  have hlen : ∀ k : Int, lenI size k = if k < 0 then 0 else if chunkI size ≤ k then 0 else if k < chunkI size - 1 then 320 else size - k * 320 := fun k => rfl
  obtain ⟨x, hx⟩ : ∃ x, chunkI size = x := ⟨_, rfl⟩
  have hlo : (size = 0 ∧ x = 0) ∨ (1 ≤ size ∧ 1 ≤ x ∧ x * 320 - 320 ≤ size - 1 ∧ size ≤ x * 320 ∧ x ≤ size) := by rw [← hx]; unfold chunkI; split <;> omega
  rw [hx] at HC0
  simp only [hx] at hlen
  have HC := Lib.hid HC0
  have HLN := Lib.hid hlen
  have HLO := Lib.hid hlo
  have HL := Lib.hid HL0
  have e1 : decide (x < 0) = false := decide_eq_false (by omega)
  have e2 : decide (size < x) = false := decide_eq_false (by omega)
  have HX : Hid (0 ≤ x ∧ x ≤ 16) := Lib.hid (by omega)
  clear hx HC0 hlen HL0 ws hs hlo
  go_enter Tryd.func8, Tryd.ntmps8
  go_wp2_with (first
    | (go_at_call 9; (with_reducible refine HLV.out.mono ?_); rintro e w1 ⟨rfl, b1⟩; have B1 := Lib.hid b1; clear b1 HLV)
    | (go_at_call 12; (with_reducible refine (HC.out _).mono ?_); rintro e wx ⟨rfl, rfl⟩; clear HC))
  go_loopw [5, 6, 7] (Counted size x w) (fun _ i _ _ => x.toNat - (intOf i).toNat)
  case atStart => exact ⟨0, by (have := HLO.out; split <;> simp <;> omega), rfl, HX.out.1, B1.out⟩
  case round =>
    obtain ⟨q, rfl, rfl, hq, hB⟩ := hrel
    have HB := Lib.hid hB
    clear hB
    have hx16 := HX.out
    have hlo := HLO.out
    by_cases hlt : (q : Int) < x
    · have i1 : decide ((q : Int) < x) = true := decide_eq_true hlt
      have hln := HLN.out (q : Int)
      rw [if_neg (by omega), if_neg (by omega)] at hln
      have HLQ0 := HL.out (q : Int) (by unfold I64; omega)
      obtain ⟨n, hn⟩ : ∃ n, lenI size (q : Int) = n := ⟨_, rfl⟩
      rw [hn] at hln HLQ0
      have HLQ := Lib.hid HLQ0
      clear HLQ0 hn
      have ea : (if (q : Int) < x then (q : Int) * 320 else size) = (q : Int) * 320 := if_pos hlt
      rw [ea]
      clear ea
      by_cases hk : (q : Int) < x - 1
      · rw [if_pos hk] at hln
        subst hln
        have i2 : decide ((q : Int) < x - 1) = true := decide_eq_true hk
        have HR := Lib.hid (show (q : Int) * 320 + 320 = if ((q + 1 : Nat) : Int) < x then ((q + 1 : Nat) : Int) * 320 else size by rw [if_pos (by omega)]; omega)
        go_wp2_with (go_at_call 14; (with_reducible refine (HLQ.out _).mono ?_); rintro e wx ⟨rfl, rfl⟩; clear HLQ)
        go_roundw
        case rel => exact ⟨q + 1, by rw [← HR.out], by simp, by omega, HB.out⟩
        case measure => simp only [intOf]; omega
      · rw [if_neg hk] at hln
        have hxq : x = (q : Int) + 1 := by omega
        have i2 : decide ((q : Int) < x - 1) = false := decide_eq_false hk
        have hn1 : 1 ≤ n ∧ n ≤ 320 := by omega
        have j1 : decide (n < 1) = false := decide_eq_false (by omega)
        have j2 : decide (320 < n) = false := decide_eq_false (by omega)
        have HR := Lib.hid (show (q : Int) * 320 + n = if ((q + 1 : Nat) : Int) < x then ((q + 1 : Nat) : Int) * 320 else size by rw [if_neg (by omega)]; omega)
        clear hln hxq
        go_wp2_with (go_at_call 14; (with_reducible refine (HLQ.out _).mono ?_); rintro e wx ⟨rfl, rfl⟩; clear HLQ)
        go_roundw
        case rel => exact ⟨q + 1, by rw [← HR.out], by simp, by omega, HB.out⟩
        case measure => simp only [intOf]; omega
    · have i1 : decide ((q : Int) < x) = false := decide_eq_false hlt
      have ea : (if (q : Int) < x then (q : Int) * 320 else size) = size := if_neg hlt
      rw [ea]
      clear ea
      have HZ : Hid (∀ W, Calls Tryd.prog 14 #[.int .i64 size, .int .i64 x] W fun e w' => e = .returned (.int .i64 0) ∧ W = w') := Lib.hid (fun W => by
        have := HL.out x (by unfold I64; omega) W
        rwa [show lenI size x = 0 from (HLN.out x).trans (by rw [if_neg (by omega), if_pos (Int.le_refl _)])] at this)
      have HM : Hid (∀ W, Calls Tryd.prog 14 #[.int .i64 size, .int .i64 (-1)] W fun e w' => e = .returned (.int .i64 0) ∧ W = w') := Lib.hid (fun W => by
        have := HL.out (-1) (by unfold I64; omega) W
        rwa [show lenI size (-1) = 0 from (HLN.out (-1)).trans (if_pos (by omega))] at this)
      go_wp2_with (first
        | (go_at_call 14; (with_reducible refine (HZ.out _).mono ?_); rintro e wx ⟨rfl, rfl⟩)
        | (go_at_call 14; (with_reducible refine (HM.out _).mono ?_); rintro e wx ⟨rfl, rfl⟩))
      go_ret
      exact ⟨rfl, HB.out⟩
end Go.Proofs.YtcokpdhhpaahgaaDoor.updateChunks
