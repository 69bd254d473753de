/-
  Which name is left of a text, by the document's own answer; conditions: none.
-/
import Derived.Test.YtknmdpdlcmdaeaaClean
namespace Go.Proofs.Ytknmdpdlcmdaeaa
open Go.RowKit

theorem lcases (r : Int) :
    ((r < 65 ∧ decide (r ≤ 90) = true ∧ decide (r ≤ 937) = true ∧ (r != 930) = true) ∧ lowI r = r) ∨ (((65 ≤ r ∧ r ≤ 90) ∧ decide (r ≤ 90) = true ∧ decide (r ≤ 937) = true ∧ (r != 930) = true) ∧ lowI r = r + 32) ∨
    (((90 < r ∧ r < 913) ∧ decide (r ≤ 90) = false ∧ decide (r ≤ 937) = true ∧ (r != 930) = true) ∧ lowI r = r) ∨ (((913 ≤ r ∧ r < 930) ∧ decide (r ≤ 90) = false ∧ decide (r ≤ 937) = true ∧ (r != 930) = true) ∧ lowI r = r + 32) ∨
    (((930 ≤ r ∧ r ≤ 930) ∧ decide (r ≤ 90) = false ∧ decide (r ≤ 937) = true ∧ (r != 930) = false) ∧ lowI r = r) ∨ (((930 < r ∧ r ≤ 937) ∧ decide (r ≤ 90) = false ∧ decide (r ≤ 937) = true ∧ (r != 930) = true) ∧ lowI r = r + 32) ∨
    ((937 < r ∧ decide (r ≤ 90) = false ∧ decide (r ≤ 937) = false ∧ (r != 930) = true) ∧ lowI r = r) := by
  unfold lowI
  simp only [decide_eq_true_eq, decide_eq_false_iff_not, bne_iff_ne, ne_eq, bne_eq_false_iff_eq]
  split <;> omega

set_option maxHeartbeats 3200000 in
set_option maxRecDepth 100000 in
theorem rclean_any (s : ByteArray) (w : World) :
    Calls Try.prog 14 #[.string s] w fun e w' => e = .returned (.string (cleanS s)) ∧ Below w.heap.size w w' := by
  obtain ⟨i0, hi, hz0, hz1, hz2⟩ := info_parts Try.info21
  go_enter Try.func14, Try.ntmps14
  go_wp2
  go_loopw [3] (fun v wr => ∃ (pos : Nat) (pre : List Int) (ao : Option Addr) (n cap : Nat), v = .slice ao n cap ∧ CInv s w w.heap.size w.heap.size pos (cleanL pre) ao n cap wr ∧ Split s pos pre) (fun _ wr => s.size - wr.iterPos w.heap.size)
  case atStart => exact ⟨0, [], none, 0, 0, rfl, ⟨(World.ownsRow_nil _ _ _ _), World.iter_heap _ _ _, below_iter w s 0, rfl, Nat.le_refl _⟩, rest_zero s⟩
  case round =>
    obtain ⟨pos, pre, ao, n, cap, rfl, HC, HS⟩ := hrel
    have hn : n ≤ 8 := by rw [← HC.len]; exact cleanL_len pre
    by_cases h : pos < s.size
    · obtain ⟨w1, hnx, HC1⟩ := HC.next h
      have HM := Lib.hid (iterPos_of HC.it)
      have HM1 := Lib.hid (iterPos_of HC1.it)
      have hwd := width_in s pos h
      have HS1 := HS.step h
      have hmx := decode_le s pos
      generalize hr : ((Utf8.decode s pos).1 : Int) = r at hnx HS1
      have hr0 : 0 ≤ r := by omega
      clear hr hmx
      rcases lcases r with ⟨⟨hc, d1, d2, d3⟩, hlo⟩ | ⟨⟨⟨hc, hc'⟩, d1, d2, d3⟩, hlo⟩ | ⟨⟨⟨hc, hc'⟩, d1, d2, d3⟩, hlo⟩ | ⟨⟨⟨hc, hc'⟩, d1, d2, d3⟩, hlo⟩ | ⟨⟨⟨hc, hc'⟩, d1, d2, d3⟩, hlo⟩ | ⟨⟨⟨hc, hc'⟩, d1, d2, d3⟩, hlo⟩ | ⟨⟨hc, d1, d2, d3⟩, hlo⟩
      all_goals
        cases hg : goodB (lowI r) with
        | false =>
          have HB := Lib.hid (clean_bad pre (r := r) hg)
          rw [hlo] at hg
          clear hlo
          go_wp2_with (go_at_call 16; refine (good_any _ _).mono ?_; rintro e w' ⟨rfl, rfl⟩)
          go_roundw
          case rel => exact ⟨_, _, ao, n, cap, rfl, HC1.same HB.out, HS1⟩
          case measure =>
            rw [HM.out, HM1.out]
            omega
        | true =>
          by_cases h8 : n < 8
          · have HB := Lib.hid (clean_more pre (r := r) hg (by rw [HC1.len]; exact h8))
            rw [hlo] at hg HB
            clear hlo
            go_wp2_with (first
              | (go_at_call 16; refine (good_any _ _).mono ?_; rintro e w' ⟨rfl, rfl⟩)
              | (at_builtin; refine wpList_append_own _ rfl (.tmp 38) (.tmp 40) 26 rfl w.heap.size 21 i0 (.int .i32 0) 1 4 Try.underlying26 hi hz0 hz1 hz2 rfl (by decide) _ n _ rfl (HC1.own.alloc _) ⟨w1.heap.size, 0, none⟩ 1 1 [.int .i32 _] rfl rfl (CInv.cell1 _ _ _) (by intro u hu; simp at hu; subst hu; rfl) (by unfold maxLen; omega) (by omega) (by have := HC1.bel.size; simp; omega) ?_; intro v' w2 hown2 hgrow2 _; obtain ⟨ao', cap', rfl⟩ := owns_shape hown2))
            have HC2 := HC1.grow hown2 hgrow2
            go_roundw
            case rel => exact ⟨_, _, ao', n + 1, cap', rfl, HC2.same HB.out, HS1⟩
            case measure =>
              rw [HM.out, iterPos_of HC2.it]
              omega
          · have HB := Lib.hid (clean_full pre [r] (by rw [HC1.len]; omega))
            rw [hlo] at hg
            clear hlo
            go_wp2_with (go_at_call 16; refine (good_any _ _).mono ?_; rintro e w' ⟨rfl, rfl⟩)
            go_roundw
            case rel => exact ⟨_, _, ao, n, cap, rfl, HC1.same HB.out, HS1⟩
            case measure =>
              rw [HM.out, HM1.out]
              omega
    · have hnx := HC.last h
      have hcv := HC.conv
      go_wp2
      go_ret
      exact ⟨ret_str (end_all HS h).symm, HC.bel⟩
end Go.Proofs.Ytknmdpdlcmdaeaa
