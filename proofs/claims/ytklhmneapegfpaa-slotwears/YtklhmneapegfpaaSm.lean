/-
  The small calls of a flash: there, has, within, num, Len, Off, Ops, Wear of the program and of the document; conditions: the flash is there.
-/
import Derived.Test.YtklhmneapegfpaaFl
namespace Go.Proofs.Ytklhmneapegfpaa
open Go.RowKit
set_option linter.unusedVariables false
set_option linter.unusedSimpArgs false

theorem there_any (g : Nat) (w : World) : Calls Try.prog 22 #[.pointer (some ⟨g, 0, none⟩)] w fun e w' => e = .returned (.pointer (some ⟨g, 0, none⟩)) ∧ w = w' := by
  go_enter Try.func22, Try.ntmps22
  go_wp2
  go_ret
  exact ⟨rfl, rfl⟩
theorem has_yes (g k L : Nat) (s : Nat) (w : World) (hc : w.cell? ⟨g, 1, none⟩ = some (.slice (some ⟨k, 0, none⟩) L L)) (hs : s < L) : Calls Try.prog 43 #[.pointer (some ⟨g, 0, none⟩), .int .i64 (s : Int)] w fun e w' => e = .returned (.bool true) ∧ w = w' := by
  have h1 : (0 : Int) ≤ (s : Int) := by omega
  go_enter Try.func43, Try.ntmps43
  go_wp2
  go_ret
  exact ⟨rfl, rfl⟩
theorem has_no (g k L : Nat) (s : Int) (w : World) (hc : w.cell? ⟨g, 1, none⟩ = some (.slice (some ⟨k, 0, none⟩) L L)) (hs : ¬ (0 ≤ s ∧ s < (L : Int))) : Calls Try.prog 43 #[.pointer (some ⟨g, 0, none⟩), .int .i64 s] w fun e w' => e = .returned (.bool false) ∧ w = w' := by
  by_cases h1 : 0 ≤ s
  · have h2 : ¬ s < (L : Int) := by omega
    clear hs
    go_enter Try.func43, Try.ntmps43
    go_wp2
    go_ret
    exact ⟨rfl, rfl⟩
  · clear hs
    go_enter Try.func43, Try.ntmps43
    go_wp2
    go_ret
    exact ⟨rfl, rfl⟩
theorem within_yes (g m N : Nat) (a n : Int) (w : World) (hc : w.cell? ⟨g, 0, none⟩ = some (.slice (some ⟨m, 0, none⟩) N N)) (h0 : 0 ≤ a) (ha : a ≤ 9223372036854775807) (hN : N ≤ 1000000) (hn : n ≤ (N : Int) - a) :
    Calls Try.prog 40 #[.pointer (some ⟨g, 0, none⟩), .int .i64 a, .int .i64 n] w fun e w' => e = .returned (.bool true) ∧ w = w' := by
  go_enter Try.func40, Try.ntmps40
  go_wp2
  go_ret
  exact ⟨rfl, rfl⟩
theorem within_no (g m N : Nat) (a n : Int) (w : World) (hc : w.cell? ⟨g, 0, none⟩ = some (.slice (some ⟨m, 0, none⟩) N N)) (ha : a ≤ 9223372036854775807) (hN : N ≤ 1000000) (hn : ¬ (0 ≤ a ∧ n ≤ (N : Int) - a)) :
    Calls Try.prog 40 #[.pointer (some ⟨g, 0, none⟩), .int .i64 a, .int .i64 n] w fun e w' => e = .returned (.bool false) ∧ w = w' := by
  by_cases h1 : 0 ≤ a
  · have h2 : ¬ n ≤ (N : Int) - a := by omega
    clear hn
    go_enter Try.func40, Try.ntmps40
    go_wp2
    go_ret
    exact ⟨rfl, rfl⟩
  · clear hn
    go_enter Try.func40, Try.ntmps40
    go_wp2
    go_ret
    exact ⟨rfl, rfl⟩
theorem len_any {T g m k : Nat} {S : Fs} (w : World) (hf : Fl w T g m k S) : Calls Try.prog 16 #[.pointer (some ⟨g, 0, none⟩)] w fun e w' => e = .returned (.int .i64 (S.wear.length : Int)) ∧ w = w' := by
  obtain ⟨c, h, A, n, z, ha, hcut⟩ := hf
  obtain ⟨c0, c1, c2, c3, c4, c5, c6⟩ := fl_cells ha.str
  clear ha hcut c0 c2 c3 c4 c5 c6
  go_enter Try.func16, Try.ntmps16
  go_wp2_with (go_at_call 22; refine (there_any g _).mono ?_; rintro e w1 ⟨rfl, rfl⟩)
  go_ret
  exact ⟨rfl, rfl⟩
theorem wear_any {T g m k : Nat} {S : Fs} (s : Int) (w : World) (hf : Fl w T g m k S) : Calls Try.prog 44 #[.pointer (some ⟨g, 0, none⟩), .int .i64 s] w fun e w' => e = .returned (.int .i64 (wearAt S s)) ∧ w = w' := by
  obtain ⟨c, h, A, n, z, ha, hcut⟩ := hf
  obtain ⟨c0, c1, c2, c3, c4, c5, c6⟩ := fl_cells ha.str
  have hbk := ha.wear
  clear ha hcut c0 c3 c2 c4 c5 c6
  unfold wearAt
  by_cases hs : there S s
  · rw [if_pos hs]
    obtain ⟨s, rfl⟩ := Int.eq_ofNat_of_zero_le hs.1
    have hlt : s < S.wear.length := by have := hs.2; omega
    have q := bk_int hbk s hlt
    have i0 : (0 : Int) ≤ (s : Int) := by omega
    rw [Int.toNat_natCast]
    generalize S.wear.getD s 0 = x at *
    clear hbk hs
    generalize S.wear.length = L at *
    go_enter Try.func44, Try.ntmps44
    go_wp2_with (first
      | (go_at_call 22; refine (there_any g _).mono ?_; rintro e w1 ⟨rfl, rfl⟩)
      | (go_at_call 43; refine (has_yes g k L s _ c1 hlt).mono ?_; rintro e w1 ⟨rfl, rfl⟩))
    go_ret
    exact ⟨rfl, rfl⟩
  · rw [if_neg hs]
    go_enter Try.func44, Try.ntmps44
    go_wp2_with (first
      | (go_at_call 22; refine (there_any g _).mono ?_; rintro e w1 ⟨rfl, rfl⟩)
      | (go_at_call 43; refine (has_no g k S.wear.length s _ c1 hs).mono ?_; rintro e w1 ⟨rfl, rfl⟩))
    go_ret
    exact ⟨rfl, rfl⟩
/-! ### The document's -/
end Go.Proofs.Ytklhmneapegfpaa
