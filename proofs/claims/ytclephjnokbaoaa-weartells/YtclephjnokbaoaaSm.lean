/-
  The small calls of a flash: there, has, within, num, Len, Off, Ops, Wear of the program and of the document; conditions: the flash is there.
-/
import Derived.Test.YtclephjnokbaoaaFl
namespace Go.Proofs.Ytclephjnokbaoaa
open Go.RowKit
set_option linter.unusedVariables false
set_option linter.unusedSimpArgs false

theorem there_any (g : Nat) (w : World) : Calls Try.prog 25 #[.pointer (some ⟨g, 0, none⟩)] w fun e w' => e = .returned (.pointer (some ⟨g, 0, none⟩)) ∧ w = w' := by
  go_enter Try.func25, Try.ntmps25
  go_wp2
  go_ret
  exact ⟨rfl, rfl⟩
theorem has_yes (g k L : Nat) (s : Nat) (w : World) (hc : w.cell? ⟨g, 1, none⟩ = some (.slice (some ⟨k, 0, none⟩) L L)) (hs : s < L) : Calls Try.prog 26 #[.pointer (some ⟨g, 0, none⟩), .int .i64 (s : Int)] w fun e w' => e = .returned (.bool true) ∧ w = w' := by
  have h1 : (0 : Int) ≤ (s : Int) := by omega
  go_enter Try.func26, Try.ntmps26
  go_wp2
  go_ret
  exact ⟨rfl, rfl⟩
theorem has_no (g k L : Nat) (s : Int) (w : World) (hc : w.cell? ⟨g, 1, none⟩ = some (.slice (some ⟨k, 0, none⟩) L L)) (hs : ¬ (0 ≤ s ∧ s < (L : Int))) : Calls Try.prog 26 #[.pointer (some ⟨g, 0, none⟩), .int .i64 s] w fun e w' => e = .returned (.bool false) ∧ w = w' := by
  by_cases h1 : 0 ≤ s
  · have h2 : ¬ s < (L : Int) := by omega
    clear hs
    go_enter Try.func26, Try.ntmps26
    go_wp2
    go_ret
    exact ⟨rfl, rfl⟩
  · clear hs
    go_enter Try.func26, Try.ntmps26
    go_wp2
    go_ret
    exact ⟨rfl, rfl⟩
theorem within_yes (g m N : Nat) (a n : Int) (w : World) (hc : w.cell? ⟨g, 0, none⟩ = some (.slice (some ⟨m, 0, none⟩) N N)) (h0 : 0 ≤ a) (ha : a ≤ 9223372036854775807) (hN : N ≤ 1000000) (hn : n ≤ (N : Int) - a) :
    Calls Try.prog 29 #[.pointer (some ⟨g, 0, none⟩), .int .i64 a, .int .i64 n] w fun e w' => e = .returned (.bool true) ∧ w = w' := by
  go_enter Try.func29, Try.ntmps29
  go_wp2
  go_ret
  exact ⟨rfl, rfl⟩
theorem within_no (g m N : Nat) (a n : Int) (w : World) (hc : w.cell? ⟨g, 0, none⟩ = some (.slice (some ⟨m, 0, none⟩) N N)) (ha : a ≤ 9223372036854775807) (hN : N ≤ 1000000) (hn : ¬ (0 ≤ a ∧ n ≤ (N : Int) - a)) :
    Calls Try.prog 29 #[.pointer (some ⟨g, 0, none⟩), .int .i64 a, .int .i64 n] w fun e w' => e = .returned (.bool false) ∧ w = w' := by
  by_cases h1 : 0 ≤ a
  · have h2 : ¬ n ≤ (N : Int) - a := by omega
    clear hn
    go_enter Try.func29, Try.ntmps29
    go_wp2
    go_ret
    exact ⟨rfl, rfl⟩
  · clear hn
    go_enter Try.func29, Try.ntmps29
    go_wp2
    go_ret
    exact ⟨rfl, rfl⟩
theorem len_any {T g m k : Nat} {S : Fs} (w : World) (hf : Fl w T g m k S) : Calls Try.prog 23 #[.pointer (some ⟨g, 0, none⟩)] w fun e w' => e = .returned (.int .i64 (S.wear.length : Int)) ∧ w = w' := by
  obtain ⟨c, h, A, n, z, ha, hcut⟩ := hf
  obtain ⟨c0, c1, c2, c3, c4, c5, c6⟩ := fl_cells ha.str
  clear ha hcut c0 c2 c3 c4 c5 c6
  go_enter Try.func23, Try.ntmps23
  go_wp2_with (go_at_call 25; refine (there_any g _).mono ?_; rintro e w1 ⟨rfl, rfl⟩)
  go_ret
  exact ⟨rfl, rfl⟩
theorem wear_any {T g m k : Nat} {S : Fs} (s : Int) (w : World) (hf : Fl w T g m k S) : Calls Try.prog 54 #[.pointer (some ⟨g, 0, none⟩), .int .i64 s] w fun e w' => e = .returned (.int .i64 (wearAt S s)) ∧ w = w' := by
  obtain ⟨c, h, A, n, z, ha, hcut⟩ := hf
  obtain ⟨c0, c1, c2, c3, c4, c5, c6⟩ := fl_cells ha.str
  have hbk := ha.wear
  clear ha hcut c0 c3 c2 c4 c5 c6
  unfold wearAt
  by_cases hs : there S s
  · rw [if_pos hs]
    obtain ⟨s, rfl⟩ := Int.eq_ofNat_of_zero_le hs.1
    have hlt : s < S.wear.length := by have := hs.2; omega
    have q := bk_int hbk s hlt
    have i0 : (0 : Int) ≤ (s : Int) := by omega
    rw [Int.toNat_natCast]
    generalize S.wear.getD s 0 = x at *
    clear hbk hs
    generalize S.wear.length = L at *
    go_enter Try.func54, Try.ntmps54
    go_wp2_with (first
      | (go_at_call 25; refine (there_any g _).mono ?_; rintro e w1 ⟨rfl, rfl⟩)
      | (go_at_call 26; refine (has_yes g k L s _ c1 hlt).mono ?_; rintro e w1 ⟨rfl, rfl⟩))
    go_ret
    exact ⟨rfl, rfl⟩
  · rw [if_neg hs]
    go_enter Try.func54, Try.ntmps54
    go_wp2_with (first
      | (go_at_call 25; refine (there_any g _).mono ?_; rintro e w1 ⟨rfl, rfl⟩)
      | (go_at_call 26; refine (has_no g k S.wear.length s _ c1 hs).mono ?_; rintro e w1 ⟨rfl, rfl⟩))
    go_ret
    exact ⟨rfl, rfl⟩
/-! ### The document's -/
theorem rlen_any {T g m k : Nat} {S : Fs} (w : World) (hf : Rl w T g m k S) : Calls Try.prog 24 #[.pointer (some ⟨g, 0, none⟩)] w fun e w' => e = .returned (.int .i64 (S.wear.length : Int)) ∧ w = w' := by
  obtain ⟨c, h, A, n, z, ha, hcut⟩ := hf
  obtain ⟨c0, c1, c2, c3, c4, c5, c6⟩ := rl_cells ha.str
  clear ha hcut c0 c2 c3 c4 c5 c6
  go_enter Try.func24, Try.ntmps24
  go_wp2
  go_ret
  exact ⟨rfl, rfl⟩
theorem rwear_any {T g m k : Nat} {S : Fs} (s : Int) (w : World) (hf : Rl w T g m k S) : Calls Try.prog 47 #[.pointer (some ⟨g, 0, none⟩), .int .i64 s] w fun e w' => e = .returned (.int .i64 (wearAt S s)) ∧ w = w' := by
  obtain ⟨c, h, A, n, z, ha, hcut⟩ := hf
  obtain ⟨c0, c1, c2, c3, c4, c5, c6⟩ := rl_cells ha.str
  have hbk := ha.wear
  clear ha hcut c0 c3 c2 c4 c5 c6
  unfold wearAt
  by_cases h0 : s < 0
  · rw [if_neg (fun x => by have := x.1; omega)]
    go_enter Try.func47, Try.ntmps47
    go_wp2
    go_ret
    exact ⟨rfl, rfl⟩
  obtain ⟨s, rfl⟩ := Int.eq_ofNat_of_zero_le (show 0 ≤ s by omega)
  by_cases hs : there S s
  · rw [if_pos hs]
    have hlt : s < S.wear.length := by have := hs.2; omega
    have q := bk_int hbk s hlt
    have i0 : (0 : Int) ≤ (s : Int) := by omega
    rw [Int.toNat_natCast]
    generalize S.wear.getD s 0 = x at *
    clear hbk hs
    generalize S.wear.length = L at *
    have hge : ¬ L ≤ s := by omega
    go_enter Try.func47, Try.ntmps47
    go_wp2
    go_ret
    exact ⟨rfl, rfl⟩
  · rw [if_neg hs]
    have hge : S.wear.length ≤ s := by
      by_cases h : S.wear.length ≤ s
      · exact h
      · exact absurd ⟨by omega, by omega⟩ hs
    go_enter Try.func47, Try.ntmps47
    go_wp2
    go_ret
    exact ⟨rfl, rfl⟩
/-- n cut to low .. high. -/
theorem rcut_any (n lo hi : Int) (w : World) (h : lo ≤ hi) : Calls Try.prog 22 #[.int .i64 n, .int .i64 lo, .int .i64 hi] w fun e w' => e = .returned (.int .i64 (min (max n lo) hi)) ∧ w = w' := by
  by_cases h1 : n < lo
  · have e : min (max n lo) hi = lo := by omega
    rw [e]
    go_enter Try.func22, Try.ntmps22
    go_wp2
    go_ret
    exact ⟨rfl, rfl⟩
  · by_cases h2 : hi < n
    · have e : min (max n lo) hi = hi := by omega
      rw [e]
      go_enter Try.func22, Try.ntmps22
      go_wp2
      go_ret
      exact ⟨rfl, rfl⟩
    · have e : min (max n lo) hi = n := by omega
      rw [e]
      go_enter Try.func22, Try.ntmps22
      go_wp2
      go_ret
      exact ⟨rfl, rfl⟩
end Go.Proofs.Ytclephjnokbaoaa
