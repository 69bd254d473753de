/-
  The small calls of a flash: there, has, within, num, Len, Off, Ops, Wear of the program and of the document; conditions: the flash is there.
-/
import Derived.Test.YtklhmneapegfpaaGreatDoorFl
namespace Go.Proofs.YtklhmneapegfpaaGreatDoor
open Go.RowKit
set_option linter.unusedVariables false
set_option linter.unusedSimpArgs false

theorem there_any (g : Nat) (w : World) : Calls Tryz.prog 30 #[.pointer (some ⟨g, 0, none⟩)] w fun e w' => e = .returned (.pointer (some ⟨g, 0, none⟩)) ∧ w = w' := by
  go_enter Tryz.func30, Tryz.ntmps30
  go_wp2
  go_ret
  exact ⟨rfl, rfl⟩
theorem has_yes (g k L : Nat) (s : Nat) (w : World) (hc : w.cell? ⟨g, 1, none⟩ = some (.slice (some ⟨k, 0, none⟩) L L)) (hs : s < L) : Calls Tryz.prog 72 #[.pointer (some ⟨g, 0, none⟩), .int .i64 (s : Int)] w fun e w' => e = .returned (.bool true) ∧ w = w' := by
  have h1 : (0 : Int) ≤ (s : Int) := by omega
  go_enter Tryz.func72, Tryz.ntmps72
  go_wp2
  go_ret
  exact ⟨rfl, rfl⟩
theorem has_no (g k L : Nat) (s : Int) (w : World) (hc : w.cell? ⟨g, 1, none⟩ = some (.slice (some ⟨k, 0, none⟩) L L)) (hs : ¬ (0 ≤ s ∧ s < (L : Int))) : Calls Tryz.prog 72 #[.pointer (some ⟨g, 0, none⟩), .int .i64 s] w fun e w' => e = .returned (.bool false) ∧ w = w' := by
  by_cases h1 : 0 ≤ s
  · have h2 : ¬ s < (L : Int) := by omega
    clear hs
    go_enter Tryz.func72, Tryz.ntmps72
    go_wp2
    go_ret
    exact ⟨rfl, rfl⟩
  · clear hs
    go_enter Tryz.func72, Tryz.ntmps72
    go_wp2
    go_ret
    exact ⟨rfl, rfl⟩
theorem within_yes (g m N : Nat) (a n : Int) (w : World) (hc : w.cell? ⟨g, 0, none⟩ = some (.slice (some ⟨m, 0, none⟩) N N)) (h0 : 0 ≤ a) (ha : a ≤ 9223372036854775807) (hN : N ≤ 1000000) (hn : n ≤ (N : Int) - a) :
    Calls Tryz.prog 71 #[.pointer (some ⟨g, 0, none⟩), .int .i64 a, .int .i64 n] w fun e w' => e = .returned (.bool true) ∧ w = w' := by
  go_enter Tryz.func71, Tryz.ntmps71
  go_wp2
  go_ret
  exact ⟨rfl, rfl⟩
theorem within_no (g m N : Nat) (a n : Int) (w : World) (hc : w.cell? ⟨g, 0, none⟩ = some (.slice (some ⟨m, 0, none⟩) N N)) (ha : a ≤ 9223372036854775807) (hN : N ≤ 1000000) (hn : ¬ (0 ≤ a ∧ n ≤ (N : Int) - a)) :
    Calls Tryz.prog 71 #[.pointer (some ⟨g, 0, none⟩), .int .i64 a, .int .i64 n] w fun e w' => e = .returned (.bool false) ∧ w = w' := by
  by_cases h1 : 0 ≤ a
  · have h2 : ¬ n ≤ (N : Int) - a := by omega
    clear hn
    go_enter Tryz.func71, Tryz.ntmps71
    go_wp2
    go_ret
    exact ⟨rfl, rfl⟩
  · clear hn
    go_enter Tryz.func71, Tryz.ntmps71
    go_wp2
    go_ret
    exact ⟨rfl, rfl⟩
theorem len_any {T g m k : Nat} {S : Fs} (w : World) (hf : Fl w T g m k S) : Calls Tryz.prog 28 #[.pointer (some ⟨g, 0, none⟩)] w fun e w' => e = .returned (.int .i64 (S.wear.length : Int)) ∧ w = w' := by
  obtain ⟨c, h, A, n, z, ha, hcut⟩ := hf
  obtain ⟨c0, c1, c2, c3, c4, c5, c6⟩ := fl_cells ha.str
  clear ha hcut c0 c2 c3 c4 c5 c6
  go_enter Tryz.func28, Tryz.ntmps28
  go_wp2_with (go_at_call 30; refine (there_any g _).mono ?_; rintro e w1 ⟨rfl, rfl⟩)
  go_ret
  exact ⟨rfl, rfl⟩
theorem wear_any {T g m k : Nat} {S : Fs} (s : Int) (w : World) (hf : Fl w T g m k S) : Calls Tryz.prog 51 #[.pointer (some ⟨g, 0, none⟩), .int .i64 s] w fun e w' => e = .returned (.int .i64 (wearAt S s)) ∧ w = w' := by
  obtain ⟨c, h, A, n, z, ha, hcut⟩ := hf
  obtain ⟨c0, c1, c2, c3, c4, c5, c6⟩ := fl_cells ha.str
  have hbk := ha.wear
  clear ha hcut c0 c3 c2 c4 c5 c6
  unfold wearAt
  by_cases hs : there S s
  · rw [if_pos hs]
    obtain ⟨s, rfl⟩ := Int.eq_ofNat_of_zero_le hs.1
    have hlt : s < S.wear.length := by have := hs.2; omega
    have q := bk_int hbk s hlt
    have i0 : (0 : Int) ≤ (s : Int) := by omega
    rw [Int.toNat_natCast]
    generalize S.wear.getD s 0 = x at *
    clear hbk hs
    generalize S.wear.length = L at *
    go_enter Tryz.func51, Tryz.ntmps51
    go_wp2_with (first
      | (go_at_call 30; refine (there_any g _).mono ?_; rintro e w1 ⟨rfl, rfl⟩)
      | (go_at_call 72; refine (has_yes g k L s _ c1 hlt).mono ?_; rintro e w1 ⟨rfl, rfl⟩))
    go_ret
    exact ⟨rfl, rfl⟩
  · rw [if_neg hs]
    go_enter Tryz.func51, Tryz.ntmps51
    go_wp2_with (first
      | (go_at_call 30; refine (there_any g _).mono ?_; rintro e w1 ⟨rfl, rfl⟩)
      | (go_at_call 72; refine (has_no g k S.wear.length s _ c1 hs).mono ?_; rintro e w1 ⟨rfl, rfl⟩))
    go_ret
    exact ⟨rfl, rfl⟩
/-! ### The document's -/
theorem rlen_any {T g m k : Nat} {S : Fs} (w : World) (hf : Rl w T g m k S) : Calls Tryz.prog 29 #[.pointer (some ⟨g, 0, none⟩)] w fun e w' => e = .returned (.int .i64 (S.wear.length : Int)) ∧ w = w' := by
  obtain ⟨c, h, A, n, z, ha, hcut⟩ := hf
  obtain ⟨c0, c1, c2, c3, c4, c5, c6⟩ := rl_cells ha.str
  clear ha hcut c0 c2 c3 c4 c5 c6
  go_enter Tryz.func29, Tryz.ntmps29
  go_wp2
  go_ret
  exact ⟨rfl, rfl⟩
theorem rwear_any {T g m k : Nat} {S : Fs} (s : Int) (w : World) (hf : Rl w T g m k S) : Calls Tryz.prog 54 #[.pointer (some ⟨g, 0, none⟩), .int .i64 s] w fun e w' => e = .returned (.int .i64 (wearAt S s)) ∧ w = w' := by
  obtain ⟨c, h, A, n, z, ha, hcut⟩ := hf
  obtain ⟨c0, c1, c2, c3, c4, c5, c6⟩ := rl_cells ha.str
  have hbk := ha.wear
  clear ha hcut c0 c3 c2 c4 c5 c6
  unfold wearAt
  by_cases h0 : s < 0
  · rw [if_neg (fun x => by have := x.1; omega)]
    go_enter Tryz.func54, Tryz.ntmps54
    go_wp2
    go_ret
    exact ⟨rfl, rfl⟩
  obtain ⟨s, rfl⟩ := Int.eq_ofNat_of_zero_le (show 0 ≤ s by omega)
  by_cases hs : there S s
  · rw [if_pos hs]
    have hlt : s < S.wear.length := by have := hs.2; omega
    have q := bk_int hbk s hlt
    have i0 : (0 : Int) ≤ (s : Int) := by omega
    rw [Int.toNat_natCast]
    generalize S.wear.getD s 0 = x at *
    clear hbk hs
    generalize S.wear.length = L at *
    have hge : ¬ L ≤ s := by omega
    go_enter Tryz.func54, Tryz.ntmps54
    go_wp2
    go_ret
    exact ⟨rfl, rfl⟩
  · rw [if_neg hs]
    have hge : S.wear.length ≤ s := by
      by_cases h : S.wear.length ≤ s
      · exact h
      · exact absurd ⟨by omega, by omega⟩ hs
    go_enter Tryz.func54, Tryz.ntmps54
    go_wp2
    go_ret
    exact ⟨rfl, rfl⟩
/-- n cut to low .. high. -/
theorem rcut_any (n lo hi : Int) (w : World) (h : lo ≤ hi) : Calls Tryz.prog 27 #[.int .i64 n, .int .i64 lo, .int .i64 hi] w fun e w' => e = .returned (.int .i64 (min (max n lo) hi)) ∧ w = w' := by
  by_cases h1 : n < lo
  · have e : min (max n lo) hi = lo := by omega
    rw [e]
    go_enter Tryz.func27, Tryz.ntmps27
    go_wp2
    go_ret
    exact ⟨rfl, rfl⟩
  · by_cases h2 : hi < n
    · have e : min (max n lo) hi = hi := by omega
      rw [e]
      go_enter Tryz.func27, Tryz.ntmps27
      go_wp2
      go_ret
      exact ⟨rfl, rfl⟩
    · have e : min (max n lo) hi = n := by omega
      rw [e]
      go_enter Tryz.func27, Tryz.ntmps27
      go_wp2
      go_ret
      exact ⟨rfl, rfl⟩
end Go.Proofs.YtklhmneapegfpaaGreatDoor
