/-
  The walk of the law SlotFrom: where the chunks of two slots lie; conditions: none.
-/
import Derived.Test.YtklhmneapegfpaaAl
namespace Go.Proofs.Ytklhmneapegfpaa.slotFrom
open Go.RowKit
set_option linter.unusedVariables false
set_option linter.unusedSimpArgs false

set_option maxRecDepth 100000 in
set_option maxHeartbeats 2000000 in
theorem walk_mid (n a i b k : Int) (w : World) (hn : 1 ≤ n ∧ n ≤ 6) (ha : 0 ≤ a ∧ a ≤ 1) (hb : 0 ≤ b ∧ b ≤ 1) (hi : 0 ≤ i ∧ i < n) (hk : 0 ≤ k ∧ k < n) :
    Calls Try.prog 5 #[.int .i64 n, .int .i64 a, .int .i64 i, .int .i64 b, .int .i64 k] w fun e w' => e = .returned (.bool true) ∧ Below w.heap.size w w' := by
  obtain ⟨n1, n6⟩ := hn
  obtain ⟨a0, a1⟩ := ha
  obtain ⟨b0, b1⟩ := hb
  obtain ⟨i0, i1⟩ := hi
  obtain ⟨k0, k1⟩ := hk
  have ex := at_is (s := a) (k := i) (n := n) ⟨⟨a0, a1⟩, ⟨n1, n6⟩, i0, i1⟩
  have ey := at_is (s := b) (k := k) (n := n) ⟨⟨b0, b1⟩, ⟨n1, n6⟩, k0, k1⟩
  have e3 : atI a n n = -1 := at_no fun h => by have := h.2.2.2; omega
  have e4 : atI 2 i n = -1 := at_no fun h => by have := h.1.2; omega
  have e5 : atI a (-1) n = -1 := at_no fun h => by have := h.2.2.1; omega
  obtain ⟨x, hx⟩ : ∃ x, atI a i n = x := ⟨_, rfl⟩
  obtain ⟨y, hy⟩ : ∃ y, atI b k n = y := ⟨_, rfl⟩
  have X := Lib.hid hx
  have Y := Lib.hid hy
  have E3 := Lib.hid e3
  have E4 := Lib.hid e4
  have E5 := Lib.hid e5
  rw [hx] at ex
  rw [hy] at ey
  clear hx hy e3 e4 e5
  have d1 : ¬ n < 1 := by omega
  have d2 : ¬ 6 < n := by omega
  have d3 : ¬ a < 0 := by omega
  have d4 : ¬ 1 < a := by omega
  have d5 : ¬ b < 0 := by omega
  have d6 : ¬ 1 < b := by omega
  have d7 : ¬ i < 0 := by omega
  have d8 : ¬ n ≤ i := by omega
  have d9 : ¬ k < 0 := by omega
  have d10 : ¬ n ≤ k := by omega
  have x1 : 4 ≤ x := by omega
  have q1 : IntKind.i64.wrap (2 * n) = 2 * n := by rw [IntKind.wrap_i64]; omega
  have q2 : IntKind.i64.wrap (4 + 2 * n) = 4 + 2 * n := by rw [IntKind.wrap_i64]; omega
  have x2 : x < 4 + 2 * n := by omega
  by_cases hab : a = b
  · by_cases hik : i = k
    · have hxy : x = y := by omega
      subst hab hik hxy
      clear ex ey n1 n6 a0 a1 b0 b1 i0 i1 k0 k1 Y
      go_enter Try.func5, Try.ntmps5
      go_wp2_with (first
        | (go_at_call 6; refine (alive_any _).mono ?_; rintro e w1 ⟨rfl, H1⟩)
        | (go_at_call 15; refine (from_any _ _ _ _).mono ?_; rintro e w2 ⟨rfl, rfl⟩; first | rw [X.out] | rw [E3.out] | rw [E4.out] | rw [E5.out]))
      go_ret
      exact ⟨rfl, H1⟩
    · have hxy : ¬ x = y := by omega
      subst hab
      have s1 : (x == y) = false := by simpa using hxy
      have s2 : (i == k) = false := by simpa using hik
      clear ex ey n1 n6 a0 a1 b0 b1 i0 i1 k0 k1
      go_enter Try.func5, Try.ntmps5
      go_wp2_with (first
        | (go_at_call 6; refine (alive_any _).mono ?_; rintro e w1 ⟨rfl, H1⟩)
        | (go_at_call 15; refine (from_any _ _ _ _).mono ?_; rintro e w2 ⟨rfl, rfl⟩; first | rw [X.out] | rw [Y.out] | rw [E3.out] | rw [E4.out] | rw [E5.out]))
      go_ret
      exact ⟨rfl, H1⟩
  · have hxy : ¬ x = y := by omega
    have s1 : (x == y) = false := by simpa using hxy
    have s2 : (a == b) = false := by simpa using hab
    clear ex ey n1 n6 a0 a1 b0 b1 i0 i1 k0 k1
    go_enter Try.func5, Try.ntmps5
    go_wp2_with (first
      | (go_at_call 6; refine (alive_any _).mono ?_; rintro e w1 ⟨rfl, H1⟩)
      | (go_at_call 15; refine (from_any _ _ _ _).mono ?_; rintro e w2 ⟨rfl, rfl⟩; first | rw [X.out] | rw [Y.out] | rw [E3.out] | rw [E4.out] | rw [E5.out]))
    go_ret
    exact ⟨rfl, H1⟩
set_option maxRecDepth 100000 in
set_option maxHeartbeats 4000000 in
theorem walk_out (n a i b k : Int) (w : World) (h : n < 1 ∨ 6 < n ∨ a < 0 ∨ 1 < a ∨ b < 0 ∨ 1 < b ∨ i < 0 ∨ n ≤ i ∨ k < 0 ∨ n ≤ k) :
    Calls Try.prog 5 #[.int .i64 n, .int .i64 a, .int .i64 i, .int .i64 b, .int .i64 k] w fun e w' => e = .returned (.bool true) ∧ Below w.heap.size w w' := by
  by_cases c0 : n < 1
  · clear h
    go_enter Try.func5, Try.ntmps5
    go_wp2_with (go_at_call 6; refine (alive_any _).mono ?_; rintro e w1 ⟨rfl, H1⟩)
    go_ret
    exact ⟨rfl, H1⟩
  by_cases c1 : 6 < n
  · clear h
    go_enter Try.func5, Try.ntmps5
    go_wp2_with (go_at_call 6; refine (alive_any _).mono ?_; rintro e w1 ⟨rfl, H1⟩)
    go_ret
    exact ⟨rfl, H1⟩
  by_cases c2 : a < 0
  · clear h
    go_enter Try.func5, Try.ntmps5
    go_wp2_with (go_at_call 6; refine (alive_any _).mono ?_; rintro e w1 ⟨rfl, H1⟩)
    go_ret
    exact ⟨rfl, H1⟩
  by_cases c3 : 1 < a
  · clear h
    go_enter Try.func5, Try.ntmps5
    go_wp2_with (go_at_call 6; refine (alive_any _).mono ?_; rintro e w1 ⟨rfl, H1⟩)
    go_ret
    exact ⟨rfl, H1⟩
  by_cases c4 : b < 0
  · clear h
    go_enter Try.func5, Try.ntmps5
    go_wp2_with (go_at_call 6; refine (alive_any _).mono ?_; rintro e w1 ⟨rfl, H1⟩)
    go_ret
    exact ⟨rfl, H1⟩
  by_cases c5 : 1 < b
  · clear h
    go_enter Try.func5, Try.ntmps5
    go_wp2_with (go_at_call 6; refine (alive_any _).mono ?_; rintro e w1 ⟨rfl, H1⟩)
    go_ret
    exact ⟨rfl, H1⟩
  by_cases c6 : i < 0
  · clear h
    go_enter Try.func5, Try.ntmps5
    go_wp2_with (go_at_call 6; refine (alive_any _).mono ?_; rintro e w1 ⟨rfl, H1⟩)
    go_ret
    exact ⟨rfl, H1⟩
  by_cases c7 : n ≤ i
  · clear h
    go_enter Try.func5, Try.ntmps5
    go_wp2_with (go_at_call 6; refine (alive_any _).mono ?_; rintro e w1 ⟨rfl, H1⟩)
    go_ret
    exact ⟨rfl, H1⟩
  by_cases c8 : k < 0
  · clear h
    go_enter Try.func5, Try.ntmps5
    go_wp2_with (go_at_call 6; refine (alive_any _).mono ?_; rintro e w1 ⟨rfl, H1⟩)
    go_ret
    exact ⟨rfl, H1⟩
  by_cases c9 : n ≤ k
  · clear h
    go_enter Try.func5, Try.ntmps5
    go_wp2_with (go_at_call 6; refine (alive_any _).mono ?_; rintro e w1 ⟨rfl, H1⟩)
    go_ret
    exact ⟨rfl, H1⟩
  omega
theorem walk (n a i b k : Int) (w0 : (Lit.int .i64 n).wf = true) (w1 : (Lit.int .i64 a).wf = true) (w2 : (Lit.int .i64 i).wf = true) (w3 : (Lit.int .i64 b).wf = true) (w4 : (Lit.int .i64 k).wf = true) (w : World) :
    Calls Try.prog 5 #[.int .i64 n, .int .i64 a, .int .i64 i, .int .i64 b, .int .i64 k] w fun e w' => e = .returned (.bool true) ∧ Below w.heap.size w w' := by
  by_cases h : n < 1 ∨ 6 < n ∨ a < 0 ∨ 1 < a ∨ b < 0 ∨ 1 < b ∨ i < 0 ∨ n ≤ i ∨ k < 0 ∨ n ≤ k
  · exact walk_out n a i b k w h
  · exact walk_mid n a i b k w ⟨by omega, by omega⟩ ⟨by omega, by omega⟩ ⟨by omega, by omega⟩ ⟨by omega, by omega⟩ ⟨by omega, by omega⟩
end Go.Proofs.Ytklhmneapegfpaa.slotFrom
