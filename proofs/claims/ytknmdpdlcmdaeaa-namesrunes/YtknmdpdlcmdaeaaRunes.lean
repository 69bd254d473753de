/-
  What is proved: for every rune the law NamesRunes answers true: which single runes are names, and what the great ones are made (code points; others the law lets by). Conditions: none.
-/
import Derived.Test.YtknmdpdlcmdaeaaAlive
import Derived.Test.YtknmdpdlcmdaeaaBack
import Derived.Test.YtknmdpdlcmdaeaaRows
import Derived.WalkKit
import Derived.ProofKit
import Derived.OpenShut
import Derived.ShutString
namespace Go.Proofs.Ytknmdpdlcmdaeaa.namesRunes
open Go.ChangeShapes Go.WideShapes Go.ChangeAt Go.RowKit
open Go.ChangeMaps (open_string shut_string)
set_option linter.unusedVariables false      -- a walk need not use every 'w<i>' (that an integer argument fits its kind)

theorem own : ownKnob Try.prog.godebug = none := by kernel_rfl

theorem valid_one {c : Int} (h : okR c) : validL (all (runesBytes [c])) = goodB c := by
  rw [all_bytes [c] (by intro r hr; rw [List.mem_singleton.1 hr]; exact h)]
  simp [validL]
theorem count_one {c : Int} (h : okR c) : (all (runesBytes [c])).length = 1 := by
  rw [all_bytes [c] (by intro r hr; rw [List.mem_singleton.1 hr]; exact h)]
  rfl
theorem clean_one {c : Int} (h : okR c) : cleanS (runesBytes [c]) = runesBytes (cleanL [c]) := by
  unfold cleanS
  rw [all_bytes [c] (by intro r hr; rw [List.mem_singleton.1 hr]; exact h)]
theorem clean_small {c : Int} (h : okR c) (hc : (48 ≤ c ∧ c ≤ 57) ∨ (97 ≤ c ∧ c ≤ 122) ∨ (945 ≤ c ∧ c ≤ 969)) : cleanS (runesBytes [c]) = runesBytes [c] := by
  have hg : goodB c = true := good_of (by omega)
  rw [clean_one h]
  unfold cleanL keep
  rw [List.map_cons, (good_ok hg).2.2, List.map_nil, List.filter_cons, hg]
  rfl
theorem clean_great {c : Int} (h : okR c) (hc : (65 ≤ c ∧ c ≤ 90) ∨ (913 ≤ c ∧ c ≤ 929) ∨ (931 ≤ c ∧ c ≤ 937)) : cleanS (runesBytes [c]) = runesBytes [c + 32] := by
  have hg : goodB (c + 32) = true := good_of (by omega)
  rw [clean_one h]
  unfold cleanL keep
  rw [List.map_cons, low_of (by omega), List.map_nil, List.filter_cons, hg]
  rfl
theorem clean_none {c : Int} (h : okR c) (h1 : goodB c = false) (h2 : lowI c = c) : cleanS (runesBytes [c]) = ⟨#[]⟩ := by
  rw [clean_one h]
  unfold cleanL keep
  rw [List.map_cons, h2, List.map_nil, List.filter_cons, h1]
  rfl
theorem conv_one (c : Int) (w : World) : (convert 26 9 (.slice (some ⟨w.heap.size, 0, none⟩) 1 1)).run Try.prog (w.alloc (.cells #[.int .i32 c] 21)) = .ok (.string (runesBytes [c])) (w.alloc (.cells #[.int .i32 c] 21)) := by
  refine run_convert_runes (w.alloc (.cells #[.int .i32 c] 21)) 26 9 21 ⟨w.heap.size, 0, none⟩ 1 1 [c] (by simp) Try.underlying26 Try.underlying21 Try.underlying9 ?_
  intro j hj
  match j, hj with
  | 0, hj => simp [Addr.add]
theorem conv_two (c : Int) (o : Obj) (w : World) : (convert 26 9 (.slice (some ⟨w.heap.size + 1, 0, none⟩) 1 1)).run Try.prog ((w.alloc o).alloc (.cells #[.int .i32 c] 21)) = .ok (.string (runesBytes [c])) ((w.alloc o).alloc (.cells #[.int .i32 c] 21)) := by
  have h := conv_one c (w.alloc o)
  have e : (w.alloc o).heap.size = w.heap.size + 1 := by simp
  rw [e] at h
  exact h
theorem in_small (c : Int) (h : (48 ≤ c ∧ c ≤ 57) ∨ (97 ≤ c ∧ c ≤ 122) ∨ (945 ≤ c ∧ c ≤ 969)) :
    ((48 ≤ c ∧ c ≤ 57) ∧ decide (c ≤ 57) = true ∧ decide (c ≤ 122) = true ∧ decide (c ≤ 969) = true ∧ decide (c ≤ 90) = true ∧ decide (c ≤ 937) = true ∧ decide (c ≤ 57343) = true ∧ (c != 930) = true) ∨
    ((97 ≤ c ∧ c ≤ 122) ∧ decide (c ≤ 57) = false ∧ decide (c ≤ 122) = true ∧ decide (c ≤ 969) = true ∧ decide (c ≤ 90) = false ∧ decide (c ≤ 937) = true ∧ decide (c ≤ 57343) = true ∧ (c != 930) = true) ∨
    ((945 ≤ c ∧ c ≤ 969) ∧ decide (c ≤ 57) = false ∧ decide (c ≤ 122) = false ∧ decide (c ≤ 969) = true ∧ decide (c ≤ 90) = false ∧ decide (c ≤ 937) = false ∧ decide (c ≤ 57343) = true ∧ (c != 930) = true) := by
  rcases h with h | h | h
  · exact .inl ⟨h, by simp; omega, by simp; omega, by simp; omega, by simp; omega, by simp; omega, by simp; omega, by simp; omega⟩
  · exact .inr (.inl ⟨h, by simp; omega, by simp; omega, by simp; omega, by simp; omega, by simp; omega, by simp; omega, by simp; omega⟩)
  · exact .inr (.inr (⟨h, by simp; omega, by simp; omega, by simp; omega, by simp; omega, by simp; omega, by simp; omega, by simp; omega⟩))
theorem in_great (c : Int) (h : (65 ≤ c ∧ c ≤ 90) ∨ (913 ≤ c ∧ c ≤ 929) ∨ (931 ≤ c ∧ c ≤ 937)) :
    ((65 ≤ c ∧ c ≤ 90) ∧ decide (c ≤ 57) = false ∧ decide (c ≤ 122) = true ∧ decide (c ≤ 969) = true ∧ decide (c ≤ 90) = true ∧ decide (c ≤ 937) = true ∧ decide (c ≤ 57343) = true ∧ (c != 930) = true) ∨
    ((913 ≤ c ∧ c ≤ 929) ∧ decide (c ≤ 57) = false ∧ decide (c ≤ 122) = false ∧ decide (c ≤ 969) = true ∧ decide (c ≤ 90) = false ∧ decide (c ≤ 937) = true ∧ decide (c ≤ 57343) = true ∧ (c != 930) = true) ∨
    ((931 ≤ c ∧ c ≤ 937) ∧ decide (c ≤ 57) = false ∧ decide (c ≤ 122) = false ∧ decide (c ≤ 969) = true ∧ decide (c ≤ 90) = false ∧ decide (c ≤ 937) = true ∧ decide (c ≤ 57343) = true ∧ (c != 930) = true) := by
  rcases h with h | h | h
  · exact .inl ⟨h, by simp; omega, by simp; omega, by simp; omega, by simp; omega, by simp; omega, by simp; omega, by simp; omega⟩
  · exact .inr (.inl ⟨h, by simp; omega, by simp; omega, by simp; omega, by simp; omega, by simp; omega, by simp; omega, by simp; omega⟩)
  · exact .inr (.inr (⟨h, by simp; omega, by simp; omega, by simp; omega, by simp; omega, by simp; omega, by simp; omega, by simp; omega⟩))
theorem in_none (c : Int) (h : (0 ≤ c ∧ c ≤ 47) ∨ (58 ≤ c ∧ c ≤ 64) ∨ (91 ≤ c ∧ c ≤ 96) ∨ (123 ≤ c ∧ c ≤ 912) ∨ (930 ≤ c ∧ c ≤ 930) ∨ (938 ≤ c ∧ c ≤ 944) ∨ (970 ≤ c ∧ c ≤ 55295) ∨ (57344 ≤ c ∧ c ≤ 1114111)) :
    ((0 ≤ c ∧ c ≤ 47) ∧ decide (c ≤ 57) = true ∧ decide (c ≤ 122) = true ∧ decide (c ≤ 969) = true ∧ decide (c ≤ 90) = true ∧ decide (c ≤ 937) = true ∧ decide (c ≤ 57343) = true ∧ (c != 930) = true) ∨
    ((58 ≤ c ∧ c ≤ 64) ∧ decide (c ≤ 57) = false ∧ decide (c ≤ 122) = true ∧ decide (c ≤ 969) = true ∧ decide (c ≤ 90) = true ∧ decide (c ≤ 937) = true ∧ decide (c ≤ 57343) = true ∧ (c != 930) = true) ∨
    ((91 ≤ c ∧ c ≤ 96) ∧ decide (c ≤ 57) = false ∧ decide (c ≤ 122) = true ∧ decide (c ≤ 969) = true ∧ decide (c ≤ 90) = false ∧ decide (c ≤ 937) = true ∧ decide (c ≤ 57343) = true ∧ (c != 930) = true) ∨
    ((123 ≤ c ∧ c ≤ 912) ∧ decide (c ≤ 57) = false ∧ decide (c ≤ 122) = false ∧ decide (c ≤ 969) = true ∧ decide (c ≤ 90) = false ∧ decide (c ≤ 937) = true ∧ decide (c ≤ 57343) = true ∧ (c != 930) = true) ∨
    ((930 ≤ c ∧ c ≤ 930) ∧ decide (c ≤ 57) = false ∧ decide (c ≤ 122) = false ∧ decide (c ≤ 969) = true ∧ decide (c ≤ 90) = false ∧ decide (c ≤ 937) = true ∧ decide (c ≤ 57343) = true ∧ (c != 930) = false) ∨
    ((938 ≤ c ∧ c ≤ 944) ∧ decide (c ≤ 57) = false ∧ decide (c ≤ 122) = false ∧ decide (c ≤ 969) = true ∧ decide (c ≤ 90) = false ∧ decide (c ≤ 937) = false ∧ decide (c ≤ 57343) = true ∧ (c != 930) = true) ∨
    ((970 ≤ c ∧ c ≤ 55295) ∧ decide (c ≤ 57) = false ∧ decide (c ≤ 122) = false ∧ decide (c ≤ 969) = false ∧ decide (c ≤ 90) = false ∧ decide (c ≤ 937) = false ∧ decide (c ≤ 57343) = true ∧ (c != 930) = true) ∨
    ((57344 ≤ c ∧ c ≤ 1114111) ∧ decide (c ≤ 57) = false ∧ decide (c ≤ 122) = false ∧ decide (c ≤ 969) = false ∧ decide (c ≤ 90) = false ∧ decide (c ≤ 937) = false ∧ decide (c ≤ 57343) = false ∧ (c != 930) = true) := by
  rcases h with h | h | h | h | h | h | h | h
  · exact .inl ⟨h, by simp; omega, by simp; omega, by simp; omega, by simp; omega, by simp; omega, by simp; omega, by simp; omega⟩
  · exact .inr (.inl ⟨h, by simp; omega, by simp; omega, by simp; omega, by simp; omega, by simp; omega, by simp; omega, by simp; omega⟩)
  · exact .inr (.inr (.inl ⟨h, by simp; omega, by simp; omega, by simp; omega, by simp; omega, by simp; omega, by simp; omega, by simp; omega⟩))
  · exact .inr (.inr (.inr (.inl ⟨h, by simp; omega, by simp; omega, by simp; omega, by simp; omega, by simp; omega, by simp; omega, by simp; omega⟩)))
  · exact .inr (.inr (.inr (.inr (.inl ⟨h, by simp; omega, by simp; omega, by simp; omega, by simp; omega, by simp; omega, by simp; omega, by simp; omega⟩))))
  · exact .inr (.inr (.inr (.inr (.inr (.inl ⟨h, by simp; omega, by simp; omega, by simp; omega, by simp; omega, by simp; omega, by simp; omega, by simp; omega⟩)))))
  · exact .inr (.inr (.inr (.inr (.inr (.inr (.inl ⟨h, by simp; omega, by simp; omega, by simp; omega, by simp; omega, by simp; omega, by simp; omega, by simp; omega⟩))))))
  · exact .inr (.inr (.inr (.inr (.inr (.inr (.inr (⟨h, by simp; omega, by simp; omega, by simp; omega, by simp; omega, by simp; omega, by simp; omega, by simp; omega⟩)))))))

set_option maxHeartbeats 3200000 in
set_option maxRecDepth 100000 in
theorem walk_small (c : Int) (w : World) (h : (48 ≤ c ∧ c ≤ 57) ∨ (97 ≤ c ∧ c ≤ 122) ∨ (945 ≤ c ∧ c ≤ 969)) :
    Calls Try.prog 5 #[.int .i32 c] w fun e w' => e = .returned (.bool true) ∧ Below w.heap.size w w' := by
  have hok : okR c := ⟨by omega, by omega, by omega⟩
  have V := fun w => valid_any (runesBytes [c]) w
  have N := fun w => count_any (runesBytes [c]) w (by have := runesBytes_size_le [c]; simp at this; unfold maxLen; omega)
  have C := fun w => clean_any (runesBytes [c]) w
  rw [valid_one hok, good_of (r := c) (by omega)] at V
  rw [count_one hok] at N
  rw [clean_small hok h] at C
  have X := conv_one c
  have D1 := Lib.hid V
  have D2 := Lib.hid N
  have D3 := Lib.hid C
  have HX := Lib.hid X
  clear V N C X hok
  rcases in_small c h with ⟨⟨h1, h2⟩, d1, d2, d3, d4, d5, d6, d7⟩ | ⟨⟨h1, h2⟩, d1, d2, d3, d4, d5, d6, d7⟩ | ⟨⟨h1, h2⟩, d1, d2, d3, d4, d5, d6, d7⟩
  all_goals
    clear h
    go_enter Try.func5, Try.ntmps5
    go_wp2_with (go_at_call 8; refine (alive_any _).mono ?_; rintro e w1 ⟨rfl, H1⟩; have hcv := HX.out w1)
    go_wp2_with (first
      | (go_at_call 9; (with_reducible refine (D2.out _).mono ?_); rintro e w3 ⟨rfl, H3⟩)
      | (go_at_call 11; (with_reducible refine (D1.out _).mono ?_); rintro e w2 ⟨rfl, H2⟩)
      | (go_at_call 13; (with_reducible refine (D3.out _).mono ?_); rintro e w4 ⟨rfl, H4⟩))
    go_ret
    exact ⟨rfl, below_next (below_next (below_next (below_next H1 ((Below.refl _ _).alloc (Nat.le_refl _) _)) H2) H4) H3⟩

set_option maxHeartbeats 3200000 in
set_option maxRecDepth 100000 in
theorem walk_great (c : Int) (w : World) (h : (65 ≤ c ∧ c ≤ 90) ∨ (913 ≤ c ∧ c ≤ 929) ∨ (931 ≤ c ∧ c ≤ 937)) :
    Calls Try.prog 5 #[.int .i32 c] w fun e w' => e = .returned (.bool true) ∧ Below w.heap.size w w' := by
  have hok : okR c := ⟨by omega, by omega, by omega⟩
  have V := fun w => valid_any (runesBytes [c]) w
  have N := fun w => count_any (runesBytes [c]) w (by have := runesBytes_size_le [c]; simp at this; unfold maxLen; omega)
  have C := fun w => clean_any (runesBytes [c]) w
  rw [valid_one hok, bad_of (r := c) (by omega)] at V
  rw [count_one hok] at N
  rw [clean_great hok h] at C
  have X := conv_one c
  have X2 := Lib.hid (conv_two (c + 32))
  have D1 := Lib.hid V
  have D2 := Lib.hid N
  have D3 := Lib.hid C
  have HX := Lib.hid X
  clear V N C X hok
  rcases in_great c h with ⟨⟨h1, h2⟩, d1, d2, d3, d4, d5, d6, d7⟩ | ⟨⟨h1, h2⟩, d1, d2, d3, d4, d5, d6, d7⟩ | ⟨⟨h1, h2⟩, d1, d2, d3, d4, d5, d6, d7⟩
  all_goals
    clear h
    go_enter Try.func5, Try.ntmps5
    go_wp2_with (go_at_call 8; refine (alive_any _).mono ?_; rintro e w1 ⟨rfl, H1⟩; have hcv := HX.out w1; have hcv2 := X2.out (.cells #[.int .i32 c] 21) w1)
    go_wp2_with (first
      | (go_at_call 9; (with_reducible refine (D2.out _).mono ?_); rintro e w3 ⟨rfl, H3⟩)
      | (go_at_call 11; (with_reducible refine (D1.out _).mono ?_); rintro e w2 ⟨rfl, H2⟩)
      | (go_at_call 13; (with_reducible refine (D3.out _).mono ?_); rintro e w4 ⟨rfl, H4⟩))
    go_ret
    exact ⟨rfl, below_next (below_next (below_next (below_next H1 (((Below.refl _ _).alloc (Nat.le_refl _) _).alloc (by simp) _)) H2) H4) H3⟩

set_option maxHeartbeats 3200000 in
set_option maxRecDepth 100000 in
theorem walk_none (c : Int) (w : World) (h : (0 ≤ c ∧ c ≤ 47) ∨ (58 ≤ c ∧ c ≤ 64) ∨ (91 ≤ c ∧ c ≤ 96) ∨ (123 ≤ c ∧ c ≤ 912) ∨ (930 ≤ c ∧ c ≤ 930) ∨ (938 ≤ c ∧ c ≤ 944) ∨ (970 ≤ c ∧ c ≤ 55295) ∨ (57344 ≤ c ∧ c ≤ 1114111)) :
    Calls Try.prog 5 #[.int .i32 c] w fun e w' => e = .returned (.bool true) ∧ Below w.heap.size w w' := by
  have hok : okR c := ⟨by omega, by omega, by omega⟩
  have V := fun w => valid_any (runesBytes [c]) w
  have N := fun w => count_any (runesBytes [c]) w (by have := runesBytes_size_le [c]; simp at this; unfold maxLen; omega)
  have C := fun w => clean_any (runesBytes [c]) w
  rw [valid_one hok, bad_of (r := c) (by omega)] at V
  rw [count_one hok] at N
  rw [clean_none hok (bad_of (by omega)) (high_of (by omega))] at C
  have X := conv_one c
  have D1 := Lib.hid V
  have D2 := Lib.hid N
  have D3 := Lib.hid C
  have HX := Lib.hid X
  clear V N C X hok
  rcases in_none c h with ⟨⟨h1, h2⟩, d1, d2, d3, d4, d5, d6, d7⟩ | ⟨⟨h1, h2⟩, d1, d2, d3, d4, d5, d6, d7⟩ | ⟨⟨h1, h2⟩, d1, d2, d3, d4, d5, d6, d7⟩ | ⟨⟨h1, h2⟩, d1, d2, d3, d4, d5, d6, d7⟩ | ⟨⟨h1, h2⟩, d1, d2, d3, d4, d5, d6, d7⟩ | ⟨⟨h1, h2⟩, d1, d2, d3, d4, d5, d6, d7⟩ | ⟨⟨h1, h2⟩, d1, d2, d3, d4, d5, d6, d7⟩ | ⟨⟨h1, h2⟩, d1, d2, d3, d4, d5, d6, d7⟩
  all_goals
    clear h
    go_enter Try.func5, Try.ntmps5
    go_wp2_with (go_at_call 8; refine (alive_any _).mono ?_; rintro e w1 ⟨rfl, H1⟩; have hcv := HX.out w1)
    go_wp2_with (first
      | (go_at_call 9; (with_reducible refine (D2.out _).mono ?_); rintro e w3 ⟨rfl, H3⟩)
      | (go_at_call 11; (with_reducible refine (D1.out _).mono ?_); rintro e w2 ⟨rfl, H2⟩)
      | (go_at_call 13; (with_reducible refine (D3.out _).mono ?_); rintro e w4 ⟨rfl, H4⟩))
    go_ret
    exact ⟨rfl, below_next (below_next (below_next (below_next H1 ((Below.refl _ _).alloc (Nat.le_refl _) _)) H2) H4) H3⟩

set_option maxRecDepth 100000 in
theorem walk (a0 : Int) (w : World) :
    Calls Try.prog 5 #[.int .i32 a0] w fun e w' => e = .returned (.bool true) ∧ Below w.heap.size w w' := by
  by_cases hs : (48 ≤ a0 ∧ a0 ≤ 57) ∨ (97 ≤ a0 ∧ a0 ≤ 122) ∨ (945 ≤ a0 ∧ a0 ≤ 969)
  · exact walk_small a0 w hs
  by_cases hg : (65 ≤ a0 ∧ a0 ≤ 90) ∨ (913 ≤ a0 ∧ a0 ≤ 929) ∨ (931 ≤ a0 ∧ a0 ≤ 937)
  · exact walk_great a0 w hg
  by_cases hn : (0 ≤ a0 ∧ a0 ≤ 47) ∨ (58 ≤ a0 ∧ a0 ≤ 64) ∨ (91 ≤ a0 ∧ a0 ≤ 96) ∨ (123 ≤ a0 ∧ a0 ≤ 912) ∨ (930 ≤ a0 ∧ a0 ≤ 930) ∨ (938 ≤ a0 ∧ a0 ≤ 944) ∨ (970 ≤ a0 ∧ a0 ≤ 55295) ∨ (57344 ≤ a0 ∧ a0 ≤ 1114111)
  · exact walk_none a0 w hn
  have h' : a0 < 0 ∨ (1114111 < a0 ∧ decide (a0 ≤ 57343) = false) ∨ ((55296 ≤ a0 ∧ a0 ≤ 57343) ∧ decide (a0 ≤ 57343) = true) := by
    simp only [decide_eq_true_eq, decide_eq_false_iff_not]; omega
  clear hs hg hn
  rcases h' with h | ⟨h, h2⟩ | ⟨⟨h, h1⟩, h2⟩
  all_goals
    go_enter Try.func5, Try.ntmps5
    go_wp2_with (go_at_call 8; refine (alive_any _).mono ?_; rintro e w1 ⟨rfl, H1⟩)
    go_ret
    exact ⟨rfl, H1⟩

/-! ### THE ROW's STEP: WRITTEN OUT: LEAVE IT -/
set_option maxRecDepth 100000 in
theorem lifted (os : Os) (started : os.Started) (H : Type) (enc : TypeId × Value → H) :
    ReturnsInHanded {} Try.checked os 5 .any (Rows.namesRunesSpec.pre6 enc Try.prog Try.f5 Rows.namesRunesRow.domain false) (Rows.namesRunesSpec.post enc Try.prog Try.f5 false true false false) := by
  refine returnsInHanded_of_change (C := Try.checked) own started (by kernel_rfl) Try.func5
    (ChangeSpec.witness6 (enc := enc) (C := Try.checked) false ⟨#[], #[.int .i32 0], []⟩ 8 (by kernel_rfl) (by kernel_rfl) (by kernel_rfl) (by kernel_rfl)) ?_
  intro W base args ds gs before hval0 hW hcnd _
  have hval : ∀ (j : Nat) t v, Try.f5.params[j]? = some t → args[j]? = some v → Value.okWide Try.prog W .any base t v := hval0
  have hW' := hW
  obtain ⟨p, q, hA0, hV, rfl, hfz, hnd⟩ := hW
  have hA : DataW.TrodAll enc Try.prog W 0 (fun _ => true) true Try.f5.params.toList args.toList ds p := hA0
  rw [Try.params5] at hA hval
  obtain ⟨v0, vs0, d0, ds0, p0, q0, hargs, rfl, rfl, h0, r0⟩ := trodAll_cons hA
  obtain ⟨rfl, rfl, rfl⟩ := trodAll_nil r0
  obtain rfl : args = #[v0] := by cases args; simp_all
  obtain ⟨rfl, rfl⟩ := trodVars_none hV
  obtain ⟨a0, rfl, rfl, rfl, w0⟩ := open_int Try.underlying21 (hval 0 21 v0 rfl rfl) h0
  clear hA0 hval0
  simp only [List.append_nil] at hW'
  refine (walk a0 W).mono fun e W' ⟨he, hg⟩ => ?_
  subst he
  exact ⟨_, rfl, ⟨_, _, _, [], [], [], hW', trodAll_cons_mk (shut_bool Try.underlying4 _) trodAll_mk0, trodAll_cons_mk (shut_int Try.underlying21 w0) trodAll_mk0, rfl, hg.frame _, fun h => by cases h⟩⟩

theorem over : Rows.namesRunesRow.holds Try.pinned (OpenSpec.ofChange Rows.namesRunesSpec) :=
  OpenClaim.holds_of_wide 5 Try.f5 rfl rfl rfl rfl rfl rfl rfl ⟨rfl, rfl, rfl, rfl, rfl⟩ rfl rfl rfl rfl rfl (by kernel_rfl) Try.func5 (by kernel_rfl)
    (of_decide_eq_true (by kernel_rfl)) (by unfold Func.isWrapper; first | (rw [if_pos (by decide +kernel)]; kernel_rfl) | (rw [if_neg (by decide +kernel)]; exact ⟨rfl, rfl⟩))
    (fun os started H enc _ => lifted os started H enc)

/-- ████ THE STATEMENT ████ -/
theorem proved : Rows.NamesRunesSaid :=
  over
end Go.Proofs.Ytknmdpdlcmdaeaa.namesRunes
namespace Go.Proofs.Ytknmdpdlcmdaeaa
theorem NamesRunes_holds : Rows.NamesRunesSaid := namesRunes.proved
#print axioms NamesRunes_holds
end Go.Proofs.Ytknmdpdlcmdaeaa
