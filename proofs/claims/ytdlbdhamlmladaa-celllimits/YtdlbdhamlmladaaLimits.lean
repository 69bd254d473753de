/-
  What is proved: for all numbers the law CellLimits answers true: which seqs may be, and how much a cell holds (the six limits that the law names; other numbers it lets by). Conditions: none.
-/
import Derived.Test.YtdlbdhamlmladaaAlive
import Derived.Deep.RegionWith
import Derived.Test.YtdlbdhamlmladaaRows
import Derived.WalkKit
import Derived.ProofKit
import Derived.OpenShut
import Derived.ShutString
namespace Go.Proofs.Ytdlbdhamlmladaa.cellLimits
open Go.ChangeShapes Go.WideShapes Go.ChangeAt Go.RowKit
open Go.ChangeMaps (open_string shut_string)
set_option linter.unusedVariables false
set_option linter.unusedSimpArgs false

theorem own : ownKnob Try.prog.godebug = none := by kernel_rfl

theorem made_row (w1 : World) (X Y : Array Value) (n : Nat) (hn : n ≤ 1000) : (Instr.makeSlice 22 (.int .i64 (n : Int)) (.int .i64 (n : Int))).run Try.prog ((w1.alloc (.cells X 3)).alloc (.cells Y 3)) = .ok (.slice (some ⟨w1.heap.size + 1 + 1, 0, none⟩) n n) (((w1.alloc (.cells X 3)).alloc (.cells Y 3)).alloc (.cells (zeroBytes n) 5))
    ∧ Row (((w1.alloc (.cells X 3)).alloc (.cells Y 3)).alloc (.cells (zeroBytes n) 5)) (some ⟨w1.heap.size + 1 + 1, 0, none⟩) n (List.replicate n 0) ∧ Below w1.heap.size w1 (((w1.alloc (.cells X 3)).alloc (.cells Y 3)).alloc (.cells (zeroBytes n) 5)) := by
  have hs : ((w1.alloc (.cells X 3)).alloc (.cells Y 3)).heap.size = w1.heap.size + 1 + 1 := by simp
  have h1 := make_bytes .i64 .i64 n n (Nat.le_refl _) (by omega) ((w1.alloc (.cells X 3)).alloc (.cells Y 3))
  have h2 := row_text ((w1.alloc (.cells X 3)).alloc (.cells Y 3)) (List.replicate n 0) (byt_rep n) n (by simp) (0, 0)
  have h3 : Below w1.heap.size w1 ((w1.alloc (.cells X 3)).alloc (.cells Y 3)) := ((Below.refl _ w1).alloc (Nat.le_refl _) _).alloc (by simp) _
  rw [hs] at h1 h2
  exact ⟨h1, h2, h3.alloc h3.size _⟩
set_option maxRecDepth 100000 in
set_option maxHeartbeats 4000000 in
theorem walk (a0 : Int) (w0 : (Lit.int .i64 a0).wf = true) (w : World) :
    Calls Try.prog 5 #[.int .i64 a0] w fun e w' => e = .returned (.bool true) ∧ Below w.heap.size w w' := by
  have hw := bounds_i64 w0
  clear w0
  by_cases h0 : a0 < 0
  · go_enter Try.func5, Try.ntmps5
    go_wp2_with (go_at_call 6; refine (alive_any _).mono ?_; rintro e w1 ⟨rfl, H1⟩)
    go_ret
    exact ⟨rfl, H1⟩
  by_cases h1 : 5 < a0
  · go_enter Try.func5, Try.ntmps5
    go_wp2_with (go_at_call 6; refine (alive_any _).mono ?_; rintro e w1 ⟨rfl, H1⟩)
    go_ret
    exact ⟨rfl, H1⟩
  have h2 : a0 = 0 ∨ a0 = 1 ∨ a0 = 2 ∨ a0 = 3 ∨ a0 = 4 ∨ a0 = 5 := by omega
  clear h0 h1 hw
  rcases h2 with rfl | rfl | rfl | rfl | rfl | rfl
  · have HQ := Lib.hid (show outL 0 (List.replicate 0 0) 0 = [] ∧ errN 0 0 = 1 from ⟨out_arg (fun h => by have := h.1; have := h.2; omega), err_arg (fun h => by have := h.1; have := h.2; omega)⟩)
    go_enter Try.func5, Try.ntmps5
    go_wp2_with (first
      | (go_at_call 6; refine (alive_any _).mono ?_; rintro e w1 ⟨rfl, H1⟩; obtain ⟨hmk, hr3, b3⟩ := made_row w1 #[.int .i64 0, .int .i64 1, .int .i64 2147483647, .int .i64 2147483648, .int .i64 5, .int .i64 5] #[.int .i64 0, .int .i64 0, .int .i64 0, .int .i64 0, .int .i64 156, .int .i64 157] 0 (by omega); replace hmk : (Instr.makeSlice 22 (.int .i64 0) (.int .i64 0)).run Try.prog ((w1.alloc (.cells #[.int .i64 0, .int .i64 1, .int .i64 2147483647, .int .i64 2147483648, .int .i64 5, .int .i64 5] 3)).alloc (.cells #[.int .i64 0, .int .i64 0, .int .i64 0, .int .i64 0, .int .i64 156, .int .i64 157] 3)) = .ok (.slice (some ⟨w1.heap.size + 1 + 1, 0, none⟩) 0 0) (((w1.alloc (.cells #[.int .i64 0, .int .i64 1, .int .i64 2147483647, .int .i64 2147483648, .int .i64 5, .int .i64 5] 3)).alloc (.cells #[.int .i64 0, .int .i64 0, .int .i64 0, .int .i64 0, .int .i64 156, .int .i64 157] 3)).alloc (.cells (zeroBytes 0) 5)) := hmk; have HP := Lib.hid (cput_any 0 (some ⟨w1.heap.size + 1 + 1, 0, none⟩) 0 0 _ _ (by omega) hr3); rw [HQ.out.1, HQ.out.2] at HP; have HB3 := Lib.hid b3; clear hr3 b3)
      | (go_at_call 7; (with_reducible refine HP.out.mono ?_); rintro e w2 ⟨v2, rfl, o2, g2⟩; clear HP hmk;  obtain ⟨A2, c2, rfl, _, r2, _⟩ := o2.form; clear o2))
    have HT2 := Lib.hid (belowThen H1 (belowThen HB3.out g2))
    have HR2 := Lib.hid r2
    clear r2 g2 HB3 H1
    go_region_with (go_at_call 11; (with_reducible refine (lnum_any _ _).mono ?_); rintro e w4 ⟨rfl, rfl⟩)
    all_goals
      have b5 : Below w2.heap.size w2 (w2.alloc (.cells #[.int .i64 1, .int .i64 0, .int .i64 0, .int .i64 1, .int .i64 0, .int .i64 10] 3)).drew := ((Below.refl _ w2).alloc (Nat.le_refl _) _).drew
      have HG := Lib.hid (cget_any A2 0 c2 _ (w2.alloc (.cells #[.int .i64 1, .int .i64 0, .int .i64 0, .int .i64 1, .int .i64 0, .int .i64 10] 3)).drew (row_below b5 HR2.out))
      have HT5 := Lib.hid (belowThen HT2.out b5)
      clear b5 HT2 HR2
      go_wp2_with (first
        | (go_at_call 9; (with_reducible refine HG.out.mono ?_); rintro e w6 ⟨n6, v6, rs6, b6, rfl, hc6, o6, g6⟩; clear HG; obtain ⟨rfl, rfl, rfl⟩ := cell_nil hc6; clear hc6 o6)
        | (go_at_call 11; (with_reducible refine (lnum_any _ _).mono ?_); rintro e w7 ⟨rfl, rfl⟩))
      go_ret
      exact ⟨rfl, belowThen HT5.out g6⟩
  · have HQ := Lib.hid (show outL 1 (List.replicate 0 0) 0 = cellL 1 (List.replicate 0 0) ∧ errN 1 0 = 0 from ⟨out_some ⟨by omega, by omega⟩ (by omega), err_none ⟨by omega, by omega⟩ (by omega)⟩)
    go_enter Try.func5, Try.ntmps5
    go_wp2_with (first
      | (go_at_call 6; refine (alive_any _).mono ?_; rintro e w1 ⟨rfl, H1⟩; obtain ⟨hmk, hr3, b3⟩ := made_row w1 #[.int .i64 0, .int .i64 1, .int .i64 2147483647, .int .i64 2147483648, .int .i64 5, .int .i64 5] #[.int .i64 0, .int .i64 0, .int .i64 0, .int .i64 0, .int .i64 156, .int .i64 157] 0 (by omega); replace hmk : (Instr.makeSlice 22 (.int .i64 0) (.int .i64 0)).run Try.prog ((w1.alloc (.cells #[.int .i64 0, .int .i64 1, .int .i64 2147483647, .int .i64 2147483648, .int .i64 5, .int .i64 5] 3)).alloc (.cells #[.int .i64 0, .int .i64 0, .int .i64 0, .int .i64 0, .int .i64 156, .int .i64 157] 3)) = .ok (.slice (some ⟨w1.heap.size + 1 + 1, 0, none⟩) 0 0) (((w1.alloc (.cells #[.int .i64 0, .int .i64 1, .int .i64 2147483647, .int .i64 2147483648, .int .i64 5, .int .i64 5] 3)).alloc (.cells #[.int .i64 0, .int .i64 0, .int .i64 0, .int .i64 0, .int .i64 156, .int .i64 157] 3)).alloc (.cells (zeroBytes 0) 5)) := hmk; have HP := Lib.hid (cput_any 1 (some ⟨w1.heap.size + 1 + 1, 0, none⟩) 0 0 _ _ (by omega) hr3); rw [HQ.out.1, HQ.out.2] at HP; have HB3 := Lib.hid b3; clear hr3 b3)
      | (go_at_call 7; (with_reducible refine HP.out.mono ?_); rintro e w2 ⟨v2, rfl, o2, g2⟩; clear HP hmk; rw [cell_len] at o2; obtain ⟨A2, c2, rfl, _, r2, _⟩ := o2.form; clear o2))
    have HT2 := Lib.hid (belowThen H1 (belowThen HB3.out g2))
    have HR2 := Lib.hid r2
    clear r2 g2 HB3 H1
    go_region_with (go_at_call 11; (with_reducible refine (lnum_any _ _).mono ?_); rintro e w4 ⟨rfl, rfl⟩)
    all_goals
      have b5 : Below w2.heap.size w2 (w2.alloc (.cells #[.int .i64 1, .int .i64 0, .int .i64 0, .int .i64 1, .int .i64 0, .int .i64 10] 3)).drew := ((Below.refl _ w2).alloc (Nat.le_refl _) _).drew
      have HG := Lib.hid (cget_any A2 320 c2 _ (w2.alloc (.cells #[.int .i64 1, .int .i64 0, .int .i64 0, .int .i64 1, .int .i64 0, .int .i64 10] 3)).drew (row_below b5 HR2.out))
      have HT5 := Lib.hid (belowThen HT2.out b5)
      clear b5 HT2 HR2
      go_wp2_with (first
        | (go_at_call 9; (with_reducible refine HG.out.mono ?_); rintro e w6 ⟨n6, v6, rs6, b6, rfl, hc6, o6, g6⟩; clear HG; obtain ⟨rfl, rfl, rfl⟩ := cell_back ⟨by omega, by omega⟩ hc6; clear hc6 o6)
        | (go_at_call 11; (with_reducible refine (lnum_any _ _).mono ?_); rintro e w7 ⟨rfl, rfl⟩))
      go_ret
      exact ⟨rfl, belowThen HT5.out g6⟩
  · have HQ := Lib.hid (show outL 2147483647 (List.replicate 0 0) 0 = cellL 2147483647 (List.replicate 0 0) ∧ errN 2147483647 0 = 0 from ⟨out_some ⟨by omega, by omega⟩ (by omega), err_none ⟨by omega, by omega⟩ (by omega)⟩)
    go_enter Try.func5, Try.ntmps5
    go_wp2_with (first
      | (go_at_call 6; refine (alive_any _).mono ?_; rintro e w1 ⟨rfl, H1⟩; obtain ⟨hmk, hr3, b3⟩ := made_row w1 #[.int .i64 0, .int .i64 1, .int .i64 2147483647, .int .i64 2147483648, .int .i64 5, .int .i64 5] #[.int .i64 0, .int .i64 0, .int .i64 0, .int .i64 0, .int .i64 156, .int .i64 157] 0 (by omega); replace hmk : (Instr.makeSlice 22 (.int .i64 0) (.int .i64 0)).run Try.prog ((w1.alloc (.cells #[.int .i64 0, .int .i64 1, .int .i64 2147483647, .int .i64 2147483648, .int .i64 5, .int .i64 5] 3)).alloc (.cells #[.int .i64 0, .int .i64 0, .int .i64 0, .int .i64 0, .int .i64 156, .int .i64 157] 3)) = .ok (.slice (some ⟨w1.heap.size + 1 + 1, 0, none⟩) 0 0) (((w1.alloc (.cells #[.int .i64 0, .int .i64 1, .int .i64 2147483647, .int .i64 2147483648, .int .i64 5, .int .i64 5] 3)).alloc (.cells #[.int .i64 0, .int .i64 0, .int .i64 0, .int .i64 0, .int .i64 156, .int .i64 157] 3)).alloc (.cells (zeroBytes 0) 5)) := hmk; have HP := Lib.hid (cput_any 2147483647 (some ⟨w1.heap.size + 1 + 1, 0, none⟩) 0 0 _ _ (by omega) hr3); rw [HQ.out.1, HQ.out.2] at HP; have HB3 := Lib.hid b3; clear hr3 b3)
      | (go_at_call 7; (with_reducible refine HP.out.mono ?_); rintro e w2 ⟨v2, rfl, o2, g2⟩; clear HP hmk; rw [cell_len] at o2; obtain ⟨A2, c2, rfl, _, r2, _⟩ := o2.form; clear o2))
    have HT2 := Lib.hid (belowThen H1 (belowThen HB3.out g2))
    have HR2 := Lib.hid r2
    clear r2 g2 HB3 H1
    go_region_with (go_at_call 11; (with_reducible refine (lnum_any _ _).mono ?_); rintro e w4 ⟨rfl, rfl⟩)
    all_goals
      have b5 : Below w2.heap.size w2 (w2.alloc (.cells #[.int .i64 1, .int .i64 0, .int .i64 0, .int .i64 1, .int .i64 0, .int .i64 10] 3)).drew := ((Below.refl _ w2).alloc (Nat.le_refl _) _).drew
      have HG := Lib.hid (cget_any A2 320 c2 _ (w2.alloc (.cells #[.int .i64 1, .int .i64 0, .int .i64 0, .int .i64 1, .int .i64 0, .int .i64 10] 3)).drew (row_below b5 HR2.out))
      have HT5 := Lib.hid (belowThen HT2.out b5)
      clear b5 HT2 HR2
      go_wp2_with (first
        | (go_at_call 9; (with_reducible refine HG.out.mono ?_); rintro e w6 ⟨n6, v6, rs6, b6, rfl, hc6, o6, g6⟩; clear HG; obtain ⟨rfl, rfl, rfl⟩ := cell_back ⟨by omega, by omega⟩ hc6; clear hc6 o6)
        | (go_at_call 11; (with_reducible refine (lnum_any _ _).mono ?_); rintro e w7 ⟨rfl, rfl⟩))
      go_ret
      exact ⟨rfl, belowThen HT5.out g6⟩
  · have HQ := Lib.hid (show outL 2147483648 (List.replicate 0 0) 0 = [] ∧ errN 2147483648 0 = 1 from ⟨out_arg (fun h => by have := h.1; have := h.2; omega), err_arg (fun h => by have := h.1; have := h.2; omega)⟩)
    go_enter Try.func5, Try.ntmps5
    go_wp2_with (first
      | (go_at_call 6; refine (alive_any _).mono ?_; rintro e w1 ⟨rfl, H1⟩; obtain ⟨hmk, hr3, b3⟩ := made_row w1 #[.int .i64 0, .int .i64 1, .int .i64 2147483647, .int .i64 2147483648, .int .i64 5, .int .i64 5] #[.int .i64 0, .int .i64 0, .int .i64 0, .int .i64 0, .int .i64 156, .int .i64 157] 0 (by omega); replace hmk : (Instr.makeSlice 22 (.int .i64 0) (.int .i64 0)).run Try.prog ((w1.alloc (.cells #[.int .i64 0, .int .i64 1, .int .i64 2147483647, .int .i64 2147483648, .int .i64 5, .int .i64 5] 3)).alloc (.cells #[.int .i64 0, .int .i64 0, .int .i64 0, .int .i64 0, .int .i64 156, .int .i64 157] 3)) = .ok (.slice (some ⟨w1.heap.size + 1 + 1, 0, none⟩) 0 0) (((w1.alloc (.cells #[.int .i64 0, .int .i64 1, .int .i64 2147483647, .int .i64 2147483648, .int .i64 5, .int .i64 5] 3)).alloc (.cells #[.int .i64 0, .int .i64 0, .int .i64 0, .int .i64 0, .int .i64 156, .int .i64 157] 3)).alloc (.cells (zeroBytes 0) 5)) := hmk; have HP := Lib.hid (cput_any 2147483648 (some ⟨w1.heap.size + 1 + 1, 0, none⟩) 0 0 _ _ (by omega) hr3); rw [HQ.out.1, HQ.out.2] at HP; have HB3 := Lib.hid b3; clear hr3 b3)
      | (go_at_call 7; (with_reducible refine HP.out.mono ?_); rintro e w2 ⟨v2, rfl, o2, g2⟩; clear HP hmk;  obtain ⟨A2, c2, rfl, _, r2, _⟩ := o2.form; clear o2))
    have HT2 := Lib.hid (belowThen H1 (belowThen HB3.out g2))
    have HR2 := Lib.hid r2
    clear r2 g2 HB3 H1
    go_region_with (go_at_call 11; (with_reducible refine (lnum_any _ _).mono ?_); rintro e w4 ⟨rfl, rfl⟩)
    all_goals
      have b5 : Below w2.heap.size w2 (w2.alloc (.cells #[.int .i64 1, .int .i64 0, .int .i64 0, .int .i64 1, .int .i64 0, .int .i64 10] 3)).drew := ((Below.refl _ w2).alloc (Nat.le_refl _) _).drew
      have HG := Lib.hid (cget_any A2 0 c2 _ (w2.alloc (.cells #[.int .i64 1, .int .i64 0, .int .i64 0, .int .i64 1, .int .i64 0, .int .i64 10] 3)).drew (row_below b5 HR2.out))
      have HT5 := Lib.hid (belowThen HT2.out b5)
      clear b5 HT2 HR2
      go_wp2_with (first
        | (go_at_call 9; (with_reducible refine HG.out.mono ?_); rintro e w6 ⟨n6, v6, rs6, b6, rfl, hc6, o6, g6⟩; clear HG; obtain ⟨rfl, rfl, rfl⟩ := cell_nil hc6; clear hc6 o6)
        | (go_at_call 11; (with_reducible refine (lnum_any _ _).mono ?_); rintro e w7 ⟨rfl, rfl⟩))
      go_ret
      exact ⟨rfl, belowThen HT5.out g6⟩
  · have HQ := Lib.hid (show outL 5 (List.replicate 156 0) 156 = cellL 5 (List.replicate 156 0) ∧ errN 5 156 = 0 from ⟨out_some ⟨by omega, by omega⟩ (by omega), err_none ⟨by omega, by omega⟩ (by omega)⟩)
    go_enter Try.func5, Try.ntmps5
    go_wp2_with (first
      | (go_at_call 6; refine (alive_any _).mono ?_; rintro e w1 ⟨rfl, H1⟩; obtain ⟨hmk, hr3, b3⟩ := made_row w1 #[.int .i64 0, .int .i64 1, .int .i64 2147483647, .int .i64 2147483648, .int .i64 5, .int .i64 5] #[.int .i64 0, .int .i64 0, .int .i64 0, .int .i64 0, .int .i64 156, .int .i64 157] 156 (by omega); replace hmk : (Instr.makeSlice 22 (.int .i64 156) (.int .i64 156)).run Try.prog ((w1.alloc (.cells #[.int .i64 0, .int .i64 1, .int .i64 2147483647, .int .i64 2147483648, .int .i64 5, .int .i64 5] 3)).alloc (.cells #[.int .i64 0, .int .i64 0, .int .i64 0, .int .i64 0, .int .i64 156, .int .i64 157] 3)) = .ok (.slice (some ⟨w1.heap.size + 1 + 1, 0, none⟩) 156 156) (((w1.alloc (.cells #[.int .i64 0, .int .i64 1, .int .i64 2147483647, .int .i64 2147483648, .int .i64 5, .int .i64 5] 3)).alloc (.cells #[.int .i64 0, .int .i64 0, .int .i64 0, .int .i64 0, .int .i64 156, .int .i64 157] 3)).alloc (.cells (zeroBytes 156) 5)) := hmk; have HP := Lib.hid (cput_any 5 (some ⟨w1.heap.size + 1 + 1, 0, none⟩) 156 156 _ _ (by omega) hr3); rw [HQ.out.1, HQ.out.2] at HP; have HB3 := Lib.hid b3; clear hr3 b3)
      | (go_at_call 7; (with_reducible refine HP.out.mono ?_); rintro e w2 ⟨v2, rfl, o2, g2⟩; clear HP hmk; rw [cell_len] at o2; obtain ⟨A2, c2, rfl, _, r2, _⟩ := o2.form; clear o2))
    have HT2 := Lib.hid (belowThen H1 (belowThen HB3.out g2))
    have HR2 := Lib.hid r2
    clear r2 g2 HB3 H1
    go_region_with (go_at_call 11; (with_reducible refine (lnum_any _ _).mono ?_); rintro e w4 ⟨rfl, rfl⟩)
    all_goals
      have b5 : Below w2.heap.size w2 (w2.alloc (.cells #[.int .i64 1, .int .i64 0, .int .i64 0, .int .i64 1, .int .i64 0, .int .i64 10] 3)).drew := ((Below.refl _ w2).alloc (Nat.le_refl _) _).drew
      have HG := Lib.hid (cget_any A2 320 c2 _ (w2.alloc (.cells #[.int .i64 1, .int .i64 0, .int .i64 0, .int .i64 1, .int .i64 0, .int .i64 10] 3)).drew (row_below b5 HR2.out))
      have HT5 := Lib.hid (belowThen HT2.out b5)
      clear b5 HT2 HR2
      go_wp2_with (first
        | (go_at_call 9; (with_reducible refine HG.out.mono ?_); rintro e w6 ⟨n6, v6, rs6, b6, rfl, hc6, o6, g6⟩; clear HG; obtain ⟨rfl, rfl, rfl⟩ := cell_back ⟨by omega, by omega⟩ hc6; clear hc6 o6)
        | (go_at_call 11; (with_reducible refine (lnum_any _ _).mono ?_); rintro e w7 ⟨rfl, rfl⟩))
      go_ret
      exact ⟨rfl, belowThen HT5.out g6⟩
  · have HQ := Lib.hid (show outL 5 (List.replicate 157 0) 157 = [] ∧ errN 5 157 = 10 from ⟨out_long (by omega), err_long ⟨by omega, by omega⟩ (by omega)⟩)
    go_enter Try.func5, Try.ntmps5
    go_wp2_with (first
      | (go_at_call 6; refine (alive_any _).mono ?_; rintro e w1 ⟨rfl, H1⟩; obtain ⟨hmk, hr3, b3⟩ := made_row w1 #[.int .i64 0, .int .i64 1, .int .i64 2147483647, .int .i64 2147483648, .int .i64 5, .int .i64 5] #[.int .i64 0, .int .i64 0, .int .i64 0, .int .i64 0, .int .i64 156, .int .i64 157] 157 (by omega); replace hmk : (Instr.makeSlice 22 (.int .i64 157) (.int .i64 157)).run Try.prog ((w1.alloc (.cells #[.int .i64 0, .int .i64 1, .int .i64 2147483647, .int .i64 2147483648, .int .i64 5, .int .i64 5] 3)).alloc (.cells #[.int .i64 0, .int .i64 0, .int .i64 0, .int .i64 0, .int .i64 156, .int .i64 157] 3)) = .ok (.slice (some ⟨w1.heap.size + 1 + 1, 0, none⟩) 157 157) (((w1.alloc (.cells #[.int .i64 0, .int .i64 1, .int .i64 2147483647, .int .i64 2147483648, .int .i64 5, .int .i64 5] 3)).alloc (.cells #[.int .i64 0, .int .i64 0, .int .i64 0, .int .i64 0, .int .i64 156, .int .i64 157] 3)).alloc (.cells (zeroBytes 157) 5)) := hmk; have HP := Lib.hid (cput_any 5 (some ⟨w1.heap.size + 1 + 1, 0, none⟩) 157 157 _ _ (by omega) hr3); rw [HQ.out.1, HQ.out.2] at HP; have HB3 := Lib.hid b3; clear hr3 b3)
      | (go_at_call 7; (with_reducible refine HP.out.mono ?_); rintro e w2 ⟨v2, rfl, o2, g2⟩; clear HP hmk;  obtain ⟨A2, c2, rfl, _, r2, _⟩ := o2.form; clear o2))
    have HT2 := Lib.hid (belowThen H1 (belowThen HB3.out g2))
    have HR2 := Lib.hid r2
    clear r2 g2 HB3 H1
    go_region_with (go_at_call 11; (with_reducible refine (lnum_any _ _).mono ?_); rintro e w4 ⟨rfl, rfl⟩)
    all_goals
      have b5 : Below w2.heap.size w2 (w2.alloc (.cells #[.int .i64 1, .int .i64 0, .int .i64 0, .int .i64 1, .int .i64 0, .int .i64 10] 3)).drew := ((Below.refl _ w2).alloc (Nat.le_refl _) _).drew
      have HG := Lib.hid (cget_any A2 0 c2 _ (w2.alloc (.cells #[.int .i64 1, .int .i64 0, .int .i64 0, .int .i64 1, .int .i64 0, .int .i64 10] 3)).drew (row_below b5 HR2.out))
      have HT5 := Lib.hid (belowThen HT2.out b5)
      clear b5 HT2 HR2
      go_wp2_with (first
        | (go_at_call 9; (with_reducible refine HG.out.mono ?_); rintro e w6 ⟨n6, v6, rs6, b6, rfl, hc6, o6, g6⟩; clear HG; obtain ⟨rfl, rfl, rfl⟩ := cell_nil hc6; clear hc6 o6)
        | (go_at_call 11; (with_reducible refine (lnum_any _ _).mono ?_); rintro e w7 ⟨rfl, rfl⟩))
      go_ret
      exact ⟨rfl, belowThen HT5.out g6⟩

/-! ### THE ROW's STEP: WRITTEN OUT: LEAVE IT -/
set_option maxRecDepth 100000 in
theorem lifted (os : Os) (started : os.Started) (H : Type) (enc : TypeId × Value → H) :
    ReturnsInHanded {} Try.checked os 5 .any (Rows.cellLimitsSpec.pre6 enc Try.prog Try.f5 Rows.cellLimitsRow.domain false) (Rows.cellLimitsSpec.post enc Try.prog Try.f5 false true false false) := by
  refine returnsInHanded_of_change (C := Try.checked) own started (by kernel_rfl) Try.func5
    (ChangeSpec.witness6 (enc := enc) (C := Try.checked) false ⟨#[], #[.int .i64 0], []⟩ 8 (by kernel_rfl) (by kernel_rfl) (by kernel_rfl) (by kernel_rfl)) ?_
  intro W base args ds gs before hval0 hW hcnd _
  have hval : ∀ (j : Nat) t v, Try.f5.params[j]? = some t → args[j]? = some v → Value.okWide Try.prog W .any base t v := hval0
  have hW' := hW
  obtain ⟨p, q, hA0, hV, rfl, hfz, hnd⟩ := hW
  have hA : DataW.TrodAll enc Try.prog W 0 (fun _ => true) true Try.f5.params.toList args.toList ds p := hA0
  rw [Try.params5] at hA hval
  obtain ⟨v0, vs0, d0, ds0, p0, q0, hargs, rfl, rfl, h0, r0⟩ := trodAll_cons hA
  obtain ⟨rfl, rfl, rfl⟩ := trodAll_nil r0
  obtain rfl : args = #[v0] := by cases args; simp_all
  obtain ⟨rfl, rfl⟩ := trodVars_none hV
  obtain ⟨a0, rfl, rfl, rfl, w0⟩ := open_int Try.underlying3 (hval 0 3 v0 rfl rfl) h0
  clear hA0 hval0
  simp only [List.append_nil] at hW'
  refine (walk a0 w0 W).mono fun e W' ⟨he, hg⟩ => ?_
  subst he
  exact ⟨_, rfl, ⟨_, _, _, [], [], [], hW', trodAll_cons_mk (shut_bool Try.underlying4 _) trodAll_mk0, (trodAll_cons_mk (shut_int Try.underlying3 w0) trodAll_mk0), rfl, hg.frame _, fun h => by cases h⟩⟩

theorem over : Rows.cellLimitsRow.holds Try.pinned (OpenSpec.ofChange Rows.cellLimitsSpec) :=
  OpenClaim.holds_of_wide 5 Try.f5 rfl rfl rfl rfl rfl rfl rfl ⟨rfl, rfl, rfl, rfl, rfl⟩ rfl rfl rfl rfl rfl (by kernel_rfl) Try.func5 (by kernel_rfl)
    (of_decide_eq_true (by kernel_rfl)) (by unfold Func.isWrapper; first | (rw [if_pos (by decide +kernel)]; kernel_rfl) | (rw [if_neg (by decide +kernel)]; exact ⟨rfl, rfl⟩))
    (fun os started H enc _ => lifted os started H enc)

/-- ████ THE STATEMENT ████ -/
theorem proved : Rows.CellLimitsSaid :=
  over
end Go.Proofs.Ytdlbdhamlmladaa.cellLimits
namespace Go.Proofs.Ytdlbdhamlmladaa
theorem CellLimits_holds : Rows.CellLimitsSaid := cellLimits.proved
#print axioms CellLimits_holds
end Go.Proofs.Ytdlbdhamlmladaa
