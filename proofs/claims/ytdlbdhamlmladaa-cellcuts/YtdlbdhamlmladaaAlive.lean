/-
  The document's example, and a cell; conditions: none.
-/
import Derived.Test.YtdlbdhamlmladaaCget
import Derived.Lib.SlBytesConst
namespace Go.Proofs.Ytdlbdhamlmladaa
open Go.RowKit
set_option linter.unusedVariables false
set_option linter.unusedSimpArgs false

theorem lnum_any (n : Int) (w : World) : Calls Try.prog 11 #[.int .i64 n] w fun e w' => e = .returned (.int .i64 n) ∧ w = w' := by
  go_enter Try.func11, Try.ntmps11
  go_wp2
  go_ret
  exact ⟨rfl, rfl⟩
theorem seq_one : Seq 1 := ⟨by omega, by omega⟩
set_option maxRecDepth 100000 in
theorem alive_any (w : World) : Calls Try.prog 6 #[] w fun e w' => e = .returned (.bool true) ∧ Below w.heap.size w w' := by
  have HG := Lib.hid (cget_any none 0 0 [] w (row_nil w))
  go_enter Try.func6, Try.ntmps6
  go_wp2_with (first
    | (go_at_call 9; (with_reducible refine HG.out.mono ?_); rintro e w1 ⟨n1, v1, rs1, b1, rfl, hc1, _, g1⟩; clear HG; obtain ⟨rfl, rfl, rfl⟩ := cell_nil hc1; clear hc1; have hcv := Lib.run_convert_bytes_const (P := Try.prog) w1 22 5 #[.int .u8 97] 1 1 Try.underlying22 Try.underlying5; have hr : Row (w1.alloc (.cells #[.int .u8 97] 5 (1, 2))) (some ⟨w1.heap.size, 0, none⟩) 1 [97] := row_text w1 [97] (byt_one (by omega)) 1 rfl (1, 2); have HP := Lib.hid (cput_any 1 (some ⟨w1.heap.size, 0, none⟩) 1 1 [97] _ (by omega) hr); rw [out_some seq_one (by omega), err_none seq_one (by omega)] at HP; have b0 : Below w1.heap.size w1 (w1.alloc (.cells #[.int .u8 97] 5 (1, 2))) := (Below.refl _ _).alloc (Nat.le_refl _) _; clear hr)
    | (go_at_call 7; (with_reducible refine HP.out.mono ?_); rintro e w2 ⟨v2, rfl, o2, g2⟩; clear HP hcv; rw [cell_len] at o2; obtain ⟨A2, c2, rfl, _, r2, _⟩ := o2.form; clear o2; have HB := Lib.hid (cget_any A2 320 c2 _ w2 r2); clear r2)
    | (go_at_call 9; (with_reducible refine HB.out.mono ?_); rintro e w3 ⟨n3, v3, rs3, b3, rfl, hc3, o3, g3⟩; clear HB; obtain ⟨rfl, rfl, rfl⟩ := cell_back seq_one hc3; rw [raw_len] at o3; obtain ⟨A3, c3, rfl, _, _, _⟩ := o3.form; clear o3 hc3)
    | (go_at_call 11; (with_reducible refine (lnum_any _ _).mono ?_); rintro e w4 ⟨rfl, rfl⟩))
  go_ret
  exact ⟨rfl, belowThen (belowThen (belowThen g1 b0) g2) g3⟩
end Go.Proofs.Ytdlbdhamlmladaa
