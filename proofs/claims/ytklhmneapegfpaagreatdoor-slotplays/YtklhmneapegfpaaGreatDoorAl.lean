/-
  The law's example; conditions: none.
-/
import Derived.Test.YtklhmneapegfpaaGreatDoorMSl
namespace Go.Proofs.YtklhmneapegfpaaGreatDoor
open Go.RowKit
set_option linter.unusedVariables false
set_option linter.unusedSimpArgs false

theorem byt_x {x : Int} (h : 0 ≤ x ∧ x ≤ 255) : Byt [x] := fun y hy => by simp at hy; omega
theorem pok_n {n : Nat} {b : Nat} (hn : n ≤ 400) (h : b ≤ 1000) : (⟨0, n, b⟩ : Pt).Ok (fresh n).wear.length := by
  rw [rg_len]
  exact ⟨by simp, by omega, by simp only []; omega⟩
set_option maxRecDepth 100000 in
set_option maxHeartbeats 1000000 in
theorem alive_any (w : World) : Calls Tryz.prog 4 #[] w fun e w' => e = .returned (.bool true) ∧ Below w.heap.size w w' := by
  have hn := Lib.hid (new_any 8 w)
  have hp := pok_n (n := 8) (b := 3) (by omega) (by omega)
  have hfr : freeS (fresh 8) ⟨0, 8, 3⟩ ((4 : Nat) : Int) = true := free_few hp (few_fresh 8) (by decide) (by decide)
  have hw := write_sec (calm_fresh (show 8 ≤ 400 by omega)) hp (sl := 0) (k := 0) (n := 2) (s := 4) (by decide) (by decide) hfr (byt_x (x := 120) (by omega)) (by simp)
  have hwl := (write_wears (fresh 8) ⟨0, 8, 3⟩ 0 0 2 [120]).1
  have E1 := Lib.hid hw.1
  have EI := Lib.hid (show imgL (writeW (fresh 8) ⟨0, 8, 3⟩ 0 0 2 [120]).2 ⟨0, 8, 3⟩ 0 2 1 = [120] from
    imgL_put (b := [120]) (base := 4) (k := 1) hw.2.1.ok (by rw [hwl]; exact hp) (by simp) (by simp) (by decide) (by simp) fun j hj => by
      obtain rfl : j = 0 := by omega
      exact ⟨by decide, by decide, by rw [hw.2.2.2 4 (by decide), if_pos rfl]; rfl⟩)
  have O0 := Lib.hid (show (fresh 8).ops ≤ 999999 by simp [fresh])
  have A1 := Lib.hid (show atI 1 0 2 = 6 by decide)
  clear hp hfr hw hwl
  go_enter Tryz.func4, Tryz.ntmps4
  go_wp2_with (first
    | (go_at_call 5; (with_reducible refine hn.out.mono ?_); rintro e w1 ⟨g, m, k, rfl, hg, hm, hk, f1, b1⟩; rw [show sect 8 = 8 from rfl] at f1; have HN := newArea_any 0 0 8 3 w1 f1 ⟨i64_of (by omega), i64_of (by omega), i64_of (by omega)⟩; rw [rg_len, show Pt.made 8 0 8 3 = ⟨0, 8, 3⟩ from made_n (n := 8) (b := 3) (by omega) (by omega)] at HN; unfold capCells at HN)
    | (go_at_call 7; (with_reducible refine HN.mono ?_); rintro e w2 ⟨x, rfl, hx, a2, b2⟩; clear HN; have R2 := Lib.hid (rg_made (n := 8) (b := 3) (by omega) (by omega) hg hm hk f1 b1 hx a2 b2); clear hg hm hk f1 b1 hx a2 b2 hn; have hcv := Lib.run_convert_bytes_const (P := Tryz.prog) w2 34 5 #[.int .u8 120] 1 1 Tryz.underlying34 Tryz.underlying5; have R3 := Lib.hid (R2.out.lit (.cells #[.int .u8 120] 5 (1, 2))); have HW := Lib.hid (rg_write R3.out O0.out 0 0 2 1 (row_text w2 [120] (byt_x (by omega)) 1 rfl (1, 2)) (R2.out.fresh _ 0 1 (Nat.le_refl _))))
    | (go_at_call 14; (with_reducible refine HW.out.mono ?_); rintro e w4 ⟨rfl, R4', _⟩; clear HW R3 R2 hcv; have R4 := Lib.hid R4'; rw [show (3 : Int).toNat = 3 from rfl] at R4 ⊢; rw [E1.out]; have HI := Lib.hid (rg_image R4.out 0 2 1 (i64_of (by omega))); rw [EI.out] at HI; clear R4')
    | (go_at_call 16; (with_reducible refine (from_any 1 0 2 _).mono ?_); rintro e w5 ⟨rfl, rfl⟩; rw [A1.out])
    | (go_at_call 13; (with_reducible refine (lnum_any _ _).mono ?_); rintro e w6 ⟨rfl, rfl⟩)
    | (go_at_call 21; (with_reducible refine HI.out.mono ?_); rintro e w7 ⟨v7, rfl, o7, b7⟩; obtain ⟨A7, c7, rfl, _, r7, _⟩ := o7.form; have hcv7 := conv_row (n := 1) (c := c7) r7; have R7 := Lib.hid (R4.out.kept b7); clear o7 b7 HI))
  go_ret
  exact ⟨ret_bool (by rw [ByteArray.toList_eq, strOfNums_data]; decide), R7.out.bel⟩
end Go.Proofs.YtklhmneapegfpaaGreatDoor
