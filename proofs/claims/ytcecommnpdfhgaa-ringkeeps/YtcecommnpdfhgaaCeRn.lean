/-
  What a reader tells: numbers, how much is left, whether bytes were missing; the program's and the document's own; conditions: the reader is there.
-/
import Derived.Test.YtcecommnpdfhgaaCeRd
namespace Go.Proofs.Ytcecommnpdfhgaa
open Go.RowKit
set_option linter.unusedVariables false
set_option linter.unusedSimpArgs false

theorem w64_is (n : Int) : wrap64 n = IntKind.i64.wrap n := by rw [IntKind.wrap_i64]; unfold wrap64; rfl
/-- What Num answers. -/
def GivesN (x : Int) (X : World → Prop) (e : Ending) (w' : World) : Prop := e = .returned (.int .i64 x) ∧ X w'
def Numming (xs : List Int) (w1 : World) (v i : Value) (wr : World) : Prop := ∃ k : Nat, k ≤ xs.length ∧ v = .int .i64 (w64 (val (xs.take k))) ∧ i = .int .i64 (k : Int) ∧ wr = w1
set_option maxRecDepth 100000 in
theorem num_any {p T : Nat} {S : Rs} (s : Int) (w : World) (hS : Rd w p T S) : Calls Try.prog 45 #[.pointer (some ⟨p, 0, none⟩), .int .i64 s] w (GivesN (w64 (val (got S (cutN s 8)))) (RdTo p T (aft S (cutN s 8)) w)) := by
  have HC := Lib.hid (cut8 s w)
  have hcl := cut_le s 8
  have HT := Lib.hid (take_any (cutN s 8) w hS (by omega))
  have hgl := got_len S (cutN s 8)
  clear hS
  generalize cutN s 8 = k at *
  generalize hxs : got S k = xs at *
  have HX := Lib.hid (show Took S p T k w = fun e w' => ∃ A c, e = .returned (.slice A xs.length c) ∧ Row w' A xs.length xs ∧ RdTo p T (aft S k) w w' by unfold Took; rw [hxs])
  rw [HX.out] at HT
  clear hxs HX
  go_enter Try.func45, Try.ntmps45
  go_wp2_with (first
    | (go_at_call 54; (with_reducible refine HC.out.mono ?_); rintro e w1 ⟨rfl, rfl⟩)
    | (go_at_call 62; (with_reducible refine HT.out.mono ?_); rintro e w1 ⟨A1, c1, rfl, hr1, hrd⟩))
  have HD := Lib.hid hrd
  clear HC HT hrd
  go_loopw [5, 13] (fun v i wr => Numming xs w1 v i wr) (fun _ i _ => xs.length - (intOf i).toNat)
  case atStart => exact ⟨0, by omega, rfl, rfl, rfl⟩
  case round =>
    obtain ⟨j, hj, rfl, rfl, rfl⟩ := hrel
    by_cases hlt : j < xs.length
    · obtain ⟨b, off, rfl, hbw, hcell⟩ := row_open hr1 (by omega)
      have hck := hcell j hlt
      have hz := byt_at hr1.2.1 j
      have HV := Lib.hid (show w64 (w64 (val (xs.take j)) * 256 + xs.getD j 0) = w64 (val (xs.take (j + 1))) by rw [w64_step, ← val_more, take_more xs j hlt])
      clear hcell
      generalize xs.getD j 0 = z at *
      generalize w64 (val (xs.take j)) = y at *
      have hor := or_i64 y z hz
      have i0 : (0 : Int) ≤ (j : Int) := by omega
      have i1 : (j : Int) < (xs.length : Int) := by omega
      go_wp2
      go_roundw
      case rel => exact ⟨j + 1, by omega, by rw [← HV.out, ← hor]; exact congrArg _ (congrArg (fun q => bits .or .i64 q z) (w64_is (y * 256))), by go_num, rfl⟩
      case measure => simp [intOf]; omega
    · rw [List.take_of_length_le (by omega)]
      go_wp2
      go_ret
      exact ⟨rfl, HD.out⟩
def Rumming (xs : List Int) (w1 : World) (v i : Value) (wr : World) : Prop := ∃ k : Nat, k ≤ xs.length ∧ v = .int .u64 (IntKind.u64.wrap (val (xs.take k))) ∧ i = .int .i64 (k : Int) ∧ wr = w1
end Go.Proofs.Ytcecommnpdfhgaa
