/-
  The calls of crc and the document's own sum, over a row of bytes; conditions: a sum has 32 bits, the row reads as bytes.
-/
import Derived.Test.YtcdbfpfjackloaaRows
import Derived.Test.YtcdbfpfjackloaaPlain
import Derived.WalkKit
import Derived.WalkSmall
import Derived.Lib.Hide
import Derived.LoopTactic
namespace Go.Proofs.Ytcdbfpfjackloaa
open Go.RowKit
set_option linter.unusedVariables false

theorem ret_int {k : IntKind} {a b : Int} (h : a = b) : Ending.returned (.int k a) = .returned (.int k b) := by rw [h]
theorem val_u32 {a b : Int} (h : a = b) : Value.int .u32 a = Value.int .u32 b := by rw [h]
/-- A slice of n bytes that reads as the numbers zs (nil, or empty: whatever its address). -/
def Row (w : World) (a : Option Addr) (n : Nat) (zs : List Int) : Prop :=
  zs.length = n ∧ Byt zs ∧ (n = 0 ∨ ∃ b off, a = some ⟨b, off, none⟩ ∧ b < w.heap.size ∧ ∀ j, j < n → w.cell? ⟨b, off + j, none⟩ = some (.int .u8 (zs.getD j 0)))

theorem and_one (x : Nat) (hx : x < 2 ^ 32) : bits .and .u32 (x : Int) 1 = ((x % 2 : Nat) : Int) := by
  have := u32_and_nat x 1 (by omega) (by omega)
  rw [nat_mask1] at this
  exact this

theorem half (y : Nat) : (y : Int) / 2 = ((y / 2 : Nat) : Int) := by omega
theorem xor_nat (x y : Nat) (hx : x < 2 ^ 32) (hy : y < 2 ^ 32) : bits .xor .u32 (x : Int) (y : Int) = ((x ^^^ y : Nat) : Int) := u32_xor_nat x y (by omega) (by omega)
theorem out_one {y : Nat} (hy : y < 2 ^ 32) (h : y % 2 = 1) : bits .xor .u32 ((y : Int) / 2) 3988292384 = (stepN y : Nat) := by
  rw [half]
  have := xor_nat (y / 2) 3988292384 (by omega) (by omega)
  unfold stepN
  rw [if_pos h]
  exact this
theorem out_none {y : Nat} (h : ¬ y % 2 = 1) : (y : Int) / 2 = (stepN y : Nat) := by
  rw [half]
  unfold stepN
  rw [if_neg h, Nat.xor_zero]
theorem mask_one : bits .and .u32 3988292384 4294967295 = 3988292384 := by decide +kernel
theorem mask_none : bits .and .u32 3988292384 0 = 0 := by decide +kernel
theorem out_zero {y : Nat} (hy : y < 2 ^ 32) (h : ¬ y % 2 = 1) : bits .xor .u32 ((y : Int) / 2) 0 = (stepN y : Nat) := by
  rw [← out_none h, half]
  have := xor_nat (y / 2) 0 (by omega) (by omega)
  rw [Nat.xor_zero] at this
  exact this

theorem all_ones {x : Nat} (hx : x < 2 ^ 32) : x ^^^ 4294967295 = flipN x := by
  have h1 : (BitVec.ofNat 32 x ^^^ BitVec.allOnes 32) = ~~~ (BitVec.ofNat 32 x) := BitVec.xor_allOnes
  have h2 := congrArg BitVec.toNat h1
  rw [BitVec.toNat_xor, BitVec.toNat_not, BitVec.toNat_allOnes, BitVec.toNat_ofNat, Nat.mod_eq_of_lt hx] at h2
  exact h2
theorem flip_right {x : Nat} (hx : x < 2 ^ 32) : bits .xor .u32 (x : Int) 4294967295 = (flipN x : Nat) := by
  have := xor_nat x 4294967295 hx (by omega)
  rw [all_ones hx] at this
  exact this
theorem flip_left {x : Nat} (hx : x < 2 ^ 32) : bits .xor .u32 IntKind.u32.max (x : Int) = (flipN x : Nat) := by
  have := xor_nat 4294967295 x (by omega) hx
  rw [Nat.xor_comm, all_ones hx] at this
  exact this

set_option maxRecDepth 100000 in
theorem divided_any (x : Nat) (w : World) (hx : x < 2 ^ 32) :
    Calls Try.prog 12 #[.int .u32 (x : Int)] w fun e w' => e = .returned (.int .u32 (stepsN 8 x : Nat)) ∧ w = w' := by
  go_enter Try.func12, Try.ntmps12
  go_wp2
  go_loop [0, 4] (fun v i => ∃ k : Nat, k ≤ 8 ∧ i = .int .i64 k ∧ v = .int .u32 (stepsN k x : Nat)) (fun _ i => 8 - (intOf i).toNat)
  case atStart => exact ⟨0, by omega, rfl, rfl⟩
  case round =>
    obtain ⟨k, hk, rfl, rfl⟩ := hrel
    have hd := stepsN_lt hx k
    have ha := and_one _ hd
    by_cases h8 : k < 8
    · have HS := Lib.hid (show stepsN (k + 1) x = stepN (stepsN k x) from rfl)
      generalize stepsN k x = y at *
      by_cases h2 : y % 2 = 1
      · rw [h2] at ha
        go_wp2
        go_round
        case rel => exact ⟨k + 1, by omega, by go_num, val_u32 (by rw [mask_one, HS.out]; exact out_one hd h2)⟩
        case measure => simp [intOf]; omega
      · rw [show y % 2 = 0 by omega] at ha
        go_wp2
        go_round
        case rel => exact ⟨k + 1, by omega, by go_num, val_u32 (by rw [mask_none, HS.out]; exact out_zero hd h2)⟩
        case measure => simp [intOf]; omega
    · go_wp2
      go_ret
      exact ⟨ret_int (by rw [show k = 8 by omega]), rfl⟩

set_option maxRecDepth 100000 in
theorem more_any (s : Nat) (a : Option Addr) (n cap : Nat) (zs : List Int) (w : World) (hs : s < 2 ^ 32) (hr : Row w a n zs) (hn : n ≤ 1000000) :
    Calls Try.prog 10 #[.int .u32 (s : Int), .slice a n cap] w fun e w' => e = .returned (.int .u32 (moreN s zs : Nat)) ∧ w = w' := by
  obtain ⟨hl, hb, hc⟩ := hr
  have HL := Lib.hid hl
  have HC := Lib.hid hc
  clear hl hc
  have HF := Lib.hid (flipN_lt s)
  go_enter Try.func10, Try.ntmps10
  go_wp2
  go_loop [5, 12] (fun v i => ∃ k : Nat, k ≤ n ∧ i = .int .i64 k ∧ v = .int .u32 (runN (flipN s) (zs.take k) : Nat)) (fun _ i => n - (intOf i).toNat)
  case atStart =>
    exact ⟨0, by omega, rfl, val_u32 (flip_left hs)⟩
  case round =>
    obtain ⟨k, hk, rfl, rfl⟩ := hrel
    have hd := runN_lt (byt_take hb k) HF.out
    by_cases hlt : k < n
    · have HS := Lib.hid (run_take (flipN s) zs k (by have := HL.out; omega))
      generalize runN (flipN s) (zs.take k) = y at *
      rcases HC.out with h0 | ⟨b, off, rfl, hbw, hcell⟩
      · omega
      · have hck := hcell k hlt
        have hz := byt_at hb k
        clear hcell
        generalize zs.getD k 0 = z at *
        obtain ⟨z, rfl⟩ := Int.eq_ofNat_of_zero_le hz.1
        have hx := xor_nat y z hd (by omega)
        have hq : y ^^^ z < 2 ^ 32 := Nat.xor_lt_two_pow hd (by omega)
        go_wp2_with (go_at_call 12; refine (divided_any _ _ hq).mono ?_; rintro e w' ⟨rfl, rfl⟩)
        go_round
        case rel => exact ⟨k + 1, by omega, by go_num, val_u32 (by rw [HS.out]; rfl)⟩
        case measure => simp [intOf]; omega
    · go_wp2
      go_ret
      exact ⟨ret_int (by rw [flip_left hd, List.take_of_length_le (by have := HL.out; omega)]; rfl), rfl⟩
set_option maxRecDepth 100000 in
theorem rmore_any (s : Nat) (a : Option Addr) (n cap : Nat) (zs : List Int) (w : World) (hs : s < 2 ^ 32) (hr : Row w a n zs) (hn : n ≤ 1000000) :
    Calls Try.prog 11 #[.int .u32 (s : Int), .slice a n cap] w fun e w' => e = .returned (.int .u32 (moreN s zs : Nat)) ∧ w = w' := by
  obtain ⟨hl, hb, hc⟩ := hr
  have HL := Lib.hid hl
  have HC := Lib.hid hc
  clear hl hc
  have HF := Lib.hid (flipN_lt s)
  go_enter Try.func11, Try.ntmps11
  go_wp2
  go_loop [5, 6] (fun v i => ∃ k : Nat, k ≤ n ∧ i = .int .i64 k ∧ v = .int .u32 (runN (flipN s) (zs.take k) : Nat)) (fun _ i => n - (intOf i).toNat)
  case atStart =>
    exact ⟨0, by omega, rfl, val_u32 (flip_right hs)⟩
  case round =>
    obtain ⟨k, hk, rfl, rfl⟩ := hrel
    have hd := runN_lt (byt_take hb k) HF.out
    by_cases hlt : k < n
    · have HS := Lib.hid (run_take (flipN s) zs k (by have := HL.out; omega))
      generalize runN (flipN s) (zs.take k) = y at *
      rcases HC.out with h0 | ⟨b, off, rfl, hbw, hcell⟩
      · omega
      · have hck := hcell k hlt
        have hz := byt_at hb k
        clear hcell
        generalize zs.getD k 0 = z at *
        obtain ⟨z, rfl⟩ := Int.eq_ofNat_of_zero_le hz.1
        have hx := xor_nat y z hd (by omega)
        have hq : y ^^^ z < 2 ^ 32 := Nat.xor_lt_two_pow hd (by omega)
        go_wp2
        go_loop [5, 7] (fun v i => ∃ m : Nat, m ≤ 8 ∧ i = .int .i64 m ∧ v = .int .u32 (stepsN m (y ^^^ z) : Nat)) (fun _ i => 8 - (intOf i).toNat)
        case atStart => exact ⟨0, by omega, rfl, rfl⟩
        case round =>
          obtain ⟨m, hm, rfl, rfl⟩ := hrel
          have hd2 := stepsN_lt hq m
          have ha := and_one _ hd2
          by_cases h8 : m < 8
          · have HT := Lib.hid (show stepsN (m + 1) (y ^^^ z) = stepN (stepsN m (y ^^^ z)) from rfl)
            generalize stepsN m (y ^^^ z) = u at *
            by_cases h2 : u % 2 = 1
            · rw [h2] at ha
              go_wp2
              go_round
              case rel => exact ⟨m + 1, by omega, by go_num, val_u32 (by rw [HT.out]; exact out_one hd2 h2)⟩
              case measure => simp [intOf]; omega
            · rw [show u % 2 = 0 by omega] at ha
              go_wp2
              go_round
              case rel => exact ⟨m + 1, by omega, by go_num, val_u32 (by rw [HT.out]; exact out_none h2)⟩
              case measure => simp [intOf]; omega
          · obtain rfl : m = 8 := by omega
            go_wp2
            go_round
            case rel => exact ⟨k + 1, by omega, by go_num, val_u32 (by rw [HS.out]; rfl)⟩
            case measure => simp [intOf]; omega
    · go_wp2
      go_ret
      exact ⟨ret_int (by rw [flip_right hd, List.take_of_length_le (by have := HL.out; omega)]; rfl), rfl⟩
theorem sum_any (a : Option Addr) (n cap : Nat) (zs : List Int) (w : World) (hr : Row w a n zs) (hn : n ≤ 1000000) :
    Calls Try.prog 8 #[.slice a n cap] w fun e w' => e = .returned (.int .u32 (crcN zs : Nat)) ∧ w = w' := by
  go_enter Try.func8, Try.ntmps8
  go_wp2_with (go_at_call 10; refine (more_any 0 _ _ _ zs _ (by omega) hr hn).mono ?_; rintro e w' ⟨rfl, rfl⟩)
  go_ret
  exact ⟨rfl, rfl⟩
theorem rcrc_any (a : Option Addr) (n cap : Nat) (zs : List Int) (w : World) (hr : Row w a n zs) (hn : n ≤ 1000000) :
    Calls Try.prog 9 #[.slice a n cap] w fun e w' => e = .returned (.int .u32 (crcN zs : Nat)) ∧ w = w' := by
  go_enter Try.func9, Try.ntmps9
  go_wp2_with (go_at_call 11; refine (rmore_any 0 _ _ _ zs _ (by omega) hr hn).mono ?_; rintro e w' ⟨rfl, rfl⟩)
  go_ret
  exact ⟨rfl, rfl⟩
end Go.Proofs.Ytcdbfpfjackloaa
