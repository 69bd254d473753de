/-
  The first four bytes of a row read as a word: the program's call and the document's own; conditions: the row reads as bytes.
-/
import Derived.Test.YtklhmneapegfpaaGreatDoorShaSmall
namespace Go.Proofs.YtklhmneapegfpaaGreatDoor.Sha
open Go.RowKit

/-- A slice of n bytes that reads as the numbers zs (nil, or empty: whatever its address). -/
def Row (w : World) (a : Option Addr) (n : Nat) (zs : List Int) : Prop :=
  zs.length = n ∧ Byt zs ∧ (n = 0 ∨ ∃ b off, a = some ⟨b, off, none⟩ ∧ b < w.heap.size ∧ ∀ j, j < n → w.cell? ⟨b, off + j, none⟩ = some (.int .u8 (zs.getD j 0)))

theorem bigN_past {zs : List Int} (k : Nat) (h : zs.length ≤ k) : bigN zs (k + 1) = bigN zs k * 256 := by
  simp only [bigN, List.getD_eq_getElem?_getD, List.getElem?_eq_none h, Option.getD_none]; omega
theorem bigN_bd3 {zs : List Int} (h : Byt zs) (k : Nat) (hk : k < 4) : 0 ≤ bigN zs k ∧ bigN zs k ≤ 16777215 := by
  rcases (by omega : k = 0 ∨ k = 1 ∨ k = 2 ∨ k = 3) with rfl | rfl | rfl | rfl
  · have := bigN_bd h 0; omega
  · have := bigN_bd h 1; omega
  · have := bigN_bd h 2; omega
  · have := bigN_bd h 3; omega
theorem val_u32 {a b : Int} (h : a = b) : Value.int .u32 a = Value.int .u32 b := by rw [h]
theorem big_step {zs : List Int} (h : Byt zs) (k : Nat) (hk : k < 4) : bits .or .u32 (bigN zs k * 256) (zs[k]?.getD 0 % 4294967296) = bigN zs (k + 1) := by
  have hz := byt_at h k
  rw [List.getD_eq_getElem?_getD] at hz
  rw [Int.emod_eq_of_lt hz.1 (by omega), or_low _ _ (bigN_bd3 h k hk) hz]
  simp only [bigN, List.getD_eq_getElem?_getD]

set_option maxRecDepth 100000 in
theorem big_any (a : Option Addr) (n cap : Nat) (zs : List Int) (w : World) (hr : Row w a n zs) :
    Calls Tryz.prog 101 #[.slice a n cap] w fun e w' => e = .returned (.int .u32 (bigI zs)) ∧ w = w' := by
  obtain ⟨hl, hb, hc⟩ := hr
  have HL := Lib.hid hl
  clear hl
  go_enter Tryz.func101, Tryz.ntmps101
  go_wp2
  go_loop [3, 5] (fun x i => ∃ k : Nat, k ≤ 4 ∧ i = .int .i64 k ∧ x = .int .u32 (bigN zs k)) (fun _ i => 4 - (intOf i).toNat)
  case atStart => exact ⟨0, by omega, rfl, rfl⟩
  case round =>
    obtain ⟨k, hk, rfl, rfl⟩ := hrel
    by_cases h4 : k < 4
    · have hd := bigN_bd3 hb k h4
      by_cases hlt : k < n
      · rcases hc with h0 | ⟨b, off, rfl, hbw, hcell⟩
        · omega
        · have hck := hcell k hlt
          have hz := byt_at hb k
          clear hcell
          go_wp2
          go_round
          case rel => exact ⟨k + 1, by omega, by go_num, val_u32 (big_step hb k h4)⟩
          case measure => simp [intOf]; omega
      · clear hc
        go_wp2
        go_round
        case rel => exact ⟨k + 1, by omega, by go_num, val_u32 (bigN_past k (by have := HL.out; omega)).symm⟩
        case measure => simp [intOf]; omega
    · go_wp2
      go_ret
      exact ⟨ret_int (by rw [show k = 4 by omega]; rfl), rfl⟩
set_option maxRecDepth 100000 in
theorem rbig_any (a : Option Addr) (n cap : Nat) (zs : List Int) (w : World) (hr : Row w a n zs) :
    Calls Tryz.prog 88 #[.slice a n cap] w fun e w' => e = .returned (.int .u32 (bigI zs)) ∧ w = w' := by
  obtain ⟨hl, hb, hc⟩ := hr
  have HL := Lib.hid hl
  clear hl
  go_enter Tryz.func88, Tryz.ntmps88
  go_wp2
  go_loop [3, 4] (fun x i => ∃ k : Nat, k ≤ 4 ∧ i = .int .i64 k ∧ x = .int .u32 (bigN zs k)) (fun _ i => 4 - (intOf i).toNat)
  case atStart => exact ⟨0, by omega, rfl, rfl⟩
  case round =>
    obtain ⟨k, hk, rfl, rfl⟩ := hrel
    by_cases h4 : k < 4
    · have hd := bigN_bd3 hb k h4
      by_cases hlt : k < n
      · rcases hc with h0 | ⟨b, off, rfl, hbw, hcell⟩
        · omega
        · have hck := hcell k hlt
          have hz := byt_at hb k
          clear hcell
          go_wp2
          go_round
          case rel => exact ⟨k + 1, by omega, by go_num, val_u32 (big_step hb k h4)⟩
          case measure => simp [intOf]; omega
      · clear hc
        go_wp2
        go_round
        case rel => exact ⟨k + 1, by omega, by go_num, val_u32 (bigN_past k (by have := HL.out; omega)).symm⟩
        case measure => simp [intOf]; omega
    · go_wp2
      go_ret
      exact ⟨ret_int (by rw [show k = 4 by omega]; rfl), rfl⟩
end Go.Proofs.YtklhmneapegfpaaGreatDoor.Sha
