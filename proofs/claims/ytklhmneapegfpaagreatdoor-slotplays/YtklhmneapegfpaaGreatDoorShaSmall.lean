/-
  The small calls: a word turned round, read out of bytes and written as bytes, the program's own and the document's; conditions: a word has 32 bits, a number of bits is an int.
-/
import Derived.Test.YtklhmneapegfpaaGreatDoorRows
import Derived.Test.YtklhmneapegfpaaGreatDoorShaPlain
import Derived.WalkKit
import Derived.WalkSmall
import Derived.Lib.Hide
import Derived.LoopTactic
namespace Go.Proofs.YtklhmneapegfpaaGreatDoor.Sha
open Go.RowKit

theorem ret_int {k : IntKind} {a b : Int} (h : a = b) : Ending.returned (.int k a) = .returned (.int k b) := by rw [h]

theorem rotl_any (x n : Int) (w : World) (hx : 0 ≤ x ∧ x ≤ 4294967295) :
    Calls Tryz.prog 106 #[.int .u32 x, .int .i64 n] w fun e w' => e = .returned (.int .u32 (rotI x (-n))) ∧ w = w' := by
  obtain ⟨k, hk, hm⟩ : ∃ k : Nat, k = (n % 32).toNat ∧ bits .and .u64 (IntKind.u64.wrap n) 31 = (k : Int) := ⟨_, rfl, and31 n⟩
  have hlt : k < 32 := by omega
  have HK := Lib.hid hk
  clear hk
  go_enter Tryz.func106, Tryz.ntmps106
  go_wp2
  go_ret
  exact ⟨ret_int (left_is x n k hx HK.out), rfl⟩
theorem rright_any (x n : Int) (w : World) (hx : 0 ≤ x ∧ x ≤ 4294967295) :
    Calls Tryz.prog 89 #[.int .u32 x, .int .i64 n] w fun e w' => e = .returned (.int .u32 (rotI x n)) ∧ w = w' := by
  obtain ⟨k, hk, hm⟩ : ∃ k : Nat, k = (n % 32).toNat ∧ bits .and .u64 (IntKind.u64.wrap n) 31 = (k : Int) := ⟨_, rfl, and31 n⟩
  have hlt : k < 32 := by omega
  have HK := Lib.hid hk
  clear hk
  by_cases h0 : k = 0
  · subst h0
    go_enter Tryz.func89, Tryz.ntmps89
    go_wp2
    go_ret
    exact ⟨ret_int (by rw [rotI_mod (m := 0) (by have := HK.out; omega), rotI_zero x hx]), rfl⟩
  · go_enter Tryz.func89, Tryz.ntmps89
    go_wp2
    go_ret
    exact ⟨ret_int (right_is x n k hx HK.out), rfl⟩
theorem wrap64_mod (n : Int) : wrap64 n % 32 = n % 32 := by unfold wrap64; omega
theorem right_any (x n : Int) (w : World) (hx : 0 ≤ x ∧ x ≤ 4294967295) :
    Calls Tryz.prog 104 #[.int .u32 x, .int .i64 n] w fun e w' => e = .returned (.int .u32 (rotI x n)) ∧ w = w' := by
  go_enter Tryz.func104, Tryz.ntmps104
  go_wp2_with (go_at_call 106; refine (rotl_any _ _ _ hx).mono ?_; rintro e w' ⟨rfl, rfl⟩)
  go_ret
  exact ⟨ret_int (rotI_mod (by have := wrap64_mod (-n); omega)), rfl⟩

theorem bytes_any (x : Int) (w : World) (hx : 0 ≤ x ∧ x ≤ 4294967295) :
    Calls Tryz.prog 50 #[.int .u32 x] w fun e w' => e = .returned (.slice (some ⟨w.heap.size, 0, none⟩) 4 4) ∧ w.alloc (.cells ((bytes4 x).map (Value.int .u8)).toArray 5) = w' := by
  go_enter Tryz.func50, Tryz.ntmps50
  go_wp2
  go_ret
  exact ⟨rfl, rfl⟩
theorem rbytes_any (x : Int) (w : World) (hx : 0 ≤ x ∧ x ≤ 4294967295) :
    Calls Tryz.prog 53 #[.int .u32 x] w fun e w' => e = .returned (.slice (some ⟨w.heap.size, 0, none⟩) 4 4) ∧ w.alloc (.cells ((bytes4 x).map (Value.int .u8)).toArray 5) = w' := by
  have h1 := and255 x hx
  have h2 := and255 (x / 256) (by omega)
  have h3 := and255 (x / 65536) (by omega)
  go_enter Tryz.func53, Tryz.ntmps53
  go_wp2
  go_ret
  exact ⟨rfl, rfl⟩
end Go.Proofs.YtklhmneapegfpaaGreatDoor.Sha
