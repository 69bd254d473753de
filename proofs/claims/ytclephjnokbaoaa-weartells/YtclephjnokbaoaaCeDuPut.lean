/-
  The calls that write: the program's Put and the document's own; conditions: the row reads as bytes.
-/
import Derived.Test.YtclephjnokbaoaaCeOwn
import Derived.Test.YtclephjnokbaoaaCeDuPlain
import Derived.Deep.RegionLaw
namespace Go.Proofs.Ytclephjnokbaoaa
open Go.RowKit
set_option linter.unusedVariables false
set_option linter.unusedSimpArgs false

/-- So many bytes are written. -/
def Putting (w : World) (zs : List Int) (n : Nat) (v i : Value) (wr : World) : Prop := ∃ k : Nat, k ≤ n ∧ i = .int .i64 (k : Int) ∧ Own wr w.heap.size v (2 * k) (putL (zs.take k)) ∧ Below w.heap.size w wr
set_option maxRecDepth 100000 in
theorem put_any (a : Option Addr) (n cap : Nat) (zs : List Int) (w : World) (hr : Row w a n zs) (hn : n ≤ 100000) :
    Calls Try.prog 82 #[.slice a n cap] w (CeGives (2 * n) (putL zs) w) := by
  have hmk : (Instr.makeSlice 38 (.int .i64 0) (.int .i64 (2 * (n : Int)))).run Try.prog w = .ok (.slice (some ⟨w.heap.size, 0, none⟩) 0 (2 * n)) (w.alloc (.cells (zeroBytes (2 * n)) 5)) := by
    have := ce_make_bytes .i64 .i64 0 (2 * n) (by omega) (by omega) w
    rw [show ((2 * n : Nat) : Int) = 2 * (n : Int) by omega] at this
    exact this
  have hw2 : IntKind.i64.wrap (2 * (n : Int)) = 2 * (n : Int) := by rw [IntKind.wrap_i64]; omega
  have hm := own_made w w.heap.size (2 * n) (by omega) (Nat.le_refl _)
  have HR := Lib.hid hr
  have HB := Lib.hid ((Below.refl _ w).alloc (Nat.le_refl _) (.cells (zeroBytes (2 * n)) 5))
  clear hr
  go_enter Try.func82, Try.ntmps82
  go_wp2
  go_loopw [3, 12] (fun v i wr => Putting w zs n v i wr) (fun _ i _ => n - (intOf i).toNat)
  case atStart => exact ⟨0, by omega, rfl, by rw [put_none]; exact hm, HB.out⟩
  case round =>
    clear hm hmk
    obtain ⟨k, hk, rfl, ho, hb⟩ := hrel
    by_cases hlt : k < n
    · obtain ⟨b, off, rfl, hbw, hcell⟩ := row_open (row_below hb HR.out) (by omega)
      have hck := hcell k hlt
      have hz := byt_at HR.out.2.1 k
      have HS := Lib.hid (put_more zs k (by have := HR.out.1; omega))
      clear hcell
      generalize zs.getD k 0 = z at *
      have hz2 : 0 ≤ 255 - z ∧ 255 - z ≤ 255 := by omega
      have HFL := Lib.hid (show bits .xor .u8 (if IntKind.u8.signed = true then -1 else IntKind.u8.max) z = 255 - z from flip_left hz)
      have hr2 := row_two wr hz hz2
      have ba : Below wr.heap.size wr (wr.alloc (.cells #[.int .u8 z, .int .u8 (255 - z)] 5)) := (Below.refl _ wr).alloc (Nat.le_refl _) _
      have ho2 := ho.kept ba
      have hb2 := hb.trans (ba.mono hb.size)
      have hsz := hb2.size
      go_wp2_with (at_builtin; rw [HFL.out]; (with_reducible refine wpList_app rfl _ _ rfl w.heap.size u3 (2 * k) (putL (zs.take k)) rfl ho2 _ _ _ [z, 255 - z] rfl hr2 (row_none hr2) (by omega) hsz ?_); intro v' w' h3 h4)
      rw [HS.out] at h3
      go_roundw
      case rel => exact ⟨k + 1, by omega, by go_num, by rw [Nat.mul_succ]; exact h3, below_own hb2 ho2 h4 (Nat.le_refl _) hsz⟩
      case measure => simp [intOf]; omega
    · obtain rfl : k = n := by omega
      rw [List.take_of_length_le (by have := HR.out.1; omega)] at ho
      go_wp2
      go_ret
      exact ⟨_, rfl, ho, hb⟩
end Go.Proofs.Ytclephjnokbaoaa
