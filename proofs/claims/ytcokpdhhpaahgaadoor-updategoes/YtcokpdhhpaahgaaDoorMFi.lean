/-
  Several texts in one: Plain, Own, Rd, Wr, Wn, Rw, Rx, Wb, Rn, Live; each says its own conditions.
-/
import Derived.Laws.BitsAllLaws
import Derived.Laws.BitsLemmas
import Derived.Laws.Strings
import Derived.Test.YtcokpdhhpaahgaaDoorRows
import Derived.WalkKit
import Derived.WalkSmall
import Derived.Lib.Hide
import Derived.LoopTactic
import Derived.Laws.BytesArg
import Derived.Laws.Rows
import Derived.Below
import Derived.Deep.Draws
import Derived.Laws.CopyOwn
import Derived.Maps.AppendAt
import Derived.OwnWalk
import Derived.OpenShut
import Derived.Lib.SlBytesConst
import Derived.Deep.RegionLaw
namespace Go.Proofs.YtcokpdhhpaahgaaDoor

def Byt (zs : List Int) : Prop := ∀ n ∈ zs, 0 ≤ n ∧ n ≤ 255
theorem byt_at {zs : List Int} (h : Byt zs) (i : Nat) : 0 ≤ zs.getD i 0 ∧ zs.getD i 0 ≤ 255 := by
  rw [List.getD_eq_getElem?_getD]
  cases e : zs[i]? with
  | none => simp
  | some v => simpa using h v (List.mem_of_getElem? e)
theorem byt_nil : Byt [] := fun n hn => by simp at hn
theorem byt_take {zs : List Int} (h : Byt zs) (k : Nat) : Byt (zs.take k) := fun n hn => h n (List.mem_of_mem_take hn)
theorem byt_drop {zs : List Int} (h : Byt zs) (k : Nat) : Byt (zs.drop k) := fun n hn => h n (List.mem_of_mem_drop hn)
theorem byt_app {xs ys : List Int} (h1 : Byt xs) (h2 : Byt ys) : Byt (xs ++ ys) := by
  intro n hn
  rcases List.mem_append.1 hn with h | h
  · exact h1 n h
  · exact h2 n h
theorem byt_one {x : Int} (h : 0 ≤ x ∧ x ≤ 255) : Byt [x] := by
  intro n hn
  rw [List.mem_singleton] at hn
  subst hn; exact h
theorem byt_cons {x : Int} {xs : List Int} (h : 0 ≤ x ∧ x ≤ 255) (h' : Byt xs) : Byt (x :: xs) := byt_app (xs := [x]) (byt_one h) h'
theorem byt_two {x y : Int} (h : 0 ≤ x ∧ x ≤ 255) (h' : 0 ≤ y ∧ y ≤ 255) : Byt [x, y] := byt_app (xs := [x]) (ys := [y]) (byt_one h) (byt_one h')
theorem byt_rep (n : Nat) : Byt (List.replicate n 0) := fun m hm => by rw [List.eq_of_mem_replicate hm]; omega
theorem take_more (os : List Int) (j : Nat) (h : j < os.length) : os.take j ++ [os.getD j 0] = os.take (j + 1) := by
  rw [List.take_add_one, List.getD_eq_getElem?_getD, List.getElem?_eq_getElem h]
  rfl

/-- A size, cut to 0 to m. -/
def cutN (s : Int) (m : Nat) : Nat := min s.toNat m
theorem cut_low {s : Int} {m : Nat} (h : s < 0) : cutN s m = 0 := by unfold cutN; omega
theorem cut_high {s : Int} {m : Nat} (h : (m : Int) < s) : cutN s m = m := by unfold cutN; omega
theorem cut_mid {s : Int} {m : Nat} (h : 0 ≤ s) (h' : s ≤ (m : Int)) : (cutN s m : Int) = s := by unfold cutN; omega
theorem cut_le (s : Int) (m : Nat) : cutN s m ≤ m := by unfold cutN; omega
theorem cut_cut (s : Int) (m M : Nat) (h : m ≤ M) : cutN (cutN s m : Int) M = cutN s m := by unfold cutN; omega

/-- The lowest k bytes of a number, the highest first. -/
def numL (n : Int) : Nat → List Int
  | 0 => []
  | k + 1 => (n / 256 ^ k % 256) :: numL n k
theorem num_len (n : Int) : ∀ k, (numL n k).length = k
  | 0 => rfl
  | k + 1 => by rw [numL, List.length_cons, num_len n k]
theorem byte_bd (x : Int) : 0 ≤ x % 256 ∧ x % 256 ≤ 255 := by omega
theorem num_byt (n : Int) : ∀ k, Byt (numL n k)
  | 0 => byt_nil
  | k + 1 => byt_cons (byte_bd _) (num_byt n k)
theorem num_at (n : Int) : ∀ k j, j < k → (numL n k).getD j 0 = n / 256 ^ (k - 1 - j) % 256
  | 0, j, h => by omega
  | k + 1, 0, h => by simp [numL]
  | k + 1, j + 1, h => by
    rw [numL, List.getD_cons_succ, num_at n k j (by omega)]
    rw [show k + 1 - 1 - (j + 1) = k - 1 - j by omega]
/-- A row while its bytes are laid, from the last one on. -/
def laid (n : Int) (k t : Nat) : List Int := List.replicate (k - t) 0 ++ numL n t
theorem laid_none (n : Int) (k : Nat) : laid n k 0 = List.replicate k 0 := by simp [laid, numL]
theorem laid_all (n : Int) (k : Nat) : laid n k k = numL n k := by simp [laid]
theorem laid_len (n : Int) {k t : Nat} (h : t ≤ k) : (laid n k t).length = k := by simp [laid, num_len]; omega
theorem laid_byt (n : Int) (k t : Nat) : Byt (laid n k t) := byt_app (byt_rep _) (num_byt _ _)
theorem laid_more (n : Int) {k t : Nat} (h : t < k) : (laid n k t).set (k - t - 1) (n / 256 ^ t % 256) = laid n k (t + 1) := by
  unfold laid
  obtain ⟨d, rfl⟩ : ∃ d, k = t + 1 + d := ⟨k - t - 1, by omega⟩
  rw [show t + 1 + d - t - 1 = d by omega, show t + 1 + d - t = d + 1 by omega, show t + 1 + d - (t + 1) = d by omega, numL]
  rw [List.replicate_succ', List.append_assoc, List.set_append_right _ _ (by simp)]
  simp
theorem pow_bits (i : Nat) : (2 : Int) ^ (8 * i) = 256 ^ i := by rw [Int.pow_mul]; rfl
theorem pow_pos (i : Nat) : (0 : Int) < 256 ^ i := Int.pow_pos (by omega)
theorem shift_byte (n : Int) (t : Nat) : n / 256 ^ t / 256 = n / 256 ^ (t + 1) := by
  rw [Int.pow_succ, Int.ediv_ediv, if_neg (fun h => absurd h.1 (by have := pow_pos t; omega)), Int.sub_zero]
/-- A row of k bytes: the first ones of zs, then bytes 0. -/
def rawL (zs : List Int) (k : Nat) : List Int := zs.take k ++ List.replicate (k - zs.length) 0
theorem raw_len (zs : List Int) (k : Nat) : (rawL zs k).length = k := by simp [rawL]; omega
theorem raw_byt {zs : List Int} (h : Byt zs) (k : Nat) : Byt (rawL zs k) := byt_app (byt_take h _) (byt_rep _)
theorem raw_at (zs : List Int) (k j : Nat) (h : j < k) : (rawL zs k).getD j 0 = zs.getD j 0 := by
  unfold rawL
  rw [List.getD_eq_getElem?_getD, List.getD_eq_getElem?_getD]
  by_cases hj : j < zs.length
  · rw [List.getElem?_append_left (by rw [List.length_take]; omega), List.getElem?_take, if_pos h]
  · rw [List.getElem?_append_right (by rw [List.length_take]; omega), List.getElem?_eq_none (show zs.length ≤ j by omega), List.getElem?_replicate]
    split <;> rfl

/-- The number of bytes. -/
def val (zs : List Int) : Int := zs.foldl (fun n x => n * 256 + x) 0
theorem val_nil : val [] = 0 := rfl
theorem val_more (zs : List Int) (x : Int) : val (zs ++ [x]) = val zs * 256 + x := by unfold val; rw [List.foldl_append]; rfl
theorem val_from (zs : List Int) : ∀ n : Int, zs.foldl (fun n x => n * 256 + x) n = n * 256 ^ zs.length + val zs := by
  induction zs with
  | nil => intro n; simp [val]
  | cons x xs ih =>
    intro n
    unfold val
    rw [List.foldl_cons, List.foldl_cons, ih, ih, List.length_cons, Int.pow_succ, Int.add_mul, Int.add_mul]
    rw [Int.mul_assoc n, Int.mul_comm 256, Int.zero_mul]
    omega
theorem val_cons (x : Int) (zs : List Int) : val (x :: zs) = x * 256 ^ zs.length + val zs := by
  show (x :: zs).foldl (fun n x => n * 256 + x) 0 = _
  rw [List.foldl_cons, val_from, Int.zero_mul, Int.zero_add]
theorem mod_step (a M : Int) (hM : 0 < M) : a % (M * 256) = a / M % 256 * M + a % M := by
  have h1 := Int.emod_add_mul_ediv a M
  have h2 := Int.emod_add_mul_ediv (a / M) 256
  have b1 := Int.emod_nonneg a (show M ≠ 0 by omega)
  have b2 := Int.emod_lt_of_pos a hM
  have b3 := byte_bd (a / M)
  have e : a = (a / M % 256 * M + a % M) + M * 256 * (a / M / 256) := by
    rw [Int.mul_assoc, show a / M % 256 * M + a % M + M * (256 * (a / M / 256)) = a % M + M * (a / M % 256 + 256 * (a / M / 256)) by rw [Int.mul_add, Int.mul_comm M (a / M % 256)]; omega, h2, h1]
  generalize a / M % 256 = r at *
  generalize a % M = s at *
  generalize a / M / 256 = q at *
  have c1 : 0 ≤ r * M := Int.mul_nonneg b3.1 (by omega)
  have c2 : r * M ≤ 255 * M := Int.mul_le_mul_of_nonneg_right b3.2 (by omega)
  rw [e, Int.add_mul_emod_self_left, Int.emod_eq_of_lt (by omega) (by omega)]
theorem val_num (n : Int) : ∀ k, val (numL n k) = n % 256 ^ k
  | 0 => by simp [numL, val_nil, Int.emod_one]
  | k + 1 => by rw [numL, val_cons, num_len, val_num n k, Int.pow_succ, mod_step _ _ (pow_pos k)]
/-- A number that fits. -/
def Fit (n : Int) (k : Nat) : Prop := 0 ≤ n ∧ n < 256 ^ k
theorem val_fit {n : Int} {k : Nat} (h : Fit n k) : val (numL n k) = n := by rw [val_num, Int.emod_eq_of_lt h.1 h.2]
theorem val_pos {zs : List Int} (h : Byt zs) : 0 ≤ val zs ∧ val zs < 256 ^ zs.length := by
  induction zs with
  | nil => simp [val]
  | cons x xs ih =>
    obtain ⟨i1, i2⟩ := ih fun n hn => h n (List.mem_cons_of_mem _ hn)
    obtain ⟨j1, j2⟩ := h x (List.mem_cons_self ..)
    have p := pow_pos xs.length
    rw [val_cons, List.length_cons, Int.pow_succ]
    generalize (256 : Int) ^ xs.length = M at *
    have c1 : 0 ≤ x * M := Int.mul_nonneg j1 (by omega)
    have c2 : x * M ≤ 255 * M := Int.mul_le_mul_of_nonneg_right j2 (by omega)
    omega

/-- A number as the machine has it, of 64 bits. -/
def w64 (n : Int) : Int := IntKind.i64.wrap n
theorem w64_in {n : Int} (h : -9223372036854775808 ≤ n ∧ n ≤ 9223372036854775807) : w64 n = n := by unfold w64; rw [IntKind.wrap_i64]; omega
theorem w64_eight {n : Int} (h : -9223372036854775808 ≤ n ∧ n ≤ 9223372036854775807) : w64 (val (numL n 8)) = n := by
  rw [val_num]
  unfold w64
  rw [IntKind.wrap_i64]
  show (n % 18446744073709551616 + 9223372036854775808) % 18446744073709551616 - 9223372036854775808 = n
  omega
theorem of64 (x : Int) : (BitVec.ofInt 64 x).toNat = (x % 18446744073709551616).toNat := by
  rw [BitVec.toNat_ofInt]
  rfl
/-- A round of a reader: eight bits more. -/
theorem or_i64 (n x : Int) (hx : 0 ≤ x ∧ x ≤ 255) : bits .or .i64 (IntKind.i64.wrap (n * 256)) x = w64 (n * 256 + x) := by
  show IntKind.i64.wrap ((BitVec.ofInt 64 (IntKind.i64.wrap (n * 256)) ||| BitVec.ofInt 64 x).toNat : Int) = _
  rw [BitVec.toNat_or, of64, of64]
  obtain ⟨Z, rfl⟩ := Int.eq_ofNat_of_zero_le hx.1
  unfold w64
  rw [IntKind.wrap_i64, IntKind.wrap_i64, IntKind.wrap_i64]
  obtain ⟨Y, hY⟩ : ∃ Y : Nat, ((n * 256 + 9223372036854775808) % 18446744073709551616 - 9223372036854775808) % 18446744073709551616 = ((Y * 256 : Nat) : Int) := ⟨(((n * 256 + 9223372036854775808) % 18446744073709551616 - 9223372036854775808) % 18446744073709551616 / 256).toNat, by omega⟩
  rw [hY, Int.toNat_natCast, show ((Z : Int) % 18446744073709551616).toNat = Z by omega, nat_join 8 (Y * 256) Z (by omega) (by omega)]
  omega
theorem or_u64 (n x : Int) (hx : 0 ≤ x ∧ x ≤ 255) : bits .or .u64 (IntKind.u64.wrap (n * 256)) x = IntKind.u64.wrap (n * 256 + x) := by
  show IntKind.u64.wrap ((BitVec.ofInt 64 (IntKind.u64.wrap (n * 256)) ||| BitVec.ofInt 64 x).toNat : Int) = _
  rw [BitVec.toNat_or, of64, of64]
  obtain ⟨Z, rfl⟩ := Int.eq_ofNat_of_zero_le hx.1
  rw [IntKind.wrap_u64, IntKind.wrap_u64, IntKind.wrap_u64]
  obtain ⟨Y, hY⟩ : ∃ Y : Nat, n * 256 % 18446744073709551616 % 18446744073709551616 = ((Y * 256 : Nat) : Int) := ⟨(n * 256 % 18446744073709551616 % 18446744073709551616 / 256).toNat, by omega⟩
  rw [hY, Int.toNat_natCast, show ((Z : Int) % 18446744073709551616).toNat = Z by omega, nat_join 8 (Y * 256) Z (by omega) (by omega)]
  omega
theorem w64_step (n x : Int) : w64 (w64 n * 256 + x) = w64 (n * 256 + x) := by
  unfold w64
  rw [IntKind.wrap_i64, IntKind.wrap_i64, IntKind.wrap_i64]
  omega
theorem u64_step (n x : Int) : IntKind.u64.wrap (IntKind.u64.wrap n * 256 + x) = IntKind.u64.wrap (n * 256 + x) := by
  rw [IntKind.wrap_u64, IntKind.wrap_u64, IntKind.wrap_u64]
  omega
theorem w64_u64 (n : Int) : IntKind.i64.wrap (IntKind.u64.wrap n) = w64 n := by
  unfold w64
  rw [IntKind.wrap_u64, IntKind.wrap_i64, IntKind.wrap_i64]
  omega
/-- Byte i of a number, by way of 64 bits without a sign. -/
theorem byte_u64 (n : Int) (i : Nat) (hi : i < 8) : bits .and .u64 (IntKind.u64.wrap n / 256 ^ i) 255 = n / 256 ^ i % 256 := by
  show IntKind.u64.wrap ((BitVec.ofInt 64 (IntKind.u64.wrap n / 256 ^ i) &&& BitVec.ofInt 64 255).toNat : Int) = _
  rw [BitVec.toNat_and, of64, show (BitVec.ofInt 64 255).toNat = 255 from rfl, nat_mask8, IntKind.wrap_u64, IntKind.wrap_u64]
  match i, hi with
  | 0, _ => show _ = n / 1 % 256; rw [show (256 : Int) ^ 0 = 1 from rfl]; omega
  | 1, _ => show _ = n / 256 % 256; rw [show (256 : Int) ^ 1 = 256 from rfl]; omega
  | 2, _ => rw [show (256 : Int) ^ 2 = 65536 from rfl]; omega
  | 3, _ => rw [show (256 : Int) ^ 3 = 16777216 from rfl]; omega
  | 4, _ => rw [show (256 : Int) ^ 4 = 4294967296 from rfl]; omega
  | 5, _ => rw [show (256 : Int) ^ 5 = 1099511627776 from rfl]; omega
  | 6, _ => rw [show (256 : Int) ^ 6 = 281474976710656 from rfl]; omega
  | 7, _ => rw [show (256 : Int) ^ 7 = 72057594037927936 from rfl]; omega

/-- Of two numbers of one size the less has the bytes that are ahead. -/
theorem num_less (a b : Int) : ∀ k, Op.bytesLess ((numL a k).map fun n => UInt8.ofNat n.toNat) ((numL b k).map fun n => UInt8.ofNat n.toNat) = decide (a % 256 ^ k < b % 256 ^ k)
  | 0 => by simp [numL, Op.bytesLess, Int.emod_one]
  | k + 1 => by
    have p := pow_pos k
    rw [numL, numL, List.map_cons, List.map_cons, Op.bytesLess, num_less a b k, Int.pow_succ, mod_step a _ p, mod_step b _ p]
    have hx := byte_bd (a / 256 ^ k)
    have hy := byte_bd (b / 256 ^ k)
    have u1 := Int.emod_nonneg a (show (256 : Int) ^ k ≠ 0 by omega)
    have u2 := Int.emod_lt_of_pos a p
    have v1 := Int.emod_nonneg b (show (256 : Int) ^ k ≠ 0 by omega)
    have v2 := Int.emod_lt_of_pos b p
    generalize a / 256 ^ k % 256 = x at *
    generalize b / 256 ^ k % 256 = y at *
    generalize a % 256 ^ k = s at *
    generalize b % 256 ^ k = t at *
    generalize (256 : Int) ^ k = M at *
    have ex : (UInt8.ofNat x.toNat).toNat = x.toNat := by rw [UInt8.toNat_ofNat']; omega
    have ey : (UInt8.ofNat y.toNat).toNat = y.toNat := by rw [UInt8.toNat_ofNat']; omega
    have e1 : decide (UInt8.ofNat x.toNat < UInt8.ofNat y.toNat) = decide (x < y) := by
      rw [decide_eq_decide, UInt8.lt_iff_toNat_lt, ex, ey]; omega
    have e2 : (UInt8.ofNat x.toNat == UInt8.ofNat y.toNat) = decide (x = y) := by
      rw [Bool.eq_iff_iff, beq_iff_eq, decide_eq_true_eq, ← UInt8.toNat_inj, ex, ey]; omega
    rw [e1, e2]
    by_cases h1 : x < y
    · have c : (x + 1) * M ≤ y * M := Int.mul_le_mul_of_nonneg_right (by omega) (by omega)
      rw [Int.add_mul, Int.one_mul] at c
      have : x * M + s < y * M + t := by omega
      simp [h1, this]
    · by_cases h2 : x = y
      · subst h2
        simp
      · have c : (y + 1) * M ≤ x * M := Int.mul_le_mul_of_nonneg_right (by omega) (by omega)
        rw [Int.add_mul, Int.one_mul] at c
        have : ¬ x * M + s < y * M + t := by omega
        simp [h1, h2, this]

/-- What is left to read, and whether bytes were missing. -/
structure Rs where
  rest : List Int
  bad : Bool
def Rs.Ok (S : Rs) : Prop := Byt S.rest ∧ (S.bad = true → S.rest = [])
/-- What is read. -/
def got (S : Rs) (k : Nat) : List Int := if S.bad = false ∧ k ≤ S.rest.length then S.rest.take k else []
/-- What is left then. -/
def aft (S : Rs) (k : Nat) : Rs := if S.bad = false ∧ k ≤ S.rest.length then ⟨S.rest.drop k, false⟩ else ⟨[], true⟩
theorem aft_ok {S : Rs} (h : S.Ok) (k : Nat) : (aft S k).Ok := by
  unfold aft
  split
  · exact ⟨byt_drop h.1 _, fun h => by cases h⟩
  · exact ⟨byt_nil, fun _ => rfl⟩
theorem got_yes {S : Rs} {k : Nat} (h : S.bad = false) (h' : k ≤ S.rest.length) : got S k = S.rest.take k := by unfold got; rw [if_pos ⟨h, h'⟩]
theorem aft_yes {S : Rs} {k : Nat} (h : S.bad = false) (h' : k ≤ S.rest.length) : aft S k = ⟨S.rest.drop k, false⟩ := by unfold aft; rw [if_pos ⟨h, h'⟩]
theorem got_short {S : Rs} {k : Nat} (h' : S.rest.length < k) : got S k = [] := by unfold got; rw [if_neg (by omega)]
theorem aft_short {S : Rs} {k : Nat} (h' : S.rest.length < k) : aft S k = ⟨[], true⟩ := by unfold aft; rw [if_neg (by omega)]
theorem got_bad {S : Rs} {k : Nat} (h : S.bad = true) : got S k = [] := by unfold got; rw [if_neg (by simp [h])]
theorem aft_bad {S : Rs} {k : Nat} (h : S.bad = true) : aft S k = ⟨[], true⟩ := by unfold aft; rw [if_neg (by simp [h])]
theorem got_byt {S : Rs} (h : S.Ok) (k : Nat) : Byt (got S k) := by
  unfold got
  split
  · exact byt_take h.1 _
  · exact byt_nil
theorem got_len (S : Rs) (k : Nat) : (got S k).length ≤ k := by
  unfold got
  split
  · rw [List.length_take]; omega
  · simp
theorem aft_len (S : Rs) (k : Nat) : (aft S k).rest.length ≤ S.rest.length := by
  unfold aft
  split
  · simp
  · simp
end Go.Proofs.YtcokpdhhpaahgaaDoor

namespace Go.Proofs.YtcokpdhhpaahgaaDoor
open Go.RowKit
set_option linter.unusedVariables false
set_option linter.unusedSimpArgs false

/-- A slice of n bytes that reads as the numbers zs (nil, or empty: whatever its address). -/
def Row (w : World) (a : Option Addr) (n : Nat) (zs : List Int) : Prop :=
  zs.length = n ∧ Byt zs ∧ (n = 0 ∨ ∃ b off, a = some ⟨b, off, none⟩ ∧ b < w.heap.size ∧ ∀ j, j < n → w.cell? ⟨b, off + j, none⟩ = some (.int .u8 (zs.getD j 0)))
/-- Block g is just these cells, none of them frozen. -/
def Has (w : World) (g : Nat) (t : TypeId) (cs : Array Value) : Prop := w.heap[g]? = some (.cells cs t (0, 0))
theorem Has.size {w : World} {g : Nat} {t : TypeId} {cs : Array Value} (h : Has w g t cs) : g < w.heap.size := by
  unfold Has at h
  exact (Array.getElem?_eq_some_iff.1 h).1
theorem Has.at {w : World} {g : Nat} {t : TypeId} {cs : Array Value} (h : Has w g t cs) (i : Nat) : w.cell? ⟨g, i, none⟩ = cs[i]? := cell_of_row w g i cs t (0, 0) h
theorem Has.soft {w : World} {g : Nat} {t : TypeId} {cs : Array Value} (h : Has w g t cs) (i : Nat) : w.frozen? ⟨g, i, none⟩ = false := frozen_of_row w g i cs t h
theorem has_new (w : World) (t : TypeId) (cs : Array Value) : Has (w.alloc (.cells cs t)) w.heap.size t cs := heap_alloc_new w _
theorem Has.more {w : World} {g : Nat} {t : TypeId} {cs : Array Value} (h : Has w g t cs) (o : Obj) : Has (w.alloc o) g t cs := (Below.heap_alloc w o g h.size).trans h
theorem Has.put {w : World} {g : Nat} {t : TypeId} {cs : Array Value} (h : Has w g t cs) (i : Nat) (v : Value) : Has (w.setCell ⟨g, i, none⟩ v) g t (cs.setIfInBounds i v) := heap_setCell_same w g i cs t v h
theorem Has.by {w : World} {g : Nat} {t : TypeId} {cs : Array Value} (h : Has w g t cs) {a : Addr} (hne : g ≠ a.block) (v : Value) : Has (w.setCell a v) g t cs := (heap_setCell_other w a g v hne).trans h
theorem Has.below {w w' : World} {g B : Nat} {t : TypeId} {cs : Array Value} (h : Has w g t cs) (hb : Below B w w') (hg : g < B) : Has w' g t cs := (hb.block g hg).trans h
theorem Has.kept {w w' : World} {g : Nat} {t : TypeId} {cs : Array Value} (h : Has w g t cs) (hb : Below w.heap.size w w') : Has w' g t cs := h.below hb h.size

theorem row_lt {w : World} {a : Option Addr} {n : Nat} {zs : List Int} {B : Nat} {w' : World} (h : Row w a n zs) (hB : w.heap.size ≤ B) (hb : Below B w w') : Row w' a n zs := by
  obtain ⟨h1, h2, h3⟩ := h
  refine ⟨h1, h2, ?_⟩
  rcases h3 with h0 | ⟨b, off, ha, hbw, hc⟩
  · exact .inl h0
  · exact .inr ⟨b, off, ha, Nat.lt_of_lt_of_le hbw hb.size, fun j hj => (hb.cell (p := ⟨b, off + j, none⟩) (Nat.lt_of_lt_of_le hbw hB)).trans (hc j hj)⟩
theorem row_below {w w' : World} {a : Option Addr} {n : Nat} {zs : List Int} (hb : Below w.heap.size w w') (h : Row w a n zs) : Row w' a n zs := row_lt h (Nat.le_refl _) hb
/-- A row of n bytes, n above 0: its address and its cells. -/
theorem row_open {w : World} {a : Option Addr} {n : Nat} {zs : List Int} (h : Row w a n zs) (hn : 0 < n) : ∃ b off, a = some ⟨b, off, none⟩ ∧ b < w.heap.size ∧ ∀ j, j < n → w.cell? ⟨b, off + j, none⟩ = some (.int .u8 (zs.getD j 0)) := by
  rcases h.2.2 with h0 | h1
  · omega
  · exact h1
theorem row_mk {w : World} {b off n : Nat} {zs : List Int} (hl : zs.length = n) (hb : Byt zs) (hw : b < w.heap.size) (hc : ∀ j, j < n → w.cell? ⟨b, off + j, none⟩ = some (.int .u8 (zs.getD j 0))) : Row w (some ⟨b, off, none⟩) n zs := ⟨hl, hb, .inr ⟨b, off, rfl, hw, hc⟩⟩
theorem getD_drop (zs : List Int) (k j : Nat) : (zs.drop k).getD j 0 = zs.getD (k + j) 0 := by simp [List.getD_eq_getElem?_getD, List.getElem?_drop]
theorem getD_take (zs : List Int) (k j : Nat) (h : j < k) : (zs.take k).getD j 0 = zs.getD j 0 := by simp [List.getD_eq_getElem?_getD, List.getElem?_take, h]
theorem row_from {w : World} {b off n : Nat} {zs : List Int} (h : Row w (some ⟨b, off, none⟩) n zs) (k : Nat) (hk : k < n) : Row w (some ⟨b, off + k, none⟩) (n - k) (zs.drop k) := by
  obtain ⟨b', off', e, hw, hc⟩ := row_open h (by omega)
  cases e
  exact row_mk (by rw [List.length_drop, h.1]) (byt_drop h.2.1 k) hw (fun j hj => by rw [getD_drop, show off + k + j = off + (k + j) by omega]; exact hc (k + j) (by omega))
theorem row_upto {w : World} {a : Option Addr} {n : Nat} {zs : List Int} (h : Row w a n zs) (k : Nat) (hk : k ≤ n) : Row w a k (zs.take k) := by
  refine ⟨by rw [List.length_take, h.1]; omega, byt_take h.2.1 k, ?_⟩
  by_cases h0 : k = 0
  · exact .inl h0
  · obtain ⟨b, off, rfl, hw, hc⟩ := row_open h (by omega)
    exact .inr ⟨b, off, rfl, hw, fun j hj => by rw [getD_take _ _ _ hj]; exact hc j (by omega)⟩

theorem info5 : (Tryd.prog.info? 5).map (fun i => (i.zero, i.size, i.bytes)) = some (some (.int .u8 0), 1, 1) := by kernel_rfl
def nums (zs : List Int) : List Value := zs.map (Value.int .u8)
theorem nums_one (zs : List Int) : ∀ u ∈ nums zs, u.oneCell' = true := by
  intro u hu
  obtain ⟨x, _, rfl⟩ := List.mem_map.1 hu
  rfl
theorem nums_len (zs : List Int) : (nums zs).length = zs.length := by simp [nums]
theorem nums_app (xs ys : List Int) : nums xs ++ nums ys = nums (xs ++ ys) := by simp [nums]
/-- v is a slice of n bytes, the numbers zs, in a row of the call's own (from block 'base' on), or nil. -/
def Own (w : World) (base : Nat) (v : Value) (n : Nat) (zs : List Int) : Prop := w.ownsRow base 5 1 v n (nums zs) ∧ Byt zs
theorem Own.len {w : World} {base : Nat} {v : Value} {n : Nat} {zs : List Int} (h : Own w base v n zs) : zs.length = n := by
  have := h.1.1
  rw [nums_len] at this; omega
theorem Own.form {w : World} {base : Nat} {v : Value} {n : Nat} {zs : List Int} (h : Own w base v n zs) : ∃ A c, v = .slice A n c ∧ n ≤ c ∧ Row w A n zs ∧ (∀ x, A = some x → base ≤ x.block ∧ x.block < w.heap.size) := by
  have hl := h.len
  rcases h.1.2 with ⟨rfl, rfl⟩ | ⟨g, cap, cur, rfl, hb, hg, hn, hm, hs, ht⟩
  · exact ⟨none, 0, rfl, Nat.le_refl _, ⟨hl, h.2, .inl rfl⟩, fun x hx => by cases hx⟩
  · have hlt : g < w.heap.size := (Array.getElem?_eq_some_iff.1 hg).1
    refine ⟨_, cap, rfl, hn, row_mk hl h.2 hlt (fun j hj => ?_), fun x hx => by cases hx; exact ⟨hb, hlt⟩⟩
    rw [cell_of_row w g (0 + j) cur 5 (0, 0) hg, Nat.zero_add]
    have e1 : cur[j]? = (cur.toList.take (n * 1))[j]? := by
      rw [List.getElem?_take, if_pos (by omega)]; simp
    rw [e1, ht]
    simp only [nums, List.getElem?_map, List.getD_eq_getElem?_getD]
    rw [List.getElem?_eq_getElem (by omega)]
    rfl
theorem own_nil (w : World) (base : Nat) : Own w base (.slice none 0 0) 0 [] := ⟨World.ownsRow_nil w base 5 1, fun n hn => by simp at hn⟩
theorem own_lit (w : World) (base : Nat) (zs : List Int) (hb : Byt zs) (n : Nat) (hn : zs.length = n) (hm : n ≤ maxLen) (hw : base ≤ w.heap.size) : Own (w.alloc (.cells (nums zs).toArray 5)) base (.slice (some ⟨w.heap.size, 0, none⟩) n n) n zs := by
  have := World.ownsRow_lit (base := base) (e := 5) (size := 1) w (nums zs).toArray n hw hm (by simp [nums_len, hn])
  simp only [] at this
  refine ⟨?_, hb⟩
  simpa using this
theorem Own.kept {w w' : World} {base : Nat} {v : Value} {n : Nat} {zs : List Int} (h : Own w base v n zs) (hb : Below w.heap.size w w') : Own w' base v n zs := by
  obtain ⟨⟨h1, h2⟩, h3⟩ := h
  refine ⟨⟨h1, ?_⟩, h3⟩
  rcases h2 with h2 | ⟨g, cap, cur, e1, e2, e3, e4⟩
  · exact .inl h2
  · exact .inr ⟨g, cap, cur, e1, e2, (hb.block g (Array.getElem?_eq_some_iff.1 e3).1).trans e3, e4⟩
theorem Own.lower {w : World} {base base' : Nat} {v : Value} {n : Nat} {zs : List Int} (h : Own w base v n zs) (hb : base' ≤ base) : Own w base' v n zs := by
  obtain ⟨⟨h1, h2⟩, h3⟩ := h
  refine ⟨⟨h1, ?_⟩, h3⟩
  rcases h2 with h2 | ⟨g, cap, cur, e1, e2, e3⟩
  · exact .inl h2
  · exact .inr ⟨g, cap, cur, e1, by omega, e3⟩
theorem Own.block {w : World} {base : Nat} {v : Value} {n : Nat} {zs : List Int} (h : Own w base v n zs) : ∀ k, v.ownBlock = some k → base ≤ k := fun k hk => (h.1.lt k hk).1

/-- A slice that reads as bytes, as append's and copy's laws want its cells. -/
theorem row_cells {w : World} {ad : Addr} {n : Nat} {zs : List Int} (h : Row w (some ad) n zs) : ∀ j u, (nums zs)[j]? = some u → w.cell? (ad.add j) = some u := by
  intro j u hu
  have hj : j < n := by
    have := (List.getElem?_eq_some_iff.1 hu).1
    rw [nums_len, h.1] at this; exact this
  obtain ⟨b, off, e, hw, hc⟩ := row_open h (by omega)
  cases e
  have hadd : (⟨b, off, none⟩ : Addr).add j = ⟨b, off + j, none⟩ := by unfold Addr.add; split <;> simp_all
  rw [hadd, hc j hj, ← hu]
  simp only [nums, List.getElem?_map, List.getD_eq_getElem?_getD]
  rw [List.getElem?_eq_getElem (by rw [h.1]; exact hj)]
  rfl

theorem runs_app (w : World) (base : Nat) (ty : TypeId) (v : Value) (n : Nat) (xs : List Int) (hown : Own w base v n xs) (A : Option Addr) (m c : Nat) (ys : List Int) (hr : Row w A m ys) (hc : A = none → m = 0)
    (h63 : n + m ≤ 1000000) (hbase : base ≤ w.heap.size) :
    ∃ v' w', (Builtin.append_ #[28, 28] ty #[v, .slice A m c]).run Tryd.prog w = .ok v' w' ∧ Own w' base v' (n + m) (xs ++ ys) ∧ w.grownBy w' v.ownBlock := by
  obtain ⟨i, hi, hz0, hz1, hz2⟩ := info_parts info5
  cases A with
  | none =>
    obtain rfl := hc rfl
    obtain rfl : ys = [] := List.eq_nil_of_length_eq_zero hr.1
    refine ⟨v, w, ?_, by simpa using hown, ⟨rfl, rfl, rfl, Nat.le_refl _, fun _ _ _ => rfl⟩⟩
    rcases hown.1.2 with ⟨rfl, rfl⟩ | ⟨g, cap, cur, rfl, _, _, hnc, _⟩
    · simp [Builtin.append_, run_underlying Tryd.underlying28, sizeOf, typeInfo, hi, Builtin.lenOf, Builtin.firstCells]
    · simp [Builtin.append_, run_underlying Tryd.underlying28, sizeOf, typeInfo, hi, Builtin.lenOf, Builtin.firstCells, hnc, storeCells]
  | some ad =>
    obtain ⟨v', w', h1, h2, h3, _⟩ := run_append_own_at (P := Tryd.prog) w base 28 ty 5 i (.int .u8 0) 1 1 Tryd.underlying28 hi hz0 hz1 hz2 rfl (by decide) v n (nums xs) hown.1 ad m c (nums ys) (by rw [nums_len, hr.1]; omega) (row_cells hr) (nums_one ys) (by unfold maxLen; omega) (by omega) hbase
    exact ⟨v', w', h1, ⟨by rw [← nums_app]; exact h2, byt_app hown.2 hr.2.1⟩, h3⟩

/-- out = append(out, xs...) -/
theorem wpList_app {w : World} {ops : Array Oper} {rest : List Oper} {o : Oper} {a : Act} {Q : Exit → Act → World → Prop} (hgd : o.guard = none) (s x : Operand)
    (ho : o.op = .call { callee := .builtin .append, args := #[s, x], argTypes := #[28, 28] })
    (base : Nat) (v : Value) (n : Nat) (xs : List Int) (hs : a.eval s = v) (hown : Own w base v n xs) (A : Option Addr) (m c : Nat) (ys : List Int) (hx : a.eval x = .slice A m c) (hr : Row w A m ys) (hc : A = none → m = 0)
    (h63 : n + m ≤ 1000000) (hbase : base ≤ w.heap.size)
    (h : ∀ v' w', Own w' base v' (n + m) (xs ++ ys) → w.grownBy w' v.ownBlock → wpList Tryd.prog ops Q rest (a.put o.dst v') w') : wpList Tryd.prog ops Q (o :: rest) a w := by
  refine wpList_plain hgd fun K hK => ?_
  obtain ⟨v', w', hrun, h2, h3⟩ := runs_app w base o.type v n xs hown A m c ys hr hc h63 hbase
  unfold Oper.wp execOp
  simp only [ho, resolve, invoke, builtin, Sem.run_bind, Sem.run_pure, Result.andThen_ok, List.map_toArray, List.map_cons, List.map_nil, hs, hx, hrun]
  exact hK _ _ (h v' w' h2 h3)

theorem row_none {w : World} {A : Option Addr} {n : Nat} {zs : List Int} (h : Row w A n zs) : A = none → n = 0 := by
  rintro rfl
  rcases h.2.2 with h0 | ⟨_, _, e, _⟩
  · exact h0
  · cases e
theorem below_own {B base : Nat} {w0 w w' : World} {v : Value} {n : Nat} {zs : List Int} (h : Below B w0 w) (ho : Own w base v n zs) (hg : w.grownBy w' v.ownBlock) (hB : B ≤ base) (hs : B ≤ w.heap.size) : Below B w0 w' :=
  h.grown hg hs (fun k hk => Nat.le_trans hB (ho.block k hk))
/-- A byte of a row anew. -/
theorem set_row {w : World} {g n K : Nat} {cur : Array Value} {xs : List Int} (hG : Has w g 5 cur) (hct : cur.toList.take n = nums xs) (hxl : xs.length = n) (hK : K < n) (hb : Byt xs) (y : Int) (hy : 0 ≤ y ∧ y ≤ 255) :
    Row (w.setCell ⟨g, K, none⟩ (.int .u8 y)) (some ⟨g, 0, none⟩) n (xs.set K y) := by
  have hput := hG.put K (.int .u8 y)
  refine row_mk (by rw [List.length_set, hxl]) ?_ hput.size (fun j hj => ?_)
  · intro m hm
    rcases List.mem_or_eq_of_mem_set hm with h | rfl
    · exact hb m h
    · exact hy
  · have hcs : n ≤ cur.size := by
      have := congrArg List.length hct
      rw [List.length_take, nums_len, hxl, Array.length_toList] at this
      omega
    rw [hput.at, Nat.zero_add, Array.getElem?_setIfInBounds]
    by_cases e : K = j
    · subst e
      rw [if_pos rfl, if_pos (by omega), List.getD_eq_getElem?_getD, List.getElem?_set_self (by omega)]
      rfl
    · rw [if_neg e]
      have e1 : cur[j]? = (cur.toList.take n)[j]? := by rw [List.getElem?_take, if_pos hj]; simp
      rw [e1, hct, List.getD_eq_getElem?_getD, List.getElem?_set_ne e]
      simp only [nums, List.getElem?_map]
      rw [List.getElem?_eq_getElem (by omega)]
      rfl
/-- A slice of bytes that came in. -/
theorem row_of {w : World} {a : Option Addr} {len cap : Nat} {zs : List Int}
    (h : (a = none ∧ len = 0 ∧ cap = 0 ∧ zs = []) ∨ ∃ x, a = some x ∧ len ≤ cap ∧ cap ≤ maxLen ∧ zs.length = cap ∧ (∀ i, i < zs.length → w.cell? (x.add i) = some (.int .u8 (zs.getD i 0))) ∧ ∀ n ∈ zs, (Lit.int .u8 n).wf = true) : Row w a len (zs.take len) := by
  rcases h with ⟨rfl, rfl, rfl, rfl⟩ | ⟨x, rfl, hlc, hm, hz, hc, hwf⟩
  · exact ⟨rfl, fun n hn => by simp at hn, .inl rfl⟩
  · refine ⟨by simp; omega, fun n hn => bounds_u8 (hwf n (List.mem_of_mem_take hn)), ?_⟩
    by_cases h0 : len = 0
    · exact .inl h0
    · obtain ⟨b, off, rfl, hcell⟩ := ints_at hc (by omega)
      refine .inr ⟨b, off, rfl, ?_, fun j hj => ?_⟩
      · have := hcell 0 (by omega)
        exact World.block_lt_of_cell? _ _ this
      · rw [hcell j (by omega)]
        simp [List.getD_eq_getElem?_getD, hj]
theorem row_nil (w : World) : Row w none 0 [] := ⟨rfl, fun n hn => by simp at hn, .inl rfl⟩
/-- Bytes that a call has laid. -/
theorem row_text (w : World) (zs : List Int) (hb : Byt zs) (n : Nat) (hn : zs.length = n) (fr : Nat × Nat) : Row (w.alloc (.cells (nums zs).toArray 5 fr)) (some ⟨w.heap.size, 0, none⟩) n zs := by
  refine row_mk hn hb (by simp) (fun j hj => ?_)
  rw [cell_of_row _ w.heap.size (0 + j) (nums zs).toArray 5 fr (heap_alloc_new w _), Nat.zero_add]
  simp only [nums, List.getElem?_toArray, List.getElem?_map, List.getD_eq_getElem?_getD]
  rw [List.getElem?_eq_getElem (by omega)]
  rfl
/-- A row of bytes as a text. -/
theorem conv_row {w : World} {a : Option Addr} {n c : Nat} {zs : List Int} (h : Row w a n zs) : (convert 28 9 (.slice a n c)).run Tryd.prog w = .ok (.string (strOfNums zs)) w := by
  by_cases hn : 0 < n
  · obtain ⟨b, off, rfl, _, hc⟩ := row_open h hn
    exact run_convert_bytes_arg w 28 5 Tryd.underlying28 Tryd.underlying5 b off n c zs h.1 hc 9 Tryd.underlying9
  · obtain rfl : n = 0 := by omega
    obtain rfl : zs = [] := List.eq_nil_of_length_eq_zero h.1
    cases a with
    | none => exact run_convert_bytes_nil w 28 5 Tryd.underlying28 Tryd.underlying5 0 c 9 Tryd.underlying9
    | some ad =>
      have hl : (loadCells ad 0).run Tryd.prog w = .ok (([] : List Int).map (Value.int .u8)).toArray w := run_loadCells_list (P := Tryd.prog) w ad [] (fun j v hj => by simp at hj)
      rw [run_convert_bytes_string w 28 9 5 _ 0 c Tryd.underlying28 Tryd.underlying5 Tryd.underlying9, run_bytesToString w _ 0 c [] hl]
      rfl
theorem str_same {xs ys : List Int} (hx : Byt xs) (hy : Byt ys) : strOfNums xs = strOfNums ys ↔ xs = ys := by
  constructor
  · intro h
    have h2 : xs.map (fun n => UInt8.ofNat n.toNat) = ys.map (fun n => UInt8.ofNat n.toNat) := by rw [← strOfNums_data, ← strOfNums_data, h]
    have hl : xs.length = ys.length := by simpa using congrArg List.length h2
    refine List.ext_getElem hl fun i h3 h4 => ?_
    have h5 := congrArg (fun l => (l[i]?).map UInt8.toNat) h2
    simp only [List.getElem?_map, List.getElem?_eq_getElem h3, List.getElem?_eq_getElem h4, Option.map_some, Option.some.injEq, UInt8.toNat_ofNat'] at h5
    have b1 := hx _ (List.getElem_mem h3)
    have b2 := hy _ (List.getElem_mem h4)
    omega
  · rintro rfl
    rfl
def zeroBytes (c : Nat) : Array Value := (nums (List.replicate c 0)).toArray
theorem make_bytes (kl kc : IntKind) (l c : Nat) (hlc : l ≤ c) (hc : c ≤ 1000000) (w : World) : (Instr.makeSlice 28 (.int kl (l : Int)) (.int kc (c : Int))).run Tryd.prog w = .ok (.slice (some ⟨w.heap.size, 0, none⟩) l c) (w.alloc (.cells (zeroBytes c) 5)) := by
  obtain ⟨i, hi, hz0, hz1, hz2⟩ := info_parts info5
  have h := run_make (P := Tryd.prog) w 28 5 i (.int .u8 0) Tryd.underlying28 hi hz0 kl kc l c (by omega) (by omega) (by rw [hz2]; omega) (by omega)
  rw [h, hz1]
  have e : madeCells (Value.int .u8 0).cells (((c : Int)).toNat * 1) = zeroBytes c := by
    unfold zeroBytes
    apply Array.ext'
    rw [show (Value.int .u8 0).cells = #[Value.int .u8 0] from rfl, toList_madeCells_one]
    simp [nums]
  rw [e]
  simp
theorem own_made (w : World) (base c : Nat) (hc : c ≤ 1000000) (hb : base ≤ w.heap.size) : Own (w.alloc (.cells (zeroBytes c) 5)) base (.slice (some ⟨w.heap.size, 0, none⟩) 0 c) 0 [] := by
  refine ⟨⟨by simp [nums], .inr ⟨w.heap.size, c, zeroBytes c, rfl, hb, heap_alloc_new w _, by omega, by unfold maxLen; omega, by simp [zeroBytes, nums], by simp [nums]⟩⟩, fun n hn => by simp at hn⟩
/-- A call answers a new row. -/
def Gives (n : Nat) (zs : List Int) (w : World) (e : Ending) (w' : World) : Prop := ∃ v, e = .returned v ∧ Own w' w.heap.size v n zs ∧ Below w.heap.size w w'
theorem row_two (w : World) {x y : Int} (hx : 0 ≤ x ∧ x ≤ 255) (hy : 0 ≤ y ∧ y ≤ 255) : Row (w.alloc (.cells #[.int .u8 x, .int .u8 y] 5)) (some ⟨w.heap.size, 0, none⟩) 2 [x, y] := row_text w [x, y] (byt_two hx hy) 2 rfl (0, 0)
theorem row_one (w : World) {x : Int} (hx : 0 ≤ x ∧ x ≤ 255) : Row (w.alloc (.cells #[.int .u8 x] 5)) (some ⟨w.heap.size, 0, none⟩) 1 [x] := row_text w [x] (byt_one hx) 1 rfl (0, 0)
theorem nums_at {L : List Int} {j : Nat} (h : j < L.length) : (nums L).toArray[j]? = some (.int .u8 (L.getD j 0)) := by
  simp only [nums, List.getElem?_toArray, List.getElem?_map, List.getD_eq_getElem?_getD]
  rw [List.getElem?_eq_getElem h]
  rfl
theorem has_at {w : World} {G : Nat} {L : List Int} (h : Has w G 5 (nums L).toArray) {j : Nat} (hj : j < L.length) : w.cell? ⟨G, j, none⟩ = some (.int .u8 (L.getD j 0)) := by rw [h.at, nums_at hj]
theorem has_set {w : World} {G : Nat} {L : List Int} (h : Has w G 5 (nums L).toArray) (j : Nat) (y : Int) : Has (w.setCell ⟨G, j, none⟩ (.int .u8 y)) G 5 (nums (L.set j y)).toArray := by
  have := h.put j (.int .u8 y)
  rwa [show (nums L).toArray.setIfInBounds j (.int .u8 y) = (nums (L.set j y)).toArray by simp [nums, List.map_set]] at this
theorem has_row {w : World} {G : Nat} {L : List Int} (h : Has w G 5 (nums L).toArray) (hb : Byt L) : Row w (some ⟨G, 0, none⟩) L.length L :=
  row_mk rfl hb h.size (fun j hj => by rw [Nat.zero_add]; exact has_at h hj)
theorem belowThen {w w1 w2 : World} (h : Below w.heap.size w w1) (h2 : Below w1.heap.size w1 w2) : Below w.heap.size w w2 := h.trans (h2.mono h.size)
/-- A row that a call made, laid open: its block. -/
theorem own_block {w : World} {base : Nat} {v : Value} {n : Nat} {zs : List Int} (h : Own w base v n zs) (hn : 0 < n) : ∃ g cap cur, v = .slice (some ⟨g, 0, none⟩) n cap ∧ base ≤ g ∧ Has w g 5 cur ∧ n ≤ cap ∧ cur.toList.take n = nums zs ∧ ∀ j, j < n → w.cell? ⟨g, j, none⟩ = some (.int .u8 (zs.getD j 0)) := by
  have hl := h.len
  rcases h.1.2 with ⟨_, e⟩ | ⟨g, cap, cur, e1, e2, e3, e4, e5, e6, e7⟩
  · omega
  · have e7' : cur.toList.take n = nums zs := by simpa using e7
    refine ⟨g, cap, cur, e1, e2, e3, e4, e7', fun j hj => ?_⟩
    rw [cell_of_row w g j cur 5 (0, 0) e3]
    have q1 : cur[j]? = (cur.toList.take n)[j]? := by rw [List.getElem?_take, if_pos hj]; simp
    rw [q1, e7']
    simp only [nums, List.getElem?_map, List.getD_eq_getElem?_getD]
    rw [List.getElem?_eq_getElem (by omega)]
    rfl
/-- Of the blocks that are there only those of p may have turned. -/
structure Only (p : Nat → Prop) (w w' : World) : Prop where
  os : w'.os = w.os
  tape : w'.tape = w.tape
  output : w'.output = w.output
  size : w.heap.size ≤ w'.heap.size
  block : ∀ b, b < w.heap.size → ¬ p b → w'.heap[b]? = w.heap[b]?
theorem Only.refl (p : Nat → Prop) (w : World) : Only p w w := ⟨rfl, rfl, rfl, Nat.le_refl _, fun _ _ _ => rfl⟩
theorem Only.trans {p : Nat → Prop} {a b c : World} (h : Only p a b) (k : Only p b c) : Only p a c :=
  ⟨k.os.trans h.os, k.tape.trans h.tape, k.output.trans h.output, Nat.le_trans h.size k.size, fun i hi hp => (k.block i (Nat.lt_of_lt_of_le hi h.size) hp).trans (h.block i hi hp)⟩
theorem Only.mono {p q : Nat → Prop} {w w' : World} (h : Only p w w') (hpq : ∀ b, p b → q b) : Only q w w' := ⟨h.os, h.tape, h.output, h.size, fun b hb hq => h.block b hb fun hp => hq (hpq b hp)⟩
theorem Only.drew {p : Nat → Prop} {a w : World} (h : Only p a w) : Only p a w.drew := ⟨h.os, h.tape, h.output, h.size, h.block⟩
theorem Only.drewN {p : Nat → Prop} {a w : World} (h : Only p a w) (n : Nat) : Only p a (w.drewN n) := ⟨h.os, h.tape, h.output, h.size, h.block⟩
theorem Only.alloc {p : Nat → Prop} {a w : World} (h : Only p a w) (o : Obj) : Only p a (w.alloc o) :=
  h.trans ⟨rfl, rfl, rfl, by simp, fun b hb _ => Below.heap_alloc _ _ _ hb⟩
theorem Only.below {p : Nat → Prop} {a w w' : World} (h : Only p a w) (hb : Below w.heap.size w w') : Only p a w' :=
  h.trans ⟨hb.os, hb.tape, hb.output, hb.size, fun b hlt _ => hb.block b hlt⟩
theorem Only.below' {p : Nat → Prop} {a w w' : World} (h : Only p a w) (hb : Below a.heap.size w w') : Only p a w' :=
  ⟨hb.os.trans h.os, hb.tape.trans h.tape, hb.output.trans h.output, Nat.le_trans h.size hb.size, fun b hlt hp => (hb.block b hlt).trans (h.block b hlt hp)⟩
theorem Only.of_below {p : Nat → Prop} {w w' : World} (hb : Below w.heap.size w w') : Only p w w' := (Only.refl p w).below hb
theorem Only.setCell {p : Nat → Prop} {a w : World} (h : Only p a w) {q : Addr} (hq : p q.block) (v : Value) : Only p a (w.setCell q v) :=
  h.trans ⟨rfl, rfl, rfl, by simp [World.setCell], fun b hb hp => Below.heap_setCell _ _ _ _ (fun e => hp (e ▸ hq))⟩
theorem Only.setNew {p : Nat → Prop} {a w : World} (h : Only p a w) {q : Addr} (hq : a.heap.size ≤ q.block) (v : Value) : Only p a (w.setCell q v) :=
  h.below' ((Below.refl _ _).setCell hq v)
theorem Only.setRow {p : Nat → Prop} {a w : World} (h : Only p a w) {b : Nat} (hq : p b) (cs : Array Value) : Only p a (w.setRow b cs) :=
  h.trans ⟨rfl, rfl, rfl, by rw [setRow_size]; exact Nat.le_refl _, fun i hi hp => setRow_other w b i cs (fun e => hp (e ▸ hq))⟩
theorem Only.to_below {p : Nat → Prop} {w w' : World} {B : Nat} (h : Only p w w') (hB : B ≤ w.heap.size) (hp : ∀ b, p b → B ≤ b) : Below B w w' :=
  ⟨h.os, h.tape, h.output, h.size, fun b hb => h.block b (by omega) fun hpb => by have := hp b hpb; omega⟩
theorem Has.only {w w' : World} {p : Nat → Prop} {g : Nat} {t : TypeId} {cs : Array Value} (h : Has w g t cs) (o : Only p w w') (hp : ¬ p g) : Has w' g t cs := (o.block g h.size hp).trans h
theorem row_keep {w w' : World} {p : Nat → Prop} {a : Option Addr} {n : Nat} {zs : List Int} (h : Row w a n zs) (o : Only p w w') (hp : ∀ x, a = some x → ¬ p x.block) : Row w' a n zs := by
  obtain ⟨h1, h2, h3⟩ := h
  refine ⟨h1, h2, ?_⟩
  rcases h3 with h0 | ⟨b, off, ha, hbw, hc⟩
  · exact .inl h0
  · exact .inr ⟨b, off, ha, Nat.lt_of_lt_of_le hbw o.size, fun j hj => (World.cell?_of_block (o.block b hbw (hp _ ha))).trans (hc j hj)⟩

/-- An append of a drawn region whose run is known. -/
theorem step_run {w : World} {ops : Array Oper} {o : Oper} {a : Act} {K : Act → World → Prop} {Q : Exit → Act → World → Prop} {E : Prop} (hw : Region.wanted o (yielded ops a.tmps) = true) (s x : Operand)
    (ho : o.op = .call { callee := .builtin .append, args := #[s, x], argTypes := #[28, 28] }) (t : TypeId) (hty : o.type = t) (v u v' : Value) (hs : a.eval s = v) (hx : a.eval x = u) {w' : World}
    (hrun : (Builtin.append_ #[28, 28] t #[v, u]).run Tryd.prog w = .ok v' w') (h : K (a.put o.dst v') w') :
    if Region.wanted o (yielded ops a.tmps) = true then Oper.wp Tryd.prog o a w K Q else E := by
  rw [if_pos hw]
  unfold Oper.wp execOp
  simp only [ho, hty, resolve, invoke, builtin, Sem.run_bind, Sem.run_pure, Result.andThen_ok, List.map_toArray, List.map_cons, List.map_nil, hs, hx, hrun]
  exact h
end Go.Proofs.YtcokpdhhpaahgaaDoor

namespace Go.Proofs.YtcokpdhhpaahgaaDoor
open Go.RowKit
set_option linter.unusedVariables false
set_option linter.unusedSimpArgs false

theorem cut_any (s : Int) (m : Nat) (w : World) : Calls Tryd.prog 81 #[.int .i64 s, .int .i64 (m : Int)] w fun e w' => e = .returned (.int .i64 (cutN s m : Int)) ∧ w = w' := by
  by_cases h0 : s < 0
  · rw [cut_low h0]
    have e1 : max s 0 = 0 := by omega
    have e2 : min (0 : Int) (m : Int) = 0 := by omega
    go_enter Tryd.func81, Tryd.ntmps81
    go_wp2
    go_ret
    exact ⟨rfl, rfl⟩
  · by_cases h1 : (m : Int) < s
    · rw [cut_high h1]
      go_enter Tryd.func81, Tryd.ntmps81
      go_wp2
      go_ret
      exact ⟨rfl, rfl⟩
    · rw [cut_mid (by omega) (by omega)]
      go_enter Tryd.func81, Tryd.ntmps81
      go_wp2
      go_ret
      exact ⟨rfl, rfl⟩
theorem rcut_any (s : Int) (m : Nat) (w : World) : Calls Tryd.prog 70 #[.int .i64 s, .int .i64 0, .int .i64 (m : Int)] w fun e w' => e = .returned (.int .i64 (cutN s m : Int)) ∧ w = w' := by
  by_cases h0 : s < 0
  · rw [cut_low h0]
    go_enter Tryd.func70, Tryd.ntmps70
    go_wp2
    go_ret
    exact ⟨rfl, rfl⟩
  · by_cases h1 : (m : Int) < s
    · rw [cut_high h1]
      go_enter Tryd.func70, Tryd.ntmps70
      go_wp2
      go_ret
      exact ⟨rfl, rfl⟩
    · rw [cut_mid (by omega) (by omega)]
      go_enter Tryd.func70, Tryd.ntmps70
      go_wp2
      go_ret
      exact ⟨rfl, rfl⟩
theorem cut1000 (s : Int) (w : World) : Calls Tryd.prog 81 #[.int .i64 s, .int .i64 1000] w fun e w' => e = .returned (.int .i64 (cutN s 1000 : Int)) ∧ w = w' := cut_any s 1000 w
theorem cut8 (s : Int) (w : World) : Calls Tryd.prog 81 #[.int .i64 s, .int .i64 8] w fun e w' => e = .returned (.int .i64 (cutN s 8 : Int)) ∧ w = w' := cut_any s 8 w
theorem rcut1000 (s : Int) (w : World) : Calls Tryd.prog 70 #[.int .i64 s, .int .i64 0, .int .i64 1000] w fun e w' => e = .returned (.int .i64 (cutN s 1000 : Int)) ∧ w = w' := rcut_any s 1000 w
theorem rcut8 (s : Int) (w : World) : Calls Tryd.prog 70 #[.int .i64 s, .int .i64 0, .int .i64 8] w fun e w' => e = .returned (.int .i64 (cutN s 8 : Int)) ∧ w = w' := rcut_any s 8 w
set_option maxRecDepth 100000 in
theorem clone_any (A : Option Addr) (n c : Nat) (zs : List Int) (w : World) (hr : Row w A n zs) (hn : n ≤ 1000000) : Calls Tryd.prog 75 #[.slice A n c] w (Gives n zs w) := by
  cases A with
  | none =>
    obtain rfl := row_none hr rfl
    obtain rfl : zs = [] := List.eq_nil_of_length_eq_zero hr.1
    have he : ∀ w : World, (binOp .eql 28 (.slice none 0 c) (.slice none 0 0)).run Tryd.prog w = .ok (.bool true) w := fun _ => rfl
    go_enter Tryd.func75, Tryd.ntmps75
    go_wp2
    go_ret
    exact ⟨_, rfl, own_nil _ _, Below.refl _ _⟩
  | some x =>
    have hb0 : Below w.heap.size w (w.alloc (.cells #[] 5)) := (Below.refl _ w).alloc (Nat.le_refl _) _
    have ho : Own (w.alloc (.cells #[] 5)) w.heap.size (.slice (some ⟨w.heap.size, 0, none⟩) 0 0) 0 [] := own_lit w w.heap.size [] byt_nil 0 rfl (Nat.zero_le _) (Nat.le_refl _)
    have hr1 := row_below hb0 hr
    have hsz := hb0.size
    have he : ∀ w : World, (binOp .eql 28 (.slice (some x) n c) (.slice none 0 0)).run Tryd.prog w = .ok (.bool false) w := fun _ => rfl
    go_enter Tryd.func75, Tryd.ntmps75
    go_wp2_with (at_builtin; (with_reducible refine wpList_app rfl _ _ rfl w.heap.size (.slice (some ⟨w.heap.size, 0, none⟩) 0 0) 0 [] rfl ho _ _ _ zs rfl hr1 (row_none hr1) (by omega) hsz ?_); intro v' w' h3 h4)
    rw [Nat.zero_add] at h3
    go_ret
    exact ⟨_, rfl, h3, below_own hb0 ho h4 (Nat.le_refl _) hsz⟩

theorem add_block (a : Addr) (k : Nat) : (a.add k).block = a.block := by unfold Addr.add; split <;> rfl
theorem addr_add (b off k : Nat) : (⟨b, off, none⟩ : Addr).add k = ⟨b, off + k, none⟩ := by unfold Addr.add; split <;> simp_all
theorem size5 : (Tryd.prog.info? 5).map (·.size) = some 1 := by kernel_rfl
theorem elem29 : Tryd.prog.elem 28 = 5 := by kernel_rfl
theorem run_from (w : World) (A : Option Addr) (n c : Nat) (k : IntKind) (K : Nat) (hK : K ≤ n) (hnc : n ≤ c) : (Instr.sliceAt 28 (.slice A n c) (some (.int k (K : Int))) none none).run Tryd.prog w = .ok (sliced A K n c 1) w := by
  obtain ⟨i, hi, hsz⟩ := Option.map_eq_some_iff.1 size5
  have hu : Tryd.prog.underlying 28 = some (.slice (Tryd.prog.elem 28)) := by rw [elem29]; exact Tryd.underlying28
  rw [run_sliceAt_slice w 28 _ _ _ _ hu, run_slice_l w 28 A n c hu k K (by omega) (by omega), elem29]
  simp [sizeOf, typeInfo, hi, hsz]
theorem run_upto (w : World) (A : Option Addr) (n c : Nat) (k : IntKind) (K : Nat) (hK : K ≤ c) : (Instr.sliceAt 28 (.slice A n c) none (some (.int k (K : Int))) none).run Tryd.prog w = .ok (sliced A 0 K c 1) w := by
  obtain ⟨i, hi, hsz⟩ := Option.map_eq_some_iff.1 size5
  have hu : Tryd.prog.underlying 28 = some (.slice (Tryd.prog.elem 28)) := by rw [elem29]; exact Tryd.underlying28
  rw [run_sliceAt_slice w 28 _ _ _ _ hu, run_slice_h w 28 A n c hu k K (by omega) (by omega), elem29]
  simp [sizeOf, typeInfo, hi, hsz]
/-- An address whose block lies below T, if there is one with cells. -/
def Lies (A : Option Addr) (n T : Nat) : Prop := 0 < n → ∀ x, A = some x → x.block < T
theorem lies_none (n T : Nat) : Lies none n T := fun _ x hx => by cases hx
theorem row_lies {w : World} {A : Option Addr} {n : Nat} {zs : List Int} (h : Row w A n zs) : Lies A n w.heap.size := by
  intro h0 x hx
  obtain ⟨b, off, e, hb, _⟩ := row_open h h0
  rw [e] at hx
  cases hx
  exact hb
/-- A row stays where nothing of its own block has turned. -/
theorem row_stays {w w' : World} {P : Nat → Prop} {a : Option Addr} {n : Nat} {zs : List Int} (h : Row w a n zs) (o : Only P w w') (hp : 0 < n → ∀ x, a = some x → ¬ P x.block) : Row w' a n zs := by
  by_cases h0 : 0 < n
  · exact row_keep h o (hp h0)
  · exact ⟨h.1, h.2.1, .inl (by omega)⟩
theorem row_under {w w' : World} {P : Nat → Prop} {a : Option Addr} {n T : Nat} {zs : List Int} (h : Row w a n zs) (hl : Lies a n T) (o : Only P w w') (hp : ∀ b, P b → T ≤ b) : Row w' a n zs :=
  row_stays h o fun h0 x hx hP => by have := hl h0 x hx; have := hp _ hP; omega
theorem row_cut {w : World} {A : Option Addr} {n c : Nat} {zs : List Int} {T : Nat} (hr : Row w A n zs) (hA : Lies A n T) (K : Nat) (hK : K ≤ n) (hnc : n ≤ c) :
    ∃ A', sliced A K n c 1 = .slice A' (n - K) (c - K) ∧ Row w A' (n - K) (zs.drop K) ∧ Lies A' (n - K) T := by
  refine ⟨_, rfl, ?_, ?_⟩
  · by_cases h0 : n = K
    · exact ⟨by rw [List.length_drop, hr.1], byt_drop hr.2.1 _, .inl (by omega)⟩
    · rw [if_neg (by omega)]
      obtain ⟨b, off, rfl, hw, hc⟩ := row_open hr (by omega)
      have e : (some (⟨b, off, none⟩ : Addr)).map (·.add (K * 1)) = some ⟨b, off + K, none⟩ := by rw [Option.map_some, addr_add, Nat.mul_one]
      rw [e]
      exact row_from hr K (by omega)
  · intro h0 x hx
    split at hx
    · exact hA (by omega) x hx
    · obtain ⟨y, hy, rfl⟩ := Option.map_eq_some_iff.1 hx
      rw [add_block]
      exact hA (by omega) y hy
theorem row_head {w : World} {A : Option Addr} {n c : Nat} {zs : List Int} {T : Nat} (hr : Row w A n zs) (hA : Lies A n T) (K : Nat) (hK : K ≤ n) (hnc : n ≤ c) :
    ∃ A', sliced A 0 K c 1 = .slice A' K c ∧ Row w A' K (zs.take K) ∧ Lies A' K T := by
  refine ⟨_, rfl, ?_, ?_⟩
  · have h := row_upto hr K hK
    by_cases h0 : K = 0
    · exact ⟨h.1, h.2.1, .inl h0⟩
    · rw [if_neg (by omega)]
      obtain ⟨b, off, rfl, hw, hc⟩ := row_open hr (by omega)
      have e : (some (⟨b, off, none⟩ : Addr)).map (·.add (0 * 1)) = some ⟨b, off, none⟩ := by rw [Option.map_some, addr_add]; simp
      rw [e]
      exact h
  · intro h0 x hx
    split at hx
    · exact hA (by omega) x hx
    · obtain ⟨y, hy, rfl⟩ := Option.map_eq_some_iff.1 hx
      rw [add_block]
      exact hA (by omega) y hy

/-- The program's reader at block p, its row below block T. -/
def Rd (w : World) (p T : Nat) (S : Rs) : Prop :=
  S.Ok ∧ T ≤ p ∧ S.rest.length ≤ 1000000 ∧ ∃ A c, Has w p 102 #[.slice A S.rest.length c, .bool S.bad] ∧ Row w A S.rest.length S.rest ∧ S.rest.length ≤ c ∧ Lies A S.rest.length T
/-- The document's reader. -/
def Rr (w : World) (p T : Nat) (S : Rs) : Prop :=
  S.Ok ∧ T ≤ p ∧ S.rest.length ≤ 1000000 ∧ ∃ A n c zs, Has w p 105 #[.slice A n c, .bool S.bad] ∧ Row w A n zs ∧ n ≤ c ∧ Lies A n T ∧ (S.bad = false → zs = S.rest)
theorem Rd.only {w w' : World} {p T : Nat} {S : Rs} {P : Nat → Prop} (h : Rd w p T S) (o : Only P w w') (hp : ∀ b, P b → T ≤ b ∧ b ≠ p) : Rd w' p T S := by
  obtain ⟨h1, h2, h3, A, c, h4, h5, h6, h7⟩ := h
  exact ⟨h1, h2, h3, A, c, h4.only o (fun x => (hp _ x).2 rfl), row_under h5 h7 o (fun b hb => (hp b hb).1), h6, h7⟩
theorem Rr.only {w w' : World} {p T : Nat} {S : Rs} {P : Nat → Prop} (h : Rr w p T S) (o : Only P w w') (hp : ∀ b, P b → T ≤ b ∧ b ≠ p) : Rr w' p T S := by
  obtain ⟨h1, h2, h3, A, n, c, zs, h4, h5, h6, h7, h8⟩ := h
  exact ⟨h1, h2, h3, A, n, c, zs, h4.only o (fun x => (hp _ x).2 rfl), row_under h5 h7 o (fun b hb => (hp b hb).1), h6, h7, h8⟩
/-- What a reader's call leaves: only the reader itself may have turned. -/
def RdTo (p T : Nat) (S : Rs) (w w' : World) : Prop := Rd w' p T S ∧ Only (fun b => b = p) w w'
def RrTo (p T : Nat) (S : Rs) (w w' : World) : Prop := Rr w' p T S ∧ Only (fun b => b = p) w w'
/-- What take answers. -/
def Took (S : Rs) (p T k : Nat) (w : World) (e : Ending) (w' : World) : Prop := ∃ A c, e = .returned (.slice A (got S k).length c) ∧ Row w' A (got S k).length (got S k) ∧ RdTo p T (aft S k) w w'
set_option maxRecDepth 100000 in
theorem take_any {p T : Nat} {S : Rs} (k : Nat) (w : World) (hS : Rd w p T S) (hk : k ≤ 1000) : Calls Tryd.prog 80 #[.pointer (some ⟨p, 0, none⟩), .int .i64 (k : Int)] w (Took S p T k w) := by
  obtain ⟨hok, hT, hle, A, c, hh, hr, hc, hA⟩ := hS
  have q0 : w.cell? ⟨p, 0, none⟩ = some (.slice A S.rest.length c) := hh.at 0
  have q1 : w.cell? ⟨p, 1, none⟩ = some (.bool S.bad) := hh.at 1
  have f0 := hh.soft 0
  have f1 := hh.soft 1
  have o1 : Only (fun b => b = p) w (w.setCell ⟨p, 0, none⟩ (.slice none 0 0)) := (Only.refl (fun b => b = p) w).setCell rfl _
  by_cases hlt : S.rest.length < k
  · have HE := Lib.hid (show Took S p T k w (.returned (.slice none 0 0)) ((w.setCell ⟨p, 0, none⟩ (.slice none 0 0)).setCell ⟨p, 1, none⟩ (.bool true)) by
      refine ⟨none, 0, by rw [got_short hlt]; rfl, by rw [got_short hlt]; exact row_nil _, ?_, o1.setCell rfl _⟩
      rw [aft_short hlt]
      exact ⟨⟨byt_nil, fun _ => rfl⟩, hT, by simp, none, 0, (hh.put 0 _).put 1 _, row_nil _, Nat.le_refl _, lies_none _ _⟩)
    go_enter Tryd.func80, Tryd.ntmps80
    go_wp2
    go_ret
    exact HE.out
  · have hkn : k ≤ S.rest.length := by omega
    obtain ⟨A1, e1, r1, l1⟩ := row_head hr hA k hkn hc
    obtain ⟨A2, e2, r2, l2⟩ := row_cut hr hA k hkn hc
    have R1 := run_upto w A S.rest.length c .i64 k (by omega)
    have R2 := run_from w A S.rest.length c .i64 k hkn hc
    rw [e1] at R1
    rw [e2] at R2
    have o2 : Only (fun b => b = p) w (w.setCell ⟨p, 0, none⟩ (.slice A2 (S.rest.length - k) (c - k))) := (Only.refl (fun b => b = p) w).setCell rfl _
    have HE := Lib.hid (show Took S p T k w (.returned (.slice A1 k c)) (w.setCell ⟨p, 0, none⟩ (.slice A2 (S.rest.length - k) (c - k))) by
      have hr1 := row_under r1 l1 o2 (fun b e => by omega)
      have hr2 := row_under r2 l2 o2 (fun b e => by omega)
      have hput := hh.put 0 (.slice A2 (S.rest.length - k) (c - k))
      cases hb : S.bad with
      | false =>
        have hg := got_yes hb hkn
        have ha := aft_yes hb hkn
        have hl1 : (S.rest.take k).length = k := by rw [List.length_take]; omega
        have hl2 : (S.rest.drop k).length = S.rest.length - k := List.length_drop ..
        refine ⟨A1, c, by rw [hg, hl1], by rw [hg, hl1]; exact hr1, ?_, o2⟩
        rw [ha]
        refine ⟨⟨byt_drop hok.1 _, fun h => by cases h⟩, hT, by simp only []; omega, A2, c - k, ?_, by simp only []; rw [hl2]; exact hr2, by simp only []; omega, by simp only [hl2]; exact l2⟩
        simp only [hl2]
        rw [hb] at hput
        exact hput
      | true =>
        have h0 := hok.2 hb
        obtain rfl : k = 0 := by rw [h0] at hkn; simpa using hkn
        have hl0 : S.rest.length - 0 = 0 := by rw [h0]; rfl
        generalize w.setCell ⟨p, 0, none⟩ (.slice A2 (S.rest.length - 0) (c - 0)) = W at *
        rw [hb, hl0] at hput
        refine ⟨A1, c, by rw [got_bad hb]; rfl, by rw [got_bad hb]; exact ⟨rfl, byt_nil, .inl rfl⟩, ?_, o2⟩
        rw [aft_bad hb]
        exact ⟨⟨byt_nil, fun _ => rfl⟩, hT, by simp, A2, c - 0, hput, ⟨rfl, byt_nil, .inl rfl⟩, Nat.zero_le _, fun h => absurd h (by simp)⟩)
    clear hr hA hc hok hT r1 r2 l1 l2 o1 o2 e1 e2 hh
    go_enter Tryd.func80, Tryd.ntmps80
    go_wp2
    go_ret
    exact HE.out
theorem newReader_any (A : Option Addr) (n c : Nat) (zs : List Int) (w : World) (hr : Row w A n zs) (hn : n ≤ 1000000) :
    Calls Tryd.prog 59 #[.slice A n c] w fun e w' => ∃ p, e = .returned (.pointer (some ⟨p, 0, none⟩)) ∧ w.heap.size ≤ p ∧ Rd w' p p ⟨zs, false⟩ ∧ Below w.heap.size w w' := by
  have HC := Lib.hid (clone_any A n c zs w hr hn)
  have HZ := Lib.hid hr.2.1
  have HL := Lib.hid hr.1
  clear hr
  go_enter Tryd.func59, Tryd.ntmps59
  go_wp2_with (go_at_call 75; (with_reducible refine HC.out.mono ?_); rintro e w1 ⟨v, rfl, ho, hb⟩; obtain ⟨A1, c1, rfl, hc1, hr1, hk1⟩ := ho.form)
  have hb2 : Below w.heap.size w (w1.alloc (.cells #[.slice A1 n c1, .bool false] 102)) := hb.alloc hb.size _
  have hl := HL.out
  go_ret
  exact ⟨w1.heap.size, rfl, hb.size, ⟨⟨HZ.out, fun h => by cases h⟩, Nat.le_refl _, by simp only []; omega, A1, c1, by simp only [hl]; exact has_new _ _ _, by simp only [hl]; exact row_below ((Below.refl _ _).alloc (Nat.le_refl _) _) hr1, by simp only [hl]; exact hc1, fun _ x hx => (hk1 x hx).2⟩, hb2⟩
/-- What Raw answers. -/
def GivesR (zs : List Int) (w : World) (X : World → Prop) (e : Ending) (w' : World) : Prop := ∃ v, e = .returned v ∧ Own w' w.heap.size v zs.length zs ∧ X w'
set_option maxRecDepth 100000 in
theorem raw_any {p T : Nat} {S : Rs} (s : Int) (w : World) (hS : Rd w p T S) : Calls Tryd.prog 62 #[.pointer (some ⟨p, 0, none⟩), .int .i64 s] w (GivesR (got S (cutN s 1000)) w (RdTo p T (aft S (cutN s 1000)) w)) := by
  have HC := Lib.hid (cut1000 s w)
  have HT := Lib.hid (take_any (cutN s 1000) w hS (cut_le _ _))
  have hgl := got_len S (cutN s 1000)
  have hcl := cut_le s 1000
  have hp : p < w.heap.size := by obtain ⟨_, _, _, _, _, hh, _⟩ := hS; exact hh.size
  have hTp : T ≤ p := hS.2.1
  clear hS
  generalize cutN s 1000 = k at *
  go_enter Tryd.func62, Tryd.ntmps62
  go_wp2_with (first
    | (go_at_call 81; (with_reducible refine HC.out.mono ?_); rintro e w1 ⟨rfl, rfl⟩)
    | (go_at_call 80; (with_reducible refine HT.out.mono ?_); rintro e w1 ⟨A1, c1, rfl, hr1, hrd, ho1⟩)
    | (go_at_call 75; (with_reducible refine (clone_any A1 _ c1 _ w1 hr1 (by omega)).mono ?_); rintro e w2 ⟨v, rfl, ho, hb⟩))
  go_ret
  exact ⟨v, rfl, ho.lower ho1.size, hrd.only (P := fun _ => False) (Only.of_below hb) (fun b hb => hb.elim), ho1.below hb⟩
end Go.Proofs.YtcokpdhhpaahgaaDoor

namespace Go.Proofs.YtcokpdhhpaahgaaDoor
open Go.RowKit
set_option linter.unusedVariables false
set_option linter.unusedSimpArgs false

/-- copy(d, s), d a part of a block that is known whole. -/
theorem runs_cp (w : World) (ty : TypeId) (k g off dLen dCap : Nat) (A : Option Addr) (m c : Nat) (ys : List Int) (hr : Row w A m ys) (hk : Nat.min m dLen = k) (cur : Array Value) (t : TypeId) (hg : Has w g t cur) (hfit : off + k ≤ cur.size) :
    (Builtin.copy_ #[28, 28] ty #[.slice (some ⟨g, off, none⟩) dLen dCap, .slice A m c]).run Tryd.prog w = .ok (goInt (k : Int)) (w.setRow g (cur.toList.take off ++ (nums (ys.take k) ++ cur.toList.drop (off + k))).toArray) := by
  subst hk
  have hl : (ys.take (Nat.min m dLen)).length = Nat.min m dLen := by
    rw [List.length_take, hr.1]; exact Nat.min_eq_left (Nat.min_le_left _ _)
  by_cases h0 : Nat.min m dLen = 0
  · have hrun := run_copy_none (P := Tryd.prog) w 28 28 ty 5 (some ⟨g, off, none⟩) A dLen dCap m c Tryd.underlying28 (by kernel_rfl) h0
    have e : (cur.toList.take off ++ (nums (ys.take 0) ++ cur.toList.drop (off + 0))).toArray = cur := by simp [nums]
    rw [h0, e, setRow_self w g cur t (0, 0) hg]
    exact hrun
  · have hm : Nat.min m dLen ≤ m := Nat.min_le_left _ _
    have hr2 := row_upto hr (Nat.min m dLen) hm
    obtain ⟨b, off2, rfl, _, _⟩ := row_open hr2 (by omega)
    have hrun := run_copy_row (P := Tryd.prog) w 28 28 ty 5 g off dLen dCap ⟨b, off2, none⟩ m c cur t (nums (ys.take (Nat.min m dLen))) Tryd.underlying28 (by kernel_rfl) hg (by rw [nums_len, hl]) (row_cells hr2) (by rw [nums_len, hl]; exact hfit) (nums_one _)
    rw [nums_len, hl, List.append_assoc] at hrun
    exact hrun

/-- Blocks of P, and those that are new. -/
def Plus (P : Nat → Prop) (w w' : World) (b : Nat) : Prop := P b ∨ (w.heap.size ≤ b ∧ b < w'.heap.size)
/-- Bytes of pieces, the newest first. -/
def joined : List (List Int) → List Int
  | [] => []
  | ys :: L => joined L ++ ys
/-- The pieces behind a pointer, in blocks of P. -/
def Chain (w : World) (P : Nat → Prop) : Option Addr → List (List Int) → Prop
  | q, [] => q = none
  | q, ys :: L => ∃ g q' A c, q = some ⟨g, 0, none⟩ ∧ P g ∧ Has w g 80 #[.pointer q', .slice A ys.length c] ∧ Row w A ys.length ys ∧ 0 < ys.length ∧ ys.length ≤ c ∧ (∀ x, A = some x → P x.block) ∧ Chain w P q' L
theorem Chain.mono {w : World} {P P' : Nat → Prop} (h : ∀ b, P b → P' b) : ∀ {L : List (List Int)} {q : Option Addr}, Chain w P q L → Chain w P' q L
  | [], _, hc => hc
  | _ :: _, _, ⟨g, q', A, c, h1, h2, h3, h4, h5, h6, h7, h8⟩ => ⟨g, q', A, c, h1, h _ h2, h3, h4, h5, h6, fun x hx => h _ (h7 x hx), Chain.mono h h8⟩
theorem Chain.only {w w' : World} {P X : Nat → Prop} (o : Only X w w') (h : ∀ b, X b → ¬ P b) : ∀ {L : List (List Int)} {q : Option Addr}, Chain w P q L → Chain w' P q L
  | [], _, hc => hc
  | _ :: _, _, ⟨g, q', A, c, h1, h2, h3, h4, h5, h6, h7, h8⟩ => ⟨g, q', A, c, h1, h2, h3.only o (fun x => h _ x h2), row_keep h4 o (fun x hx hX => h _ hX (h7 x hx)), h5, h6, h7, Chain.only o h h8⟩
/-- The program's writer at block p, its pieces in blocks of P. -/
def Wr (w : World) (p : Nat) (P : Nat → Prop) (zs : List Int) : Prop := Byt zs ∧ zs.length ≤ 1000000 ∧ ¬ P p ∧ ∃ q L, Has w p 57 #[.pointer q, .int .i64 (zs.length : Int)] ∧ Chain w P q L ∧ joined L = zs
theorem Wr.mono {w : World} {p : Nat} {P P' : Nat → Prop} {zs : List Int} (h : Wr w p P zs) (hP : ∀ b, P b → P' b) (hp : ¬ P' p) : Wr w p P' zs := by
  obtain ⟨h1, h2, h3, q, L, h4, h5, h6⟩ := h
  exact ⟨h1, h2, hp, q, L, h4, h5.mono hP, h6⟩
theorem Wr.only {w w' : World} {p : Nat} {P X : Nat → Prop} {zs : List Int} (h : Wr w p P zs) (o : Only X w w') (hX : ∀ b, X b → b ≠ p ∧ ¬ P b) : Wr w' p P zs := by
  obtain ⟨h1, h2, h3, q, L, h4, h5, h6⟩ := h
  exact ⟨h1, h2, h3, q, L, h4.only o (fun x => (hX _ x).1 rfl), h5.only o (fun b hb => (hX b hb).2), h6⟩
theorem Wr.kept {w w' : World} {p : Nat} {P : Nat → Prop} {zs : List Int} (h : Wr w p P zs) (hb : Below w.heap.size w w') : Wr w' p P zs := h.only (X := fun _ => False) (Only.of_below hb) (fun b hb => hb.elim)
theorem Wr.at {w : World} {p : Nat} {P : Nat → Prop} {zs : List Int} (h : Wr w p P zs) : p < w.heap.size := by
  obtain ⟨_, _, _, q, L, h4, _⟩ := h
  exact h4.size
/-- What a writer's call leaves. -/
def WrTo (p : Nat) (P : Nat → Prop) (zs : List Int) (w w' : World) : Prop := Wr w' p (Plus P w w') zs ∧ Only (fun b => b = p) w w'
def Done (X : World → Prop) (e : Ending) (w' : World) : Prop := e = .returned (.tuple #[]) ∧ X w'
theorem plus_self {P : Nat → Prop} {w : World} {p : Nat} (hp : p < w.heap.size) (h : ¬ P p) (w' : World) : ¬ Plus P w w' p := by
  rintro (x | ⟨x, _⟩)
  · exact h x
  · omega
end Go.Proofs.YtcokpdhhpaahgaaDoor

namespace Go.Proofs.YtcokpdhhpaahgaaDoor
open Go.RowKit
set_option linter.unusedVariables false
set_option linter.unusedSimpArgs false

theorem plus_plus {P : Nat → Prop} {w w1 w2 : World} (h1 : w.heap.size ≤ w1.heap.size) (h2 : w1.heap.size ≤ w2.heap.size) : ∀ b, Plus (Plus P w w1) w1 w2 b → Plus P w w2 b := by
  rintro b ((h | h) | h)
  · exact .inl h
  · exact .inr (by omega)
  · exact .inr (by omega)
/-- A writer's call behind memory that was laid for it. -/
theorem WrTo.after {p : Nat} {P : Nat → Prop} {zs : List Int} {w w1 w2 : World} (hb : Below w.heap.size w w1) (hp : p < w.heap.size) (hP : ¬ P p) (h : WrTo p (Plus P w w1) zs w1 w2) : WrTo p P zs w w2 :=
  ⟨h.1.mono (plus_plus hb.size h.2.size) (plus_self hp hP _), (Only.of_below hb).trans h.2⟩
/-- So many bytes are laid, from the last on. -/
def Laying (w : World) (n : Int) (k : Nat) (v i : Value) (wr : World) : Prop := ∃ t : Nat, t ≤ k ∧ v = .int .i64 (n / 256 ^ t) ∧ i = .int .i64 ((k : Int) - (t : Int) - 1) ∧ Has wr w.heap.size 5 (nums (laid n k t)).toArray ∧ Below w.heap.size w wr
theorem raw_made (ys : List Int) (n k : Nat) (h : ys.length = n) : (zeroBytes k).toList.take 0 ++ (nums (ys.take (Nat.min n k)) ++ (zeroBytes k).toList.drop (0 + Nat.min n k)) = nums (rawL ys k) := by
  subst h
  unfold rawL zeroBytes
  rw [List.take_zero, List.nil_append, Nat.zero_add]
  have e1 : ys.take (Nat.min ys.length k) = ys.take k := by
    by_cases hk : k ≤ ys.length
    · rw [show Nat.min ys.length k = k from Nat.min_eq_right hk]
    · rw [show Nat.min ys.length k = ys.length from Nat.min_eq_left (by omega), List.take_of_length_le (Nat.le_refl _), List.take_of_length_le (by omega)]
  have e2 : k - Nat.min ys.length k = k - ys.length := by
    by_cases hk : k ≤ ys.length
    · rw [show Nat.min ys.length k = k from Nat.min_eq_right hk]; omega
    · rw [show Nat.min ys.length k = ys.length from Nat.min_eq_left (by omega)]
  rw [e1]
  simp only [nums, List.map_append, List.map_replicate, List.drop_replicate]
  rw [e2]
end Go.Proofs.YtcokpdhhpaahgaaDoor

namespace Go.Proofs.YtcokpdhhpaahgaaDoor
open Go.RowKit
set_option linter.unusedVariables false
set_option linter.unusedSimpArgs false

/-- out = append(out, xs...), and where out lies then. -/
theorem wpList_app2 {w : World} {ops : Array Oper} {rest : List Oper} {o : Oper} {a : Act} {Q : Exit → Act → World → Prop} (hgd : o.guard = none) (s x : Operand)
    (ho : o.op = .call { callee := .builtin .append, args := #[s, x], argTypes := #[28, 28] })
    (base : Nat) (v : Value) (n : Nat) (xs : List Int) (hs : a.eval s = v) (hown : Own w base v n xs) (ad : Addr) (m c : Nat) (ys : List Int) (hx : a.eval x = .slice (some ad) m c) (hr : Row w (some ad) m ys)
    (h63 : n + m ≤ 1000000) (hbase : base ≤ w.heap.size)
    (h : ∀ v' w', Own w' base v' (n + m) (xs ++ ys) → w.grownBy w' v.ownBlock → (v'.ownBlock = v.ownBlock ∨ v'.ownBlock = some w.heap.size) → wpList Tryd.prog ops Q rest (a.put o.dst v') w') : wpList Tryd.prog ops Q (o :: rest) a w := by
  refine wpList_plain hgd fun K hK => ?_
  obtain ⟨i, hi, hz0, hz1, hz2⟩ := info_parts info5
  obtain ⟨v', w', hrun, h2, h3, _, h4⟩ := run_append_own_at (P := Tryd.prog) w base 28 o.type 5 i (.int .u8 0) 1 1 Tryd.underlying28 hi hz0 hz1 hz2 rfl (by decide) v n (nums xs) hown.1 ad m c (nums ys) (by rw [nums_len, hr.1]; omega) (row_cells hr) (nums_one ys) (by unfold maxLen; omega) (by omega) hbase
  unfold Oper.wp execOp
  simp only [ho, resolve, invoke, builtin, Sem.run_bind, Sem.run_pure, Result.andThen_ok, List.map_toArray, List.map_cons, List.map_nil, hs, hx, hrun]
  exact hK _ _ (h v' w' ⟨by rw [← nums_app]; exact h2, byt_app hown.2 hr.2.1⟩ h3 h4)
theorem Own.stay {w w' : World} {base : Nat} {v : Value} {n : Nat} {zs : List Int} (h : Own w base v n zs) (hs : ∀ g, v.ownBlock = some g → w'.heap[g]? = w.heap[g]?) : Own w' base v n zs := by
  obtain ⟨⟨h1, h2⟩, h3⟩ := h
  refine ⟨⟨h1, ?_⟩, h3⟩
  rcases h2 with h2 | ⟨g, cap, cur, e1, e2, e3, e4⟩
  · exact .inl h2
  · exact .inr ⟨g, cap, cur, e1, e2, (hs g (by rw [e1]; rfl)).trans e3, e4⟩
theorem Own.lt {w : World} {base : Nat} {v : Value} {n : Nat} {zs : List Int} (h : Own w base v n zs) : ∀ g, v.ownBlock = some g → g < w.heap.size := by
  intro g hg
  exact (h.1.lt g hg).2
/-- The document's writer at block p, its row in a block of P. -/
def Rw (w : World) (p : Nat) (P : Nat → Prop) (zs : List Int) : Prop := zs.length ≤ 1000000 ∧ ¬ P p ∧ ∃ v, Has w p 75 #[v] ∧ Own w 0 v zs.length zs ∧ ∀ g, v.ownBlock = some g → P g
theorem Rw.mono {w : World} {p : Nat} {P P' : Nat → Prop} {zs : List Int} (h : Rw w p P zs) (hP : ∀ b, P b → P' b) (hp : ¬ P' p) : Rw w p P' zs := by
  obtain ⟨h1, h2, v, h3, h4, h5⟩ := h
  exact ⟨h1, hp, v, h3, h4, fun g hg => hP _ (h5 g hg)⟩
theorem Rw.at {w : World} {p : Nat} {P : Nat → Prop} {zs : List Int} (h : Rw w p P zs) : p < w.heap.size := by
  obtain ⟨_, _, v, h4, _⟩ := h
  exact h4.size
theorem Rw.only {w w' : World} {p : Nat} {P X : Nat → Prop} {zs : List Int} (h : Rw w p P zs) (o : Only X w w') (hX : ∀ b, X b → b ≠ p ∧ ¬ P b) : Rw w' p P zs := by
  obtain ⟨h1, h2, v, h3, h4, h5⟩ := h
  exact ⟨h1, h2, v, h3.only o (fun x => (hX _ x).1 rfl), h4.stay (fun g hg => o.block g (h4.lt g hg) (fun x => (hX _ x).2 (h5 g hg))), h5⟩
/-- What its call leaves. -/
def RwTo (p : Nat) (P : Nat → Prop) (zs : List Int) (w w' : World) : Prop := Rw w' p (Plus P w w') zs ∧ Only (fun b => b = p ∨ P b) w w'
theorem RwTo.refl {p : Nat} {P : Nat → Prop} {zs : List Int} {w : World} (h : Rw w p P zs) : RwTo p P zs w w := ⟨h.mono (fun b hb => .inl hb) (plus_self h.at h.2.1 _), Only.refl _ _⟩
theorem rw_keep {p : Nat} {P : Nat → Prop} {w wr w2 : World} {v : Value} {o : Obj} (hp : p < w.heap.size) (hP : ¬ P p) (hh : Has wr p 75 #[v]) (hv : ∀ g, v.ownBlock = some g → Plus P w wr g) (h4 : (wr.alloc o).grownBy w2 v.ownBlock) : Has w2 p 75 #[v] :=
  (h4.block p (Nat.lt_of_lt_of_le hh.size (by simp)) (fun e => plus_self hp hP _ (hv p e.symm))).trans (hh.more _)
/-- One byte more. -/
theorem rw_more {p : Nat} {P : Nat → Prop} {xs : List Int} {w wr w2 : World} {v v' : Value} {y : Int} (hp : p < w.heap.size) (hP : ¬ P p) (o : Only (fun b => b = p ∨ P b) w wr) (hh : Has wr p 75 #[v]) (ho : Own wr 0 v xs.length xs) (hv : ∀ g, v.ownBlock = some g → Plus P w wr g)
    (hle : xs.length + 1 ≤ 1000000) (h3 : Own w2 0 v' (xs.length + 1) (xs ++ [y])) (h4 : (wr.alloc (.cells #[.int .u8 y] 5)).grownBy w2 v.ownBlock) (h5 : v'.ownBlock = v.ownBlock ∨ v'.ownBlock = some (wr.alloc (.cells #[.int .u8 y] 5)).heap.size) :
    RwTo p P (xs ++ [y]) w (w2.setCell ⟨p, 0, none⟩ v') := by
  have hsa : (wr.alloc (.cells #[.int .u8 y] 5)).heap.size = wr.heap.size + 1 := by simp
  have hsw : wr.heap.size + 1 ≤ w2.heap.size := by rw [← hsa]; exact h4.size
  have hvp : v.ownBlock ≠ some p := fun e => plus_self hp hP _ (hv p e)
  have hws := o.size
  have oa : Only (fun b => v.ownBlock = some b) (wr.alloc (.cells #[.int .u8 y] 5)) w2 := ⟨h4.os, h4.tape, h4.output, h4.size, fun b hb hn => h4.block b hb (fun e => hn e.symm)⟩
  have o2 : Only (fun b => b = p ∨ P b) w w2 := by
    have q1 : Only (fun b => b = p ∨ P b) w (wr.alloc (.cells #[.int .u8 y] 5)) := o.alloc _
    refine ⟨oa.os.trans q1.os, oa.tape.trans q1.tape, oa.output.trans q1.output, Nat.le_trans q1.size oa.size, fun b hb hn => (oa.block b (Nat.lt_of_lt_of_le hb q1.size) (fun e => ?_)).trans (q1.block b hb hn)⟩
    rcases hv b e with h | h
    · exact hn (.inr h)
    · omega
  have hh2 : Has w2 p 75 #[v] := (hh.more _).only oa hvp
  have hs3 : (w2.setCell ⟨p, 0, none⟩ v').heap.size = w2.heap.size := by simp [World.setCell]
  have hlen : (xs ++ [y]).length = xs.length + 1 := by simp
  have hv' : ∀ g, v'.ownBlock = some g → g ≠ p ∧ Plus P w (w2.setCell ⟨p, 0, none⟩ v') g := by
    intro g hg
    have hlt := h3.lt g hg
    rcases h5 with h5 | h5
    · rw [h5] at hg
      refine ⟨fun e => hvp (e ▸ hg), ?_⟩
      rcases hv g hg with h | h
      · exact .inl h
      · exact .inr (by omega)
    · rw [h5] at hg
      cases hg
      exact ⟨by omega, .inr (by omega)⟩
  refine ⟨⟨by omega, plus_self hp hP _, v', ?_, ?_, fun g hg => (hv' g hg).2⟩, o2.setCell (.inl rfl) _⟩
  · exact hh2.put 0 v'
  · rw [hlen]
    exact h3.stay (fun g hg => heap_setCell_other w2 _ g _ (hv' g hg).1)
/-- So many bytes of a row are written behind what was there. -/
def Adding (p : Nat) (P : Nat → Prop) (zs os : List Int) (w : World) (j : Nat) (wr : World) : Prop := j ≤ os.length ∧ RwTo p P (zs ++ os.take j) w wr
set_option maxRecDepth 100000 in
theorem rwnum_any {p : Nat} {P : Nat → Prop} {zs : List Int} (n s : Int) (w : World) (hw : Rw w p P zs) (hle : zs.length ≤ 900000) :
    Calls Tryd.prog 51 #[.pointer (some ⟨p, 0, none⟩), .int .i64 n, .int .i64 s] w (Done (RwTo p P (zs ++ numL n (cutN s 8)) w)) := by
  have HC := Lib.hid (rcut8 s w)
  have hk := cut_le s 8
  generalize cutN s 8 = k at *
  have hp := hw.at
  have hP := hw.2.1
  have hnl := num_len n k
  have HS := Lib.hid (show Adding p P zs (numL n k) w 0 w from ⟨by omega, by rw [List.take_zero, List.append_nil]; exact .refl hw⟩)
  clear hw
  go_enter Tryd.func51, Tryd.ntmps51
  go_wp2_with (go_at_call 70; (with_reducible refine HC.out.mono ?_); rintro e w1 ⟨rfl, rfl⟩)
  clear HC
  go_loopw [6] (fun i wr => ∃ j : Nat, j ≤ k ∧ i = .int .i64 ((k : Int) - (j : Int) - 1) ∧ Adding p P zs (numL n k) w j wr) (fun i _ => ((intOf i) + 1).toNat)
  case atStart => exact ⟨0, by omega, by simp, HS.out⟩
  case round =>
    clear HS
    obtain ⟨j, hj, rfl, _, ⟨⟨h1, h2, v, h3, h4, h5⟩, ho⟩⟩ := hrel
    by_cases hlt : j < k
    · obtain ⟨d, hd⟩ : ∃ d, k - j - 1 = d := ⟨_, rfl⟩
      have hdi : (k : Int) - (j : Int) - 1 = (d : Int) := by omega
      rw [hdi]
      have hby := byte_u64 n d (by omega)
      have hat := num_at n k j hlt
      rw [show k - 1 - j = d by omega] at hat
      have hbd := byte_bd (n / 256 ^ d)
      have HT := Lib.hid (show (zs ++ (numL n k).take j) ++ [n / 256 ^ d % 256] = zs ++ (numL n k).take (j + 1) by rw [List.append_assoc, ← hat, take_more _ _ (by omega)])
      have hpw := pow_bits d
      have hxl : (zs ++ (numL n k).take j).length = zs.length + j := by rw [List.length_append, List.length_take]; omega
      generalize zs ++ (numL n k).take j = xs at *
      have i0 : (0 : Int) ≤ (d : Int) := by omega
      have i1 : (d : Int) ≤ 7 := by omega
      obtain ⟨N, hN⟩ : ∃ N, xs.length = N := ⟨_, rfl⟩
      obtain ⟨A0, c0, rfl, _, _, _⟩ := h4.form
      have HK := Lib.hid (fun (w2 : World) (v' : Value) => rw_more (v' := v') (w2 := w2) (y := n / 256 ^ d % 256) hp hP ho h3 h4 h5 (by omega))
      have hNle : N + 1 ≤ 1000000 := by omega
      rw [hN] at h3 h4 h5 HK
      clear hN hxl
      have q0 : (wr.alloc (.cells #[.int .u8 (n / 256 ^ d % 256)] 5)).cell? ⟨p, 0, none⟩ = some (.slice A0 N c0) := (h3.more _).at 0
      have q0' : wr.cell? ⟨p, 0, none⟩ = some (.slice A0 N c0) := h3.at 0
      have hr2 := row_one wr hbd
      have ho2 := h4.kept (w' := wr.alloc (.cells #[.int .u8 (n / 256 ^ d % 256)] 5)) ((Below.refl _ wr).alloc (Nat.le_refl _) _)
      have HH := Lib.hid (fun (w2 : World) (q : (wr.alloc (.cells #[.int .u8 (n / 256 ^ d % 256)] 5)).grownBy w2 (Value.slice A0 N c0).ownBlock) => rw_keep hp hP h3 h5 q)
      clear hat hby hpw h3 h4 h5 ho h2
      have hby := byte_u64 n d (by omega)
      have hpw := pow_bits d
      generalize hy : n / 256 ^ d % 256 = y at *
      go_wp2_with (at_builtin; (with_reducible refine wpList_app2 rfl _ _ rfl 0 (.slice A0 N c0) N xs rfl ho2 _ _ _ [y] rfl hr2 (by omega) (Nat.zero_le _) ?_); intro v' w2 g3 g4 g5; obtain ⟨A2, c2, rfl, _, _, _⟩ := g3.form; have g6 := HH.out w2 g4; have g7 := g6.at 0; have g8 := g6.soft 0; have HE := Lib.hid (HK.out w2 _ g3 g4 g5); clear HK HH ho2 hr2 q0)
      go_roundw
      case rel => exact ⟨j + 1, by omega, by rw [show (d : Int) - 1 = (k : Int) - ((j + 1 : Nat) : Int) - 1 by omega], by omega, by rw [← HT.out]; exact HE.out⟩
      case measure => simp [intOf]
    · obtain rfl : j = k := by omega
      have hi : ¬ (0 : Int) ≤ (j : Int) - (j : Int) - 1 := by omega
      have HE := Lib.hid (show RwTo p P (zs ++ numL n j) w wr by
        rw [List.take_of_length_le (by omega)] at h1 h4
        exact ⟨⟨h1, h2, v, h3, h4, h5⟩, ho⟩)
      clear h1 h2 h3 h4 h5 ho
      generalize (j : Int) - (j : Int) - 1 = i at *
      go_wp2
      go_end0
      exact ⟨rfl, HE.out⟩
end Go.Proofs.YtcokpdhhpaahgaaDoor

namespace Go.Proofs.YtcokpdhhpaahgaaDoor
open Go.RowKit
set_option linter.unusedVariables false
set_option linter.unusedSimpArgs false

set_option maxRecDepth 100000 in
theorem rwraw_any {p : Nat} {P : Nat → Prop} {zs : List Int} (A : Option Addr) (m cap : Nat) (ys : List Int) (s : Int) (w : World) (hr : Row w A m ys) (hA : 0 < m → ∀ x, A = some x → x.block ≠ p ∧ ¬ P x.block) (hw : Rw w p P zs) (hle : zs.length ≤ 900000) :
    Calls Tryd.prog 50 #[.pointer (some ⟨p, 0, none⟩), .slice A m cap, .int .i64 s] w (Done (RwTo p P (zs ++ rawL ys (cutN s 1000)) w)) := by
  have HC := Lib.hid (fun w => rcut1000 s w)
  have hk := cut_le s 1000
  generalize cutN s 1000 = k at *
  have hp := hw.at
  have hP := hw.2.1
  have hnl := raw_len ys k
  have HS := Lib.hid (show Adding p P zs (rawL ys k) w 0 w from ⟨by omega, by rw [List.take_zero, List.append_nil]; exact .refl hw⟩)
  have HR := Lib.hid (fun (wr : World) (o : Only (fun b => b = p ∨ P b) w wr) => row_stays hr o (fun h0 x hx e => e.elim (hA h0 x hx).1 (hA h0 x hx).2))
  have HL := Lib.hid hr.1
  clear hw hr hA
  go_enter Tryd.func50, Tryd.ntmps50
  go_wp2
  go_loopw [6] (fun i wr => ∃ j : Nat, j ≤ k ∧ i = .int .i64 (j : Int) ∧ Adding p P zs (rawL ys k) w j wr) (fun i _ => k - (intOf i).toNat)
  case atStart => exact ⟨0, by omega, rfl, HS.out⟩
  case round =>
    clear HS
    obtain ⟨j, hj, rfl, _, ⟨⟨h1, h2, v, h3, h4, h5⟩, ho⟩⟩ := hrel
    by_cases hlt : j < k
    · have hat := raw_at ys k j hlt
      have HT := Lib.hid (show (zs ++ (rawL ys k).take j) ++ [ys.getD j 0] = zs ++ (rawL ys k).take (j + 1) by rw [List.append_assoc, ← hat, take_more _ _ (by omega)])
      have hxl : (zs ++ (rawL ys k).take j).length = zs.length + j := by rw [List.length_append, List.length_take]; omega
      generalize zs ++ (rawL ys k).take j = xs at *
      have hrr := HR.out wr ho
      have hbd := byt_at hrr.2.1 j
      obtain ⟨N, hN⟩ : ∃ N, xs.length = N := ⟨_, rfl⟩
      obtain ⟨A0, c0, rfl, _, _, _⟩ := h4.form
      have HK := Lib.hid (fun (w2 : World) (v' : Value) => rw_more (v' := v') (w2 := w2) (y := ys.getD j 0) hp hP ho h3 h4 h5 (by omega))
      have hNle : N + 1 ≤ 1000000 := by omega
      rw [hN] at h3 h4 h5 HK
      clear hN hxl hat
      have i0 : (0 : Int) ≤ (j : Int) := by omega
      by_cases hjm : j < m
      · obtain ⟨b, off, rfl, hbw, hcell⟩ := row_open hrr (by omega)
        have hck := hcell j hjm
        have i1 : (j : Int) < (m : Int) := by omega
        clear hcell
        generalize ys.getD j 0 = y at *
        have q0 : (wr.alloc (.cells #[.int .u8 y] 5)).cell? ⟨p, 0, none⟩ = some (.slice A0 N c0) := (h3.more _).at 0
        have q0' : wr.cell? ⟨p, 0, none⟩ = some (.slice A0 N c0) := h3.at 0
        have hr2 := row_one wr hbd
        have ho2 := h4.kept (w' := wr.alloc (.cells #[.int .u8 y] 5)) ((Below.refl _ wr).alloc (Nat.le_refl _) _)
        have HH := Lib.hid (fun (w2 : World) (q : (wr.alloc (.cells #[.int .u8 y] 5)).grownBy w2 (Value.slice A0 N c0).ownBlock) => rw_keep hp hP h3 h5 q)
        clear h3 h4 h5 ho h2 hrr
        go_wp2_with (first
          | (go_at_call 70; (with_reducible refine (HC.out _).mono ?_); rintro e w1 ⟨rfl, rfl⟩)
          | (at_builtin; (with_reducible refine wpList_app2 rfl _ _ rfl 0 (.slice A0 N c0) N xs rfl ho2 _ _ _ [y] rfl hr2 (by omega) (Nat.zero_le _) ?_); intro v' w2 g3 g4 g5; obtain ⟨A2, c2, rfl, _, _, _⟩ := g3.form; have g6 := HH.out w2 g4; have g7 := g6.at 0; have g8 := g6.soft 0; have HE := Lib.hid (HK.out w2 _ g3 g4 g5); clear HK HH ho2 hr2 q0))
        go_roundw
        case rel => exact ⟨j + 1, by omega, by go_num, by omega, by rw [← HT.out]; exact HE.out⟩
        case measure => simp [intOf]; omega
      · have hy0 : ys.getD j 0 = 0 := by
          rw [List.getD_eq_getElem?_getD, List.getElem?_eq_none (by have := HL.out; omega)]
          rfl
        rw [hy0] at HK HT
        have i1 : ¬ (j : Int) < (m : Int) := by omega
        have q0 : (wr.alloc (.cells #[.int .u8 0] 5)).cell? ⟨p, 0, none⟩ = some (.slice A0 N c0) := (h3.more _).at 0
        have q0' : wr.cell? ⟨p, 0, none⟩ = some (.slice A0 N c0) := h3.at 0
        have hr2 := row_one wr (x := 0) (by omega)
        have ho2 := h4.kept (w' := wr.alloc (.cells #[.int .u8 0] 5)) ((Below.refl _ wr).alloc (Nat.le_refl _) _)
        have HH := Lib.hid (fun (w2 : World) (q : (wr.alloc (.cells #[.int .u8 0] 5)).grownBy w2 (Value.slice A0 N c0).ownBlock) => rw_keep hp hP h3 h5 q)
        clear h3 h4 h5 ho h2 hrr hy0 hbd
        go_wp2_with (first
          | (go_at_call 70; (with_reducible refine (HC.out _).mono ?_); rintro e w1 ⟨rfl, rfl⟩)
          | (at_builtin; (with_reducible refine wpList_app2 rfl _ _ rfl 0 (.slice A0 N c0) N xs rfl ho2 _ _ _ [0] rfl hr2 (by omega) (Nat.zero_le _) ?_); intro v' w2 g3 g4 g5; obtain ⟨A2, c2, rfl, _, _, _⟩ := g3.form; have g6 := HH.out w2 g4; have g7 := g6.at 0; have g8 := g6.soft 0; have HE := Lib.hid (HK.out w2 _ g3 g4 g5); clear HK HH ho2 hr2 q0))
        go_roundw
        case rel => exact ⟨j + 1, by omega, by go_num, by omega, by rw [← HT.out]; exact HE.out⟩
        case measure => simp [intOf]; omega
    · obtain rfl : j = k := by omega
      have HE := Lib.hid (show RwTo p P (zs ++ rawL ys j) w wr by
        rw [List.take_of_length_le (by omega)] at h1 h4
        exact ⟨⟨h1, h2, v, h3, h4, h5⟩, ho⟩)
      clear h1 h2 h3 h4 h5 ho
      go_wp2_with (go_at_call 70; (with_reducible refine (HC.out _).mono ?_); rintro e w1 ⟨rfl, rfl⟩)
      go_end0
      exact ⟨rfl, HE.out⟩
end Go.Proofs.YtcokpdhhpaahgaaDoor

namespace Go.Proofs.YtcokpdhhpaahgaaDoor
open Go.RowKit
set_option linter.unusedVariables false
set_option linter.unusedSimpArgs false

/-- A row while it is filled from its end on. -/
def gath (zs : List Int) (e : Nat) : List Int := List.replicate e 0 ++ zs.drop e
theorem gath_none (zs : List Int) : gath zs zs.length = List.replicate zs.length 0 := by simp [gath]
theorem gath_all (zs : List Int) : gath zs 0 = zs := by simp [gath]
theorem gath_len (zs : List Int) {e : Nat} (h : e ≤ zs.length) : (gath zs e).length = zs.length := by simp [gath]; omega
theorem joined_split {ys : List Int} {L : List (List Int)} {zs : List Int} {e : Nat} (he : e ≤ zs.length) (h : joined (ys :: L) = zs.take e) : joined L = zs.take (e - ys.length) ∧ ys ++ zs.drop e = zs.drop (e - ys.length) ∧ ys.length ≤ e := by
  rw [joined] at h
  have hl := congrArg List.length h
  rw [List.length_append, List.length_take] at hl
  have h1 : ys.length ≤ e := by omega
  have e0 : zs = joined L ++ ys ++ zs.drop e := by rw [h, List.take_append_drop]
  have e1 : (joined L).length = e - ys.length := by omega
  refine ⟨?_, ?_, h1⟩
  · rw [e0, List.append_assoc, ← e1, List.take_left]
  · rw [← e1]
    conv => rhs; rw [e0, List.append_assoc, List.drop_left]
theorem gath_more {ys : List Int} {L : List (List Int)} {zs : List Int} {e : Nat} (he : e ≤ zs.length) (h : joined (ys :: L) = zs.take e) :
    (nums (gath zs e)).take (e - ys.length) ++ (nums (ys.take ys.length) ++ (nums (gath zs e)).drop (e - ys.length + ys.length)) = nums (gath zs (e - ys.length)) := by
  obtain ⟨_, h2, h3⟩ := joined_split he h
  rw [List.take_of_length_le (Nat.le_refl _), Nat.sub_add_cancel h3]
  unfold gath
  rw [← h2]
  simp only [nums, List.map_append, List.map_replicate]
  rw [List.take_append_of_le_length (by simp), List.take_replicate, Nat.min_eq_left (Nat.sub_le ..), List.drop_append_of_le_length (by simp), List.drop_replicate, Nat.sub_self, List.replicate_zero, List.nil_append]
def Gathering (w : World) (P : Nat → Prop) (zs : List Int) (v i : Value) (wr : World) : Prop :=
  ∃ (e : Nat) (q : Option Addr) (L : List (List Int)), e ≤ zs.length ∧ v = .int .i64 (e : Int) ∧ i = .pointer q ∧ Chain wr P q L ∧ joined L = zs.take e ∧ Has wr w.heap.size 5 (nums (gath zs e)).toArray ∧ Below w.heap.size w wr
end Go.Proofs.YtcokpdhhpaahgaaDoor

namespace Go.Proofs.YtcokpdhhpaahgaaDoor
open Go.RowKit
set_option linter.unusedVariables false
set_option linter.unusedSimpArgs false

theorem w64_is (n : Int) : wrap64 n = IntKind.i64.wrap n := by rw [IntKind.wrap_i64]; unfold wrap64; rfl
/-- What Num answers. -/
def GivesN (x : Int) (X : World → Prop) (e : Ending) (w' : World) : Prop := e = .returned (.int .i64 x) ∧ X w'
def Numming (xs : List Int) (w1 : World) (v i : Value) (wr : World) : Prop := ∃ k : Nat, k ≤ xs.length ∧ v = .int .i64 (w64 (val (xs.take k))) ∧ i = .int .i64 (k : Int) ∧ wr = w1
set_option maxRecDepth 100000 in
theorem num_any {p T : Nat} {S : Rs} (s : Int) (w : World) (hS : Rd w p T S) : Calls Tryd.prog 77 #[.pointer (some ⟨p, 0, none⟩), .int .i64 s] w (GivesN (w64 (val (got S (cutN s 8)))) (RdTo p T (aft S (cutN s 8)) w)) := by
  have HC := Lib.hid (cut8 s w)
  have hcl := cut_le s 8
  have HT := Lib.hid (take_any (cutN s 8) w hS (by omega))
  have hgl := got_len S (cutN s 8)
  clear hS
  generalize cutN s 8 = k at *
  generalize hxs : got S k = xs at *
  have HX := Lib.hid (show Took S p T k w = fun e w' => ∃ A c, e = .returned (.slice A xs.length c) ∧ Row w' A xs.length xs ∧ RdTo p T (aft S k) w w' by unfold Took; rw [hxs])
  rw [HX.out] at HT
  clear hxs HX
  go_enter Tryd.func77, Tryd.ntmps77
  go_wp2_with (first
    | (go_at_call 81; (with_reducible refine HC.out.mono ?_); rintro e w1 ⟨rfl, rfl⟩)
    | (go_at_call 80; (with_reducible refine HT.out.mono ?_); rintro e w1 ⟨A1, c1, rfl, hr1, hrd⟩))
  have HD := Lib.hid hrd
  clear HC HT hrd
  go_loopw [5, 13] (fun v i wr => Numming xs w1 v i wr) (fun _ i _ => xs.length - (intOf i).toNat)
  case atStart => exact ⟨0, by omega, rfl, rfl, rfl⟩
  case round =>
    obtain ⟨j, hj, rfl, rfl, rfl⟩ := hrel
    by_cases hlt : j < xs.length
    · obtain ⟨b, off, rfl, hbw, hcell⟩ := row_open hr1 (by omega)
      have hck := hcell j hlt
      have hz := byt_at hr1.2.1 j
      have HV := Lib.hid (show w64 (w64 (val (xs.take j)) * 256 + xs.getD j 0) = w64 (val (xs.take (j + 1))) by rw [w64_step, ← val_more, take_more xs j hlt])
      clear hcell
      generalize xs.getD j 0 = z at *
      generalize w64 (val (xs.take j)) = y at *
      have hor := or_i64 y z hz
      have i0 : (0 : Int) ≤ (j : Int) := by omega
      have i1 : (j : Int) < (xs.length : Int) := by omega
      go_wp2
      go_roundw
      case rel => exact ⟨j + 1, by omega, by rw [← HV.out, ← hor]; exact congrArg _ (congrArg (fun q => bits .or .i64 q z) (w64_is (y * 256))), by go_num, rfl⟩
      case measure => simp [intOf]; omega
    · rw [List.take_of_length_le (by omega)]
      go_wp2
      go_ret
      exact ⟨rfl, HD.out⟩
theorem rnewReader_any (A : Option Addr) (n c : Nat) (zs : List Int) (w : World) (hr : Row w A n zs) (hn : n ≤ 1000000) (hc : n ≤ c) (T : Nat) (hT : T ≤ w.heap.size) (hA : Lies A n T) :
    Calls Tryd.prog 65 #[.slice A n c] w fun e w' => e = .returned (.pointer (some ⟨w.heap.size, 0, none⟩)) ∧ Rr w' w.heap.size T ⟨zs, false⟩ ∧ Below w.heap.size w w' := by
  have HE := Lib.hid (show Rr (w.alloc (.cells #[.slice A n c, .bool false] 105)) w.heap.size T ⟨zs, false⟩ from
    ⟨⟨hr.2.1, fun h => by cases h⟩, hT, by simp only []; have := hr.1; omega, A, n, c, zs, has_new _ _ _, row_below ((Below.refl _ _).alloc (Nat.le_refl _) _) hr, hc, hA, fun _ => rfl⟩)
  go_enter Tryd.func65, Tryd.ntmps65
  go_wp2
  go_ret
  exact ⟨rfl, HE.out, (Below.refl _ w).alloc (Nat.le_refl _) _⟩
set_option maxRecDepth 100000 in
theorem rraw_any {p T : Nat} {S : Rs} (s : Int) (w : World) (hS : Rr w p T S) : Calls Tryd.prog 66 #[.pointer (some ⟨p, 0, none⟩), .int .i64 s] w (GivesR (got S (cutN s 1000)) w (RrTo p T (aft S (cutN s 1000)) w)) := by
  have HC := Lib.hid (rcut1000 s w)
  have hcl := cut_le s 1000
  generalize cutN s 1000 = k at *
  obtain ⟨hok, hT, hle, A, n, c, zs, hh, hr, hc, hA, hz⟩ := hS
  have q0 : w.cell? ⟨p, 0, none⟩ = some (.slice A n c) := hh.at 0
  have q1 : w.cell? ⟨p, 1, none⟩ = some (.bool S.bad) := hh.at 1
  have f0 := hh.soft 0
  have f1 := hh.soft 1
  have o1 : Only (fun b => b = p) w (w.setCell ⟨p, 1, none⟩ (.bool true)) := (Only.refl (fun b => b = p) w).setCell rfl _
  have hr1 : Row (w.setCell ⟨p, 1, none⟩ (.bool true)) A n zs := row_under hr hA o1 (fun b e => by omega)
  have hput := hh.put 1 (.bool true)
  have HF := Lib.hid (show Rr (w.setCell ⟨p, 1, none⟩ (.bool true)) p T ⟨[], true⟩ ∧ Only (fun b => b = p) w (w.setCell ⟨p, 1, none⟩ (.bool true)) from
    ⟨⟨⟨byt_nil, fun _ => rfl⟩, hT, by simp, A, n, c, zs, hput, hr1, hc, hA, fun h => by cases h⟩, o1⟩)
  clear o1 hr1 hput
  cases hb : S.bad with
  | true =>
    rw [got_bad hb, aft_bad hb]
    rw [hb] at q1
    go_enter Tryd.func66, Tryd.ntmps66
    go_wp2_with (go_at_call 70; (with_reducible refine HC.out.mono ?_); rintro e w1 ⟨rfl, rfl⟩)
    go_ret
    exact ⟨_, rfl, own_nil _ _, HF.out⟩
  | false =>
    rw [hb] at q1
    obtain rfl := hz hb
    have hl := hr.1
    by_cases hlt : n < k
    · rw [got_short (by omega), aft_short (by omega)]
      go_enter Tryd.func66, Tryd.ntmps66
      go_wp2_with (go_at_call 70; (with_reducible refine HC.out.mono ?_); rintro e w1 ⟨rfl, rfl⟩)
      go_ret
      exact ⟨_, rfl, own_nil _ _, HF.out⟩
    · have hkn : k ≤ n := by omega
      rw [got_yes hb (by omega), aft_yes hb (by omega)]
      obtain ⟨A1, e1, r1, l1⟩ := row_head hr hA k hkn hc
      obtain ⟨A2, e2, r2, l2⟩ := row_cut hr hA k hkn hc
      have R1 := run_upto w A n c .i64 k (by omega)
      have R2 := fun W => run_from W A n c .i64 k hkn hc
      rw [e1] at R1
      simp only [e2] at R2
      have ho0 := own_nil w w.heap.size
      have HK := Lib.hid (fun (w1 : World) (v : Value) (h3 : Own w1 w.heap.size v k (S.rest.take k)) (h4 : Below w.heap.size w w1) => show GivesR (S.rest.take k) w (RrTo p T ⟨S.rest.drop k, false⟩ w) (.returned v) (w1.setCell ⟨p, 0, none⟩ (.slice A2 (n - k) (c - k))) by
        have hl1 : (S.rest.take k).length = k := by rw [List.length_take]; omega
        have oo : Only (fun b => b = p) w1 (w1.setCell ⟨p, 0, none⟩ (.slice A2 (n - k) (c - k))) := (Only.refl (fun b => b = p) w1).setCell rfl _
        have hput := (hh.kept h4).put 0 (.slice A2 (n - k) (c - k))
        rw [hb] at hput
        have hps := hh.size
        have g4 : Own (w1.setCell ⟨p, 0, none⟩ (.slice A2 (n - k) (c - k))) w.heap.size v k (S.rest.take k) := by
          obtain ⟨⟨u1, u2⟩, u3⟩ := h3
          refine ⟨⟨u1, ?_⟩, u3⟩
          rcases u2 with u2 | ⟨g, cap, cur, y1, y2, y3, y4⟩
          · exact .inl u2
          · exact .inr ⟨g, cap, cur, y1, y2, (heap_setCell_other w1 _ g _ (by simp only []; omega)).trans y3, y4⟩
        refine ⟨v, rfl, by rw [hl1]; exact g4, ⟨⟨byt_drop hok.1 _, fun h => by cases h⟩, hT, by simp only [List.length_drop]; omega, A2, n - k, c - k, _, hput, row_under (row_below h4 r2) l2 oo (fun b e => by omega), by omega, l2, fun _ => rfl⟩, ((Only.refl _ w).below h4).trans oo⟩)
      have hq0 : ∀ w1, Below w.heap.size w w1 → w1.cell? ⟨p, 0, none⟩ = some (.slice A n c) := fun w1 hb1 => (hh.kept hb1).at 0
      have hf0 : ∀ w1, Below w.heap.size w w1 → w1.frozen? ⟨p, 0, none⟩ = false := fun w1 hb1 => (hh.kept hb1).soft 0
      have hbel : ∀ w1, w.grownBy w1 (Value.slice none 0 0).ownBlock → Below w.heap.size w w1 := fun w1 h4 => below_own (Below.refl _ w) ho0 h4 (Nat.le_refl _) (Nat.le_refl _)
      clear hr hA hc hT l1 r2 l2 e1 e2 hh
      go_enter Tryd.func66, Tryd.ntmps66
      go_wp2_with (first
        | (go_at_call 70; (with_reducible refine HC.out.mono ?_); rintro e w1 ⟨rfl, rfl⟩)
        | (at_builtin; (with_reducible refine wpList_app rfl _ _ rfl w.heap.size (.slice none 0 0) 0 [] rfl ho0 _ _ _ (S.rest.take k) rfl r1 (row_none r1) (by omega) (Nat.le_refl _) ?_); intro v' w' h3 h4; rw [Nat.zero_add] at h3; have hb4 := hbel w' h4; have q0' := hq0 w' hb4; have f0' := hf0 w' hb4))
      go_ret
      exact HK.out w' v' h3 hb4
def Rumming (xs : List Int) (w1 : World) (v i : Value) (wr : World) : Prop := ∃ k : Nat, k ≤ xs.length ∧ v = .int .u64 (IntKind.u64.wrap (val (xs.take k))) ∧ i = .int .i64 (k : Int) ∧ wr = w1
set_option maxRecDepth 100000 in
theorem rnum_any {p T : Nat} {S : Rs} (s : Int) (w : World) (hS : Rr w p T S) : Calls Tryd.prog 67 #[.pointer (some ⟨p, 0, none⟩), .int .i64 s] w (GivesN (w64 (val (got S (cutN s 8)))) (RrTo p T (aft S (cutN s 8)) w)) := by
  have HC := Lib.hid (rcut8 s w)
  have hcl := cut_le s 8
  have HT0 := rraw_any (cutN s 8 : Int) w hS
  rw [cut_cut _ _ _ (by omega)] at HT0
  have HT := Lib.hid HT0
  have hgl := got_len S (cutN s 8)
  clear hS HT0
  generalize cutN s 8 = k at *
  generalize got S k = xs at *
  go_enter Tryd.func67, Tryd.ntmps67
  go_wp2_with (first
    | (go_at_call 70; (with_reducible refine HC.out.mono ?_); rintro e w1 ⟨rfl, rfl⟩)
    | (go_at_call 66; (with_reducible refine HT.out.mono ?_); rintro e w1 ⟨v, rfl, ho, hrd⟩; obtain ⟨A1, c1, rfl, hc1, hr1, _⟩ := ho.form))
  have HD := Lib.hid hrd
  clear HC HT hrd ho
  go_loopw [6, 7] (fun v i wr => Rumming xs w1 v i wr) (fun _ i _ => xs.length - (intOf i).toNat)
  case atStart => exact ⟨0, by omega, rfl, rfl, rfl⟩
  case round =>
    obtain ⟨j, hj, rfl, rfl, rfl⟩ := hrel
    by_cases hlt : j < xs.length
    · obtain ⟨b, off, rfl, hbw, hcell⟩ := row_open hr1 (by omega)
      have hck := hcell j hlt
      have hz := byt_at hr1.2.1 j
      have HV := Lib.hid (show IntKind.u64.wrap (IntKind.u64.wrap (val (xs.take j)) * 256 + xs.getD j 0) = IntKind.u64.wrap (val (xs.take (j + 1))) by rw [u64_step, ← val_more, take_more xs j hlt])
      clear hcell
      generalize xs.getD j 0 = z at *
      generalize IntKind.u64.wrap (val (xs.take j)) = y at *
      have hor := or_u64 y z hz
      have i0 : (0 : Int) ≤ (j : Int) := by omega
      have i1 : (j : Int) < (xs.length : Int) := by omega
      go_wp2
      go_roundw
      case rel => exact ⟨j + 1, by omega, by rw [← HV.out, ← hor, IntKind.wrap_u64], by go_num, rfl⟩
      case measure => simp [intOf]; omega
    · rw [List.take_of_length_le (by omega)]
      have HV := Lib.hid (w64_u64 (val xs))
      generalize IntKind.u64.wrap (val xs) = y at *
      go_wp2
      go_ret
      exact ⟨by rw [← HV.out]; exact congrArg (fun q => Ending.returned (.int .i64 q)) (w64_is y), HD.out⟩
end Go.Proofs.YtcokpdhhpaahgaaDoor

namespace Go.Proofs.YtcokpdhhpaahgaaDoor
open Go.RowKit
set_option linter.unusedVariables false
set_option linter.unusedSimpArgs false

theorem wnew (w : World) : Wr (w.alloc (.cells #[.pointer none, .int .i64 0] 57)) w.heap.size (fun _ => False) [] := ⟨byt_nil, by simp, fun h => h, none, [], has_new _ _ _, rfl, rfl⟩
theorem plus_lt {P : Nat → Prop} {w w' : World} (h : ∀ b, P b → b < w'.heap.size) : ∀ b, Plus P w w' b → b < w'.heap.size := by
  rintro b (h1 | h1)
  · exact h b h1
  · exact h1.2
theorem WrTo.lt {p : Nat} {P : Nat → Prop} {zs : List Int} {w w' : World} (h : WrTo p P zs w w') (hP : ∀ b, P b → b < w.heap.size) : ∀ b, Plus P w w' b → b < w'.heap.size := plus_lt fun b hb => Nat.lt_of_lt_of_le (hP b hb) h.2.size
theorem cut28 : cutN 2 8 = 2 := by decide
theorem num258 : numL 258 2 = [1, 2] := by decide
theorem got12 : got ⟨[1, 2], false⟩ 2 = [1, 2] := rfl
theorem aft12 : aft ⟨[1, 2], false⟩ 2 = ⟨[], false⟩ := rfl
theorem val12 : w64 (val [1, 2]) = 258 := by decide
end Go.Proofs.YtcokpdhhpaahgaaDoor
