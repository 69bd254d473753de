/-
  Plain mathematics: the bytes of a number, the highest first, and the number of such bytes; rows of a size; what is read of what is left; conditions: none.
-/
import Derived.Laws.BitsAllLaws
import Derived.Laws.BitsLemmas
import Derived.Laws.Strings
namespace Go.Proofs.Ytjfgnoidoeaaeaa

def Byt (zs : List Int) : Prop := ∀ n ∈ zs, 0 ≤ n ∧ n ≤ 255
theorem byt_at {zs : List Int} (h : Byt zs) (i : Nat) : 0 ≤ zs.getD i 0 ∧ zs.getD i 0 ≤ 255 := by
  rw [List.getD_eq_getElem?_getD]
  cases e : zs[i]? with
  | none => simp
  | some v => simpa using h v (List.mem_of_getElem? e)
theorem byt_nil : Byt [] := fun n hn => by simp at hn
theorem byt_take {zs : List Int} (h : Byt zs) (k : Nat) : Byt (zs.take k) := fun n hn => h n (List.mem_of_mem_take hn)
theorem byt_drop {zs : List Int} (h : Byt zs) (k : Nat) : Byt (zs.drop k) := fun n hn => h n (List.mem_of_mem_drop hn)
theorem byt_app {xs ys : List Int} (h1 : Byt xs) (h2 : Byt ys) : Byt (xs ++ ys) := by
  intro n hn
  rcases List.mem_append.1 hn with h | h
  · exact h1 n h
  · exact h2 n h
theorem byt_one {x : Int} (h : 0 ≤ x ∧ x ≤ 255) : Byt [x] := by
  intro n hn
  rw [List.mem_singleton] at hn
  subst hn; exact h
theorem byt_cons {x : Int} {xs : List Int} (h : 0 ≤ x ∧ x ≤ 255) (h' : Byt xs) : Byt (x :: xs) := byt_app (xs := [x]) (byt_one h) h'
theorem byt_two {x y : Int} (h : 0 ≤ x ∧ x ≤ 255) (h' : 0 ≤ y ∧ y ≤ 255) : Byt [x, y] := byt_app (xs := [x]) (ys := [y]) (byt_one h) (byt_one h')
theorem byt_rep (n : Nat) : Byt (List.replicate n 0) := fun m hm => by rw [List.eq_of_mem_replicate hm]; omega
theorem take_more (os : List Int) (j : Nat) (h : j < os.length) : os.take j ++ [os.getD j 0] = os.take (j + 1) := by
  rw [List.take_add_one, List.getD_eq_getElem?_getD, List.getElem?_eq_getElem h]
  rfl

/-- A size, cut to 0 to m. -/
def cutN (s : Int) (m : Nat) : Nat := min s.toNat m
theorem cut_low {s : Int} {m : Nat} (h : s < 0) : cutN s m = 0 := by unfold cutN; omega
theorem cut_high {s : Int} {m : Nat} (h : (m : Int) < s) : cutN s m = m := by unfold cutN; omega
theorem cut_mid {s : Int} {m : Nat} (h : 0 ≤ s) (h' : s ≤ (m : Int)) : (cutN s m : Int) = s := by unfold cutN; omega
theorem cut_le (s : Int) (m : Nat) : cutN s m ≤ m := by unfold cutN; omega
theorem cut_cut (s : Int) (m M : Nat) (h : m ≤ M) : cutN (cutN s m : Int) M = cutN s m := by unfold cutN; omega

/-- The lowest k bytes of a number, the highest first. -/
def numL (n : Int) : Nat → List Int
  | 0 => []
  | k + 1 => (n / 256 ^ k % 256) :: numL n k
theorem num_len (n : Int) : ∀ k, (numL n k).length = k
  | 0 => rfl
  | k + 1 => by rw [numL, List.length_cons, num_len n k]
theorem byte_bd (x : Int) : 0 ≤ x % 256 ∧ x % 256 ≤ 255 := by omega
theorem num_byt (n : Int) : ∀ k, Byt (numL n k)
  | 0 => byt_nil
  | k + 1 => byt_cons (byte_bd _) (num_byt n k)
theorem num_at (n : Int) : ∀ k j, j < k → (numL n k).getD j 0 = n / 256 ^ (k - 1 - j) % 256
  | 0, j, h => by omega
  | k + 1, 0, h => by simp [numL]
  | k + 1, j + 1, h => by
    rw [numL, List.getD_cons_succ, num_at n k j (by omega)]
    rw [show k + 1 - 1 - (j + 1) = k - 1 - j by omega]
/-- A row while its bytes are laid, from the last one on. -/
def laid (n : Int) (k t : Nat) : List Int := List.replicate (k - t) 0 ++ numL n t
theorem laid_none (n : Int) (k : Nat) : laid n k 0 = List.replicate k 0 := by simp [laid, numL]
theorem laid_all (n : Int) (k : Nat) : laid n k k = numL n k := by simp [laid]
theorem laid_len (n : Int) {k t : Nat} (h : t ≤ k) : (laid n k t).length = k := by simp [laid, num_len]; omega
theorem laid_byt (n : Int) (k t : Nat) : Byt (laid n k t) := byt_app (byt_rep _) (num_byt _ _)
theorem laid_more (n : Int) {k t : Nat} (h : t < k) : (laid n k t).set (k - t - 1) (n / 256 ^ t % 256) = laid n k (t + 1) := by
  unfold laid
  obtain ⟨d, rfl⟩ : ∃ d, k = t + 1 + d := ⟨k - t - 1, by omega⟩
  rw [show t + 1 + d - t - 1 = d by omega, show t + 1 + d - t = d + 1 by omega, show t + 1 + d - (t + 1) = d by omega, numL]
  rw [List.replicate_succ', List.append_assoc, List.set_append_right _ _ (by simp)]
  simp
theorem pow_bits (i : Nat) : (2 : Int) ^ (8 * i) = 256 ^ i := by rw [Int.pow_mul]; rfl
theorem pow_pos (i : Nat) : (0 : Int) < 256 ^ i := Int.pow_pos (by omega)
theorem shift_byte (n : Int) (t : Nat) : n / 256 ^ t / 256 = n / 256 ^ (t + 1) := by
  rw [Int.pow_succ, Int.ediv_ediv, if_neg (fun h => absurd h.1 (by have := pow_pos t; omega)), Int.sub_zero]
/-- A row of k bytes: the first ones of zs, then bytes 0. -/
def rawL (zs : List Int) (k : Nat) : List Int := zs.take k ++ List.replicate (k - zs.length) 0
theorem raw_len (zs : List Int) (k : Nat) : (rawL zs k).length = k := by simp [rawL]; omega
theorem raw_byt {zs : List Int} (h : Byt zs) (k : Nat) : Byt (rawL zs k) := byt_app (byt_take h _) (byt_rep _)
theorem raw_at (zs : List Int) (k j : Nat) (h : j < k) : (rawL zs k).getD j 0 = zs.getD j 0 := by
  unfold rawL
  rw [List.getD_eq_getElem?_getD, List.getD_eq_getElem?_getD]
  by_cases hj : j < zs.length
  · rw [List.getElem?_append_left (by rw [List.length_take]; omega), List.getElem?_take, if_pos h]
  · rw [List.getElem?_append_right (by rw [List.length_take]; omega), List.getElem?_eq_none (show zs.length ≤ j by omega), List.getElem?_replicate]
    split <;> rfl

/-- The number of bytes. -/
def val (zs : List Int) : Int := zs.foldl (fun n x => n * 256 + x) 0
theorem val_nil : val [] = 0 := rfl
theorem val_more (zs : List Int) (x : Int) : val (zs ++ [x]) = val zs * 256 + x := by unfold val; rw [List.foldl_append]; rfl
theorem val_from (zs : List Int) : ∀ n : Int, zs.foldl (fun n x => n * 256 + x) n = n * 256 ^ zs.length + val zs := by
  induction zs with
  | nil => intro n; simp [val]
  | cons x xs ih =>
    intro n
    unfold val
    rw [List.foldl_cons, List.foldl_cons, ih, ih, List.length_cons, Int.pow_succ, Int.add_mul, Int.add_mul]
    rw [Int.mul_assoc n, Int.mul_comm 256, Int.zero_mul]
    omega
theorem val_cons (x : Int) (zs : List Int) : val (x :: zs) = x * 256 ^ zs.length + val zs := by
  show (x :: zs).foldl (fun n x => n * 256 + x) 0 = _
  rw [List.foldl_cons, val_from, Int.zero_mul, Int.zero_add]
theorem mod_step (a M : Int) (hM : 0 < M) : a % (M * 256) = a / M % 256 * M + a % M := by
  have h1 := Int.emod_add_mul_ediv a M
  have h2 := Int.emod_add_mul_ediv (a / M) 256
  have b1 := Int.emod_nonneg a (show M ≠ 0 by omega)
  have b2 := Int.emod_lt_of_pos a hM
  have b3 := byte_bd (a / M)
  have e : a = (a / M % 256 * M + a % M) + M * 256 * (a / M / 256) := by
    rw [Int.mul_assoc, show a / M % 256 * M + a % M + M * (256 * (a / M / 256)) = a % M + M * (a / M % 256 + 256 * (a / M / 256)) by rw [Int.mul_add, Int.mul_comm M (a / M % 256)]; omega, h2, h1]
  generalize a / M % 256 = r at *
  generalize a % M = s at *
  generalize a / M / 256 = q at *
  have c1 : 0 ≤ r * M := Int.mul_nonneg b3.1 (by omega)
  have c2 : r * M ≤ 255 * M := Int.mul_le_mul_of_nonneg_right b3.2 (by omega)
  rw [e, Int.add_mul_emod_self_left, Int.emod_eq_of_lt (by omega) (by omega)]
theorem val_num (n : Int) : ∀ k, val (numL n k) = n % 256 ^ k
  | 0 => by simp [numL, val_nil, Int.emod_one]
  | k + 1 => by rw [numL, val_cons, num_len, val_num n k, Int.pow_succ, mod_step _ _ (pow_pos k)]
/-- A number that fits. -/
def Fit (n : Int) (k : Nat) : Prop := 0 ≤ n ∧ n < 256 ^ k
theorem val_fit {n : Int} {k : Nat} (h : Fit n k) : val (numL n k) = n := by rw [val_num, Int.emod_eq_of_lt h.1 h.2]
theorem val_pos {zs : List Int} (h : Byt zs) : 0 ≤ val zs ∧ val zs < 256 ^ zs.length := by
  induction zs with
  | nil => simp [val]
  | cons x xs ih =>
    obtain ⟨i1, i2⟩ := ih fun n hn => h n (List.mem_cons_of_mem _ hn)
    obtain ⟨j1, j2⟩ := h x (List.mem_cons_self ..)
    have p := pow_pos xs.length
    rw [val_cons, List.length_cons, Int.pow_succ]
    generalize (256 : Int) ^ xs.length = M at *
    have c1 : 0 ≤ x * M := Int.mul_nonneg j1 (by omega)
    have c2 : x * M ≤ 255 * M := Int.mul_le_mul_of_nonneg_right j2 (by omega)
    omega

/-- A number as the machine has it, of 64 bits. -/
def w64 (n : Int) : Int := IntKind.i64.wrap n
theorem w64_in {n : Int} (h : -9223372036854775808 ≤ n ∧ n ≤ 9223372036854775807) : w64 n = n := by unfold w64; rw [IntKind.wrap_i64]; omega
theorem w64_eight {n : Int} (h : -9223372036854775808 ≤ n ∧ n ≤ 9223372036854775807) : w64 (val (numL n 8)) = n := by
  rw [val_num]
  unfold w64
  rw [IntKind.wrap_i64]
  show (n % 18446744073709551616 + 9223372036854775808) % 18446744073709551616 - 9223372036854775808 = n
  omega
theorem of64 (x : Int) : (BitVec.ofInt 64 x).toNat = (x % 18446744073709551616).toNat := by
  rw [BitVec.toNat_ofInt]
  rfl
/-- A round of a reader: eight bits more. -/
theorem or_i64 (n x : Int) (hx : 0 ≤ x ∧ x ≤ 255) : bits .or .i64 (IntKind.i64.wrap (n * 256)) x = w64 (n * 256 + x) := by
  show IntKind.i64.wrap ((BitVec.ofInt 64 (IntKind.i64.wrap (n * 256)) ||| BitVec.ofInt 64 x).toNat : Int) = _
  rw [BitVec.toNat_or, of64, of64]
  obtain ⟨Z, rfl⟩ := Int.eq_ofNat_of_zero_le hx.1
  unfold w64
  rw [IntKind.wrap_i64, IntKind.wrap_i64, IntKind.wrap_i64]
  obtain ⟨Y, hY⟩ : ∃ Y : Nat, ((n * 256 + 9223372036854775808) % 18446744073709551616 - 9223372036854775808) % 18446744073709551616 = ((Y * 256 : Nat) : Int) := ⟨(((n * 256 + 9223372036854775808) % 18446744073709551616 - 9223372036854775808) % 18446744073709551616 / 256).toNat, by omega⟩
  rw [hY, Int.toNat_natCast, show ((Z : Int) % 18446744073709551616).toNat = Z by omega, nat_join 8 (Y * 256) Z (by omega) (by omega)]
  omega
theorem or_u64 (n x : Int) (hx : 0 ≤ x ∧ x ≤ 255) : bits .or .u64 (IntKind.u64.wrap (n * 256)) x = IntKind.u64.wrap (n * 256 + x) := by
  show IntKind.u64.wrap ((BitVec.ofInt 64 (IntKind.u64.wrap (n * 256)) ||| BitVec.ofInt 64 x).toNat : Int) = _
  rw [BitVec.toNat_or, of64, of64]
  obtain ⟨Z, rfl⟩ := Int.eq_ofNat_of_zero_le hx.1
  rw [IntKind.wrap_u64, IntKind.wrap_u64, IntKind.wrap_u64]
  obtain ⟨Y, hY⟩ : ∃ Y : Nat, n * 256 % 18446744073709551616 % 18446744073709551616 = ((Y * 256 : Nat) : Int) := ⟨(n * 256 % 18446744073709551616 % 18446744073709551616 / 256).toNat, by omega⟩
  rw [hY, Int.toNat_natCast, show ((Z : Int) % 18446744073709551616).toNat = Z by omega, nat_join 8 (Y * 256) Z (by omega) (by omega)]
  omega
theorem w64_step (n x : Int) : w64 (w64 n * 256 + x) = w64 (n * 256 + x) := by
  unfold w64
  rw [IntKind.wrap_i64, IntKind.wrap_i64, IntKind.wrap_i64]
  omega
theorem u64_step (n x : Int) : IntKind.u64.wrap (IntKind.u64.wrap n * 256 + x) = IntKind.u64.wrap (n * 256 + x) := by
  rw [IntKind.wrap_u64, IntKind.wrap_u64, IntKind.wrap_u64]
  omega
theorem w64_u64 (n : Int) : IntKind.i64.wrap (IntKind.u64.wrap n) = w64 n := by
  unfold w64
  rw [IntKind.wrap_u64, IntKind.wrap_i64, IntKind.wrap_i64]
  omega
/-- Byte i of a number, by way of 64 bits without a sign. -/
theorem byte_u64 (n : Int) (i : Nat) (hi : i < 8) : bits .and .u64 (IntKind.u64.wrap n / 256 ^ i) 255 = n / 256 ^ i % 256 := by
  show IntKind.u64.wrap ((BitVec.ofInt 64 (IntKind.u64.wrap n / 256 ^ i) &&& BitVec.ofInt 64 255).toNat : Int) = _
  rw [BitVec.toNat_and, of64, show (BitVec.ofInt 64 255).toNat = 255 from rfl, nat_mask8, IntKind.wrap_u64, IntKind.wrap_u64]
  match i, hi with
  | 0, _ => show _ = n / 1 % 256; rw [show (256 : Int) ^ 0 = 1 from rfl]; omega
  | 1, _ => show _ = n / 256 % 256; rw [show (256 : Int) ^ 1 = 256 from rfl]; omega
  | 2, _ => rw [show (256 : Int) ^ 2 = 65536 from rfl]; omega
  | 3, _ => rw [show (256 : Int) ^ 3 = 16777216 from rfl]; omega
  | 4, _ => rw [show (256 : Int) ^ 4 = 4294967296 from rfl]; omega
  | 5, _ => rw [show (256 : Int) ^ 5 = 1099511627776 from rfl]; omega
  | 6, _ => rw [show (256 : Int) ^ 6 = 281474976710656 from rfl]; omega
  | 7, _ => rw [show (256 : Int) ^ 7 = 72057594037927936 from rfl]; omega

/-- Of two numbers of one size the less has the bytes that are ahead. -/
theorem num_less (a b : Int) : ∀ k, Op.bytesLess ((numL a k).map fun n => UInt8.ofNat n.toNat) ((numL b k).map fun n => UInt8.ofNat n.toNat) = decide (a % 256 ^ k < b % 256 ^ k)
  | 0 => by simp [numL, Op.bytesLess, Int.emod_one]
  | k + 1 => by
    have p := pow_pos k
    rw [numL, numL, List.map_cons, List.map_cons, Op.bytesLess, num_less a b k, Int.pow_succ, mod_step a _ p, mod_step b _ p]
    have hx := byte_bd (a / 256 ^ k)
    have hy := byte_bd (b / 256 ^ k)
    have u1 := Int.emod_nonneg a (show (256 : Int) ^ k ≠ 0 by omega)
    have u2 := Int.emod_lt_of_pos a p
    have v1 := Int.emod_nonneg b (show (256 : Int) ^ k ≠ 0 by omega)
    have v2 := Int.emod_lt_of_pos b p
    generalize a / 256 ^ k % 256 = x at *
    generalize b / 256 ^ k % 256 = y at *
    generalize a % 256 ^ k = s at *
    generalize b % 256 ^ k = t at *
    generalize (256 : Int) ^ k = M at *
    have ex : (UInt8.ofNat x.toNat).toNat = x.toNat := by rw [UInt8.toNat_ofNat']; omega
    have ey : (UInt8.ofNat y.toNat).toNat = y.toNat := by rw [UInt8.toNat_ofNat']; omega
    have e1 : decide (UInt8.ofNat x.toNat < UInt8.ofNat y.toNat) = decide (x < y) := by
      rw [decide_eq_decide, UInt8.lt_iff_toNat_lt, ex, ey]; omega
    have e2 : (UInt8.ofNat x.toNat == UInt8.ofNat y.toNat) = decide (x = y) := by
      rw [Bool.eq_iff_iff, beq_iff_eq, decide_eq_true_eq, ← UInt8.toNat_inj, ex, ey]; omega
    rw [e1, e2]
    by_cases h1 : x < y
    · have c : (x + 1) * M ≤ y * M := Int.mul_le_mul_of_nonneg_right (by omega) (by omega)
      rw [Int.add_mul, Int.one_mul] at c
      have : x * M + s < y * M + t := by omega
      simp [h1, this]
    · by_cases h2 : x = y
      · subst h2
        simp
      · have c : (y + 1) * M ≤ x * M := Int.mul_le_mul_of_nonneg_right (by omega) (by omega)
        rw [Int.add_mul, Int.one_mul] at c
        have : ¬ x * M + s < y * M + t := by omega
        simp [h1, h2, this]

/-- What is left to read, and whether bytes were missing. -/
structure Rs where
  rest : List Int
  bad : Bool
def Rs.Ok (S : Rs) : Prop := Byt S.rest ∧ (S.bad = true → S.rest = [])
/-- What is read. -/
def got (S : Rs) (k : Nat) : List Int := if S.bad = false ∧ k ≤ S.rest.length then S.rest.take k else []
/-- What is left then. -/
def aft (S : Rs) (k : Nat) : Rs := if S.bad = false ∧ k ≤ S.rest.length then ⟨S.rest.drop k, false⟩ else ⟨[], true⟩
theorem aft_ok {S : Rs} (h : S.Ok) (k : Nat) : (aft S k).Ok := by
  unfold aft
  split
  · exact ⟨byt_drop h.1 _, fun h => by cases h⟩
  · exact ⟨byt_nil, fun _ => rfl⟩
theorem got_yes {S : Rs} {k : Nat} (h : S.bad = false) (h' : k ≤ S.rest.length) : got S k = S.rest.take k := by unfold got; rw [if_pos ⟨h, h'⟩]
theorem aft_yes {S : Rs} {k : Nat} (h : S.bad = false) (h' : k ≤ S.rest.length) : aft S k = ⟨S.rest.drop k, false⟩ := by unfold aft; rw [if_pos ⟨h, h'⟩]
theorem got_short {S : Rs} {k : Nat} (h' : S.rest.length < k) : got S k = [] := by unfold got; rw [if_neg (by omega)]
theorem aft_short {S : Rs} {k : Nat} (h' : S.rest.length < k) : aft S k = ⟨[], true⟩ := by unfold aft; rw [if_neg (by omega)]
theorem got_bad {S : Rs} {k : Nat} (h : S.bad = true) : got S k = [] := by unfold got; rw [if_neg (by simp [h])]
theorem aft_bad {S : Rs} {k : Nat} (h : S.bad = true) : aft S k = ⟨[], true⟩ := by unfold aft; rw [if_neg (by simp [h])]
theorem got_byt {S : Rs} (h : S.Ok) (k : Nat) : Byt (got S k) := by
  unfold got
  split
  · exact byt_take h.1 _
  · exact byt_nil
theorem got_len (S : Rs) (k : Nat) : (got S k).length ≤ k := by
  unfold got
  split
  · rw [List.length_take]; omega
  · simp
theorem aft_len (S : Rs) (k : Nat) : (aft S k).rest.length ≤ S.rest.length := by
  unfold aft
  split
  · simp
  · simp
end Go.Proofs.Ytjfgnoidoeaaeaa
