/-
  Plain mathematics: words of 32 bits turned round, their bytes; conditions: none.
-/
import Derived.Laws.BitsAllLaws
namespace Go.Proofs.YtklhmneapegfpaaGreatDoor.Sha

/-- x turned round to the right by n bits, modulo 32. -/
def rotI (x n : Int) : Int := (((BitVec.ofInt 32 x).rotateRight (n % 32).toNat).toNat : Int)
theorem rotI_bd (x n : Int) : 0 ≤ rotI x n ∧ rotI x n ≤ 4294967295 := by
  have := ((BitVec.ofInt 32 x).rotateRight (n % 32).toNat).isLt
  unfold rotI; omega
theorem ofInt_rotI (x n : Int) : BitVec.ofInt 32 (rotI x n) = (BitVec.ofInt 32 x).rotateRight (n % 32).toNat := by
  unfold rotI; rw [BitVec.ofInt_natCast, BitVec.ofNat_toNat]; simp
theorem rot_rot (X : BitVec 32) (a b : Nat) (ha : a < 32) (hb : b < 32) : (X.rotateRight a).rotateRight b = X.rotateRight ((a + b) % 32) := by
  apply BitVec.eq_of_getElem_eq
  intro i hi
  have hm : (a + b) % 32 < 32 := Nat.mod_lt _ (by omega)
  have key : ∀ j k (hj : j < 32) (hk : k < 32), j = k → X[j] = X[k] := by intro j k hj hk e; subst e; rfl
  simp only [BitVec.getElem_rotateRight, Nat.mod_eq_of_lt ha, Nat.mod_eq_of_lt hb, Nat.mod_eq_of_lt hm]
  split <;> split <;> split <;> exact key _ _ _ _ (by omega)
theorem rotI_rotI (x n m : Int) : rotI (rotI x n) m = rotI x (n + m) := by
  have e : ((n % 32).toNat + (m % 32).toNat) % 32 = ((n + m) % 32).toNat := by omega
  rw [rotI, ofInt_rotI, rot_rot _ _ _ (by omega) (by omega), e]; rfl
theorem rotI_zero (x : Int) (h : 0 ≤ x ∧ x ≤ 4294967295) : rotI x 0 = x := by
  have e : ((0 : Int) % 32).toNat = 0 := rfl
  have e0 : (BitVec.ofInt 32 x).rotateRight 0 = BitVec.ofInt 32 x := by
    apply BitVec.eq_of_getElem_eq; intro i hi; simp [BitVec.getElem_rotateRight, hi]
  rw [rotI, e, e0, BitVec.toNat_ofInt]
  omega
theorem rotI_mod {x n m : Int} (h : n % 32 = m % 32) : rotI x n = rotI x m := by unfold rotI; rw [h]
theorem rotI_back (x n : Int) (h : 0 ≤ x ∧ x ≤ 4294967295) : rotI (rotI x n) (-n) = x := by
  rw [rotI_rotI, show n + -n = 0 by omega, rotI_zero x h]

theorem ofInt_toNat (x : Int) (h : 0 ≤ x ∧ x ≤ 4294967295) : (BitVec.ofInt 32 x).toNat = x.toNat := by
  rw [BitVec.toNat_ofInt]; omega
/-- x >> k | x << (32 - k), for k < 32. -/
theorem or_right (x : Int) (k : Nat) (hx : 0 ≤ x ∧ x ≤ 4294967295) (hk : k < 32) :
    bits .or .u32 (x / 2 ^ k) (x * 2 ^ (32 - k) % 4294967296) = (((BitVec.ofInt 32 x).rotateRight k).toNat : Int) := by
  obtain ⟨X, rfl⟩ := Int.eq_ofNat_of_zero_le hx.1
  rw [BitVec.toNat_rotateRight, ofInt_toNat _ hx, Nat.mod_eq_of_lt hk]
  have e1 : (X : Int) / 2 ^ k = ((X / 2 ^ k : Nat) : Int) := by push_cast; rfl
  have e2 : (X : Int) * 2 ^ (32 - k) % 4294967296 = ((X * 2 ^ (32 - k) % 4294967296 : Nat) : Int) := by
    have : (X : Int) * 2 ^ (32 - k) = ((X * 2 ^ (32 - k) : Nat) : Int) := by push_cast; rfl
    rw [this]; omega
  have b1 : X / 2 ^ k ≤ X := Nat.div_le_self _ _
  have b2 : X * 2 ^ (32 - k) % 4294967296 < 4294967296 := Nat.mod_lt _ (by omega)
  rw [e1, e2, u32_or_nat _ _ (by omega) b2, Nat.shiftRight_eq_div_pow, Nat.shiftLeft_eq]
  rfl
theorem or_left (x : Int) (k : Nat) (hx : 0 ≤ x ∧ x ≤ 4294967295) (hk : k < 32) :
    bits .or .u32 (x * 2 ^ k % 4294967296) (x / 2 ^ (32 - k)) = (((BitVec.ofInt 32 x).rotateRight ((32 - k) % 32)).toNat : Int) := by
  have hc : ∀ a b : Int, bits .or .u32 a b = bits .or .u32 b a := fun a b => by simp only [bits, BitVec.or_comm]
  rw [hc]
  by_cases h0 : k = 0
  · subst h0
    obtain ⟨X, rfl⟩ := Int.eq_ofNat_of_zero_le hx.1
    have e0 : (BitVec.ofInt 32 (X : Int)).rotateRight ((32 - 0) % 32) = BitVec.ofInt 32 (X : Int) := by
      apply BitVec.eq_of_getElem_eq; intro i hi; simp [BitVec.getElem_rotateRight, hi]
    rw [e0, ofInt_toNat _ hx, show (X : Int) / 2 ^ (32 - 0) = ((0 : Nat) : Int) by omega, show (X : Int) * 2 ^ 0 % 4294967296 = (X : Int) by omega, u32_or_nat _ _ (by omega) (by omega), Nat.zero_or]
    rfl
  · have := or_right x (32 - k) hx (by omega)
    rw [show 32 - (32 - k) = k by omega] at this
    rw [Nat.mod_eq_of_lt (by omega)]
    exact this
theorem right_is (x n : Int) (k : Nat) (hx : 0 ≤ x ∧ x ≤ 4294967295) (h : k = (n % 32).toNat) : bits .or .u32 (x / 2 ^ k) (x * 2 ^ (32 - k) % 4294967296) = rotI x n := by
  rw [or_right x k hx (by omega), h]; rfl
theorem left_is (x n : Int) (k : Nat) (hx : 0 ≤ x ∧ x ≤ 4294967295) (h : k = (n % 32).toNat) : bits .or .u32 (x * 2 ^ k % 4294967296) (x / 2 ^ (32 - k)) = rotI x (-n) := by
  rw [or_left x k hx (by omega), show (32 - k) % 32 = (-n % 32).toNat by omega]; rfl
theorem and31 (n : Int) : bits .and .u64 (IntKind.u64.wrap n) 31 = (((n % 32).toNat : Nat) : Int) := by
  rw [IntKind.wrap_u64, u64_and _ _ (by omega) (by omega) (by omega) (by omega)]
  show (((n % 18446744073709551616).toNat &&& 31 : Nat) : Int) = _
  rw [nat_mask5]
  omega
/-- The bit at 'a', turned round. -/
theorem bit_all : ∀ a : Fin 32, ∀ n : Fin 32, rotI (2 ^ a.val) n.val = 2 ^ ((a.val + 32 - n.val) % 32) := by decide +kernel
theorem rotI_bit (a n : Nat) (ha : a < 32) (hn : n < 32) : rotI (2 ^ a) n = 2 ^ ((a + 32 - n) % 32) := bit_all ⟨a, ha⟩ ⟨n, hn⟩

/-- The first four bytes, the highest first; bytes that are missing are 0. -/
def bigN (zs : List Int) : Nat → Int
  | 0 => 0
  | k + 1 => bigN zs k * 256 + zs.getD k 0
def bigI (zs : List Int) : Int := bigN zs 4
def Byt (zs : List Int) : Prop := ∀ n ∈ zs, 0 ≤ n ∧ n ≤ 255
theorem byt_at {zs : List Int} (h : Byt zs) (i : Nat) : 0 ≤ zs.getD i 0 ∧ zs.getD i 0 ≤ 255 := by
  rw [List.getD_eq_getElem?_getD]
  cases e : zs[i]? with
  | none => simp
  | some v => simpa using h v (List.mem_of_getElem? e)
theorem bigN_bd {zs : List Int} (h : Byt zs) : ∀ k, 0 ≤ bigN zs k ∧ bigN zs k < 256 ^ k
  | 0 => by simp [bigN]
  | k + 1 => by
    have h1 := bigN_bd h k
    have h2 := byt_at h k
    have e : (256 : Int) ^ (k + 1) = 256 ^ k * 256 := Int.pow_succ _ _
    rw [e]
    simp only [bigN]
    omega
theorem bigI_bd {zs : List Int} (h : Byt zs) : 0 ≤ bigI zs ∧ bigI zs ≤ 4294967295 := by
  have := bigN_bd h 4
  unfold bigI; omega
/-- A round of the reader. -/
theorem or_low (x z : Int) (hx : 0 ≤ x ∧ x ≤ 16777215) (hz : 0 ≤ z ∧ z ≤ 255) : bits .or .u32 (x * 256) z = x * 256 + z := by
  obtain ⟨X, rfl⟩ := Int.eq_ofNat_of_zero_le hx.1
  obtain ⟨Z, rfl⟩ := Int.eq_ofNat_of_zero_le hz.1
  have e : (X : Int) * 256 = ((X * 256 : Nat) : Int) := by omega
  rw [e, u32_or_nat _ _ (by omega) (by omega), nat_join 8 (X * 256) Z (by omega) (by omega)]
  omega
/-- The four bytes of a word, the highest first. -/
def bytes4 (x : Int) : List Int := [x / 16777216, x / 65536 % 256, x / 256 % 256, x % 256]
theorem bytes4_bd {x : Int} (h : 0 ≤ x ∧ x ≤ 4294967295) : Byt (bytes4 x) := by
  intro n hn
  simp only [bytes4, List.mem_cons, List.not_mem_nil, or_false] at hn
  omega
theorem big_bytes4 (x : Int) : bigI (bytes4 x) = x := by
  show (((0 * 256 + x / 16777216) * 256 + x / 65536 % 256) * 256 + x / 256 % 256) * 256 + x % 256 = x
  omega
theorem and255 (x : Int) (h : 0 ≤ x ∧ x ≤ 4294967295) : bits .and .u32 x 255 = x % 256 := by
  rw [u32_and _ _ (by omega) (by omega) (by omega) (by omega)]
  show (((x.toNat &&& 255 : Nat)) : Int) = _
  rw [nat_mask8]; omega
end Go.Proofs.YtklhmneapegfpaaGreatDoor.Sha
