/-
  The tag of bytes under a key, as a list of numbers; when two rows of bytes are the same; conditions: as each states.
-/
import Derived.Test.YtjfalnhmmofdfaaDoorShaRun
namespace Go.Proofs.YtjfalnhmmofdfaaDoor.Sha
set_option linter.unusedVariables false
set_option linter.unusedSimpArgs false

def xorI (p x : Int) : Int := bits .xor .u8 x p
theorem bits_xor (x y : Int) (hx : 0 ≤ x ∧ x ≤ 255) (hy : 0 ≤ y ∧ y ≤ 255) : bits .xor .u8 x y = ((x.toNat ^^^ y.toNat : Nat) : Int) := u8_xor x y hx.1 (by omega) hy.1 (by omega)
theorem bits_or (x y : Int) (hx : 0 ≤ x ∧ x ≤ 255) (hy : 0 ≤ y ∧ y ≤ 255) : bits .or .u8 x y = ((x.toNat ||| y.toNat : Nat) : Int) := u8_or x y hx.1 (by omega) hy.1 (by omega)
theorem xor_byt {x y : Int} (hx : 0 ≤ x ∧ x ≤ 255) (hy : 0 ≤ y ∧ y ≤ 255) : 0 ≤ bits .xor .u8 x y ∧ bits .xor .u8 x y ≤ 255 := by
  rw [bits_xor x y hx hy]
  have : x.toNat ^^^ y.toNat < 2 ^ 8 := Nat.xor_lt_two_pow (by omega) (by omega)
  omega
theorem or_byt {x y : Int} (hx : 0 ≤ x ∧ x ≤ 255) (hy : 0 ≤ y ∧ y ≤ 255) : 0 ≤ bits .or .u8 x y ∧ bits .or .u8 x y ≤ 255 := by
  rw [bits_or x y hx hy]
  have : x.toNat ||| y.toNat < 2 ^ 8 := Nat.or_lt_two_pow (by omega) (by omega)
  omega
theorem xor_none {x y : Int} (hx : 0 ≤ x ∧ x ≤ 255) (hy : 0 ≤ y ∧ y ≤ 255) : bits .xor .u8 x y = 0 ↔ x = y := by
  rw [bits_xor x y hx hy]
  constructor
  · intro h
    have h2 : x.toNat ^^^ y.toNat = 0 := by omega
    have := congrArg (· ^^^ y.toNat) h2
    simp [Nat.xor_assoc] at this
    omega
  · rintro rfl
    simp
theorem or_none {x y : Int} (hx : 0 ≤ x ∧ x ≤ 255) (hy : 0 ≤ y ∧ y ≤ 255) : bits .or .u8 x y = 0 ↔ x = 0 ∧ y = 0 := by
  rw [bits_or x y hx hy]
  have := @Nat.or_eq_zero_iff x.toNat y.toNat
  omega

/-- What two rows differ in, over their first k bytes. -/
def diff (xs ys : List Int) : Nat → Int
  | 0 => 0
  | k + 1 => bits .or .u8 (diff xs ys k) (bits .xor .u8 (xs.getD k 0) (ys.getD k 0))
theorem diff_byt {xs ys : List Int} (hx : Byt xs) (hy : Byt ys) : ∀ k, 0 ≤ diff xs ys k ∧ diff xs ys k ≤ 255
  | 0 => ⟨Int.le_refl _, by simp [diff]⟩
  | k + 1 => or_byt (diff_byt hx hy k) (xor_byt (byt_at hx k) (byt_at hy k))
theorem diff_none {xs ys : List Int} (hx : Byt xs) (hy : Byt ys) : ∀ k, diff xs ys k = 0 ↔ ∀ j, j < k → xs.getD j 0 = ys.getD j 0
  | 0 => by simp [diff]
  | k + 1 => by
    rw [diff, or_none (diff_byt hx hy k) (xor_byt (byt_at hx k) (byt_at hy k)), diff_none hx hy k, xor_none (byt_at hx k) (byt_at hy k)]
    constructor
    · rintro ⟨h1, h2⟩ j hj
      by_cases e : j = k
      · subst e; exact h2
      · exact h1 j (by omega)
    · intro h
      exact ⟨fun j hj => h j (by omega), h k (by omega)⟩
theorem diff_all {xs ys : List Int} (hx : Byt xs) (hy : Byt ys) {n : Nat} (h1 : xs.length = n) (h2 : ys.length = n) : diff xs ys n = 0 ↔ xs = ys := by
  rw [diff_none hx hy]
  constructor
  · intro h
    refine List.ext_getElem (by omega) fun j hj hj' => ?_
    have := h j (by omega)
    rwa [List.getD_eq_getElem?_getD, List.getD_eq_getElem?_getD, List.getElem?_eq_getElem hj, List.getElem?_eq_getElem hj'] at this
  · rintro rfl j _
    rfl

/-- The key, or its hash if it is longer than a block. -/
def keyI (ks : List Int) : List Int := if 64 < ks.length then shaI ks else ks
/-- The key's block. -/
def blkI (ks : List Int) : List Int := keyI ks ++ List.replicate (64 - (keyI ks).length) 0
def keyed (p : Int) (ks : List Int) : List Int := (blkI ks).map (xorI p)
def tagI (ks bs : List Int) : List Int := shaI (keyed 92 ks ++ shaI (keyed 54 ks ++ bs))
theorem sha_len (bs : List Int) : (shaI bs).length = 32 := rfl
theorem key_len (ks : List Int) : (keyI ks).length ≤ 64 := by
  unfold keyI
  split
  · rw [sha_len]; omega
  · omega
theorem blk_len (ks : List Int) : (blkI ks).length = 64 := by
  have := key_len ks
  rw [blkI, List.length_append, List.length_replicate]; omega
theorem keyed_len (p : Int) (ks : List Int) : (keyed p ks).length = 64 := by rw [keyed, List.length_map, blk_len]
theorem tag_len (ks bs : List Int) : (tagI ks bs).length = 32 := rfl
theorem byt_rep (n : Nat) : Byt (List.replicate n 0) := by
  intro x hx
  simp only [List.mem_replicate] at hx
  omega
theorem byt_key {ks : List Int} (h : Byt ks) (hs : ∀ bs, Byt bs → Byt (shaI bs)) : Byt (keyI ks) := by
  unfold keyI
  split
  · exact hs _ h
  · exact h
theorem byt_blk {ks : List Int} (h : Byt ks) (hs : ∀ bs, Byt bs → Byt (shaI bs)) : Byt (blkI ks) := byt_app (byt_key h hs) (byt_rep _)
theorem byt_xor {p : Int} (hp : 0 ≤ p ∧ p ≤ 255) {bs : List Int} (h : Byt bs) : Byt (bs.map (xorI p)) := by
  intro x hx
  obtain ⟨y, hy, rfl⟩ := List.mem_map.1 hx
  exact xor_byt (h y hy) hp
/-- A key of up to a block is as with bytes 0 behind it. -/
theorem blk_zeros (ks : List Int) (j : Nat) (h : ks.length + j ≤ 64) : blkI (ks ++ List.replicate j 0) = blkI ks := by
  unfold blkI keyI
  rw [if_neg (show ¬ 64 < (ks ++ List.replicate j (0 : Int)).length by rw [List.length_append, List.length_replicate]; omega), if_neg (show ¬ 64 < ks.length by omega), List.length_append, List.length_replicate, List.append_assoc, List.replicate_append_replicate]
  congr 2
  omega
theorem tag_zeros (ks bs : List Int) (j : Nat) (h : ks.length + j ≤ 64) : tagI (ks ++ List.replicate j 0) bs = tagI ks bs := by
  unfold tagI keyed
  rw [blk_zeros ks j h]
/-- A key that is longer than a block is as its hash. -/
theorem tag_long (ks bs : List Int) (h : 64 < ks.length) : tagI (shaI ks) bs = tagI ks bs := by
  have e : blkI (shaI ks) = blkI ks := by
    unfold blkI keyI
    rw [if_pos h, if_neg (by rw [sha_len]; omega)]
  unfold tagI keyed
  rw [e]
/-- Bytes behind a block that was folded. -/
theorem sha_behind (X zs : List Int) (h2 : (run st0 X).2 = []) : sumI (run (run st0 X).1 zs).1 (X.length + zs.length) (run (run st0 X).1 zs).2 = shaI (X ++ zs) := by
  have e := run_app st0 X zs
  rw [h2, List.nil_append] at e
  unfold shaI
  rw [e, List.length_append]
end Go.Proofs.YtjfalnhmmofdfaaDoor.Sha
