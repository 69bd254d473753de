/-
  Plain mathematics for the law SlotKeeps: what lies in both slots so far; rows that came in; conditions: none.
-/
import Derived.Test.YtklhmneapegfpaaAl
import Derived.Test.YtklhmneapegfpaaCl
namespace Go.Proofs.Ytklhmneapegfpaa.slotKeeps
open Go.RowKit
set_option linter.unusedVariables false
set_option linter.unusedSimpArgs false

/-- So many operations at most are done twice over; so many chunks of the old image lie in slot 1, so many of the new one in slot 0. -/
structure Kp (S : Fs) (n : Nat) (old b : List Int) (M J : Nat) : Prop where
  calm : Calm S
  len : S.wear.length = 12
  few : Few S
  ops : S.ops ≤ 2 * n
  o : ∀ t, t < M → secL S ⟨0, 12, 100⟩ (8 + t) = over ffs (chunkS old t)
  c : ∀ t, t < J → secL S ⟨0, 12, 100⟩ (4 + t) = over ffs (chunkS b t)
theorem pok {S : Fs} (hl : S.wear.length = 12) : (⟨0, 12, 100⟩ : Pt).Ok S.wear.length := by
  rw [hl]; exact ⟨by simp, by omega, by simp only []; omega⟩
theorem Kp.zero (old b : List Int) : Kp (fresh 12) 0 old b 0 0 := ⟨calm_fresh (by omega), rg_len 12, few_fresh 12, Nat.zero_le _, fun t h => by omega, fun t h => by omega⟩
theorem at1 {q : Nat} (h : q < 4) : atI 1 (q : Int) 4 = ((8 + q : Nat) : Int) := by
  rw [at_yes ⟨by omega, by omega, by omega, by omega⟩]; omega
theorem at0 {q : Nat} (h : q < 4) : atI 0 (q : Int) 4 = ((4 + q : Nat) : Int) := by
  rw [at_yes ⟨by omega, by omega, by omega, by omega⟩]; omega
theorem Kp.put {S : Fs} {n : Nat} {old b : List Int} {M J : Nat} (h : Kp S n old b M J) (hn : n < 50) {sl q : Int} {s : Nat} (hat : atI sl q 4 = (s : Int)) (hs : s < 12) {zs : List Int} (hb : Byt zs) (hz : zs.length ≤ 320) :
    (writeW S ⟨0, 12, 100⟩ sl q 4 zs).1 = 0 ∧ Calm (writeW S ⟨0, 12, 100⟩ sl q 4 zs).2 ∧ (writeW S ⟨0, 12, 100⟩ sl q 4 zs).2.wear.length = 12 ∧ Few (writeW S ⟨0, 12, 100⟩ sl q 4 zs).2 ∧ (writeW S ⟨0, 12, 100⟩ sl q 4 zs).2.ops ≤ 2 * (n + 1) ∧
      ∀ t, t < 12 → secL (writeW S ⟨0, 12, 100⟩ sl q 4 zs).2 ⟨0, 12, 100⟩ t = if t = s then over ffs zs else secL S ⟨0, 12, 100⟩ t := by
  have hp := pok h.len
  have hw := write_sec h.calm hp hat hs (free_few hp h.few (by have := h.ops; show S.ops < 100; omega) hs) hb hz
  have hl := write_wears S ⟨0, 12, 100⟩ sl q 4 zs
  exact ⟨hw.1, hw.2.1, hl.1.trans h.len, few_write h.few _ _ _ _ _, by have := h.ops; have := hl.2; omega, hw.2.2.2⟩
theorem Kp.old {S : Fs} {n : Nat} {old b : List Int} {M : Nat} (h : Kp S n old b M 0) (hn : n < 50) (hM : M < 4) (hb : Byt old) : (writeW S ⟨0, 12, 100⟩ 1 (M : Int) 4 (chunkS old M)).1 = 0 ∧ Kp (writeW S ⟨0, 12, 100⟩ 1 (M : Int) 4 (chunkS old M)).2 (n + 1) old b (M + 1) 0 := by
  obtain ⟨e1, e2, e3, e4, e5, e6⟩ := h.put hn (at1 hM) (by omega) (chunk_byt hb M) (by rw [chunk_len]; omega)
  refine ⟨e1, e2, e3, e4, e5, fun t ht => ?_, fun t ht => by omega⟩
  rw [e6 _ (by omega)]
  by_cases e : t = M
  · rw [if_pos (by omega), e]
  · rw [if_neg (by omega), h.o t (by omega)]
theorem Kp.new {S : Fs} {n : Nat} {old b : List Int} {M J J' q : Nat} (h : Kp S n old b M J) (hn : n < 50) (hM : M ≤ 4) (hq : q < 4) (hJ : J' ≤ 4 ∧ ∀ t, t < J' → t < J ∨ t = q) (hb : Byt b) : (writeW S ⟨0, 12, 100⟩ 0 (q : Int) 4 (chunkS b q)).1 = 0 ∧ Kp (writeW S ⟨0, 12, 100⟩ 0 (q : Int) 4 (chunkS b q)).2 (n + 1) old b M J' := by
  obtain ⟨e1, e2, e3, e4, e5, e6⟩ := h.put hn (at0 hq) (by omega) (chunk_byt hb q) (by rw [chunk_len]; omega)
  refine ⟨e1, e2, e3, e4, e5, fun t ht => ?_, fun t ht => ?_⟩
  · rw [e6 _ (by omega), if_neg (by omega), h.o t ht]
  · have h4 : t < 4 := by omega
    rw [e6 _ (by omega)]
    by_cases e : t = q
    · rw [if_pos (by omega), e]
    · rw [if_neg (by omega)]
      rcases hJ.2 t ht with h1 | h1
      · exact h.c t h1
      · exact absurd h1 e
theorem Kp.image1 {S : Fs} {n : Nat} {old b : List Int} {M J : Nat} (h : Kp S n old b M J) (h0 : 1 ≤ old.length ∧ old.length ≤ 1280) (hM : M = (old.length - 1) / 320 + 1) : imgL S ⟨0, 12, 100⟩ 1 4 (old.length : Int) = old :=
  imgL_put (base := 8) (k := M) h.calm.ok (pok h.len) h0.1 hM (by decide) (by omega) fun j hj => ⟨at1 (by omega), by show 8 + j < 12; omega, h.o j hj⟩
theorem Kp.image0 {S : Fs} {n : Nat} {old b : List Int} {M K : Nat} (h : Kp S n old b M K) (h0 : 1 ≤ b.length ∧ b.length ≤ 1280) (hK : K = (b.length - 1) / 320 + 1) : imgL S ⟨0, 12, 100⟩ 0 4 (b.length : Int) = b :=
  imgL_put (base := 4) (k := K) h.calm.ok (pok h.len) h0.1 hK (by decide) (by omega) fun j hj => ⟨at0 (by omega), by show 4 + j < 12; omega, h.c j hj⟩
def Nums (w : World) (a : Option Addr) (len : Nat) (B : Nat → Int) : Prop :=
  len = 0 ∨ ∃ b off, a = some ⟨b, off, none⟩ ∧ b < w.heap.size ∧ ∀ r, r < len → w.cell? ⟨b, off + r, none⟩ = some (.int .i64 (B r))
theorem plain_at {w : World} {a : Addr} {v : Value} (h : w.cell? (a.add 0) = some v) : ∃ b off, a = ⟨b, off, none⟩ := by
  obtain ⟨b, off, spot⟩ := a
  have hspot : spot = none := by simpa [Addr.add] using World.cell?_spot h
  subst hspot
  exact ⟨b, off, rfl⟩
theorem nums_of {w : World} {x : Addr} {l c : Nat} {zs : List Int} (hl : l ≤ c) (hz : zs.length = c) (hr : ∀ i, i < zs.length → w.cell? (x.add i) = some (.int .i64 (zs.getD i 0))) : Nums w (some x) l fun r => zs.getD r 0 := by
  by_cases h0 : l = 0
  · exact .inl h0
  obtain ⟨b, off, rfl⟩ := plain_at (hr 0 (by omega))
  refine .inr ⟨b, off, rfl, World.block_lt_of_cell? _ _ (hr 0 (by omega)), fun r hrl => ?_⟩
  have h1 := hr r (by omega)
  rw [Addr.add_lit] at h1
  exact h1
theorem and1023 (n : Int) : bits .and .i64 n 1023 = n % 1024 := by
  have h7 : (BitVec.ofInt 64 1023).toNat = 2 ^ 10 - 1 := by decide
  have key : (BitVec.ofInt 64 n &&& BitVec.ofInt 64 1023).toNat = (n % ((2 ^ 64 : Nat) : Int)).toNat % 2 ^ 10 := by
    rw [BitVec.toNat_and, BitVec.toNat_ofInt, h7, Nat.and_two_pow_sub_one_eq_mod]
  show IntKind.i64.wrap ((BitVec.ofInt 64 n &&& BitVec.ofInt 64 1023).toNat : Nat) = n % 1024
  rw [key, IntKind.wrap_i64]
  omega
/-- A part of a row. -/
theorem row_part {w : World} {b off n : Nat} {zs : List Int} (h : Row w (some ⟨b, off, none⟩) n zs) (k L : Nat) (hk : k < n) (hL : k + L ≤ n) : Row w (some ⟨b, off + k, none⟩) L ((zs.drop k).take L) :=
  row_upto (row_from h k hk) L (by omega)
/-- A chunk of a row that came in. -/
theorem row_chunk {w : World} {b off n : Nat} {zs : List Int} (h : Row w (some ⟨b, off, none⟩) n zs) (q L : Nat) (hk : 320 * q < n) (hL : L = min 320 (n - 320 * q)) : Row w (some ⟨b, off + 320 * q, none⟩) L (chunkS zs q) := by
  have hl := h.1
  have := row_part h (320 * q) L hk (by omega)
  unfold chunkS
  by_cases e : L = 320
  · rw [e] at this ⊢; exact this
  · have h2 : (zs.drop (320 * q)).take L = (zs.drop (320 * q)).take 320 := by
      rw [List.take_of_length_le (by rw [List.length_drop]; omega), List.take_of_length_le (by rw [List.length_drop]; omega)]
    rw [← h2]
    exact this
end Go.Proofs.Ytklhmneapegfpaa.slotKeeps
