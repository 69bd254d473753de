/-
  Plain facts on the flash of NorOps; conditions: as each states.
-/
import Derived.Test.YtobjolcacopgbaaOneb
namespace Go.Proofs.Ytobjolcacopgbaa
set_option linter.unusedVariables false
set_option linter.unusedSimpArgs false

theorem and3 (n : Int) : bits .and .i64 n 3 = n % 4 := by
  have h7 : (BitVec.ofInt 64 3).toNat = 2 ^ 2 - 1 := by decide
  have key : (BitVec.ofInt 64 n &&& BitVec.ofInt 64 3).toNat = (n % ((2 ^ 64 : Nat) : Int)).toNat % 2 ^ 2 := by
    rw [BitVec.toNat_and, BitVec.toNat_ofInt, h7, Nat.and_two_pow_sub_one_eq_mod]
  show IntKind.i64.wrap ((BitVec.ofInt 64 n &&& BitVec.ofInt 64 3).toNat : Nat) = n % 4
  rw [key, IntKind.wrap_i64]
  omega
theorem and4 (n : Int) : bits .and .i64 n 4 = 0 ∨ bits .and .i64 n 4 = 4 := by
  have h7 : (BitVec.ofInt 64 4).toNat = 2 ^ 2 := by decide
  obtain ⟨x, hx⟩ : ∃ x, (BitVec.ofInt 64 n).toNat = x := ⟨_, rfl⟩
  have key : (BitVec.ofInt 64 n &&& BitVec.ofInt 64 4).toNat = x &&& 4 := by rw [BitVec.toNat_and, h7, hx]
  have h1 : x &&& 4 ≤ 4 := Nat.and_le_right
  have h2 : (x &&& 4) % 2 ^ 2 = 0 := by rw [Nat.and_mod_two_pow]; exact Nat.and_zero _
  have e : bits .and .i64 n 4 = IntKind.i64.wrap ((BitVec.ofInt 64 n &&& BitVec.ofInt 64 4).toNat : Nat) := rfl
  rw [e, key, IntKind.wrap_i64]
  omega
/-- The flash while so many operations are done ahead of the cut (or it came: -1), and d were done. -/
structure Ops (S : Fs) (left : Int) (d : Nat) : Prop where
  wear : S.wear.length = 2
  ops : S.ops = d
  few : Few S
  st : (∃ q : Nat, left = q ∧ S.off = false ∧ S.cut = some (q, [])) ∨ (left = -1 ∧ S.off = true)
theorem Ops.of_off {S : Fs} {d : Nat} (h : Ops S (-1) d) : S.off = true := by
  rcases h.st with ⟨q, e, _⟩ | ⟨_, h⟩
  · omega
  · exact h
theorem Ops.of_on {S : Fs} {q d : Nat} (h : Ops S q d) : S.off = false ∧ S.cut = some (q, []) := by
  rcases h.st with ⟨q', e, h1, h2⟩ | ⟨e, _⟩
  · obtain rfl : q = q' := by omega
    exact ⟨h1, h2⟩
  · omega
/-- A call is one operation of a flash that is on. -/
def Does (S : Fs) (r : Int × Fs) : Prop := ∃ (S' : Fs) (a : Nat) (b : List Int), r = work S' a b ∧ S'.wear.length = S.wear.length ∧ S'.ops = S.ops ∧ S'.off = S.off ∧ S'.cut = S.cut
theorem does_erase {S : Fs} (ho : S.off = false) {s : Nat} (hs : s < S.wear.length) : Does S (erase S s) :=
  ⟨worn S s, 320 * s, ffs, by rw [erase_ok' ho ⟨by omega, by omega⟩, Int.toNat_natCast], by simp [worn], rfl, rfl, rfl⟩
theorem does_prog {S : Fs} (hk : S.Ok) (ho : S.off = false) (hs : 0 < S.wear.length) : Does S (prog S 0 [0]) := by
  have hl := hk.len
  have hf : fits S 0 ([0] : List Int).length := ⟨by omega, by simp only [List.length_singleton]; omega⟩
  refine ⟨S, 0, [0], ?_, rfl, rfl, rfl, rfl⟩
  rw [prog_ok' ho hf (sets_ff fun k hk' => ?_)]
  · rfl
  · have : k = 0 := by simp only [List.length_singleton] at hk'; omega
    subst this
    exact clear_zero (byt_at hk.byt _)
theorem ops_now {S : Fs} {d : Nat} (h : Ops S 0 d) {r : Int × Fs} (hr : Does S r) (hf : Few r.2) : r.1 = 4 ∧ r.2.off = true ∧ Ops r.2 (-1) (d + 1) := by
  obtain ⟨S', a, b, rfl, h1, h2, h3, h4⟩ := hr
  have hw := work_wear S' a b
  have hc : S'.cut = some (0, []) := h4.trans (Ops.of_on (q := 0) h).2
  have e := work_now hc a b
  refine ⟨by rw [e], by rw [e], by rw [hw.1, h1]; exact h.wear, by rw [hw.2, h2, h.ops], hf, .inr ⟨rfl, by rw [e]⟩⟩
theorem ops_later {S : Fs} {q d : Nat} (h : Ops S ((q + 1 : Nat) : Int) d) {r : Int × Fs} (hr : Does S r) (hf : Few r.2) : r.1 = 0 ∧ r.2.off = false ∧ Ops r.2 q (d + 1) := by
  obtain ⟨S', a, b, rfl, h1, h2, h3, h4⟩ := hr
  have hw := work_wear S' a b
  have hc : S'.cut = some (q + 1, []) := h4.trans h.of_on.2
  have ho : S'.off = false := h3.trans h.of_on.1
  have e := work_later hc a b
  refine ⟨by rw [e], by rw [e]; exact ho, by rw [hw.1, h1]; exact h.wear, by rw [hw.2, h2, h.ops], hf, .inl ⟨q, rfl, by rw [e]; exact ho, by rw [e]⟩⟩
theorem ops_first (n : Nat) : Ops (cutAt (erase (fresh 2) 0).2 n []) n 1 := by
  have e := erase_plain (S := fresh 2) (s := 0) rfl rfl (by rw [fresh_wear]; omega)
  have f := few_erase (few_fresh 2) 0
  obtain ⟨R, hR⟩ : ∃ R, erase (fresh 2) 0 = R := ⟨_, rfl⟩
  have e' : R = _ := hR.symm.trans e
  rw [hR] at f ⊢
  have h1 : R.2.wear.length = 2 := by rw [e']; exact (List.length_set ..).trans (fresh_wear 2)
  have h2 : R.2.ops = 1 := by rw [e']; rfl
  have h3 : R.2.off = false := by rw [e']; rfl
  exact ⟨h1, h2, f, .inl ⟨n, rfl, h3, rfl⟩⟩
theorem ops_small {S : Fs} {left : Int} {d : Nat} (h : Ops S left d) (hd : d ≤ 1000) : S.ops ≤ 1000000 := by rw [h.ops]; omega
theorem out_erase {S : Fs} {q d : Nat} (h : Ops S q d) : erase S 2 = (2, S) := erase_out h.of_on.1 fun x => by have := x.2; have := h.wear; omega
theorem out_prog {S : Fs} {q d : Nat} (h : Ops S q d) (hk : S.Ok) : prog S 640 [0] = (2, S) := prog_out h.of_on.1 fun x => by
  have := x.2
  rw [hk.len, h.wear] at this
  simp only [List.length_singleton] at this
  omega
end Go.Proofs.Ytobjolcacopgbaa
