/-
  Plain facts on the flash of NorCuts; conditions: as each states.
-/
import Derived.Test.YtobjolcacopgbaaOneb
namespace Go.Proofs.Ytobjolcacopgbaa
set_option linter.unusedVariables false
set_option linter.unusedSimpArgs false

theorem clear_same : ∀ n : Fin 256, n.val &&& (255 - n.val) = 0 := by decide +kernel
theorem clear_and {x o : Int} (hx : 0 ≤ x ∧ x ≤ 255) (ho : 0 ≤ o ∧ o ≤ 255) : bits .andNot .u8 (bits .and .u8 x o) o = 0 := by
  obtain ⟨a, rfl⟩ := Int.eq_ofNat_of_zero_le hx.1
  obtain ⟨b, rfl⟩ := Int.eq_ofNat_of_zero_le ho.1
  have h1 := and_byt hx ho
  rw [u8_and (a : Int) (b : Int) (by omega) (by omega) (by omega) (by omega)] at h1 ⊢
  rw [u8_andNot _ (b : Int) h1.1 (by omega) (by omega) (by omega)]
  have hb : b < 256 := by omega
  have := clear_same ⟨b, hb⟩
  simp only [Int.toNat_natCast] at *
  rw [Nat.and_assoc, this]
  simp
theorem full_mix : ∀ n : Fin 256, (255 &&& n.val) ||| (255 &&& (255 - n.val)) = 255 := by decide +kernel
theorem mix_full {m : Int} (hm : 0 ≤ m ∧ m ≤ 255) : mixI 255 255 m = 255 := by
  have h1 := and_byt (x := 255) (y := m) (by omega) hm
  have h2 := andNot_byt (x := 255) (y := m) (by omega) hm
  obtain ⟨b, rfl⟩ := Int.eq_ofNat_of_zero_le hm.1
  have hb : b < 256 := by omega
  have := full_mix ⟨b, hb⟩
  unfold mixI
  rw [u8_or _ _ h1.1 (by omega) h2.1 (by omega), u8_and 255 (b : Int) (by omega) (by omega) (by omega) (by omega), u8_andNot 255 (b : Int) (by omega) (by omega) (by omega) (by omega)]
  simp only [Int.toNat_natCast] at *
  exact congrArg _ this
theorem clear_none {x : Int} (hx : 0 ≤ x ∧ x ≤ 255) (h : bits .andNot .u8 255 x = 0) : x = 255 := by
  obtain ⟨b, rfl⟩ := Int.eq_ofNat_of_zero_le hx.1
  have hb : b < 256 := by omega
  rw [u8_andNot 255 (b : Int) (by omega) (by omega) (by omega) (by omega)] at h
  have : ∀ n : Fin 256, 255 &&& (255 - n.val) = 0 → n.val = 255 := by decide +kernel
  have := this ⟨b, hb⟩ (by rw [Int.toNat_natCast] at h; exact Int.ofNat_eq_zero.1 h)
  simp only [] at this
  omega
theorem prog_ops (S : Fs) (a : Int) (b : List Int) : (prog S a b).2.ops ≤ S.ops + 1 := by
  unfold prog
  split
  · exact Nat.le_succ _
  · split
    · exact Nat.le_succ _
    · split
      · exact Nat.le_succ _
      · rw [(work_wear S _ b).2]; exact Nat.le_refl _
theorem erase_ops (S : Fs) (s : Int) : (erase S s).2.ops ≤ S.ops + 1 := by
  unfold erase
  split
  · exact Nat.le_succ _
  · split
    · exact Nat.le_succ _
    · rw [(work_wear _ _ _).2]; exact Nat.le_refl _
/-- Behind the cut. -/
structure CutEnd (S : Fs) (n : Nat) (now next ms : List Int) : Prop where
  off : S.off = true
  len : S.mem.length = 320
  wear : S.wear.length = 1
  few : Few S
  ops : S.ops ≤ 4
  same : ∀ i, i < n → S.mem.getD i 0 = mixI (now.getD i 0) (next.getD i 0) (mAt ms i)
def cutA (now ms : List Int) : Fs := cutAt (prog (fresh 1) 0 now).2 0 ms
theorem cutA_is {now ms : List Int} {n : Nat} (hb : Byt now) (hl : now.length = n) (hn : n ≤ 320) :
    (prog (fresh 1) 0 now).2.ops = 1 ∧ (cutA now ms).off = false ∧ (cutA now ms).cut = some (0, ms) ∧ (cutA now ms).ops = 1 ∧ (cutA now ms).wear.length = 1 ∧ (cutA now ms).mem.length = 320 ∧ Byt (cutA now ms).mem ∧ Few (cutA now ms) ∧ (∀ i, i < n → (cutA now ms).mem.getD i 0 = now.getD i 0) ∧ ∀ i, n ≤ i → i < 320 → (cutA now ms).mem.getD i 0 = 255 := by
  have e : prog (fresh 1) 0 now = _ := prog_fresh (n := 1) (a := 0) hb (by omega)
  have hf : Few (prog (fresh 1) 0 now).2 := few_prog (few_fresh 1) 0 now
  have hbf : Byt (fresh 1).mem := (fresh_ok (n := 1) (by omega)).byt
  have hlf : (fresh 1).mem.length = 320 := fresh_len 1
  unfold cutA
  rw [e] at hf ⊢
  obtain ⟨M, hM⟩ : ∃ M, put (fresh 1).mem 0 now [] = M := ⟨_, rfl⟩
  rw [hM] at hf ⊢
  have hMl : M.length = 320 := by rw [← hM, put_len]; exact hlf
  refine ⟨rfl, rfl, rfl, rfl, fresh_wear 1, hMl, by show Byt M; rw [← hM]; exact put_byt hbf hb byt_nil 0, hf, fun i hi => ?_, fun i h1 h2 => ?_⟩
  · show M.getD i 0 = _
    rw [← hM, put_over hbf hb 0 (by omega), if_pos (by omega), Nat.sub_zero]
  · show M.getD i 0 = _
    rw [← hM, put_over hbf hb 0 (by omega), if_neg (by omega), fresh_at (by omega)]
theorem cut_prog {now next ms : List Int} {n : Nat} (hb : Byt now) (hl : now.length = n) (hn : n ≤ 320) (hb2 : Byt next) (hl2 : next.length = n) (hc : ∀ i, i < n → bits .andNot .u8 (next.getD i 0) (now.getD i 0) = 0) :
    (prog (cutA now ms) 0 next).1 = 4 ∧ CutEnd (prog (cutA now ms) 0 next).2 n now next ms := by
  obtain ⟨_, h1, h2, h3, h4, h5, h6, h7, h8, h9⟩ := cutA_is (ms := ms) hb hl hn
  have hs : sets (cutA now ms).mem 0 next = false := sets_ff fun i hi => by
    rw [Nat.zero_add, h8 i (by omega)]
    exact hc i (by omega)
  have e : prog (cutA now ms) 0 next = work (cutA now ms) 0 next := prog_ok' h1 ⟨by omega, by omega⟩ hs
  have hf := few_prog h7 0 next
  rw [e] at hf ⊢
  rw [work_now h2] at hf ⊢
  refine ⟨rfl, rfl, ?_, h4, hf, ?_, fun i hi => ?_⟩
  · show (put _ _ _ _).length = 320
    rw [put_len]; exact h5
  · show (cutA now ms).ops + 1 ≤ 4
    omega
  · show (put _ _ _ _).getD i 0 = _
    rw [put_at _ _ _ _ _ (by omega), if_pos (by omega), h8 i hi, Nat.sub_zero]
def cutB (now next ms : List Int) : Fs := cutAt (power (prog (cutA now ms) 0 next).2) 0 ms
theorem cut_erase {now ms : List Int} {n : Nat} (hb : Byt now) (hl : now.length = n) (hn : n ≤ 320) (hm : Byt ms) :
    (cutB now (List.replicate n 255) ms).ops ≤ 2 ∧ Few (cutB now (List.replicate n 255) ms) ∧ (erase (cutB now (List.replicate n 255) ms) 0).1 = 4 ∧ CutEnd (erase (cutB now (List.replicate n 255) ms) 0).2 n now (List.replicate n 255) ms := by
  obtain ⟨_, h1, h2, h3, h4, h5, h6, h7, h8, h9⟩ := cutA_is (ms := ms) hb hl hn
  obtain ⟨next, hnx⟩ : ∃ next, List.replicate n (255 : Int) = next := ⟨_, rfl⟩
  have hl2 : next.length = n := by rw [← hnx, List.length_replicate]
  have hat : ∀ i, i < n → next.getD i 0 = 255 := fun i hi => by rw [← hnx]; exact getD_rep _ _ _ hi
  rw [hnx]
  -- what is there behind the Program
  have hR : (prog (cutA now ms) 0 next).2.wear.length = 1 ∧ (prog (cutA now ms) 0 next).2.mem.length = 320 ∧ ∀ i, i < n → (prog (cutA now ms) 0 next).2.mem.getD i 0 = now.getD i 0 := by
    cases hs : sets (cutA now ms).mem 0 next with
    | true =>
      rw [prog_set h1 ⟨by omega, by omega⟩ (by exact hs)]
      exact ⟨h4, h5, h8⟩
    | false =>
      have e : prog (cutA now ms) 0 next = work (cutA now ms) 0 next := prog_ok' h1 ⟨by omega, by omega⟩ hs
      rw [e, work_now h2]
      refine ⟨h4, by show (put _ _ _ _).length = 320; rw [put_len]; exact h5, fun i hi => ?_⟩
      show (put _ _ _ _).getD i 0 = _
      have hz := sets_no hs i (by omega)
      rw [Nat.zero_add, h8 i hi, hat i hi] at hz
      have h255 := clear_none (byt_at hb i) hz
      rw [put_at _ _ _ _ _ (by omega), if_pos (by omega), h8 i hi, Nat.sub_zero, hat i hi, h255]
      exact mix_full (mAt_byt hm i)
  have hops := prog_ops (cutA now ms) 0 next
  have hfw := few_prog h7 0 next
  obtain ⟨R, hRe⟩ : ∃ R, (prog (cutA now ms) 0 next).2 = R := ⟨_, rfl⟩
  have hB : cutB now next ms = cutAt (power R) 0 ms := by unfold cutB; rw [hRe]
  rw [hRe] at hR hops hfw
  rw [hB]
  obtain ⟨r1, r2, r3⟩ := hR
  have e : erase (cutAt (power R) 0 ms) 0 = work (worn (cutAt (power R) 0 ms) 0) 0 ffs := erase_ok' (S := cutAt (power R) 0 ms) (s := 0) rfl ⟨by omega, by show (0 : Int) < (R.wear.length : Int); omega⟩
  have hf2 : Few (erase (cutAt (power R) 0 ms) 0).2 := few_erase (S := cutAt (power R) 0 ms) hfw 0
  refine ⟨by show R.ops ≤ 2; omega, hfw, ?_⟩
  rw [e] at hf2 ⊢
  rw [work_now (show (worn (cutAt (power R) 0 ms) 0).cut = some (0, ms) from rfl)] at hf2 ⊢
  refine ⟨rfl, rfl, ?_, ?_, hf2, ?_, fun i hi => ?_⟩
  · show (put _ _ _ _).length = 320
    rw [put_len]; exact r2
  · show (List.set ..).length = 1
    rw [List.length_set]; exact r1
  · show R.ops + 1 ≤ 4
    omega
  · show (put R.mem 0 ffs ms).getD i 0 = _
    rw [put_at _ _ _ _ _ (by omega), if_pos (by rw [ffs_len]; omega), r3 i hi, Nat.sub_zero, hat i hi, show ffs.getD i 0 = 255 from getD_rep _ _ _ (by omega)]
theorem cut_after {S : Fs} {n : Nat} {now next ms : List Int} (h : CutEnd S n now next ms) : erase S 0 = (4, S) ∧ prog S 0 [] = (4, S) ∧ (erase (power S) 0).1 = 0 := by
  refine ⟨erase_off h.off 0, prog_off h.off 0 [], ?_⟩
  have hw := h.wear
  rw [show erase (power S) 0 = _ from erase_plain (S := power S) (s := 0) rfl rfl (by show 0 < S.wear.length; omega)]
theorem cut_read {S : Fs} {n : Nat} {now next ms : List Int} (h : CutEnd S n now next ms) (h1 : 1 ≤ n) (h2 : n ≤ 320) : (read S 0 n).length = n ∧ ∀ i, i < n → (read S 0 n).getD i 0 = mixI (now.getD i 0) (next.getD i 0) (mAt ms i) := by
  have hl := h.len
  refine ⟨read_len (a := 0) h1 (by omega), fun i hi => ?_⟩
  rw [show (read S 0 n).getD i 0 = _ from read_at (a := 0) h1 (by omega) hi, Nat.zero_add]
  exact h.same i hi
end Go.Proofs.Ytobjolcacopgbaa
