/-
  Plain facts on single bytes of a flash and on one erase; conditions: as each states.
-/
import Derived.Test.YtobjolcacopgbaaFacts
namespace Go.Proofs.Ytobjolcacopgbaa
set_option linter.unusedVariables false
set_option linter.unusedSimpArgs false

theorem put_over {mem b : List Int} (hm : Byt mem) (hb : Byt b) (a : Nat) {j : Nat} (hj : j < mem.length) : (put mem a b []).getD j 0 = if a ≤ j ∧ j < a + b.length then b.getD (j - a) 0 else mem.getD j 0 := by
  rw [put_at _ _ _ _ _ hj]
  by_cases h : a ≤ j ∧ j < a + b.length
  · rw [if_pos h, if_pos h, mAt_nil, mix_none (byt_at hm _) (byt_at hb _)]
  · rw [if_neg h, if_neg h]
theorem put_one {mem : List Int} {x : Int} (hm : Byt mem) (hx : 0 ≤ x ∧ x ≤ 255) (p : Nat) {j : Nat} (hj : j < mem.length) : (put mem p [x] []).getD j 0 = if j = p then x else mem.getD j 0 := by
  rw [put_over hm (byt_one hx) p hj]
  by_cases h : j = p
  · subst h
    rw [if_pos ⟨Nat.le_refl _, by simp⟩, if_pos rfl, Nat.sub_self]
    rfl
  · rw [if_neg (by simp only [List.length_singleton]; omega), if_neg h]
theorem sets_one {mem : List Int} {p : Nat} {x : Int} : sets mem p [x] = (bits .andNot .u8 x (mem.getD p 0) != 0) := by
  unfold sets setsN
  simp [List.range_succ]
theorem erase_plain {S : Fs} (ho : S.off = false) (hc : S.cut = none) {s : Nat} (hs : s < S.wear.length) : erase S s = (0, { S with mem := put S.mem (320 * s) ffs [], wear := S.wear.set s (S.wear.getD s 0 + 1), ops := S.ops + 1 }) := by
  rw [erase_ok' ho ⟨by omega, by omega⟩, Int.toNat_natCast, work_none (show (worn S s).cut = none from hc)]
  rfl
theorem put_ffs {mem : List Int} (hm : Byt mem) (s : Nat) {j : Nat} (hj : j < mem.length) : (put mem (320 * s) ffs []).getD j 0 = if 320 * s ≤ j ∧ j < 320 * s + 320 then 255 else mem.getD j 0 := by
  rw [put_over hm byt_ffs _ hj, ffs_len]
  by_cases h : 320 * s ≤ j ∧ j < 320 * s + 320
  · rw [if_pos h, if_pos h]
    exact getD_rep _ _ _ (by omega)
  · rw [if_neg h, if_neg h]
theorem blank_yes {S : Fs} {s : Nat} (hs : s < S.wear.length) (h : ∀ i, i < 320 → S.mem.getD (320 * s + i) 0 = 255) : blank S s = true := by
  unfold blank
  rw [if_pos ⟨by omega, by omega⟩, Int.toNat_natCast]
  unfold allFF
  rw [List.all_eq_true]
  intro i hi
  rw [h i (List.mem_range.1 hi)]
  rfl
theorem wearAt_is {S : Fs} {s : Nat} (hs : s < S.wear.length) : wearAt S s = S.wear.getD s 0 := by
  unfold wearAt
  rw [if_pos ⟨by omega, by omega⟩, Int.toNat_natCast]
theorem read_one {S : Fs} {a : Nat} (h : a < S.mem.length) : read S a 1 = [S.mem.getD a 0] := by
  have hl : (read S a ((1 : Nat) : Int)).length = 1 := read_len (Nat.le_refl _) h
  refine list_eq (by exact hl) fun j hj => ?_
  have hj2 : j < 1 := by
    have : (read S a 1).length = 1 := hl
    omega
  obtain rfl : j = 0 := by omega
  exact read_at (n := 1) (Nat.le_refl _) h (by omega)
/-- What is known of the flash of NorBits behind its three Programs. -/
structure Bits3 (S : Fs) (a o : Nat) (v : Int) : Prop where
  ok : S.Ok
  off : S.off = false
  cut : S.cut = none
  wear : S.wear = List.replicate 3 0
  len : S.mem.length = 960
  one : S.mem.getD a 0 = v
  two : S.mem.getD o 0 = 7
  few : S.ops ≤ 3
theorem bits3 {a o : Nat} (ha : a < 960) (ho : o < 960) (hne : a ≠ o) {x y : Int} (hx : 0 ≤ x ∧ x ≤ 255) (hy : 0 ≤ y ∧ y ≤ 255) :
    (prog (fresh 3) a [x]).1 = 0 ∧ (prog (fresh 3) a [x]).2.ops = 1 ∧ (prog (prog (fresh 3) a [x]).2 a [y]).1 = (if bits .andNot .u8 y x = 0 then 0 else 3) ∧ (prog (prog (fresh 3) a [x]).2 a [y]).2.ops ≤ 2 ∧
    Bits3 (prog (prog (prog (fresh 3) a [x]).2 a [y]).2 o [7]).2 a o (if bits .andNot .u8 y x = 0 then y else x) := by
  have hb7 : (0 : Int) ≤ 7 ∧ (7 : Int) ≤ 255 := by omega
  have hbf : Byt (fresh 3).mem := (fresh_ok (n := 3) (by omega)).byt
  have hlf : (fresh 3).mem.length = 960 := fresh_len 3
  have e1 := prog_fresh (n := 3) (a := a) (byt_one hx) (by simp only [List.length_singleton]; omega)
  obtain ⟨M, hM⟩ : ∃ M, put (fresh 3).mem a [x] [] = M := ⟨_, rfl⟩
  have hMl : M.length = 960 := by rw [← hM, put_len]; exact hlf
  have hMb : Byt M := by rw [← hM]; exact put_byt hbf (byt_one hx) byt_nil a
  have hMat : ∀ j, j < 960 → M.getD j 0 = if j = a then x else 255 := fun j hj => by
    rw [← hM, put_one hbf hx a (by omega), fresh_at (by omega)]
  rw [hM] at e1
  rw [e1]
  obtain ⟨S1, hS1⟩ : ∃ S1 : Fs, { fresh 3 with mem := M, ops := 1 } = S1 := ⟨_, rfl⟩
  rw [show ((0 : Int), ({ fresh 3 with mem := M, ops := 1 } : Fs)) = (0, S1) by rw [hS1]]
  have m1 : S1.mem = M := by rw [← hS1]
  have ok1 : S1.Ok := by rw [← hS1]; exact ok_ops (S := { fresh 3 with mem := M }) (ok_mem (fresh_ok (by omega)) hMb (by rw [hMl, hlf]))
  have r1 : S1.off = false ∧ S1.cut = none ∧ S1.wear = List.replicate 3 0 ∧ S1.ops = 1 := by rw [← hS1]; exact ⟨rfl, rfl, rfl, rfl⟩
  have hs1 : sets S1.mem a [y] = (bits .andNot .u8 y x != 0) := by rw [sets_one, m1, hMat a ha, if_pos rfl]
  refine ⟨rfl, r1.2.2.2, ?_⟩
  show (prog S1 a [y]).1 = _ ∧ (prog S1 a [y]).2.ops ≤ 2 ∧ Bits3 (prog (prog S1 a [y]).2 o [7]).2 a o _
  -- one step more, of any flash that is known so well
  have last : ∀ (S : Fs) (v : Int), S.Ok → S.off = false → S.cut = none → S.wear = List.replicate 3 0 → S.mem.length = 960 → S.mem.getD a 0 = v → S.mem.getD o 0 = 255 → S.ops ≤ 2 → Bits3 (prog S o [7]).2 a o v := by
    intro S v ok off cut wear len one two few
    rw [prog_plain off cut (by simp only [List.length_singleton]; omega) (by rw [sets_one, two, clear_full hb7]; rfl)]
    refine ⟨ok_ops (S := { S with mem := put S.mem o [7] [] }) (ok_mem ok (put_byt ok.byt (byt_one hb7) byt_nil o) (put_len ..)), off, cut, wear, by show (put _ _ _ _).length = _; rw [put_len]; exact len, ?_, ?_, by show S.ops + 1 ≤ 3; omega⟩
    · show (put _ _ _ _).getD a 0 = v
      rw [put_one ok.byt hb7 o (by omega), if_neg hne, one]
    · show (put _ _ _ _).getD o 0 = 7
      rw [put_one ok.byt hb7 o (by omega), if_pos rfl]
  by_cases hz : bits .andNot .u8 y x = 0
  · rw [if_pos hz, if_pos hz]
    rw [prog_plain r1.1 r1.2.1 (by simp only [List.length_singleton]; rw [m1]; omega) (by rw [hs1, hz]; rfl)]
    refine ⟨rfl, by show S1.ops + 1 ≤ 2; omega, ?_⟩
    refine last _ y (ok_ops (S := { S1 with mem := put S1.mem a [y] [] }) (ok_mem ok1 (put_byt ok1.byt (byt_one hy) byt_nil a) (put_len ..))) r1.1 r1.2.1 r1.2.2.1 (by show (put _ _ _ _).length = _; rw [put_len, m1]; exact hMl) ?_ ?_ (by show S1.ops + 1 ≤ 2; omega)
    · show (put _ _ _ _).getD a 0 = y
      rw [put_one ok1.byt hy a (by rw [m1]; omega), if_pos rfl]
    · show (put _ _ _ _).getD o 0 = 255
      rw [put_one ok1.byt hy a (by rw [m1]; omega), if_neg (Ne.symm hne), m1, hMat o ho, if_neg (Ne.symm hne)]
  · rw [if_neg hz, if_neg hz]
    rw [prog_set r1.1 ⟨by omega, by simp only [List.length_singleton]; rw [m1]; omega⟩ (by rw [Int.toNat_natCast, hs1]; simpa using hz)]
    refine ⟨rfl, by show S1.ops ≤ 2; omega, last S1 x ok1 r1.1 r1.2.1 r1.2.2.1 (by rw [m1]; exact hMl) ?_ ?_ (by omega)⟩
    · rw [m1, hMat a ha, if_pos rfl]
    · rw [m1, hMat o ho, if_neg (Ne.symm hne)]
theorem bits_end {S : Fs} {a o : Nat} {v : Int} (h : Bits3 S a o v) (ha : a < 960) (ho : o < 960) (hs : o / 320 ≠ a / 320) :
    read S a 1 = [v] ∧ (erase S ((a / 320 : Nat) : Int)).1 = 0 ∧ read (erase S ((a / 320 : Nat) : Int)).2 o 1 = [7] ∧ blank (erase S ((a / 320 : Nat) : Int)).2 ((a / 320 : Nat) : Int) = true ∧ wearAt (erase S ((a / 320 : Nat) : Int)).2 ((a / 320 : Nat) : Int) = 1 ∧ Few S := by
  have hw : S.wear.length = 3 := by rw [h.wear]; rfl
  have hlt : a / 320 < S.wear.length := by omega
  have hl := h.len
  refine ⟨by rw [read_one (by omega), h.one], ?_⟩
  rw [erase_plain h.off h.cut hlt]
  refine ⟨rfl, ?_, ?_, ?_, fun x hx => by rw [h.wear] at hx; rw [List.eq_of_mem_replicate hx]; omega⟩
  · rw [read_one (by show o < (put _ _ _ _).length; rw [put_len]; omega)]
    show [(put _ _ _ _).getD o 0] = _
    rw [put_ffs h.ok.byt _ (by omega), if_neg (by omega), h.two]
  · refine blank_yes (by show _ < (List.set ..).length; rw [List.length_set]; exact hlt) fun i hi => ?_
    show (put _ _ _ _).getD _ 0 = _
    rw [put_ffs h.ok.byt _ (by omega), if_pos (by omega)]
  · rw [wearAt_is (by show _ < (List.set ..).length; rw [List.length_set]; exact hlt)]
    show (List.set ..).getD _ 0 = _
    rw [getD_set _ _ _ _ hlt, if_pos rfl, h.wear, getD_rep _ _ _ (by omega)]
    rfl
end Go.Proofs.Ytobjolcacopgbaa
