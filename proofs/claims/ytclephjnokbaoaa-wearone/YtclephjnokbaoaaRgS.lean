/-
  Plain mathematics: the sectors of a part, what an operation does to them, and what is torn; conditions: none.
-/
import Derived.Test.YtclephjnokbaoaaRgP
import Derived.Test.YtclephjnokbaoaaOps
namespace Go.Proofs.Ytclephjnokbaoaa
set_option linter.unusedVariables false
set_option linter.unusedSimpArgs false

/-! ### Bits -/
theorem bit255 {i : Nat} (h : i < 8) : Nat.testBit 255 i = true := by
  obtain h0 | h0 | h0 | h0 | h0 | h0 | h0 | h0 : i = 0 ∨ i = 1 ∨ i = 2 ∨ i = 3 ∨ i = 4 ∨ i = 5 ∨ i = 6 ∨ i = 7 := by omega
  all_goals (subst h0; decide)
theorem bit_lt {x i : Nat} (hx : x ≤ 255) (h : x.testBit i = true) : i < 8 := by
  by_cases hi : i < 8
  · exact hi
  · have : x < 2 ^ i := Nat.lt_of_lt_of_le (show x < 2 ^ 8 by omega) (Nat.pow_le_pow_right (by omega) (by omega))
    rw [Nat.testBit_lt_two_pow this] at h
    cases h
theorem bit_not {x i : Nat} (hx : x ≤ 255) (hi : i < 8) : (255 - x).testBit i = !x.testBit i := by
  rw [← all_ones (show x < 256 by omega), Nat.testBit_xor, bit255 hi]
  simp
theorem mix_bit {o b m : Int} (ho : 0 ≤ o ∧ o ≤ 255) (hb : 0 ≤ b ∧ b ≤ 255) (hm : 0 ≤ m ∧ m ≤ 255) {i : Nat} (hi : i < 8) :
    (mixI o b m).toNat.testBit i = (if m.toNat.testBit i then o.toNat.testBit i else b.toNat.testBit i) := by
  have h1 := and_byt ho hm
  have h2 := andNot_byt hb hm
  unfold mixI
  rw [u8_or _ _ h1.1 (by omega) h2.1 (by omega), Int.toNat_natCast, Nat.testBit_or, u8_and _ _ ho.1 (by omega) hm.1 (by omega), u8_andNot _ _ hb.1 (by omega) hm.1 (by omega), Int.toNat_natCast, Int.toNat_natCast, Nat.testBit_and, Nat.testBit_and, bit_not (by omega) hi]
  cases m.toNat.testBit i <;> simp
theorem mix_up {o m : Int} (ho : 0 ≤ o ∧ o ≤ 255) (hm : 0 ≤ m ∧ m ≤ 255) {i : Nat} (h : o.toNat.testBit i = true) : (mixI o 255 m).toNat.testBit i = true := by
  have hi := bit_lt (by omega) h
  rw [mix_bit ho (by omega) hm hi, show (255 : Int).toNat = 255 from rfl, bit255 hi, h]
  simp
theorem mix_over {b m : Int} (hb : 0 ≤ b ∧ b ≤ 255) (hm : 0 ≤ m ∧ m ≤ 255) {i : Nat} (h : b.toNat.testBit i = true) : (mixI 255 b m).toNat.testBit i = true := by
  have hi := bit_lt (by omega) h
  rw [mix_bit (by omega) hb hm hi, show (255 : Int).toNat = 255 from rfl, bit255 hi, h]
  simp
/-! ### Torn bytes -/
/-- Somewhere a bit is set in a byte and in its opposite. -/
def Torn (z : List Int) : Prop := ∃ k i, k < 160 ∧ i < 8 ∧ (z.getD (2 * k) 0).toNat.testBit i = true ∧ (z.getD (2 * k + 1) 0).toNat.testBit i = true
/-- Bits are set alone. -/
def Grows (o z : List Int) : Prop := ∀ j i, j < 320 → (o.getD j 0).toNat.testBit i = true → (z.getD j 0).toNat.testBit i = true
theorem torn_grows {o z : List Int} (h : Torn o) (hg : Grows o z) : Torn z := by
  obtain ⟨k, i, hk, hi, h1, h2⟩ := h
  exact ⟨k, i, hk, hi, hg _ _ (by omega) h1, hg _ _ (by omega) h2⟩
theorem torn_not {z : List Int} (hl : z.length = 320) (hb : Byt z) (h : Torn z) : ¬ Whole z := by
  rintro ⟨_, hw⟩
  obtain ⟨k, i, hk, hi, h1, h2⟩ := h
  have e := hw k (by omega)
  have hx := byt_at hb (2 * k)
  rw [e, show (255 - z.getD (2 * k) 0).toNat = 255 - (z.getD (2 * k) 0).toNat by omega, bit_not (by omega) hi, h1] at h2
  cases h2
theorem torn_bad {z : List Int} (hl : z.length = 320) (hb : Byt z) (h : Torn z) : ¬ Good z := fun g => torn_not hl hb h g.2.1
theorem byte_ext {x y : Int} (hx : 0 ≤ x ∧ x ≤ 255) (hy : 0 ≤ y ∧ y ≤ 255) (h : ∀ i, i < 8 → x.toNat.testBit i = y.toNat.testBit i) : x = y := by
  have : x.toNat = y.toNat := by
    apply Nat.eq_of_testBit_eq
    intro i
    by_cases hi : i < 8
    · exact h i hi
    · rw [Nat.testBit_lt_two_pow (Nat.lt_of_lt_of_le (show x.toNat < 2 ^ 8 by omega) (Nat.pow_le_pow_right (by omega) (by omega))), Nat.testBit_lt_two_pow (Nat.lt_of_lt_of_le (show y.toNat < 2 ^ 8 by omega) (Nat.pow_le_pow_right (by omega) (by omega)))]
  omega
theorem whole_grows {o z : List Int} (hw : Whole o) (hlo : o.length = 320) (hlz : z.length = 320) (hbo : Byt o) (hbz : Byt z) (hg : Grows o z) : z = o ∨ Torn z := by
  by_cases he : z = o
  · exact .inl he
  right
  have hne : ∃ j, j < 320 ∧ z.getD j 0 ≠ o.getD j 0 := by
    apply Classical.byContradiction
    intro hn
    refine he (list_eq (by omega) fun j hj => ?_)
    apply Classical.byContradiction
    intro h
    exact hn ⟨j, by omega, h⟩
  obtain ⟨j, hj, hd⟩ := hne
  have hbit : ∃ i, i < 8 ∧ (z.getD j 0).toNat.testBit i = true ∧ (o.getD j 0).toNat.testBit i = false := by
    apply Classical.byContradiction
    intro hn
    refine hd (byte_ext (byt_at hbz j) (byt_at hbo j) fun i hi => ?_)
    cases h1 : (z.getD j 0).toNat.testBit i <;> cases h2 : (o.getD j 0).toNat.testBit i
    · rfl
    · rw [hg j i hj h2] at h1; cases h1
    · exact absurd ⟨i, hi, h1, h2⟩ hn
    · rfl
  obtain ⟨i, hi, h1, h2⟩ := hbit
  have hw2 := hw.2
  rw [hlo] at hw2
  have hp := hw2 (j / 2) (by omega)
  have hx := byt_at hbo (2 * (j / 2))
  obtain hjj | hjj : j = 2 * (j / 2) ∨ j = 2 * (j / 2) + 1 := by omega
  · refine ⟨j / 2, i, by omega, hi, by rw [← hjj]; exact h1, hg _ _ (by omega) ?_⟩
    rw [hp, show (255 - o.getD (2 * (j / 2)) 0).toNat = 255 - (o.getD (2 * (j / 2)) 0).toNat by omega, bit_not (by omega) hi, ← hjj, h2]
    rfl
  · refine ⟨j / 2, i, by omega, hi, hg _ _ (by omega) ?_, by rw [← hjj]; exact h1⟩
    have : (o.getD (2 * (j / 2) + 1) 0).toNat.testBit i = !(o.getD (2 * (j / 2)) 0).toNat.testBit i := by
      rw [hp, show (255 - o.getD (2 * (j / 2)) 0).toNat = 255 - (o.getD (2 * (j / 2)) 0).toNat by omega, bit_not (by omega) hi]
    rw [← hjj, h2] at this
    cases h3 : (o.getD (2 * (j / 2)) 0).toNat.testBit i
    · rw [h3] at this; cases this
    · rfl
theorem ffs_at {j : Nat} (h : j < 320) : ffs.getD j 0 = 255 := by
  unfold ffs
  rw [List.getD_eq_getElem?_getD, List.getElem?_replicate, if_pos h]
  rfl
theorem torn_ffs : Torn ffs := ⟨0, 0, by omega, by omega, by rw [ffs_at (by omega)]; decide, by rw [ffs_at (by omega)]; decide⟩
theorem ffs_bad : ¬ Good ffs := torn_bad ffs_len byt_ffs torn_ffs
theorem cell_ffs {n : Int} {zs : List Int} : cellL n zs ≠ ffs := fun h => by
  have hw := put_whole (bareL n zs)
  rw [show putL (bareL n zs) = cellL n zs from rfl, h] at hw
  exact torn_not ffs_len byt_ffs torn_ffs hw

/-! ### A sector behind an operation -/
def mixS (o b m : List Int) : List Int := (List.range 320).map fun j => mixI (o.getD j 0) (b.getD j 0) (mAt m j)
theorem mixS_len (o b m : List Int) : (mixS o b m).length = 320 := by simp [mixS]
theorem mixS_at (o b m : List Int) {j : Nat} (h : j < 320) : (mixS o b m).getD j 0 = mixI (o.getD j 0) (b.getD j 0) (mAt m j) := by
  simp [mixS, List.getD_eq_getElem?_getD, List.getElem?_map, List.getElem?_range h]
theorem mixS_byt {o b m : List Int} (ho : Byt o) (hb : Byt b) (hm : Byt m) : Byt (mixS o b m) := by
  intro x hx
  simp only [mixS, List.mem_map] at hx
  obtain ⟨j, _, rfl⟩ := hx
  exact mix_byt (byt_at ho j) (byt_at hb j) (mAt_byt hm j)
theorem mixS_none {o b : List Int} (ho : Byt o) (hb : Byt b) (hl : b.length = 320) : mixS o b [] = b := by
  refine list_eq (by rw [mixS_len, hl]) fun j hj => ?_
  rw [mixS_len] at hj
  rw [mixS_at _ _ _ hj, mAt_nil, mix_none (byt_at ho j) (byt_at hb j)]
theorem mixS_up {o m : List Int} (ho : Byt o) (hm : Byt m) : Grows o (mixS o ffs m) := by
  intro j i hj h
  rw [mixS_at _ _ _ hj, ffs_at hj]
  exact mix_up (byt_at ho j) (mAt_byt hm j) h
theorem mixS_over {b m : List Int} (hb : Byt b) (hm : Byt m) : Grows b (mixS ffs b m) := by
  intro j i hj h
  rw [mixS_at _ _ _ hj, ffs_at hj]
  exact mix_over (byt_at hb j) (mAt_byt hm j) h
theorem sec_is {S : Fs} {P : Pt} (hS : S.Ok) (hp : P.Ok S.wear.length) {s : Nat} (hs : s < P.cnt) : secL S P s = (S.mem.drop ((P.fst + s) * 320)).take 320 := by
  have h1 := hp.in'
  have h2 := hS.len
  unfold secL aRead
  rw [if_pos ⟨⟨by omega, by omega⟩, by omega, by omega, by omega⟩]
  have e : P.place (s : Int) 0 = (((P.fst + s) * 320 : Nat) : Int) := by unfold Pt.place; omega
  rw [e, show (320 : Int) = ((320 : Nat) : Int) from rfl, read_yes (by omega) (by omega)]
theorem sec_len' {S : Fs} {P : Pt} (hS : S.Ok) (hp : P.Ok S.wear.length) {s : Nat} (hs : s < P.cnt) : (secL S P s).length = 320 := by
  have h1 := hp.in'
  have h2 := hS.len
  rw [sec_is hS hp hs, List.length_take, List.length_drop]
  omega
theorem sec_at {S : Fs} {P : Pt} (hS : S.Ok) (hp : P.Ok S.wear.length) {s : Nat} (hs : s < P.cnt) {j : Nat} (hj : j < 320) : (secL S P s).getD j 0 = S.mem.getD ((P.fst + s) * 320 + j) 0 := by
  rw [sec_is hS hp hs, getD_take _ _ _ hj, getD_drop]
/-- The mask that an operation meets. -/
def nowM (S : Fs) : List Int := match S.cut with
  | some (0, m) => m
  | _ => []
theorem nowM_byt {S : Fs} (h : S.Ok) : Byt (nowM S) := by
  unfold nowM
  split
  · rename_i m hm; exact (h.mask _ _ hm).1
  · exact byt_nil
theorem work_mem (S : Fs) (a : Nat) (b : List Int) : (work S a b).2.mem = put S.mem a b (nowM S) := by
  unfold work nowM
  rcases S.cut with _ | ⟨_ | k, m⟩ <;> rfl
theorem work_how (S : Fs) (a : Nat) (b : List Int) : ((work S a b).1 = 0 ∧ nowM S = [] ∧ (work S a b).2.off = S.off) ∨ ((work S a b).1 = 4 ∧ (work S a b).2.off = true) := by
  unfold work nowM
  rcases S.cut with _ | ⟨_ | k, m⟩
  · exact .inl ⟨rfl, rfl, rfl⟩
  · exact .inr ⟨rfl, rfl⟩
  · exact .inl ⟨rfl, rfl, rfl⟩
theorem work_cut {S : Fs} (a : Nat) (b : List Int) (h : S.cut = none) : (work S a b).1 = 0 ∧ (work S a b).2.off = S.off ∧ (work S a b).2.cut = none ∧ nowM S = [] := by
  unfold work nowM
  rw [h]
  exact ⟨rfl, rfl, rfl, rfl⟩
theorem work_ops (S : Fs) (a : Nat) (b : List Int) : (work S a b).2.ops = S.ops + 1 := (work_wear S a b).2
/-- What an operation does to its sector, and to the others. -/
theorem work_sec {S : Fs} {P : Pt} (hS : S.Ok) (hp : P.Ok S.wear.length) {s : Nat} (hs : s < P.cnt) {b : List Int} (hb : Byt b) (hl : b.length = 320) {t : Nat} (ht : t < P.cnt) :
    secL (work S ((P.fst + s) * 320) b).2 P t = if t = s then mixS (secL S P s) b (nowM S) else secL S P t := by
  have hS' := work_ok hS ((P.fst + s) * 320) hb
  have hw := (work_wear S ((P.fst + s) * 320) b).1
  have hp' : P.Ok (work S ((P.fst + s) * 320) b).2.wear.length := by rw [hw]; exact hp
  have h1 := hp.in'
  have h2 := hS.len
  refine list_eq ?_ fun j hj => ?_
  · rw [sec_len' hS' hp' ht]
    split
    · rw [mixS_len]
    · rw [sec_len' hS hp ht]
  · rw [sec_len' hS' hp' ht] at hj
    rw [sec_at hS' hp' ht hj, work_mem, put_at _ _ _ _ _ (by omega)]
    by_cases e : t = s
    · subst e
      rw [if_pos rfl, if_pos ⟨by omega, by omega⟩, mixS_at _ _ _ hj, sec_at hS hp ht hj, Nat.add_sub_cancel_left]
    · rw [if_neg e, if_neg (by omega), sec_at hS hp ht hj]
theorem blank_is {S : Fs} {P : Pt} (hS : S.Ok) (hp : P.Ok S.wear.length) {s : Nat} (hs : s < P.cnt) : aBlank S P (s : Int) = true ↔ secL S P s = ffs := by
  have h1 := hp.in'
  have h2 := hS.len
  unfold aBlank
  rw [if_pos ⟨by omega, by omega⟩]
  unfold blank
  rw [if_pos ⟨by omega, by omega⟩, show ((P.fst : Int) + (s : Int)).toNat = P.fst + s by omega]
  unfold allFF
  rw [List.all_eq_true]
  constructor
  · intro h
    refine list_eq (by rw [sec_len' hS hp hs, ffs_len]) fun j hj => ?_
    rw [sec_len' hS hp hs] at hj
    have := h j (List.mem_range.2 hj)
    rw [sec_at hS hp hs hj, ffs_at hj, Nat.mul_comm]
    simpa using this
  · intro h j hj
    have hj' := List.mem_range.1 hj
    have e := sec_at hS hp hs hj'
    rw [h, ffs_at hj'] at e
    rw [Nat.mul_comm 320, ← e]
    rfl
theorem rg_clear {x : Int} (hx : 0 ≤ x ∧ x ≤ 255) : bits .andNot .u8 x 255 = 0 := by
  rw [u8_andNot x 255 hx.1 (by omega) (by omega) (by omega)]
  simp
theorem prog_blank {S : Fs} {P : Pt} (hS : S.Ok) (hp : P.Ok S.wear.length) (ho : S.off = false) {s : Nat} (hs : s < P.cnt) (hbl : secL S P s = ffs) {b : List Int} (hb : Byt b) (hl : b.length = 320) :
    aProg S P (s : Int) 0 b = work S ((P.fst + s) * 320) b := by
  have h1 := hp.in'
  have h2 := hS.len
  unfold aProg
  rw [if_pos ⟨⟨by omega, by omega⟩, by omega, by omega, by omega⟩]
  have e : P.place (s : Int) 0 = (((P.fst + s) * 320 : Nat) : Int) := by unfold Pt.place; omega
  rw [e, prog_ok' ho ⟨by omega, by omega⟩ ?_, Int.toNat_natCast]
  rw [Int.toNat_natCast]
  unfold sets setsN
  rw [List.any_eq_false]
  intro i hi
  have hi' := List.mem_range.1 hi
  have q := sec_at hS hp hs (j := i) (by omega)
  rw [hbl, ffs_at (by omega)] at q
  rw [← q, rg_clear (byt_at hb i)]
  decide
theorem erase_is {S : Fs} {P : Pt} (hp : P.Ok S.wear.length) (ho : S.off = false) {s : Nat} (hs : s < P.cnt) (hl : aLeft S P (s : Int) ≠ 0) :
    aErase S P (s : Int) = work (worn S (P.fst + s)) ((P.fst + s) * 320) ffs := by
  have h1 := hp.in'
  unfold aErase
  rw [if_pos ⟨by omega, by omega⟩, if_neg hl, erase_ok' ho ⟨by omega, by omega⟩, show ((P.fst : Int) + (s : Int)).toNat = P.fst + s by omega, Nat.mul_comm]
theorem worn_sec (S : Fs) (q : Nat) (P : Pt) (s : Nat) : secL (worn S q) P s = secL S P s := rfl
theorem worn_len (S : Fs) (q : Nat) : (worn S q).wear.length = S.wear.length := by simp [worn]
theorem worn_now (S : Fs) (q : Nat) : nowM (worn S q) = nowM S := rfl
end Go.Proofs.Ytclephjnokbaoaa
