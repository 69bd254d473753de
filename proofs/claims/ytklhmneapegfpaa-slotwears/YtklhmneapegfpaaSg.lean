/-
  Plain mathematics: the sectors of a part of a flash without a cut, and what a Write does to them; conditions: none.
-/
import Derived.Test.YtklhmneapegfpaaSp
namespace Go.Proofs.Ytklhmneapegfpaa
set_option linter.unusedVariables false
set_option linter.unusedSimpArgs false

/-- Without a cut, and on. -/
structure Calm (S : Fs) : Prop where
  ok : S.Ok
  off : S.off = false
  cut : S.cut = none
theorem calm_fresh {n : Nat} (h : n ≤ 400) : Calm (fresh n) := ⟨fresh_ok h, rfl, rfl⟩
def secL (S : Fs) (P : Pt) (s : Nat) : List Int := aRead S P (s : Int) 0 320
theorem sec_is {S : Fs} {P : Pt} (hS : S.Ok) (hp : P.Ok S.wear.length) {s : Nat} (hs : s < P.cnt) : secL S P s = (S.mem.drop ((P.fst + s) * 320)).take 320 := by
  have h1 := hp.in'
  have h2 := hS.len
  unfold secL aRead
  rw [if_pos ⟨⟨by omega, by omega⟩, by omega, by omega, by omega⟩]
  have e : P.place (s : Int) 0 = (((P.fst + s) * 320 : Nat) : Int) := by unfold Pt.place; omega
  rw [e]
  unfold read
  rw [if_pos ⟨by omega, by omega, by omega⟩]
  simp only [Int.toNat_natCast]
  rfl
theorem sec_len' {S : Fs} {P : Pt} (hS : S.Ok) (hp : P.Ok S.wear.length) {s : Nat} (hs : s < P.cnt) : (secL S P s).length = 320 := by
  have h1 := hp.in'
  have h2 := hS.len
  rw [sec_is hS hp hs, List.length_take, List.length_drop]
  omega
theorem sec_at {S : Fs} {P : Pt} (hS : S.Ok) (hp : P.Ok S.wear.length) {s : Nat} (hs : s < P.cnt) {j : Nat} (hj : j < 320) : (secL S P s).getD j 0 = S.mem.getD ((P.fst + s) * 320 + j) 0 := by
  rw [sec_is hS hp hs, getD_take _ _ _ hj, getD_drop]
/-- A few bytes of a sector. -/
theorem sec_take {S : Fs} {P : Pt} (hS : S.Ok) (hp : P.Ok S.wear.length) {s : Nat} (hs : s < P.cnt) {n : Nat} (h1 : 1 ≤ n) (hn : n ≤ 320) : aRead S P (s : Int) 0 (n : Int) = (secL S P s).take n := by
  have h1' := hp.in'
  have h2 := hS.len
  rw [sec_is hS hp hs, List.take_take, Nat.min_eq_left hn]
  unfold aRead
  rw [if_pos ⟨⟨by omega, by omega⟩, by omega, by omega, by omega⟩]
  have e : P.place (s : Int) 0 = (((P.fst + s) * 320 : Nat) : Int) := by unfold Pt.place; omega
  rw [e]
  unfold read
  rw [if_pos ⟨by omega, by omega, by omega⟩]
  simp only [Int.toNat_natCast]
theorem ffs_at {j : Nat} (h : j < 320) : ffs.getD j 0 = 255 := by
  unfold ffs
  rw [List.getD_eq_getElem?_getD, List.getElem?_replicate, if_pos h]
  rfl
theorem blank_is {S : Fs} {P : Pt} (hS : S.Ok) (hp : P.Ok S.wear.length) {s : Nat} (hs : s < P.cnt) : aBlank S P (s : Int) = true ↔ secL S P s = ffs := by
  have h1 := hp.in'
  have h2 := hS.len
  unfold aBlank
  rw [if_pos ⟨by omega, by omega⟩]
  unfold blank
  rw [if_pos ⟨by omega, by omega⟩, show ((P.fst : Int) + (s : Int)).toNat = P.fst + s by omega]
  unfold allFF
  rw [List.all_eq_true]
  constructor
  · intro h
    refine list_eq (by rw [sec_len' hS hp hs, ffs_len]) fun j hj => ?_
    rw [sec_len' hS hp hs] at hj
    have := h j (List.mem_range.2 hj)
    rw [sec_at hS hp hs hj, ffs_at hj, Nat.mul_comm]
    simpa using this
  · intro h j hj
    have hj' := List.mem_range.1 hj
    have e := sec_at hS hp hs hj'
    rw [h, ffs_at hj'] at e
    rw [Nat.mul_comm 320, ← e]
    rfl
theorem sg_clear {x : Int} (hx : 0 ≤ x ∧ x ≤ 255) : bits .andNot .u8 x 255 = 0 := by
  rw [u8_andNot x 255 hx.1 (by omega) (by omega) (by omega)]
  simp
theorem work_calm {S : Fs} (h : Calm S) (a : Nat) {b : List Int} (hb : Byt b) : (work S a b).1 = 0 ∧ Calm (work S a b).2 ∧ (work S a b).2.mem = put S.mem a b [] ∧ (work S a b).2.wear = S.wear ∧ (work S a b).2.ops = S.ops + 1 := by
  have h1 := work_ok h.ok a hb
  have h2 := work_wear S a b
  have e : (work S a b).1 = 0 ∧ (work S a b).2.mem = put S.mem a b [] ∧ (work S a b).2.off = S.off ∧ (work S a b).2.cut = none := by
    unfold work
    rw [h.cut]
    exact ⟨rfl, rfl, rfl, rfl⟩
  exact ⟨e.1, ⟨h1, by rw [e.2.2.1, h.off], e.2.2.2⟩, e.2.1, h2.1, h2.2⟩
/-- What lies in a sector behind a row that was laid into it. -/
def over (o zs : List Int) : List Int := zs ++ o.drop zs.length
theorem over_nil (o : List Int) : over o [] = o := rfl
theorem over_len {o zs : List Int} (ho : o.length = 320) (hz : zs.length ≤ 320) : (over o zs).length = 320 := by
  unfold over
  rw [List.length_append, List.length_drop]
  omega
theorem over_at {o zs : List Int} (j : Nat) : (over o zs).getD j 0 = if j < zs.length then zs.getD j 0 else o.getD j 0 := by
  unfold over
  split
  · rename_i h
    exact getD_left _ _ _ h
  · rename_i h
    rw [getD_right _ _ _ (by omega), getD_drop, show zs.length + (j - zs.length) = j by omega]
theorem over_take {o zs : List Int} {n : Nat} (h : n = zs.length) : (over o zs).take n = zs := by
  subst h
  exact List.take_left
/-- What an operation does to its sector, and to the others. -/
theorem put_sec {S R : Fs} {P : Pt} (hS : S.Ok) (hR : R.Ok) (hp : P.Ok S.wear.length) (hl : R.wear.length = S.wear.length) {s : Nat} (hs : s < P.cnt) {b : List Int} (hb : Byt b) (hz : b.length ≤ 320) (hm : R.mem = put S.mem ((P.fst + s) * 320) b []) {t : Nat} (ht : t < P.cnt) :
    secL R P t = if t = s then over (secL S P s) b else secL S P t := by
  have hp' : P.Ok R.wear.length := by rw [hl]; exact hp
  have h1 := hp.in'
  have h2 := hS.len
  have hle : ∀ j, 0 ≤ S.mem.getD j 0 ∧ S.mem.getD j 0 ≤ 255 := byt_at hS.byt
  refine list_eq ?_ fun j hj => ?_
  · rw [sec_len' hR hp' ht]
    split
    · rw [over_len (sec_len' hS hp hs) hz]
    · rw [sec_len' hS hp ht]
  · rw [sec_len' hR hp' ht] at hj
    rw [sec_at hR hp' ht hj, hm, put_at _ _ _ _ _ (by omega)]
    by_cases e : t = s
    · subst e
      rw [if_pos rfl, over_at]
      by_cases hjb : j < b.length
      · rw [if_pos ⟨by omega, by omega⟩, if_pos hjb, mAt_nil, Nat.add_sub_cancel_left, mix_none (hle _) (byt_at hb j)]
      · rw [if_neg (by omega), if_neg hjb, sec_at hS hp ht hj]
    · rw [if_neg e, if_neg (by omega), sec_at hS hp ht hj]
/-- What is laid into a blank sector. -/
theorem lay_sec {S : Fs} {P : Pt} (hc : Calm S) (hp : P.Ok S.wear.length) {s : Nat} (hs : s < P.cnt) (hbl : secL S P s = ffs) {zs : List Int} (hb : Byt zs) (hz : zs.length ≤ 320) :
    (layW S P (s : Int) zs).1 = 0 ∧ Calm (layW S P (s : Int) zs).2 ∧ (layW S P (s : Int) zs).2.wear = S.wear ∧ (∀ t, t < P.cnt → secL (layW S P (s : Int) zs).2 P t = if t = s then over ffs zs else secL S P t) := by
  have hS := hc.ok
  by_cases h0 : zs.length = 0
  · obtain rfl := List.eq_nil_of_length_eq_zero h0
    rw [lay_none rfl]
    refine ⟨rfl, hc, rfl, fun t ht => ?_⟩
    by_cases e : t = s
    · subst e; rw [if_pos rfl, over_nil]; exact hbl
    · rw [if_neg e]
  have h1 := hp.in'
  have h2 := hS.len
  rw [lay_some h0]
  have e : aProg S P (s : Int) 0 zs = work S ((P.fst + s) * 320) zs := by
    unfold aProg
    rw [if_pos ⟨⟨by omega, by omega⟩, by omega, by omega, by omega⟩]
    have e : P.place (s : Int) 0 = (((P.fst + s) * 320 : Nat) : Int) := by unfold Pt.place; omega
    rw [e, prog_ok' hc.off ⟨by omega, by omega⟩ ?_, Int.toNat_natCast]
    rw [Int.toNat_natCast]
    unfold sets setsN
    rw [List.any_eq_false]
    intro i hi
    have hi' := List.mem_range.1 hi
    have q := sec_at hS hp hs (j := i) (by omega)
    rw [hbl, ffs_at (by omega)] at q
    rw [← q, sg_clear (byt_at hb i)]
    decide
  rw [e]
  obtain ⟨w1, w2, w3, w4, w5⟩ := work_calm hc ((P.fst + s) * 320) hb
  refine ⟨w1, w2, w4, fun t ht => ?_⟩
  rw [put_sec hS w2.ok hp (by rw [w4]) hs hb hz w3 ht, hbl]
/-- A sector that is erased. -/
theorem erase_sec {S : Fs} {P : Pt} (hc : Calm S) (hp : P.Ok S.wear.length) {s : Nat} (hs : s < P.cnt) (hl : aLeft S P (s : Int) ≠ 0) :
    (aErase S P (s : Int)).1 = 0 ∧ Calm (aErase S P (s : Int)).2 ∧ (aErase S P (s : Int)).2.wear = S.wear.set (P.fst + s) (S.wear.getD (P.fst + s) 0 + 1) ∧ (∀ t, t < P.cnt → secL (aErase S P (s : Int)).2 P t = if t = s then ffs else secL S P t) := by
  have h1 := hp.in'
  have hS := hc.ok
  have e : aErase S P (s : Int) = work (worn S (P.fst + s)) ((P.fst + s) * 320) ffs := by
    unfold aErase
    rw [if_pos ⟨by omega, by omega⟩, if_neg hl, erase_ok' hc.off ⟨by omega, by omega⟩, show ((P.fst : Int) + (s : Int)).toNat = P.fst + s by omega, Nat.mul_comm]
  rw [e]
  have hw : Calm (worn S (P.fst + s)) := ⟨worn_ok hS _, hc.off, hc.cut⟩
  have hl' : (worn S (P.fst + s)).wear.length = S.wear.length := by simp [worn]
  have hp' : P.Ok (worn S (P.fst + s)).wear.length := by rw [hl']; exact hp
  obtain ⟨w1, w2, w3, w4, w5⟩ := work_calm hw ((P.fst + s) * 320) byt_ffs
  refine ⟨w1, w2, by rw [w4]; rfl, fun t ht => ?_⟩
  rw [put_sec hw.ok w2.ok hp' (by rw [w4]) hs byt_ffs (by rw [ffs_len]; omega) w3 ht]
  have hr : ∀ t, secL (worn S (P.fst + s)) P t = secL S P t := fun _ => rfl
  by_cases et : t = s
  · subst et
    rw [if_pos rfl, if_pos rfl]
    unfold over
    rw [List.drop_eq_nil_of_le (by rw [hr, sec_len' hS hp hs, ffs_len]; omega), List.append_nil]
  · rw [if_neg et, if_neg et, hr]
/-- How often a sector was erased behind a Write. -/
def wearsTo (S : Fs) (P : Pt) (s : Nat) : List Int := if aBlank S P (s : Int) = true then S.wear else S.wear.set (P.fst + s) (S.wear.getD (P.fst + s) 0 + 1)
theorem fill_sec {S : Fs} {P : Pt} (hc : Calm S) (hp : P.Ok S.wear.length) {s : Nat} (hs : s < P.cnt) (hfr : freeS S P (s : Int) = true) {zs : List Int} (hb : Byt zs) (hz : zs.length ≤ 320) :
    (fillW S P (s : Int) zs).1 = 0 ∧ Calm (fillW S P (s : Int) zs).2 ∧ (fillW S P (s : Int) zs).2.wear = wearsTo S P s ∧ (∀ t, t < P.cnt → secL (fillW S P (s : Int) zs).2 P t = if t = s then over ffs zs else secL S P t) := by
  unfold wearsTo
  by_cases hbl : aBlank S P (s : Int) = true
  · rw [fill_blank hbl, if_pos hbl]
    exact lay_sec hc hp hs ((blank_is hc.ok hp hs).1 hbl) hb hz
  · have hb0 : aBlank S P (s : Int) = false := by simpa using hbl
    have hl : aLeft S P (s : Int) ≠ 0 := by
      unfold freeS at hfr
      rw [hb0] at hfr
      have := of_decide_eq_true (by simpa using hfr : decide (0 < aLeft S P (s : Int)) = true)
      omega
    obtain ⟨e1, e2, e3, e4⟩ := erase_sec hc hp hs hl
    rw [if_neg hbl, fill_two hb0 e1]
    have hp' : P.Ok (aErase S P (s : Int)).2.wear.length := by rw [(aErase_wears S P _).1]; exact hp
    obtain ⟨l1, l2, l3, l4⟩ := lay_sec e2 hp' hs (by rw [e4 s hs, if_pos rfl]) hb hz
    refine ⟨l1, l2, by rw [l3, e3], fun t ht => ?_⟩
    rw [l4 t ht]
    by_cases et : t = s
    · rw [if_pos et, if_pos et]
    · rw [if_neg et, if_neg et, e4 t ht, if_neg et]
theorem write_sec {S : Fs} {P : Pt} (hc : Calm S) (hp : P.Ok S.wear.length) {sl k n : Int} {s : Nat} (hat : atI sl k n = (s : Int)) (hs : s < P.cnt) (hfr : freeS S P (s : Int) = true) {zs : List Int} (hb : Byt zs) (hz : zs.length ≤ 320) :
    (writeW S P sl k n zs).1 = 0 ∧ Calm (writeW S P sl k n zs).2 ∧ (writeW S P sl k n zs).2.wear = wearsTo S P s ∧ (∀ t, t < P.cnt → secL (writeW S P sl k n zs).2 P t = if t = s then over ffs zs else secL S P t) := by
  rw [write_does (by rw [hat]; omega) (by rw [hat]; exact hfr), hat]
  exact fill_sec hc hp hs hfr hb hz
theorem sec_fresh {n : Nat} {P : Pt} (hn : n ≤ 400) (hp : P.Ok n) {s : Nat} (hs : s < P.cnt) : secL (fresh n) P s = ffs := by
  have hl : (fresh n).wear.length = n := by simp [fresh]
  have hp' : P.Ok (fresh n).wear.length := by rw [hl]; exact hp
  have h1 := hp.in'
  refine list_eq (by rw [sec_len' (fresh_ok hn) hp' hs, ffs_len]) fun j hj => ?_
  rw [sec_len' (fresh_ok hn) hp' hs] at hj
  rw [sec_at (fresh_ok hn) hp' hs hj, ffs_at hj]
  show (List.replicate (320 * n) 255).getD _ 0 = 255
  rw [List.getD_eq_getElem?_getD, List.getElem?_replicate, if_pos (by omega)]
  rfl
theorem left_is {S : Fs} {P : Pt} (hp : P.Ok S.wear.length) {s : Nat} (hs : s < P.cnt) : aLeft S P (s : Int) = max ((P.bud : Int) - S.wear.getD (P.fst + s) 0) 0 := by
  have h1 := hp.in'
  unfold aLeft
  rw [if_pos ⟨by omega, by omega⟩]
  unfold wearAt
  rw [if_pos ⟨by omega, by omega⟩, show ((P.fst : Int) + (s : Int)).toNat = P.fst + s by omega]
/-- Fewer operations than erases that are left. -/
theorem free_few {S : Fs} {P : Pt} (hp : P.Ok S.wear.length) (hf : Few S) (ho : S.ops < P.bud) {s : Nat} (hs : s < P.cnt) : freeS S P (s : Int) = true := by
  have h1 := hp.in'
  have h2 := hf _ (getD_mem (xs := S.wear) (i := P.fst + s) (by omega))
  unfold freeS
  rw [left_is hp hs, decide_eq_true (by omega), Bool.or_true]
end Go.Proofs.Ytklhmneapegfpaa
