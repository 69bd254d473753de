/-
  Plain mathematics: a ring into which things were put one by one, and nothing was cut; conditions: as each states.
-/
import Derived.Test.YtclephjnokbaoaaRgR
namespace Go.Proofs.Ytclephjnokbaoaa
set_option linter.unusedVariables false
set_option linter.unusedSimpArgs false

/-- The seq in sector s behind i Puts. -/
def nOf (s i : Nat) : Nat := s + 1 + 4 * ((i - s - 1) / 4)
/-- How often sector s was erased behind i Puts. -/
def wOf (s i : Nat) : Nat := (i + 3 - s) / 4 - 1
/-- The rows f 0, f 1, .. were put, i of them. -/
structure Rn (S : Fs) (P : Pt) (f : Nat → List Int) (i : Nat) : Prop where
  ok : S.Ok
  few : Few S
  pok : P.Ok S.wear.length
  four : 4 ≤ P.cnt
  on : S.off = false
  nocut : S.cut = none
  ops : S.ops ≤ 2 * i
  sec : ∀ s, s < 4 → secL S P s = if s < i then cellL (nOf s i : Nat) (f (nOf s i - 1)) else ffs
  wear : ∀ s : Nat, s < 4 → wearAt S ((P.fst : Int) + (s : Int)) = (wOf s i : Nat)
/-- What is told of it. -/
def toldH (f : Nat → List Int) (i : Nat) : Hd := ⟨(i + 3) % 4, (i : Int), if i = 0 then [] else rawL (f (i - 1)) 156⟩
theorem told_next (f : Nat → List Int) (i : Nat) : (toldH f i).next = i % 4 := by
  unfold toldH Hd.next
  simp only []
  omega
theorem Rn.hd {S : Fs} {P : Pt} {f : Nat → List Int} {i : Nat} (h : Rn S P f i) (hi : i ≤ 1000000) : hdOf S P = toldH f i := by
  unfold toldH
  by_cases h0 : i = 0
  · subst h0
    rw [hd_none (fun s hs hg => ?_)]
    · rfl
    · rw [h.sec s hs, if_neg (by omega)] at hg
      exact ffs_bad hg
  · rw [if_neg h0]
    have hj : (i + 3) % 4 < 4 := by omega
    have hn : nOf ((i + 3) % 4) i = i := by unfold nOf; omega
    have hs := h.sec _ hj
    rw [if_pos (by omega), hn] at hs
    have hq : Seq ((i : Nat) : Int) := ⟨by omega, by omega⟩
    have e1 : seqN (secL S P ((i + 3) % 4)) = (i : Int) := by rw [hs]; exact seq_cell hq _
    have e2 : loadL (secL S P ((i + 3) % 4)) = rawL (f (i - 1)) 156 := by rw [hs]; exact load_cell _ _
    have := hd_is h.four hj (by rw [hs]; exact good_cell hq _) (fun s h4 hne hg => by
      rw [e1]
      have h2 := h.sec s h4
      by_cases hsi : s < i
      · rw [if_pos hsi] at h2
        have hle : nOf s i < i := by unfold nOf; omega
        have hge : 1 ≤ nOf s i := by unfold nOf; omega
        rw [h2, seq_cell ⟨by omega, by omega⟩]
        omega
      · rw [if_neg hsi] at h2
        rw [h2] at hg
        exact absurd hg ffs_bad)
    rw [e1, e2] at this
    exact this
theorem wear_same {S R : Fs} (h : R.wear = S.wear) (q : Int) : wearAt R q = wearAt S q := by
  unfold wearAt
  by_cases h1 : there S q
  · have h2 : there R q := by unfold there at *; rw [h]; exact h1
    rw [if_pos h2, if_pos h1, h]
  · have h2 : ¬ there R q := by unfold there at *; rw [h]; exact h1
    rw [if_neg h2, if_neg h1]
theorem wear_worn {S : Fs} {q t : Nat} (hq : q < S.wear.length) (ht : t < S.wear.length) : wearAt (worn S q) (t : Int) = if t = q then wearAt S (t : Int) + 1 else wearAt S (t : Int) := by
  have hl := worn_len S q
  unfold wearAt
  rw [if_pos (show there (worn S q) (t : Int) from ⟨by omega, by rw [hl]; omega⟩), if_pos (show there S (t : Int) from ⟨by omega, by omega⟩), Int.toNat_natCast]
  unfold worn
  simp only []
  rw [getD_set _ _ _ _ ht]
  by_cases e : q = t
  · rw [if_pos e, if_pos e.symm, e]
  · rw [if_neg e, if_neg (fun k => e k.symm)]
theorem Rn.sets {S R : Fs} {P : Pt} {f : Nat → List Int} {i : Nat} (h : Rn S P f i) (hR : R.Ok) (hF : Few R) (hw : R.wear.length = S.wear.length) (hoff : R.off = false) (hcut : R.cut = none) (hops : R.ops ≤ 2 * (i + 1))
    (hs : ∀ t, t < 4 → secL R P t = if t = i % 4 then cellL ((i + 1 : Nat) : Int) (f i) else secL S P t)
    (hwear : ∀ t : Nat, t < 4 → wearAt R ((P.fst : Int) + (t : Int)) = (wOf t (i + 1) : Nat)) : Rn R P f (i + 1) := by
  refine ⟨hR, hF, by rw [hw]; exact h.pok, h.four, hoff, hcut, hops, fun t ht => ?_, hwear⟩
  rw [hs t ht]
  by_cases e : t = i % 4
  · have hn : nOf t (i + 1) = i + 1 := by unfold nOf; omega
    rw [if_pos e, if_pos (by omega), hn, Nat.add_sub_cancel]
  · rw [if_neg e, h.sec t ht]
    by_cases hti : t < i
    · have hn : nOf t (i + 1) = nOf t i := by unfold nOf; omega
      rw [if_pos hti, if_pos (by omega), hn]
    · rw [if_neg hti, if_neg (by omega)]
theorem wOf_same {t i : Nat} (ht : t < 4) (h : t ≠ i % 4 ∨ i < 4) : wOf t (i + 1) = wOf t i := by
  unfold wOf
  omega
theorem wOf_more {t i : Nat} (h : t = i % 4) (h4 : 4 ≤ i) : wOf t (i + 1) = wOf t i + 1 := by
  unfold wOf
  omega
theorem Rn.blank {S : Fs} {P : Pt} {f : Nat → List Int} {i : Nat} (h : Rn S P f i) : (aBlank S P ((i % 4 : Nat) : Int) = true ↔ i < 4) := by
  have h4 := h.four
  rw [blank_is h.ok h.pok (by omega), h.sec _ (by omega)]
  by_cases hi : i < 4
  · rw [if_neg (by omega)]
    exact ⟨fun _ => hi, fun _ => rfl⟩
  · rw [if_pos (by omega)]
    exact ⟨fun hc => absurd hc cell_ffs, fun hc => absurd hc hi⟩
theorem Rn.left {S : Fs} {P : Pt} {f : Nat → List Int} {i : Nat} (h : Rn S P f i) (h4 : 4 ≤ i) : (aLeft S P ((i % 4 : Nat) : Int) ≠ 0 ↔ i < 4 * (P.bud + 1)) := by
  have hc := h.four
  have hw := h.wear (i % 4) (by omega)
  unfold aLeft
  rw [if_pos ⟨by omega, by omega⟩, hw]
  unfold wOf
  omega
theorem Rn.may {S : Fs} {P : Pt} {f : Nat → List Int} {i : Nat} (h : Rn S P f i) (hi : i ≤ 1000000) : MayP S P ↔ i < 4 * (P.bud + 1) := by
  have hb := h.blank
  unfold MayP
  rw [h.hd hi, told_next]
  have hq : Seq ((toldH f i).seq + 1) := ⟨by show (1 : Int) ≤ (i : Int) + 1; omega, by show (i : Int) + 1 ≤ 2147483647; omega⟩
  by_cases h4 : i < 4
  · exact ⟨fun _ => by omega, fun _ => ⟨.inl (hb.2 h4), hq⟩⟩
  · have hl := h.left (by omega)
    refine ⟨fun k => ?_, fun k => ⟨.inr (hl.2 k), hq⟩⟩
    rcases k.1 with k1 | k1
    · exact absurd (hb.1 k1) h4
    · exact hl.1 k1
/-- One more is put. -/
theorem Rn.step {S : Fs} {P : Pt} {f : Nat → List Int} {i : Nat} (h : Rn S P f i) (hi : i ≤ 100000) (hm : i < 4 * (P.bud + 1)) (hb : Byt (f i)) (hl : (f i).length ≤ 156) :
    (putR S P (f i)).1 = 0 ∧ (putR S P (f i)).2.wear.length = S.wear.length ∧ Rn (putR S P (f i)).2 P f (i + 1) := by
  have h4 := h.four
  have hw := h.pok.in'
  have hcb := cell_byt ((i + 1 : Nat) : Int) hb
  have hcl := cell_len ((i + 1 : Nat) : Int) (f i)
  have ht : i % 4 < P.cnt := by omega
  rw [put_does h4 hl ((h.may (by omega)).2 hm), h.hd (by omega), told_next, show (toldH f i).seq + 1 = ((i + 1 : Nat) : Int) by show (i : Int) + 1 = _; omega]
  by_cases hi4 : i < 4
  · have hbl := h.blank.2 hi4
    have hff := (blank_is h.ok h.pok ht).1 hbl
    rw [fill_blank hbl, prog_blank h.ok h.pok h.on ht hff hcb hcl]
    have k0 := work_cut (S := S) ((P.fst + i % 4) * 320) (cellL ((i + 1 : Nat) : Int) (f i)) h.nocut
    have kw := work_wear S ((P.fst + i % 4) * 320) (cellL ((i + 1 : Nat) : Int) (f i))
    refine ⟨k0.1, by rw [kw.1], h.sets (work_ok h.ok _ hcb) (few_work h.few _ _) (by rw [kw.1]) (by rw [k0.2.1, h.on]) k0.2.2.1 (by rw [kw.2]; have := h.ops; omega) (fun t ht' => ?_) (fun t ht' => ?_)⟩
    · rw [work_sec h.ok h.pok ht hcb hcl (by omega), k0.2.2.2, hff, mixS_none byt_ffs hcb hcl]
    · rw [wear_same kw.1, h.wear t ht', wOf_same ht' (.inr hi4)]
  · have hbl : aBlank S P ((i % 4 : Nat) : Int) = false := by
      cases hx : aBlank S P ((i % 4 : Nat) : Int)
      · rfl
      · exact absurd (h.blank.1 hx) hi4
    have hleft := (h.left (by omega)).2 hm
    have he := erase_is h.pok h.on ht hleft
    have hwS := worn_ok h.ok (P.fst + i % 4)
    have hwp : P.Ok (worn S (P.fst + i % 4)).wear.length := by rw [worn_len]; exact h.pok
    have k0 := work_cut (S := worn S (P.fst + i % 4)) ((P.fst + i % 4) * 320) ffs h.nocut
    have kw := work_wear (worn S (P.fst + i % 4)) ((P.fst + i % 4) * 320) ffs
    have k1 := work_ok hwS ((P.fst + i % 4) * 320) byt_ffs
    have k4 := fun t (ht' : t < P.cnt) => work_sec hwS hwp ht byt_ffs ffs_len ht'
    have kf : Few (aErase S P ((i % 4 : Nat) : Int)).2 := few_aErase h.few P _
    rw [← he] at k0 kw k1
    simp only [← he] at k4
    rw [fill_two hbl k0.1]
    generalize aErase S P ((i % 4 : Nat) : Int) = r at *
    obtain ⟨e, R⟩ := r
    simp only [] at k0 kw k1 k4 kf ⊢
    have hff : secL R P (i % 4) = ffs := by rw [k4 _ ht, if_pos rfl, k0.2.2.2]; exact mixS_none (sec_byt hwS P _) byt_ffs ffs_len
    have kwl : R.wear.length = S.wear.length := by rw [kw.1, worn_len]
    have hRp : P.Ok R.wear.length := by rw [kwl]; exact h.pok
    have hRo : R.off = false := k0.2.1.trans h.on
    rw [prog_blank k1 hRp hRo ht hff hcb hcl]
    have j0 := work_cut (S := R) ((P.fst + i % 4) * 320) (cellL ((i + 1 : Nat) : Int) (f i)) k0.2.2.1
    have jw := work_wear R ((P.fst + i % 4) * 320) (cellL ((i + 1 : Nat) : Int) (f i))
    have hops : R.ops = S.ops + 1 := kw.2
    refine ⟨j0.1, by rw [jw.1, kwl], h.sets (work_ok k1 _ hcb) (few_work kf _ _) (by rw [jw.1, kwl]) (by rw [j0.2.1, hRo]) j0.2.2.1 (by rw [jw.2]; have := h.ops; omega) (fun t ht' => ?_) (fun t ht' => ?_)⟩
    · rw [work_sec k1 hRp ht hcb hcl (by omega), j0.2.2.2, hff, mixS_none byt_ffs hcb hcl]
      by_cases e : t = i % 4
      · rw [if_pos e, if_pos e]
      · rw [if_neg e, if_neg e, k4 t (by omega), if_neg e]
        rfl
    · rw [wear_same jw.1, wear_same kw.1, show (P.fst : Int) + (t : Int) = ((P.fst + t : Nat) : Int) by omega, wear_worn (by omega) (by omega), show ((P.fst + t : Nat) : Int) = (P.fst : Int) + (t : Int) by omega, h.wear t ht']
      by_cases e : t = i % 4
      · rw [if_pos (by omega), wOf_more e (by omega)]
        omega
      · rw [if_neg (by omega), wOf_same ht' (.inl e)]
/-- All is worn out. -/
theorem Rn.stop {S : Fs} {P : Pt} {f : Nat → List Int} {i : Nat} (h : Rn S P f i) (hi : i ≤ 100000) (hm : ¬ i < 4 * (P.bud + 1)) {ys : List Int} (hl : ys.length ≤ 156) : putR S P ys = (5, S) :=
  put_worn h.four hl fun k => hm ((h.may (by omega)).1 k)
theorem fresh_secs {n : Nat} (hn : n ≤ 400) {P : Pt} (hp : P.Ok n) {s : Nat} (hs : s < P.cnt) : secL (fresh n) P s = ffs := by
  have hl : (fresh n).wear.length = n := List.length_replicate
  have h1 := hp.in'
  refine list_eq (by rw [sec_len' (fresh_ok hn) (by rw [hl]; exact hp) hs, ffs_len]) fun j hj => ?_
  rw [sec_len' (fresh_ok hn) (by rw [hl]; exact hp) hs] at hj
  rw [sec_at (fresh_ok hn) (by rw [hl]; exact hp) hs hj, ffs_at hj]
  show (List.replicate (320 * n) (255 : Int)).getD _ 0 = 255
  rw [List.getD_eq_getElem?_getD, List.getElem?_replicate, if_pos (by omega)]
  rfl
theorem Rn.zero {n : Nat} (hn : n ≤ 400) {P : Pt} (hp : P.Ok n) (h4 : 4 ≤ P.cnt) (f : Nat → List Int) : Rn (fresh n) P f 0 := by
  have hl : (fresh n).wear.length = n := List.length_replicate
  have h1 := hp.in'
  refine ⟨fresh_ok hn, few_fresh n, by rw [hl]; exact hp, h4, rfl, rfl, by simp [fresh], fun s hs => by rw [if_neg (by omega)]; exact fresh_secs hn hp (by omega), fun s hs => ?_⟩
  unfold wearAt
  rw [if_pos ⟨by omega, by rw [hl]; omega⟩]
  show (List.replicate n (0 : Int)).getD _ 0 = _
  rw [List.getD_eq_getElem?_getD, List.getElem?_replicate]
  unfold wOf
  rw [show (0 + 3 - s) / 4 - 1 = 0 by omega]
  split <;> rfl
/-- Behind the first Put what is kept is as P1102 wants it. -/
theorem Rn.kept {S : Fs} {P : Pt} {f : Nat → List Int} {i : Nat} (h : Rn S P f i) (h1 : 1 ≤ i) (hi : i ≤ 100000) (hb : Byt (f (i - 1))) : Kept S P ((i + 3) % 4) (i : Int) (f (i - 1)) := by
  have hn : nOf ((i + 3) % 4) i = i := by unfold nOf; omega
  refine ⟨h.ok, h.few, h.pok, h.four, by omega, ⟨by omega, by omega⟩, hb, h.on, ?_, fun s h4 hne => ?_⟩
  · rw [h.sec _ (by omega), if_pos (by omega), hn]
  · rw [h.sec s h4]
    by_cases hsi : s < i
    · rw [if_pos hsi]
      have hle : nOf s i < i := by unfold nOf; omega
      have hge : 1 ≤ nOf s i := by unfold nOf; omega
      exact .inr ⟨put_whole _, by rw [seq_cell ⟨by omega, by omega⟩]; omega⟩
    · rw [if_neg hsi]
      exact .inl torn_ffs
end Go.Proofs.Ytclephjnokbaoaa
