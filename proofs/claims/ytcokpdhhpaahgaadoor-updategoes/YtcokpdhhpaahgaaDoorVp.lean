/-
  Plain mathematics: what may be kept may be kept behind any request; an error turns nothing; the least version never falls; conditions: as stated.
-/
import Derived.Test.YtcokpdhhpaahgaaDoorMUp
namespace Go.Proofs.YtcokpdhhpaahgaaDoor
open Go.RowKit
set_option linter.unusedVariables false
set_option linter.unusedSimpArgs false

theorem in_mk {m : Mt} (i : In m) : inB m = true := by
  unfold inB
  simp only [Bool.and_eq_true, decide_eq_true_eq]
  exact ⟨by have := i.act; omega, i.h0, i.h1, i.com, i.own, i.least, i.gott, i.trials⟩
theorem right_mk {m : Mt} (i : In m) (h : fitB m = true) : rightB m = true := by
  unfold rightB
  rw [in_mk i, h]
  rfl
theorem right_fit {m : Mt} (h : rightB m = true) : fitB m = true := by
  unfold rightB at h
  simp only [Bool.and_eq_true] at h
  exact h.2
theorem fit0 {m : Mt} (h : fitB m = true) (p : m.phase = 0) : m.com.ver = 0 ∧ m.gott = 0 ∧ m.trials = 0 := by
  unfold fitB at h
  rw [if_pos p] at h
  simpa [and_assoc] using h
theorem fit1 {m : Mt} (h : fitB m = true) (p : m.phase = 1) : m.com.ver ≠ 0 ∧ m.oth.ver = 0 ∧ m.trials = 0 ∧ m.gott ≤ chunkN m.com.size := by
  unfold fitB at h
  rw [if_neg (by omega), if_pos p] at h
  simpa [canB, and_assoc] using h
theorem fit2 {m : Mt} (h : fitB m = true) (p : m.phase = 2) : m.com.ver ≠ 0 ∧ m.oth.ver = 0 ∧ m.trials = 0 ∧ m.gott = chunkN m.com.size := by
  unfold fitB at h
  rw [if_neg (by omega), if_neg (by omega), if_pos p] at h
  simpa [canB, and_assoc] using h
theorem fit3 {m : Mt} (h : fitB m = true) (p : m.phase = 3) : m.com.ver = 0 ∧ m.gott = 0 ∧ m.oth.ver ≠ 0 := by
  unfold fitB at h
  rw [if_neg (by omega), if_neg (by omega), if_neg (by omega), if_pos p] at h
  simpa [and_assoc] using h
theorem fit0_mk {m : Mt} (p : m.phase = 0) (a : m.com.ver = 0) (b : m.gott = 0) (c : m.trials = 0) : fitB m = true := by
  unfold fitB
  rw [if_pos p]
  simp [a, b, c]
theorem fit1_mk {m : Mt} (p : m.phase = 1) (a : m.com.ver ≠ 0) (b : m.oth.ver = 0) (c : m.trials = 0) (d : m.gott ≤ chunkN m.com.size) : fitB m = true := by
  unfold fitB
  rw [if_neg (by omega), if_pos p]
  simp [canB, a, b, c, d]
theorem fit2_mk {m : Mt} (p : m.phase = 2) (a : m.com.ver ≠ 0) (b : m.oth.ver = 0) (c : m.trials = 0) (d : m.gott = chunkN m.com.size) : fitB m = true := by
  unfold fitB
  rw [if_neg (by omega), if_neg (by omega), if_pos p]
  simp [canB, a, b, c, d]
theorem fit3_mk {m : Mt} (p : m.phase = 3) (a : m.com.ver = 0) (b : m.gott = 0) (c : m.oth.ver ≠ 0) : fitB m = true := by
  unfold fitB
  rw [if_neg (by omega), if_neg (by omega), if_neg (by omega), if_pos p]
  simp [a, b, c]
theorem okI_nil : okI zeroI = true := by rw [okI_zero (.inl rfl)]; exact decide_eq_true rfl
theorem zeroI_ver : zeroI.ver = 0 := rfl
/-- What holds behind a request. -/
structure Fine (m : Mt) (k : Int) (x : Mt × Rp) : Prop where
  right : rightB x.1 = true
  least : m.least ≤ x.1.least
  err : x.2.err ≠ 0 → x.1 = m
  act : x.1.act ≠ m.act → k = 6 ∧ m.phase = 3
theorem fine_same {m : Mt} {k : Int} {r : Rp} (h : rightB m = true) : Fine m k (m, r) := ⟨h, Int.le_refl _, fun _ => rfl, fun e => absurd rfl e⟩
theorem fine_bad {m : Mt} {k e : Int} (h : rightB m = true) : Fine m k (bad m e) := fine_same h
theorem fine_good {m n : Mt} {k a b : Int} (h : rightB n = true) (hl : n.least = m.least) (ha : n.act = m.act) : Fine m k (n, ⟨0, a, b⟩) := ⟨h, by show m.least ≤ n.least; omega, fun e => absurd rfl e, fun e => absurd ha e⟩
/-- The other slot made empty, or filled. -/
theorem in_setOth {m : Mt} {i : Im} (h : In m) (hi : okI i = true) : In (m.setOth i) ∧ (m.setOth i).oth = i := by
  obtain ⟨act, h0, h1, least, phase, com, gott, trials⟩ := m
  rcases h.act with e | e
  · simp only at e
    subst e
    exact ⟨⟨.inl rfl, h.h0, hi, h.com, h.own, h.least, h.gott, h.trials⟩, rfl⟩
  · simp only at e
    subst e
    exact ⟨⟨.inr rfl, hi, h.h1, h.com, h.own, h.least, h.gott, h.trials⟩, rfl⟩
theorem setOth_same (m : Mt) (i : Im) : (m.setOth i).act = m.act ∧ (m.setOth i).least = m.least ∧ (m.setOth i).phase = m.phase ∧ (m.setOth i).com = m.com ∧ (m.setOth i).gott = m.gott ∧ (m.setOth i).trials = m.trials := by
  unfold Mt.setOth
  split <;> exact ⟨rfl, rfl, rfl, rfl, rfl, rfl⟩
theorem fine_over {m : Mt} {k a b : Int} (h : rightB m = true) (hp : m.phase = 3) : Fine m k (m.over, ⟨0, a, b⟩) := by
  have hi := right_in h
  obtain ⟨f1, f2, f3⟩ := fit3 (right_fit h) hp
  obtain ⟨g, go⟩ := in_setOth hi okI_nil
  obtain ⟨s1, s2, s3, s4, s5, s6⟩ := setOth_same m zeroI
  refine fine_good (right_mk ⟨g.act, g.h0, g.h1, g.com, g.own, g.least, g.gott, ⟨Int.le_refl _, by show (0 : Int) ≤ 2; omega⟩⟩ (fit0_mk rfl ?_ ?_ rfl)) s2 s1
  · show (m.setOth zeroI).com.ver = 0; rw [s4]; exact f1
  · show (m.setOth zeroI).gott = 0; rw [s5]; exact f2
theorem fine_begin {m : Mt} {bs : List Int} {f : Fc} {quota k : Int} (h : rightB m = true) : Fine m k (beginM m bs f quota) := by
  unfold beginM
  split
  · exact fine_bad h
  rename_i p
  split
  · exact fine_bad h
  rename_i g
  split
  · exact fine_bad h
  rename_i ma
  have p := Classical.not_not.1 p
  have g := Classical.not_not.1 g
  have ma := Classical.not_not.1 ma
  have hi := right_in h
  obtain ⟨f1, f2, f3⟩ := fit0 (right_fit h) p
  obtain ⟨gi, go⟩ := in_setOth hi okI_nil
  obtain ⟨s1, s2, s3, s4, s5, s6⟩ := setOth_same m zeroI
  obtain ⟨_, _, _, n1, n2⟩ := g
  have hc : chunkI (Man.sizL bs) ≤ 6 := by
    unfold mayE at ma
    split at ma
    · omega
    split at ma
    · omega
    split at ma
    · omega
    split at ma
    · omega
    rename_i q
    have q' : ¬ (quota < chunkI (Man.sizL bs) ∨ 6 < chunkI (Man.sizL bs)) := q
    omega
  have n2' : 1 ≤ Man.sizL bs ∧ Man.sizL bs ≤ 1073741824 := n2
  have n1' : 1 ≤ Man.verL bs ∧ Man.verL bs ≤ 1073741824 := n1
  have hsz : Man.sizL bs ≤ 1920 := by
    unfold chunkI at hc
    split at hc <;> omega
  have hok : okI (imOf (Man.told bs)) = true := by
    unfold okI
    simp only [Bool.or_eq_true, decide_eq_true_eq]
    exact .inr ⟨n1'.1, n1'.2, n2'.1, hsz⟩
  refine fine_good (right_mk ⟨gi.act, gi.h0, gi.h1, hok, gi.own, gi.least, ⟨Int.le_refl _, by show (0 : Int) ≤ 6; omega⟩, gi.trials⟩ (fit1_mk rfl ?_ ?_ ?_ ?_)) s2 s1
  · show Man.verL bs ≠ 0; omega
  · show (m.setOth zeroI).oth.ver = 0; rw [go]; rfl
  · show (m.setOth zeroI).trials = 0; rw [s6]; exact f3
  · show (0 : Int) ≤ chunkN (Man.sizL bs)
    unfold chunkN
    omega
theorem chunk_le {i : Im} (h : okI i = true) : 0 ≤ chunkN i.size ∧ chunkN i.size ≤ 6 ∧ chunkI i.size = chunkN i.size := by
  have := (okI_fit h).2
  refine ⟨by unfold chunkN; omega, by unfold chunkN; omega, chunk_same this.1⟩
theorem fine_write {m : Mt} {num : Int} {len : Nat} {f : Fc} {k : Int} (h : rightB m = true) : Fine m k (writeM m num len f) := by
  unfold writeM
  split
  · exact fine_bad h
  rename_i p
  split
  · exact fine_bad h
  rename_i q
  split
  · exact fine_bad h
  split
  · exact fine_bad h
  have p := Classical.not_not.1 p
  have hi := right_in h
  obtain ⟨f1, f2, f3, f4⟩ := fit1 (right_fit h) p
  obtain ⟨c1, c2, c3⟩ := chunk_le hi.com
  have q2 : m.gott ≠ chunkI m.com.size := fun e => q (.inr e)
  have hg := hi.gott
  exact fine_good (right_mk ⟨hi.act, hi.h0, hi.h1, hi.com, hi.own, hi.least, ⟨by show 0 ≤ m.gott + 1; omega, by show m.gott + 1 ≤ 6; omega⟩, hi.trials⟩ (fit1_mk p f1 f2 f3 (by show m.gott + 1 ≤ chunkN m.com.size; omega))) rfl rfl
theorem fine_verify {m : Mt} {f : Fc} {k : Int} (h : rightB m = true) : Fine m k (verifyM m f) := by
  unfold verifyM
  split
  · exact fine_bad h
  rename_i p
  split
  · exact fine_bad h
  rename_i q
  split
  · exact fine_bad h
  split
  · exact fine_bad h
  have p := Classical.not_not.1 p
  have q := Classical.not_not.1 q
  have hi := right_in h
  obtain ⟨f1, f2, f3, f4⟩ := fit1 (right_fit h) p
  obtain ⟨c1, c2, c3⟩ := chunk_le hi.com
  exact fine_good (right_mk ⟨hi.act, hi.h0, hi.h1, hi.com, hi.own, hi.least, hi.gott, hi.trials⟩ (fit2_mk rfl f1 f2 f3 (by show m.gott = chunkN m.com.size; omega))) rfl rfl
theorem fine_commit {m : Mt} {f : Fc} {k : Int} (h : rightB m = true) : Fine m k (commitM m f) := by
  unfold commitM
  split
  · exact fine_bad h
  rename_i p
  split
  · exact fine_bad h
  have p := Classical.not_not.1 p
  have hi := right_in h
  obtain ⟨f1, f2, f3, f4⟩ := fit2 (right_fit h) p
  obtain ⟨gi, go⟩ := in_setOth hi hi.com
  obtain ⟨s1, s2, s3, s4, s5, s6⟩ := setOth_same m m.com
  refine fine_good (right_mk ⟨gi.act, gi.h0, gi.h1, okI_nil, gi.own, gi.least, ⟨Int.le_refl _, by show (0 : Int) ≤ 6; omega⟩, ⟨by show (0 : Int) ≤ 2; omega, Int.le_refl _⟩⟩ (fit3_mk rfl rfl rfl ?_)) s2 s1
  show (m.setOth m.com).oth.ver ≠ 0
  rw [go]
  exact f1
theorem fine_boot {m : Mt} {f : Fc} {k : Int} (h : rightB m = true) : Fine m k (bootM m f) := by
  unfold bootM
  split
  · exact fine_same h
  rename_i p
  have p : m.phase = 3 := Classical.byContradiction fun e => p (.inl e)
  split
  · rename_i t
    have hi := right_in h
    obtain ⟨f1, f2, f3⟩ := fit3 (right_fit h) p
    have ht := hi.trials
    exact fine_good (right_mk ⟨hi.act, hi.h0, hi.h1, hi.com, hi.own, hi.least, hi.gott, ⟨by show 0 ≤ m.trials - 1; omega, by show m.trials - 1 ≤ 2; omega⟩⟩ (fit3_mk p f1 f2 f3)) rfl rfl
  · exact fine_over h p
theorem fine_confirm {m : Mt} {f : Fc} (h : rightB m = true) : Fine m 6 (confirmM m f) := by
  unfold confirmM
  split
  · exact fine_bad h
  rename_i p
  split
  · exact fine_bad h
  have p : m.phase = 3 := Classical.byContradiction fun e => p (.inl e)
  have hi := right_in h
  obtain ⟨f1, f2, f3⟩ := fit3 (right_fit h) p
  have hl := hi.least
  have ho : okI m.oth = true := by unfold Mt.oth; split; exact hi.h1; exact hi.h0
  have hv := (okI_fit ho).1
  have hn : m.least ≤ confN m ∧ confN m ≤ 1073741824 := by
    unfold confN
    split
    · omega
    split <;> omega
  refine ⟨right_mk ⟨?_, hi.h0, hi.h1, hi.com, ?_, ⟨by show 0 ≤ confN m; omega, hn.2⟩, hi.gott, ⟨Int.le_refl _, by show (0 : Int) ≤ 2; omega⟩⟩ (fit0_mk rfl f1 f2 rfl), hn.1, fun e => absurd rfl e, fun _ => ⟨rfl, p⟩⟩
  · have := hi.act
    show 1 - m.act = 0 ∨ 1 - m.act = 1
    omega
  · have := hi.act
    show (if 1 - m.act = 0 then m.h0 else m.h1).ver ≠ 0
    unfold Mt.oth at f3
    by_cases e : m.act = 0
    · rw [if_pos e] at f3
      rw [if_neg (by omega)]
      exact f3
    · rw [if_neg e] at f3
      rw [if_pos (by omega)]
      exact f3
theorem fine_roll {m : Mt} {f : Fc} {k : Int} (h : rightB m = true) : Fine m k (rollM m f) := by
  unfold rollM
  split
  · exact fine_bad h
  rename_i p
  split
  · exact fine_bad h
  exact fine_over h (Classical.not_not.1 p)
theorem fine_abort {m : Mt} {f : Fc} {k : Int} (h : rightB m = true) : Fine m k (abortM m f) := by
  unfold abortM
  split
  · exact fine_bad h
  rename_i p
  split
  · exact fine_bad h
  have hi := right_in h
  have hp := right_phase h
  have ht : m.trials = 0 := by
    by_cases e : m.phase = 1
    · exact (fit1 (right_fit h) e).2.2.1
    · exact (fit2 (right_fit h) (by omega)).2.2.1
  exact fine_good (right_mk ⟨hi.act, hi.h0, hi.h1, okI_nil, hi.own, hi.least, ⟨Int.le_refl _, by show (0 : Int) ≤ 6; omega⟩, hi.trials⟩ (fit0_mk rfl rfl rfl ht)) rfl rfl
/-- What may be kept may be kept behind any request. -/
theorem fine_step {m : Mt} {kind num : Int} {bs : List Int} {f : Fc} {quota : Int} (h : rightB m = true) : Fine m kind (stepM m kind num bs f quota) := by
  unfold stepM
  rw [if_neg (by rw [h]; decide)]
  split
  · exact fine_begin h
  split
  · exact fine_write h
  split
  · exact fine_verify h
  split
  · exact fine_commit h
  split
  · exact fine_boot h
  split
  · rename_i e; rw [e]; exact fine_confirm h
  split
  · exact fine_roll h
  split
  · exact fine_abort h
  split
  · exact fine_same h
  exact fine_bad h
end Go.Proofs.YtcokpdhhpaahgaaDoor
