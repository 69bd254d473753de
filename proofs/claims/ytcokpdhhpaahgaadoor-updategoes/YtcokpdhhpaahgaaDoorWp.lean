/-
  Plain mathematics: an image that is allowed comes, is tried, and confirmed or given up; conditions: as stated.
-/
import Derived.Test.YtcokpdhhpaahgaaDoorVp
import Derived.Test.YtcokpdhhpaahgaaDoorMMb
namespace Go.Proofs.YtcokpdhhpaahgaaDoor
open Go.RowKit
set_option linter.unusedVariables false
set_option linter.unusedSimpArgs false

/-- What is kept while the image comes, once it is verified, while it is tried, once it is given up, once it is confirmed. -/
def gA (m : Mt) (x : Im) (i : Int) : Mt := { m.setOth zeroI with phase := 1, com := x, gott := i }
def gV (m : Mt) (x : Im) : Mt := { gA m x (chunkI x.size) with phase := 2 }
def gT (m : Mt) (x : Im) (t : Int) : Mt := { (gV m x).setOth x with phase := 3, com := zeroI, gott := 0, trials := t }
def gO (m : Mt) (x : Im) : Mt := (gT m x 0).over
def gC (m : Mt) (x : Im) : Mt := { gT m x 0 with least := x.ver, act := 1 - m.act, phase := 0, trials := 0 }
/-- Behind k boots. -/
def gB (m : Mt) (x : Im) (k : Nat) : Mt := if k = 0 then gT m x 2 else if k = 1 then gT m x 1 else if k = 2 then gT m x 0 else gO m x
/-- What is asked of the image and of what is kept. -/
structure May (m : Mt) (x : Im) : Prop where
  right : rightB m = true
  phase : m.phase = 0
  v1 : 1 ≤ x.ver
  v2 : x.ver ≤ 1073741824
  v3 : m.least ≤ x.ver
  s1 : 1 ≤ x.size
  s2 : x.size ≤ 1920
def fOf (x : Im) : Fc := ⟨true, true, x.dig, false⟩
theorem may_chunk {m : Mt} {x : Im} (h : May m x) : 1 ≤ chunkI x.size ∧ chunkI x.size ≤ 6 := by
  have := h.s1
  have := h.s2
  unfold chunkI
  rw [if_neg (by omega)]
  omega
theorem step_in {m : Mt} (h : rightB m = true) (kind num : Int) (bs : List Int) (f : Fc) (quota : Int) : stepM m kind num bs f quota =
    if kind = 1 then beginM m bs f quota else if kind = 2 then writeM m num bs.length f else if kind = 3 then verifyM m f else if kind = 4 then commitM m f
    else if kind = 5 then bootM m f else if kind = 6 then confirmM m f else if kind = 7 then rollM m f else if kind = 8 then abortM m f
    else if kind = 9 then (m, ⟨0, m.phase, m.gott⟩) else bad m 1 := by
  unfold stepM
  rw [if_neg (by rw [h]; decide)]
theorem go_begin {m : Mt} {x : Im} (h : May m x) {bs : List Int} (g : Man.Good bs) (e : imOf (Man.told bs) = x) : stepM m 1 0 bs (fOf x) 6 = good (gA m x 0) := by
  obtain ⟨c1, c2⟩ := may_chunk h
  have hm : mayE m x (fOf x) 6 = 0 := by
    unfold mayE mayV
    rw [if_neg (by show ¬ true = false; decide), if_neg (by show ¬ true = false; decide), if_neg (by have := h.v1; have := h.v2; have := h.v3; simp; omega), if_neg (by omega), if_neg (by show ¬ false = true; decide)]
  rw [step_in h.right, if_pos rfl]
  unfold beginM
  rw [if_neg (not_not_intro h.phase), if_neg (not_not_intro g), e, hm, if_neg (not_not_intro rfl)]
  rfl
theorem right_A {m : Mt} {x : Im} (h : May m x) {i : Int} (h0 : 0 ≤ i) (h1 : i ≤ chunkI x.size) : rightB (gA m x i) = true := by
  have hi := right_in h.right
  obtain ⟨f1, f2, f3⟩ := fit0 (right_fit h.right) h.phase
  obtain ⟨gi, go⟩ := in_setOth hi okI_nil
  obtain ⟨s1, s2, s3, s4, s5, s6⟩ := setOth_same m zeroI
  obtain ⟨c1, c2⟩ := may_chunk h
  have a1 := h.v1
  have a2 := h.v2
  have a3 := h.s1
  have a4 := h.s2
  have hok : okI x = true := by
    unfold okI
    simp only [Bool.or_eq_true, decide_eq_true_eq]
    exact .inr ⟨a1, a2, a3, a4⟩
  refine right_mk ⟨gi.act, gi.h0, gi.h1, hok, gi.own, gi.least, ⟨h0, by show i ≤ 6; omega⟩, gi.trials⟩ (fit1_mk rfl ?_ ?_ ?_ ?_)
  · show x.ver ≠ 0; omega
  · show (m.setOth zeroI).oth.ver = 0; rw [go]; rfl
  · show (m.setOth zeroI).trials = 0; rw [s6]; exact f3
  · show i ≤ chunkN x.size
    rw [← (chunk_le hok).2.2]
    exact h1
theorem go_write {m : Mt} {x : Im} (h : May m x) {i : Int} (h0 : 0 ≤ i) (h1 : i < chunkI x.size) {bs : List Int} (hl : (bs.length : Int) = lenI x.size i) : stepM (gA m x i) 2 i bs (fOf x) 6 = good (gA m x (i + 1)) := by
  rw [step_in (right_A h h0 (by omega)), if_neg (by omega), if_pos rfl]
  unfold writeM
  rw [if_neg (not_not_intro (show (gA m x i).phase = 1 from rfl)), if_neg (by show ¬ (¬ i = i ∨ i = chunkI x.size); omega), if_neg (not_not_intro (show (bs.length : Int) = lenI (gA m x i).com.size i from hl)), if_neg (by show ¬ false = true; decide)]
  rfl
theorem go_verify {m : Mt} {x : Im} (h : May m x) : stepM (gA m x (chunkI x.size)) 3 0 [] (fOf x) 6 = good (gV m x) := by
  obtain ⟨c1, c2⟩ := may_chunk h
  rw [step_in (right_A h (by omega) (Int.le_refl _)), if_neg (by omega), if_neg (by omega), if_pos rfl]
  unfold verifyM
  rw [if_neg (not_not_intro (show (gA m x (chunkI x.size)).phase = 1 from rfl)), if_neg (not_not_intro (show (gA m x (chunkI x.size)).gott = chunkI (gA m x (chunkI x.size)).com.size from rfl)), if_neg (not_not_intro (show (fOf x).dig = (gA m x (chunkI x.size)).com.dig from rfl)), if_neg (by show ¬ false = true; decide)]
  rfl
theorem right_V {m : Mt} {x : Im} (h : May m x) : rightB (gV m x) = true := by
  obtain ⟨c1, c2⟩ := may_chunk h
  have := (fine_step (kind := 3) (num := 0) (bs := []) (f := fOf x) (quota := 6) (right_A h (i := chunkI x.size) (by omega) (Int.le_refl _))).right
  rwa [go_verify h] at this
theorem go_commit {m : Mt} {x : Im} (h : May m x) : stepM (gV m x) 4 0 [] (fOf x) 6 = good (gT m x 2) := by
  rw [step_in (right_V h), if_neg (by omega), if_neg (by omega), if_neg (by omega), if_pos rfl]
  unfold commitM
  rw [if_neg (not_not_intro (show (gV m x).phase = 2 from rfl)), if_neg (by show ¬ false = true; decide)]
  rfl
theorem right_T2 {m : Mt} {x : Im} (h : May m x) : rightB (gT m x 2) = true := by
  have := (fine_step (kind := 4) (num := 0) (bs := []) (f := fOf x) (quota := 6) (right_V h)).right
  rwa [go_commit h] at this
theorem go_early {m : Mt} {x : Im} (h : May m x) : stepM (gT m x 2) 6 0 [] (fOf x) 6 = bad (gT m x 2) 11 := by
  rw [step_in (right_T2 h), if_neg (by omega), if_neg (by omega), if_neg (by omega), if_neg (by omega), if_neg (by omega), if_pos rfl]
  unfold confirmM
  rw [if_pos (.inr rfl)]
theorem act_T (m : Mt) (x : Im) (t : Int) : (gT m x t).act = m.act := by
  show ((gV m x).setOth x).act = m.act
  rw [(setOth_same _ _).1]
  show (m.setOth zeroI).act = m.act
  rw [(setOth_same _ _).1]
theorem boot_T {m : Mt} {x : Im} {t : Int} (h : rightB (gT m x t) = true) (ht : 0 < t) : stepM (gT m x t) 5 0 [] (fOf x) 6 = (gT m x (t - 1), ⟨0, 1 - m.act, 0⟩) := by
  rw [step_in h, if_neg (by omega), if_neg (by omega), if_neg (by omega), if_neg (by omega), if_pos rfl]
  unfold bootM
  rw [if_neg (by show ¬ (¬ (3 : Int) = 3 ∨ false = true); simp), if_pos (show 0 < (gT m x t).trials from ht), show (1 : Int) - (gT m x t).act = 1 - m.act by rw [act_T]]
  rfl
theorem right_T1 {m : Mt} {x : Im} (h : May m x) : rightB (gT m x 1) = true := by
  have := (fine_step (kind := 5) (num := 0) (bs := []) (f := fOf x) (quota := 6) (right_T2 h)).right
  rwa [boot_T (right_T2 h) (by omega)] at this
theorem right_T0 {m : Mt} {x : Im} (h : May m x) : rightB (gT m x 0) = true := by
  have := (fine_step (kind := 5) (num := 0) (bs := []) (f := fOf x) (quota := 6) (right_T1 h)).right
  rwa [boot_T (right_T1 h) (by omega)] at this
theorem boot_T0 {m : Mt} {x : Im} (h : May m x) : stepM (gT m x 0) 5 0 [] (fOf x) 6 = (gO m x, ⟨0, m.act, 0⟩) := by
  rw [step_in (right_T0 h), if_neg (by omega), if_neg (by omega), if_neg (by omega), if_neg (by omega), if_pos rfl]
  unfold bootM
  rw [if_neg (by show ¬ (¬ (3 : Int) = 3 ∨ false = true); simp), if_neg (by show ¬ (0 : Int) < 0; omega), act_T]
  rfl
theorem right_O {m : Mt} {x : Im} (h : May m x) : rightB (gO m x) = true := by
  have := (fine_step (kind := 5) (num := 0) (bs := []) (f := fOf x) (quota := 6) (right_T0 h)).right
  rwa [boot_T0 h] at this
theorem act_O (m : Mt) (x : Im) : (gO m x).act = m.act := by
  show ((gT m x 0).setOth zeroI).act = m.act
  rw [(setOth_same _ _).1, act_T]
theorem boot_O {m : Mt} {x : Im} (h : May m x) : stepM (gO m x) 5 0 [] (fOf x) 6 = (gO m x, ⟨0, m.act, 0⟩) := by
  rw [step_in (right_O h), if_neg (by omega), if_neg (by omega), if_neg (by omega), if_neg (by omega), if_pos rfl]
  unfold bootM
  rw [if_pos (.inl (by show ¬ (0 : Int) = 3; omega)), act_O]
/-- What a boot does. -/
theorem go_boot {m : Mt} {x : Im} (h : May m x) (k : Nat) : stepM (gB m x k) 5 0 [] (fOf x) 6 = (gB m x (k + 1), ⟨0, if (k : Int) < 2 then 1 - m.act else m.act, 0⟩) := by
  by_cases h0 : k = 0
  · subst h0
    exact boot_T (right_T2 h) (by omega)
  by_cases h1 : k = 1
  · subst h1
    exact boot_T (right_T1 h) (by omega)
  by_cases h2 : k = 2
  · subst h2
    exact boot_T0 h
  have e : gB m x k = gO m x := by unfold gB; rw [if_neg h0, if_neg h1, if_neg h2]
  have e' : gB m x (k + 1) = gO m x := by unfold gB; rw [if_neg (by omega), if_neg (by omega), if_neg (by omega)]
  rw [e, e', if_neg (by omega)]
  exact boot_O h
/-- A trial that was begun: t is what is left. -/
theorem right_T {m : Mt} {x : Im} (h : May m x) {t : Int} (ht : t = 0 ∨ t = 1) : rightB (gT m x t) = true := by
  rcases ht with rfl | rfl
  · exact right_T0 h
  · exact right_T1 h
theorem oth_T {m : Mt} {x : Im} (h : May m x) (t : Int) : (gT m x t).oth = x := by
  have hi := right_in (right_V h)
  have hx : okI x = true := by
    unfold okI
    simp only [Bool.or_eq_true, decide_eq_true_eq]
    exact .inr ⟨h.v1, h.v2, h.s1, h.s2⟩
  exact (in_setOth hi hx).2
theorem least_T (m : Mt) (x : Im) (t : Int) : (gT m x t).least = m.least := by
  show ((gV m x).setOth x).least = m.least
  rw [(setOth_same _ _).2.1]
  show (m.setOth zeroI).least = m.least
  rw [(setOth_same _ _).2.1]
theorem go_confirm {m : Mt} {x : Im} (h : May m x) {t : Int} (ht : t = 0 ∨ t = 1) : stepM (gT m x t) 6 0 [] (fOf x) 6 = good (gC m x) := by
  rw [step_in (right_T h ht), if_neg (by omega), if_neg (by omega), if_neg (by omega), if_neg (by omega), if_neg (by omega), if_pos rfl]
  unfold confirmM
  rw [if_neg (by show ¬ (¬ (3 : Int) = 3 ∨ t = 2); omega), if_neg (by show ¬ false = true; decide)]
  have hc : confN (gT m x t) = x.ver := by
    have := h.v1
    have := h.v3
    unfold confN
    rw [oth_T h, least_T, if_neg (by omega)]
    split <;> omega
  rw [hc, act_T]
  rfl
theorem go_roll {m : Mt} {x : Im} (h : May m x) {t : Int} (ht : t = 0 ∨ t = 1) : stepM (gT m x t) 7 0 [] (fOf x) 6 = good (gO m x) := by
  rw [step_in (right_T h ht), if_neg (by omega), if_neg (by omega), if_neg (by omega), if_neg (by omega), if_neg (by omega), if_neg (by omega), if_pos rfl]
  unfold rollM
  rw [if_neg (not_not_intro (show (gT m x t).phase = 3 from rfl)), if_neg (by show ¬ false = true; decide)]
  show good (gT m x t).over = good (gT m x 0).over
  unfold Mt.over Mt.setOth
  rw [act_T, act_T]
  split <;> rfl
/-- The ends, written out. -/
theorem ends_0 (h0 h1 : Im) (l : Int) (com x : Im) (gt tr : Int) : gO ⟨0, h0, h1, l, 0, com, gt, tr⟩ x = ⟨0, h0, zeroI, l, 0, zeroI, 0, 0⟩ ∧ gC ⟨0, h0, h1, l, 0, com, gt, tr⟩ x = ⟨1, h0, x, x.ver, 0, zeroI, 0, 0⟩ := ⟨rfl, rfl⟩
theorem ends_1 (h0 h1 : Im) (l : Int) (com x : Im) (gt tr : Int) : gO ⟨1, h0, h1, l, 0, com, gt, tr⟩ x = ⟨1, zeroI, h1, l, 0, zeroI, 0, 0⟩ ∧ gC ⟨1, h0, h1, l, 0, com, gt, tr⟩ x = ⟨0, x, h1, x.ver, 0, zeroI, 0, 0⟩ := ⟨rfl, rfl⟩
end Go.Proofs.YtcokpdhhpaahgaaDoor
