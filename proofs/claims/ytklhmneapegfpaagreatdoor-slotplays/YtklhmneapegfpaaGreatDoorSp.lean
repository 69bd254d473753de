/-
  Plain mathematics: the chunks of a slot, what a Write does, which image there is, and what a flash of an own then holds; conditions: none.
-/
import Derived.Test.YtklhmneapegfpaaGreatDoorApl
namespace Go.Proofs.YtklhmneapegfpaaGreatDoor
set_option linter.unusedVariables false
set_option linter.unusedSimpArgs false

/-- The sector of chunk k of slot s, where slots have n sectors. -/
def inAt (s k n : Int) : Prop := (0 ≤ s ∧ s ≤ 1) ∧ (1 ≤ n ∧ n ≤ 6) ∧ 0 ≤ k ∧ k < n
instance (s k n : Int) : Decidable (inAt s k n) := inferInstanceAs (Decidable (_ ∧ _))
def atI (s k n : Int) : Int := if inAt s k n then 4 + s * n + k else -1
theorem at_yes {s k n : Int} (h : inAt s k n) : atI s k n = 4 + s * n + k := if_pos h
theorem at_no {s k n : Int} (h : ¬ inAt s k n) : atI s k n = -1 := if_neg h
theorem mul_01 {s n : Int} (h : 0 ≤ s ∧ s ≤ 1) : (s = 0 ∧ s * n = 0) ∨ (s = 1 ∧ s * n = n) := by
  rcases (show s = 0 ∨ s = 1 by omega) with rfl | rfl
  · exact .inl ⟨rfl, Int.zero_mul n⟩
  · exact .inr ⟨rfl, Int.one_mul n⟩
theorem at_is {s k n : Int} (h : inAt s k n) : 4 ≤ atI s k n ∧ atI s k n ≤ 15 ∧ ((s = 0 ∧ atI s k n = 4 + k) ∨ (s = 1 ∧ atI s k n = 4 + n + k)) := by
  rw [at_yes h]
  obtain ⟨h1, h2, h3⟩ := h
  rcases mul_01 (n := n) h1 with ⟨e, h⟩ | ⟨e, h⟩
  · rw [h]; exact ⟨by omega, by omega, .inl ⟨e, by omega⟩⟩
  · rw [h]; exact ⟨by omega, by omega, .inr ⟨e, by omega⟩⟩
theorem at_cases (s k n : Int) : atI s k n = -1 ∨ (4 ≤ atI s k n ∧ atI s k n ≤ 15) := by
  by_cases h : inAt s k n
  · have := at_is h; exact .inr ⟨this.1, this.2.1⟩
  · exact .inl (at_no h)
/-- A sector can be filled. -/
def freeS (S : Fs) (P : Pt) (s : Int) : Bool := aBlank S P s || decide (0 < aLeft S P s)
theorem free_not (S : Fs) (P : Pt) : freeS S P (-1) = false := by
  unfold freeS aBlank aLeft
  rw [if_neg (fun h => by have := h.1; omega), if_neg (fun h => by have := h.1; omega)]
  rfl
/-- Bytes, if there are any, are laid into a sector. -/
def layW (S : Fs) (P : Pt) (s : Int) (zs : List Int) : Int × Fs := if zs.length = 0 then (0, S) else aProg S P s 0 zs
def fillW (S : Fs) (P : Pt) (s : Int) (zs : List Int) : Int × Fs :=
  if aBlank S P s = true then layW S P s zs else if (aErase S P s).1 ≠ 0 then aErase S P s else layW (aErase S P s).2 P s zs
/-- What a Write answers and leaves. -/
def writeW (S : Fs) (P : Pt) (sl k n : Int) (zs : List Int) : Int × Fs :=
  if atI sl k n = -1 ∨ 320 < zs.length then (2, S) else if freeS S P (atI sl k n) = true then fillW S P (atI sl k n) zs else (5, S)
theorem lay_none {S : Fs} {P : Pt} {s : Int} {zs : List Int} (h : zs.length = 0) : layW S P s zs = (0, S) := if_pos h
theorem lay_some {S : Fs} {P : Pt} {s : Int} {zs : List Int} (h : zs.length ≠ 0) : layW S P s zs = aProg S P s 0 zs := if_neg h
theorem fill_blank {S : Fs} {P : Pt} {s : Int} {zs : List Int} (h : aBlank S P s = true) : fillW S P s zs = layW S P s zs := if_pos h
theorem fill_err {S : Fs} {P : Pt} {s : Int} {zs : List Int} (h : aBlank S P s = false) (h2 : (aErase S P s).1 ≠ 0) : fillW S P s zs = aErase S P s := by
  unfold fillW; rw [if_neg (by rw [h]; simp), if_pos h2]
theorem fill_two {S : Fs} {P : Pt} {s : Int} {zs : List Int} (h : aBlank S P s = false) (h2 : (aErase S P s).1 = 0) : fillW S P s zs = layW (aErase S P s).2 P s zs := by
  unfold fillW; rw [if_neg (by rw [h]; simp), if_neg (by simp [h2])]
theorem write_out {S : Fs} {P : Pt} {sl k n : Int} {zs : List Int} (h : atI sl k n = -1 ∨ 320 < zs.length) : writeW S P sl k n zs = (2, S) := if_pos h
theorem write_worn {S : Fs} {P : Pt} {sl k n : Int} {zs : List Int} (h : ¬ (atI sl k n = -1 ∨ 320 < zs.length)) (h2 : freeS S P (atI sl k n) = false) : writeW S P sl k n zs = (5, S) := by
  unfold writeW; rw [if_neg h, if_neg (by rw [h2]; simp)]
theorem write_does {S : Fs} {P : Pt} {sl k n : Int} {zs : List Int} (h : ¬ (atI sl k n = -1 ∨ 320 < zs.length)) (h2 : freeS S P (atI sl k n) = true) : writeW S P sl k n zs = fillW S P (atI sl k n) zs := by
  unfold writeW; rw [if_neg h, if_pos h2]
theorem lay_wears (S : Fs) (P : Pt) (s : Int) (c : List Int) : (layW S P s c).2.wear.length = S.wear.length ∧ (layW S P s c).2.ops ≤ S.ops + 1 := by
  unfold layW
  split
  · exact ⟨rfl, by simp only []; omega⟩
  · exact aProg_wears S P s 0 c
theorem fill_wears (S : Fs) (P : Pt) (s : Int) (c : List Int) : (fillW S P s c).2.wear.length = S.wear.length ∧ (fillW S P s c).2.ops ≤ S.ops + 2 := by
  have h1 := aErase_wears S P s
  have h2 := lay_wears S P s c
  have h3 := lay_wears (aErase S P s).2 P s c
  unfold fillW
  split
  · exact ⟨h2.1, by omega⟩
  · split
    · exact ⟨h1.1, by omega⟩
    · exact ⟨h3.1.trans h1.1, by omega⟩
theorem write_wears (S : Fs) (P : Pt) (sl k n : Int) (c : List Int) : (writeW S P sl k n c).2.wear.length = S.wear.length ∧ (writeW S P sl k n c).2.ops ≤ S.ops + 2 := by
  have h := fill_wears S P (atI sl k n) c
  unfold writeW
  split
  · exact ⟨rfl, by simp only []; omega⟩
  · split
    · exact h
    · exact ⟨rfl, by simp only []; omega⟩
theorem few_lay {S : Fs} (h : Few S) (P : Pt) (s : Int) (c : List Int) : Few (layW S P s c).2 := by
  unfold layW
  split
  · exact h
  · exact few_aProg h _ _ _ _
theorem few_fill {S : Fs} (h : Few S) (P : Pt) (s : Int) (c : List Int) : Few (fillW S P s c).2 := by
  unfold fillW
  split
  · exact few_lay h _ _ _
  · split
    · exact few_aErase h _ _
    · exact few_lay (few_aErase h _ _) _ _ _
theorem few_write {S : Fs} (h : Few S) (P : Pt) (sl k n : Int) (c : List Int) : Few (writeW S P sl k n c).2 := by
  unfold writeW
  split
  · exact h
  · split
    · exact few_fill h _ _ _
    · exact h
/-! ### An image -/
/-- The first k chunks of an image of z bytes. -/
def img (S : Fs) (P : Pt) (sl n z : Int) : Nat → List Int
  | 0 => []
  | k + 1 => img S P sl n z k ++ aRead S P (atI sl (k : Int) n) 0 (min (z - 320 * (k : Int)) 320)
/-- All of it lies in the slot, and in the part. -/
def imgIn (P : Pt) (sl n z : Int) : Prop := 1 ≤ z ∧ inAt sl 0 n ∧ z ≤ n * 320 ∧ atI sl ((z - 1) / 320) n < (P.cnt : Int)
instance (P : Pt) (sl n z : Int) : Decidable (imgIn P sl n z) := inferInstanceAs (Decidable (_ ∧ _))
def imgL (S : Fs) (P : Pt) (sl n z : Int) : List Int := if imgIn P sl n z then img S P sl n z ((z - 1) / 320 + 1).toNat else []
theorem img_yes {S : Fs} {P : Pt} {sl n z : Int} (h : imgIn P sl n z) : imgL S P sl n z = img S P sl n z ((z - 1) / 320 + 1).toNat := if_pos h
theorem img_no {S : Fs} {P : Pt} {sl n z : Int} (h : ¬ imgIn P sl n z) : imgL S P sl n z = [] := if_neg h
/-- A chunk that is not there: the image isn't, either. -/
theorem img_out {P : Pt} {sl n z : Int} {k : Nat} (hk : 320 * (k : Int) < z) (h : ¬ P.has (atI sl (k : Int) n)) : ¬ imgIn P sl n z := by
  rintro ⟨h1, h2, h3, h4⟩
  have hq : (k : Int) ≤ (z - 1) / 320 := by omega
  have hi : inAt sl ((z - 1) / 320) n := ⟨h2.1, h2.2.1, by omega, by omega⟩
  have hj : inAt sl (k : Int) n := ⟨h2.1, h2.2.1, by omega, by omega⟩
  have e1 := (at_is hi).2.2
  have e2 := (at_is hj).2.2
  exact h ⟨by have := (at_is hj).1; omega, by omega⟩
/-- The last chunk is there: the image is. -/
theorem img_in {P : Pt} {sl n z : Int} {k : Nat} (hk : 320 * (k : Int) < z) (hz : z ≤ 320 * (k : Int) + 320) (h : P.has (atI sl (k : Int) n)) : imgIn P sl n z := by
  have e : (z - 1) / 320 = (k : Int) := by omega
  have hi : inAt sl (k : Int) n := by
    by_cases hi : inAt sl (k : Int) n
    · exact hi
    · rw [at_no hi] at h; have := h.1; omega
  exact ⟨by omega, ⟨hi.1, hi.2.1, by omega, by have := hi.2.1; omega⟩, by have := hi.2.2; omega, by rw [e]; exact h.2⟩
theorem aread_len {S : Fs} {P : Pt} (hS : S.Ok) (hp : P.Ok S.wear.length) {s a n : Int} (h : P.in s a n) : (aRead S P s a n).length = n.toNat := by
  have h1 := hp.in'
  have h2 := hS.len
  obtain ⟨⟨a1, a2⟩, a3, a4, a5⟩ := h
  unfold aRead
  rw [if_pos ⟨⟨a1, a2⟩, a3, a4, a5⟩]
  unfold read
  have hq : P.place s a = ((P.fst : Int) + s) * 320 + a := rfl
  by_cases h0 : 1 ≤ n
  · rw [if_pos ⟨h0, by omega, by omega⟩, List.length_take, List.length_drop]
    omega
  · rw [if_neg (fun h => h0 h.1)]
    simp only [List.length_nil]; omega
theorem aread_byts {S : Fs} (hS : S.Ok) (P : Pt) (s a n : Int) : Byt (aRead S P s a n) := by
  unfold aRead
  split
  · exact read_byt hS _ _
  · exact byt_nil
theorem aread_no {S : Fs} {P : Pt} {s a n : Int} (h : ¬ P.has s) : aRead S P s a n = [] := by
  unfold aRead
  rw [if_neg (fun k => h k.1)]
/-! ### Two flashes that answer alike -/
theorem free_sim {d : Nat} {S R : Fs} (h : Sim d S R) (P : Pt) (s : Int) : freeS S P s = freeS R P s := by unfold freeS; rw [aBlank_sim h, aLeft_sim h]
theorem lay_sim {d : Nat} {S R : Fs} (h : Sim (d + 1) S R) (P : Pt) (s : Int) (c : List Int) : (layW S P s c).1 = (layW R P s c).1 ∧ Sim d (layW S P s c).2 (layW R P s c).2 := by
  unfold layW
  split
  · exact ⟨rfl, h.less (by omega)⟩
  · exact aProg_sim h P _ _ _
theorem fill_sim {d : Nat} {S R : Fs} (h : Sim (d + 2) S R) (P : Pt) (s : Int) (c : List Int) : (fillW S P s c).1 = (fillW R P s c).1 ∧ Sim d (fillW S P s c).2 (fillW R P s c).2 := by
  have he := aErase_sim (d := d + 1) h P s
  by_cases hb : aBlank S P s = true
  · have hb' : aBlank R P s = true := by rw [← aBlank_sim h]; exact hb
    rw [fill_blank hb, fill_blank hb']
    exact lay_sim (h.less (by omega)) P _ _
  · have hb0 : aBlank S P s = false := by simpa using hb
    have hb1 : aBlank R P s = false := by rw [← aBlank_sim h]; exact hb0
    by_cases h0 : (aErase S P s).1 = 0
    · rw [fill_two hb0 h0, fill_two hb1 (by rw [← he.1]; exact h0)]
      exact lay_sim he.2 P _ _
    · rw [fill_err hb0 h0, fill_err hb1 (by rw [← he.1]; exact h0)]
      exact ⟨he.1, he.2.less (by omega)⟩
theorem write_sim {d : Nat} {S R : Fs} (h : Sim (d + 2) S R) (P : Pt) (sl k n : Int) (c : List Int) : (writeW S P sl k n c).1 = (writeW R P sl k n c).1 ∧ Sim d (writeW S P sl k n c).2 (writeW R P sl k n c).2 := by
  unfold writeW
  rw [free_sim h]
  split
  · exact ⟨rfl, h.less (by omega)⟩
  · split
    · exact fill_sim h P _ _
    · exact ⟨rfl, h.less (by omega)⟩
theorem img_sim {d : Nat} {S R : Fs} (h : Sim d S R) (P : Pt) (sl n z : Int) : ∀ k, img S P sl n z k = img R P sl n z k
  | 0 => rfl
  | k + 1 => by unfold img; rw [img_sim h P sl n z k, aRead_sim h]
theorem imgL_sim {d : Nat} {S R : Fs} (h : Sim d S R) (P : Pt) (sl n z : Int) : imgL S P sl n z = imgL R P sl n z := by unfold imgL; rw [img_sim h]
theorem img_len {S : Fs} {P : Pt} (hS : S.Ok) (hp : P.Ok S.wear.length) {sl n z : Int} : ∀ k : Nat, (∀ j : Nat, j < k → 320 * (j : Int) < z ∧ P.has (atI sl (j : Int) n)) → ((img S P sl n z k).length : Int) = min (320 * (k : Int)) (max z 0)
  | 0, _ => by simp [img]; omega
  | k + 1, h => by
    have ih := img_len hS hp k (fun j hj => h j (by omega))
    obtain ⟨h1, h2⟩ := h k (by omega)
    unfold img
    rw [List.length_append, aread_len hS hp ⟨h2, by omega, by omega, by omega⟩]
    omega
theorem img_byt {S : Fs} (hS : S.Ok) (P : Pt) (sl n z : Int) : ∀ k, Byt (img S P sl n z k)
  | 0 => byt_nil
  | k + 1 => byt_app (img_byt hS P sl n z k) (aread_byts hS P _ _ _)
theorem imgL_byt {S : Fs} (hS : S.Ok) (P : Pt) (sl n z : Int) : Byt (imgL S P sl n z) := by
  unfold imgL
  split
  · exact img_byt hS P sl n z _
  · exact byt_nil
theorem imgL_len {S : Fs} {P : Pt} (hS : S.Ok) (hp : P.Ok S.wear.length) (sl n z : Int) : (imgL S P sl n z).length ≤ 1920 := by
  unfold imgL
  split
  · rename_i h
    obtain ⟨h1, h2, h3, h4⟩ := h
    have := img_len hS hp (sl := sl) (n := n) (z := z) ((z - 1) / 320 + 1).toNat (fun j hj => ⟨by omega, by
      have hi : inAt sl ((z - 1) / 320) n := ⟨h2.1, h2.2.1, by omega, by omega⟩
      have hj' : inAt sl (j : Int) n := ⟨h2.1, h2.2.1, by omega, by omega⟩
      have e1 := (at_is hi).2.2
      have e2 := (at_is hj').2.2
      exact ⟨by have := (at_is hj').1; omega, by omega⟩⟩)
    have := h2.2.1
    omega
  · simp
end Go.Proofs.YtklhmneapegfpaaGreatDoor
