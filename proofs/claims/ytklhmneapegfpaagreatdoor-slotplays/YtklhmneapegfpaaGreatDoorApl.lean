/-
  Plain mathematics: a part of a flash, and what its calls do; conditions: none.
-/
import Derived.Test.YtklhmneapegfpaaGreatDoorPlain
namespace Go.Proofs.YtklhmneapegfpaaGreatDoor
set_option linter.unusedVariables false
set_option linter.unusedSimpArgs false

/-- Some sectors of a flash: from fst on, cnt of them; each may be erased bud times. -/
structure Pt where
  fst : Nat
  cnt : Nat
  bud : Nat
def Pt.has (P : Pt) (s : Int) : Prop := 0 ≤ s ∧ s < (P.cnt : Int)
instance (P : Pt) (s : Int) : Decidable (P.has s) := inferInstanceAs (Decidable (_ ∧ _))
def Pt.in (P : Pt) (s at' n : Int) : Prop := P.has s ∧ 0 ≤ at' ∧ 0 ≤ n ∧ n ≤ 320 - at'
instance (P : Pt) (s at' n : Int) : Decidable (P.in s at' n) := inferInstanceAs (Decidable (_ ∧ _))
def Pt.place (P : Pt) (s at' : Int) : Int := ((P.fst : Int) + s) * 320 + at'
def aRead (S : Fs) (P : Pt) (s at' n : Int) : List Int := if P.in s at' n then read S (P.place s at') n else []
def aProg (S : Fs) (P : Pt) (s at' : Int) (b : List Int) : Int × Fs := if P.in s at' (b.length : Int) then prog S (P.place s at') b else (2, S)
def aLeft (S : Fs) (P : Pt) (s : Int) : Int := if P.has s then max ((P.bud : Int) - wearAt S ((P.fst : Int) + s)) 0 else 0
def aErase (S : Fs) (P : Pt) (s : Int) : Int × Fs := if P.has s then (if aLeft S P s = 0 then (5, S) else erase S ((P.fst : Int) + s)) else (2, S)
def aBlank (S : Fs) (P : Pt) (s : Int) : Bool := if P.has s then blank S ((P.fst : Int) + s) else false
/-- The part is of that flash. -/
structure Pt.Ok (P : Pt) (L : Nat) : Prop where
  in' : P.fst + P.cnt ≤ L
  few : L ≤ 400
  bud : P.bud ≤ 1000
/-- The part that is made of a flash of L sectors. -/
def Pt.made (L : Nat) (f l b : Int) : Pt :=
  if 0 ≤ f ∧ 0 < l ∧ f < (L : Int) then { fst := f.toNat, cnt := (min l ((L : Int) - f)).toNat, bud := (min (max b 0) 1000).toNat } else { fst := 0, cnt := 0, bud := 0 }
theorem Pt.made_ok {L : Nat} (h : L ≤ 400) (f l b : Int) : (Pt.made L f l b).Ok L := by
  unfold Pt.made
  split
  · exact ⟨by simp only []; omega, h, by simp only []; omega⟩
  · exact ⟨by simp only []; omega, h, by simp only []; omega⟩
theorem Pt.has_nat {P : Pt} {s : Int} (h : P.has s) : ∃ q : Nat, s = q ∧ q < P.cnt := by
  obtain ⟨q, rfl⟩ := Int.eq_ofNat_of_zero_le h.1
  exact ⟨q, rfl, by have := h.2; omega⟩
theorem wear_few {S : Fs} (h : Few S) (s : Int) : 0 ≤ wearAt S s ∧ wearAt S s ≤ (S.ops : Int) := by
  unfold wearAt
  split
  · rename_i hs
    exact h _ (getD_mem (i := s.toNat) (by have := hs.1; have := hs.2; omega))
  · omega
theorem aProg_ok {S : Fs} (h : S.Ok) (P : Pt) (s at' : Int) {b : List Int} (hb : Byt b) : (aProg S P s at' b).2.Ok := by
  unfold aProg; split
  · exact prog_ok h _ hb
  · exact h
theorem aErase_ok {S : Fs} (h : S.Ok) (P : Pt) (s : Int) : (aErase S P s).2.Ok := by
  unfold aErase; split
  · split
    · exact h
    · exact erase_ok h _
  · exact h
theorem few_aProg {S : Fs} (h : Few S) (P : Pt) (s at' : Int) (b : List Int) : Few (aProg S P s at' b).2 := by
  unfold aProg; split
  · exact few_prog h _ _
  · exact h
theorem few_aErase {S : Fs} (h : Few S) (P : Pt) (s : Int) : Few (aErase S P s).2 := by
  unfold aErase; split
  · split
    · exact h
    · exact few_erase h _
  · exact h
theorem prog_wears (S : Fs) (a : Int) (b : List Int) : (prog S a b).2.wear = S.wear ∧ (prog S a b).2.ops ≤ S.ops + 1 := by
  unfold prog
  split
  · exact ⟨rfl, by simp only []; omega⟩
  · split
    · exact ⟨rfl, by simp only []; omega⟩
    · split
      · exact ⟨rfl, by simp only []; omega⟩
      · exact ⟨(work_wear _ _ _).1, by rw [(work_wear _ _ _).2]; omega⟩
theorem erase_wears (S : Fs) (s : Int) : (erase S s).2.wear.length = S.wear.length ∧ (erase S s).2.ops ≤ S.ops + 1 := by
  unfold erase
  split
  · exact ⟨rfl, by simp only []; omega⟩
  · split
    · exact ⟨rfl, by simp only []; omega⟩
    · exact ⟨by rw [(work_wear _ _ _).1]; simp [worn], by rw [(work_wear _ _ _).2]; simp [worn]⟩
theorem aProg_wears (S : Fs) (P : Pt) (s at' : Int) (b : List Int) : (aProg S P s at' b).2.wear.length = S.wear.length ∧ (aProg S P s at' b).2.ops ≤ S.ops + 1 := by
  unfold aProg; split
  · exact ⟨by rw [(prog_wears _ _ _).1], (prog_wears _ _ _).2⟩
  · exact ⟨rfl, by simp only []; omega⟩
theorem aErase_wears (S : Fs) (P : Pt) (s : Int) : (aErase S P s).2.wear.length = S.wear.length ∧ (aErase S P s).2.ops ≤ S.ops + 1 := by
  unfold aErase; split
  · split
    · exact ⟨rfl, by simp only []; omega⟩
    · exact erase_wears _ _
  · exact ⟨rfl, by simp only []; omega⟩
/-! ### Two flashes that answer alike -/
theorem aLeft_sim {d : Nat} {S R : Fs} (h : Sim d S R) (P : Pt) (s : Int) : aLeft S P s = aLeft R P s := by unfold aLeft; rw [wearAt_sim h]
theorem aBlank_sim {d : Nat} {S R : Fs} (h : Sim d S R) (P : Pt) (s : Int) : aBlank S P s = aBlank R P s := by unfold aBlank; rw [blank_sim h]
theorem aRead_sim {d : Nat} {S R : Fs} (h : Sim d S R) (P : Pt) (s at' n : Int) : aRead S P s at' n = aRead R P s at' n := by unfold aRead; rw [read_sim h]
theorem aProg_sim {d : Nat} {S R : Fs} (h : Sim (d + 1) S R) (P : Pt) (s at' : Int) (b : List Int) : (aProg S P s at' b).1 = (aProg R P s at' b).1 ∧ Sim d (aProg S P s at' b).2 (aProg R P s at' b).2 := by
  unfold aProg
  split
  · exact prog_sim h _ _
  · exact ⟨rfl, h.less (Nat.le_succ d)⟩
theorem aErase_sim {d : Nat} {S R : Fs} (h : Sim (d + 1) S R) (P : Pt) (s : Int) : (aErase S P s).1 = (aErase R P s).1 ∧ Sim d (aErase S P s).2 (aErase R P s).2 := by
  unfold aErase
  rw [aLeft_sim h]
  split
  · split
    · exact ⟨rfl, h.less (Nat.le_succ d)⟩
    · exact erase_sim h _
  · exact ⟨rfl, h.less (Nat.le_succ d)⟩
end Go.Proofs.YtklhmneapegfpaaGreatDoor
