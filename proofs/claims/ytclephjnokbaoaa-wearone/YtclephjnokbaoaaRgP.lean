/-
  Plain mathematics: where a ring has come to, what may be put, and what a Put does; conditions: none.
-/
import Derived.Test.YtclephjnokbaoaaApl
import Derived.Test.YtclephjnokbaoaaCeCp
namespace Go.Proofs.Ytclephjnokbaoaa
set_option linter.unusedVariables false
set_option linter.unusedSimpArgs false

/-- Where a ring has come to: the sector, the seq and the load of the newest cell. -/
structure Hd where
  sec : Nat
  seq : Int
  load : List Int
/-- What lies in a sector. -/
def secL (S : Fs) (P : Pt) (s : Nat) : List Int := aRead S P (s : Int) 0 320
/-- Is a sector's cell newer? -/
def Newer (S : Fs) (P : Pt) (h : Hd) (s : Nat) : Prop := Good (secL S P s) ∧ h.seq < seqN (secL S P s)
noncomputable def look (S : Fs) (P : Pt) : Nat → Hd
  | 0 => ⟨3, 0, []⟩
  | k + 1 => open Classical in if Newer S P (look S P k) k then ⟨k, seqN (secL S P k), loadL (secL S P k)⟩ else look S P k
noncomputable def hdOf (S : Fs) (P : Pt) : Hd := if 4 ≤ P.cnt then look S P 4 else ⟨3, 0, []⟩
def Hd.next (h : Hd) : Nat := (h.sec + 1) % 4
theorem hd_yes {S : Fs} {P : Pt} (h : 4 ≤ P.cnt) : hdOf S P = look S P 4 := if_pos h
theorem hd_no {S : Fs} {P : Pt} (h : ¬ 4 ≤ P.cnt) : hdOf S P = ⟨3, 0, []⟩ := if_neg h
theorem look_yes {S : Fs} {P : Pt} {k : Nat} (h : Newer S P (look S P k) k) : look S P (k + 1) = ⟨k, seqN (secL S P k), loadL (secL S P k)⟩ := if_pos h
theorem look_no {S : Fs} {P : Pt} {k : Nat} (h : ¬ Newer S P (look S P k) k) : look S P (k + 1) = look S P k := if_neg h
theorem look_seq (S : Fs) (P : Pt) : ∀ k, 0 ≤ (look S P k).seq ∧ (look S P k).seq ≤ 2147483647
  | 0 => ⟨by simp [look], by simp [look]⟩
  | k + 1 => by
    by_cases h : Newer S P (look S P k) k
    · rw [look_yes h]
      have := h.1.2.2
      exact ⟨by have := this.1; simp only []; omega, this.2⟩
    · rw [look_no h]; exact look_seq S P k
theorem look_sec (S : Fs) (P : Pt) : ∀ k, k ≤ 4 → (look S P k).sec ≤ 3
  | 0, _ => by simp [look]
  | k + 1, hk => by
    by_cases h : Newer S P (look S P k) k
    · rw [look_yes h]; simp only []; omega
    · rw [look_no h]; exact look_sec S P k (by omega)
theorem sec_byt {S : Fs} (h : S.Ok) (P : Pt) (s : Nat) : Byt (secL S P s) := by
  unfold secL aRead
  split
  · exact read_byt h _ _
  · exact byt_nil
theorem look_byt {S : Fs} (h : S.Ok) (P : Pt) : ∀ k, Byt (look S P k).load
  | 0 => byt_nil
  | k + 1 => by
    by_cases h1 : Newer S P (look S P k) k
    · rw [look_yes h1]; exact byt_drop (ev_byt (sec_byt h P k) _) _
    · rw [look_no h1]; exact look_byt h P k
theorem look_len (S : Fs) (P : Pt) : ∀ k, (look S P k).load.length ≤ 156
  | 0 => by simp [look]
  | k + 1 => by
    by_cases h1 : Newer S P (look S P k) k
    · rw [look_yes h1]; simp only [loadL, List.length_drop, ev_len]; omega
    · rw [look_no h1]; exact look_len S P k
theorem hd_seq (S : Fs) (P : Pt) : 0 ≤ (hdOf S P).seq ∧ (hdOf S P).seq ≤ 2147483647 := by
  unfold hdOf; split
  · exact look_seq S P 4
  · exact ⟨by simp, by simp⟩
theorem hd_sec (S : Fs) (P : Pt) : (hdOf S P).sec ≤ 3 := by
  unfold hdOf; split
  · exact look_sec S P 4 (Nat.le_refl _)
  · simp
theorem hd_next (S : Fs) (P : Pt) : (hdOf S P).next ≤ 3 := by unfold Hd.next; omega
theorem hd_byt {S : Fs} (h : S.Ok) (P : Pt) : Byt (hdOf S P).load := by
  unfold hdOf; split
  · exact look_byt h P 4
  · exact byt_nil
/-- May something be put? -/
def MayP (S : Fs) (P : Pt) : Prop := (aBlank S P ((hdOf S P).next : Int) = true ∨ aLeft S P ((hdOf S P).next : Int) ≠ 0) ∧ Seq ((hdOf S P).seq + 1)
def MayR (S : Fs) (P : Pt) : Prop := 4 ≤ P.cnt ∧ MayP S P
noncomputable def mayB (S : Fs) (P : Pt) : Bool := open Classical in decide (MayP S P)
noncomputable def mayR (S : Fs) (P : Pt) : Bool := open Classical in decide (MayR S P)
/-- A sector is made blank, and written. -/
def fillS (S : Fs) (P : Pt) (s : Nat) (zs : List Int) : Int × Fs :=
  if aBlank S P (s : Int) = true then aProg S P (s : Int) 0 zs
  else if (aErase S P (s : Int)).1 ≠ 0 then aErase S P (s : Int) else aProg (aErase S P (s : Int)).2 P (s : Int) 0 zs
theorem fill_blank {S : Fs} {P : Pt} {s : Nat} {zs : List Int} (h : aBlank S P (s : Int) = true) : fillS S P s zs = aProg S P (s : Int) 0 zs := if_pos h
theorem fill_err {S : Fs} {P : Pt} {s : Nat} {zs : List Int} (h : aBlank S P (s : Int) = false) (h2 : (aErase S P (s : Int)).1 ≠ 0) : fillS S P s zs = aErase S P (s : Int) := by
  unfold fillS; rw [if_neg (by rw [h]; simp), if_pos h2]
theorem fill_two {S : Fs} {P : Pt} {s : Nat} {zs : List Int} (h : aBlank S P (s : Int) = false) (h2 : (aErase S P (s : Int)).1 = 0) : fillS S P s zs = aProg (aErase S P (s : Int)).2 P (s : Int) 0 zs := by
  unfold fillS; rw [if_neg (by rw [h]; simp), if_neg (by simp [h2])]
/-- What a Put of zs does. -/
noncomputable def putR (S : Fs) (P : Pt) (zs : List Int) : Int × Fs :=
  open Classical in
  if ¬ 4 ≤ P.cnt then (2, S) else if 156 < zs.length then (10, S) else if ¬ MayP S P then (5, S) else fillS S P (hdOf S P).next (cellL ((hdOf S P).seq + 1) zs)
theorem put_few {S : Fs} {P : Pt} {zs : List Int} (h : ¬ 4 ≤ P.cnt) : putR S P zs = (2, S) := by unfold putR; rw [if_pos h]
theorem put_long {S : Fs} {P : Pt} {zs : List Int} (h : 4 ≤ P.cnt) (h2 : 156 < zs.length) : putR S P zs = (10, S) := by unfold putR; rw [if_neg (by simpa using h), if_pos h2]
theorem put_worn {S : Fs} {P : Pt} {zs : List Int} (h : 4 ≤ P.cnt) (h2 : zs.length ≤ 156) (h3 : ¬ MayP S P) : putR S P zs = (5, S) := by unfold putR; rw [if_neg (by simpa using h), if_neg (by omega), if_pos h3]
theorem put_does {S : Fs} {P : Pt} {zs : List Int} (h : 4 ≤ P.cnt) (h2 : zs.length ≤ 156) (h3 : MayP S P) : putR S P zs = fillS S P (hdOf S P).next (cellL ((hdOf S P).seq + 1) zs) := by unfold putR; rw [if_neg (by simpa using h), if_neg (by omega), if_neg (by simpa using h3)]
end Go.Proofs.Ytclephjnokbaoaa
