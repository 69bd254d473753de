/-
  Plain mathematics: bytes run through a state block by block; padding; the hash; what is saved; conditions: none.
-/
import Derived.Test.YtklhmneapegfpaaGreatDoorShaWords
namespace Go.Proofs.YtklhmneapegfpaaGreatDoor.Sha

def runF : Nat → St → List Int → St × List Int
  | 0, s, bs => (s, bs)
  | f + 1, s, bs => if 64 ≤ bs.length then runF f (foldI s (bs.take 64)) (bs.drop 64) else (s, bs)
/-- The state behind all full blocks of bs, and what is left of bs. -/
def run (s : St) (bs : List Int) : St × List Int := runF (bs.length / 64) s bs
theorem run_step (s : St) (bs : List Int) (h : 64 ≤ bs.length) : run s bs = run (foldI s (bs.take 64)) (bs.drop 64) := by
  have e : bs.length / 64 = (bs.drop 64).length / 64 + 1 := by rw [List.length_drop]; omega
  rw [run, e, runF, if_pos h]; rfl
theorem run_small (s : St) (bs : List Int) (h : bs.length < 64) : run s bs = (s, bs) := by
  have e : bs.length / 64 = 0 := by omega
  rw [run, e]; rfl
theorem run_join (ys : List Int) : ∀ (n : Nat) (s : St) (xs : List Int), xs.length ≤ n → run s (xs ++ ys) = run (run s xs).1 ((run s xs).2 ++ ys) := by
  intro n
  induction n with
  | zero =>
    intro s xs h
    rw [run_small s xs (by omega)]
  | succ n ih =>
    intro s xs h
    by_cases hl : 64 ≤ xs.length
    · have e1 : (xs ++ ys).take 64 = xs.take 64 := List.take_append_of_le_length hl
      have e2 : (xs ++ ys).drop 64 = xs.drop 64 ++ ys := List.drop_append_of_le_length hl
      rw [run_step s (xs ++ ys) (by rw [List.length_append]; omega), run_step s xs hl, e1, e2]
      exact ih _ _ (by rw [List.length_drop]; omega)
    · rw [run_small s xs (by omega)]
theorem run_app (s : St) (xs ys : List Int) : run s (xs ++ ys) = run (run s xs).1 ((run s xs).2 ++ ys) := run_join ys xs.length s xs (Nat.le_refl _)
theorem run_facts : ∀ (n : Nat) (s : St) (xs : List Int), xs.length ≤ n → s.Ok → Byt xs → (run s xs).1.Ok ∧ Byt (run s xs).2 ∧ (run s xs).2.length = xs.length % 64 := by
  intro n
  induction n with
  | zero =>
    intro s xs h hs hb
    rw [run_small s xs (by omega)]
    exact ⟨hs, hb, by simp; omega⟩
  | succ n ih =>
    intro s xs h hs hb
    by_cases hl : 64 ≤ xs.length
    · rw [run_step s xs hl]
      obtain ⟨h1, h2, h3⟩ := ih (foldI s (xs.take 64)) (xs.drop 64) (by rw [List.length_drop]; omega) (foldI_ok _ _) (byt_drop hb _)
      exact ⟨h1, h2, by rw [h3, List.length_drop]; omega⟩
    · rw [run_small s xs (by omega)]
      exact ⟨hs, hb, by simp; omega⟩
theorem run_ok {s : St} {xs : List Int} (hs : s.Ok) (hb : Byt xs) : (run s xs).1.Ok := (run_facts xs.length s xs (Nat.le_refl _) hs hb).1
theorem run_byt {s : St} {xs : List Int} (hs : s.Ok) (hb : Byt xs) : Byt (run s xs).2 := (run_facts xs.length s xs (Nat.le_refl _) hs hb).2.1
theorem run_len {s : St} {xs : List Int} (hs : s.Ok) (hb : Byt xs) : (run s xs).2.length = xs.length % 64 := (run_facts xs.length s xs (Nat.le_refl _) hs hb).2.2

def bytes8 (x : Int) : List Int := bytes4 (x / 4294967296) ++ bytes4 (x % 4294967296)
def bytes32 (s : St) : List Int := bytes4 s.a ++ bytes4 s.b ++ bytes4 s.c ++ bytes4 s.d ++ bytes4 s.e ++ bytes4 s.f ++ bytes4 s.g ++ bytes4 s.h
def zerosOf (n : Nat) : Nat := (119 - n % 64) % 64
def padI (n : Nat) : List Int := 128 :: List.replicate (zerosOf n) 0
def lastI (n : Nat) : List Int := padI n ++ bytes8 ((8 * n % 18446744073709551616 : Nat) : Int)
/-- The hash of a stream: its state, how many bytes were written, those that fill no block. -/
def sumI (H : St) (n : Nat) (rest : List Int) : List Int := bytes32 (run H (rest ++ lastI n)).1
def shaI (bs : List Int) : List Int := sumI (run st0 bs).1 bs.length (run st0 bs).2
def saveI (H : St) (n : Nat) (rest : List Int) : List Int := bytes32 H ++ bytes8 (n : Int) ++ rest
theorem len4 (x : Int) : (bytes4 x).length = 4 := rfl
theorem len8 (x : Int) : (bytes8 x).length = 8 := rfl
theorem len32 (s : St) : (bytes32 s).length = 32 := rfl
theorem byt4 {x : Int} (h : Wd x) : Byt (bytes4 x) := bytes4_bd h
theorem byt8 {x : Int} (h : 0 ≤ x ∧ x < 18446744073709551616) : Byt (bytes8 x) := byt_app (bytes4_bd (by omega)) (bytes4_bd (by omega))
theorem byt32 {s : St} (h : s.Ok) : Byt (bytes32 s) := by
  obtain ⟨ha, hb, hc, hd, he, hf, hg, hh⟩ := h
  exact byt_app (byt_app (byt_app (byt_app (byt_app (byt_app (byt_app (byt4 ha) (byt4 hb)) (byt4 hc)) (byt4 hd)) (byt4 he)) (byt4 hf)) (byt4 hg)) (byt4 hh)
theorem byt_pad (n : Nat) : Byt (padI n) := by
  intro x hx
  simp only [padI, List.mem_cons, List.mem_replicate] at hx
  omega
theorem byt_last (n : Nat) : Byt (lastI n) := byt_app (byt_pad n) (byt8 (by omega))
theorem len_pad (n : Nat) : (padI n).length = 1 + zerosOf n := by simp [padI]; omega
theorem pad_fits (n : Nat) : (n % 64 + (padI n).length + 8) % 64 = 0 := by rw [len_pad]; unfold zerosOf; omega
theorem len_last (n : Nat) : (n + (lastI n).length) % 64 = 0 := by
  have := pad_fits n
  rw [lastI, List.length_append, len8]; omega
set_option maxRecDepth 100000 in
theorem sha_abc : shaI [97, 98, 99] = [0xba, 0x78, 0x16, 0xbf, 0x8f, 0x01, 0xcf, 0xea, 0x41, 0x41, 0x40, 0xde, 0x5d, 0xae, 0x22, 0x23, 0xb0, 0x03, 0x61, 0xa3, 0x96, 0x17, 0x7a, 0x9c, 0xb4, 0x10, 0xff, 0x61, 0xf2, 0x00, 0x15, 0xad] := by decide +kernel
end Go.Proofs.YtklhmneapegfpaaGreatDoor.Sha
