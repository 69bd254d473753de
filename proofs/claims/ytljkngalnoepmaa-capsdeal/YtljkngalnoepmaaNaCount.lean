/-
  How many runes a text has, whether it is a name: the program's calls and the document's own; conditions: the text's length is an int.
-/
import Derived.Test.YtljkngalnoepmaaNaSmall
import Derived.LoopTactic
namespace Go.Proofs.Ytljkngalnoepmaa.Nam
open Go.RowKit

theorem below_iter (w : World) (s : ByteArray) (pos : Nat) : Below w.heap.size w (w.iter s pos) := (Below.refl _ _).alloc (Nat.le_refl _) _
theorem iterPos_iter (w : World) (s : ByteArray) (pos : Nat) : (w.iter s pos).iterPos w.heap.size = pos := iterPos_of (World.iter_heap w s pos)
theorem ret_int {k : IntKind} {a b : Int} (h : a = b) : Ending.returned (.int k a) = .returned (.int k b) := by rw [h]

/-- k runes lie behind, all of them good. -/
def Behind (s : ByteArray) (pos k : Nat) : Prop := ∃ pre : List Int, pre.length = k ∧ pre.all goodB = true ∧ pre ++ rest s pos = all s
theorem behind_start (s : ByteArray) : Behind s 0 0 := ⟨[], rfl, rfl, by rw [rest_zero]; rfl⟩
theorem behind_step {s : ByteArray} {pos k : Nat} (h : Behind s pos k) (hp : pos < s.size) (hg : goodB (Utf8.decode s pos).1 = true) : Behind s (pos + (Utf8.decode s pos).2) (k + 1) := by
  obtain ⟨pre, h1, h2, h3⟩ := h
  refine ⟨pre ++ [((Utf8.decode s pos).1 : Int)], by simp [h1], by simp only [List.all_append, h2, List.all_cons, List.all_nil, hg]; rfl, ?_⟩
  rw [← h3, rest_step s pos hp, List.append_assoc]
  rfl
theorem behind_long {s : ByteArray} {pos : Nat} (h : Behind s pos 8) (hp : pos < s.size) : validL (all s) = false := by
  obtain ⟨pre, h1, h2, h3⟩ := h
  have hl : ¬ (all s).length ≤ 8 := by rw [← h3, rest_step s pos hp, List.length_append, List.length_cons, h1]; omega
  simp [validL, hl]
theorem behind_bad {s : ByteArray} {pos k : Nat} (h : Behind s pos k) (hp : pos < s.size) (hg : goodB (Utf8.decode s pos).1 = false) : validL (all s) = false := by
  obtain ⟨pre, h1, h2, h3⟩ := h
  have hl : (all s).all goodB = false := by rw [← h3, rest_step s pos hp, List.all_append, List.all_cons, hg]; simp
  simp [validL, hl]
theorem behind_end {s : ByteArray} {pos k : Nat} (h : Behind s pos k) (hp : ¬ pos < s.size) : validL (all s) = (decide (1 ≤ k) && decide (k ≤ 8)) := by
  obtain ⟨pre, h1, h2, h3⟩ := h
  rw [rest_end s pos hp, List.append_nil] at h3
  rw [← h3]
  simp [validL, h1, h2]
theorem ret_bool {a b : Bool} (h : a = b) : Ending.returned (.bool a) = .returned (.bool b) := by rw [h]

set_option maxRecDepth 100000 in
theorem valid_any (s : ByteArray) (w : World) :
    Calls Try.prog 22 #[.string s] w fun e w' => e = .returned (.bool (validL (all s))) ∧ Below w.heap.size w w' := by
  go_enter Try.func22, Try.ntmps22
  go_wp2
  go_loopw [3] (fun n wr => ∃ (pos k : Nat), wr = w.iter s pos ∧ n = .int .i64 (k : Int) ∧ k ≤ 8 ∧ Behind s pos k) (fun _ wr => s.size - wr.iterPos w.heap.size)
  case atStart => exact ⟨0, 0, rfl, rfl, Nat.zero_le _, behind_start s⟩
  case round =>
    obtain ⟨pos, k, rfl, rfl, hk, HB⟩ := hrel
    by_cases h : pos < s.size
    · have hnx : ∀ ty, (Instr.next (.pointer (some ⟨w.heap.size, 0, none⟩)) true ty).run Try.prog (w.iter s pos) = _ := fun ty => run_next_any w s pos ty h
      by_cases h8 : k = 8
      · subst h8
        go_wp2
        go_ret
        exact ⟨ret_bool (behind_long HB h).symm, below_iter w s _⟩
      · have hlt : k < 8 := by omega
        have hb : ((k : Int) == 8) = false := by simp; omega
        clear h8
        cases hg : goodB ((Utf8.decode s pos).1 : Int) with
        | false =>
          go_wp2_with (go_at_call 25; refine (allowed_any _ _).mono ?_; rintro e w' ⟨rfl, rfl⟩)
          go_ret
          exact ⟨ret_bool (behind_bad HB h hg).symm, below_iter w s _⟩
        | true =>
          go_wp2_with (go_at_call 25; refine (allowed_any _ _).mono ?_; rintro e w' ⟨rfl, rfl⟩)
          have hwd := width_in s pos h
          go_roundw
          case rel => exact ⟨pos + (Utf8.decode s pos).2, k + 1, rfl, by go_num, by omega, behind_step HB h hg⟩
          case measure =>
            rw [iterPos_iter, iterPos_iter]
            omega
    · have hnx : ∀ ty, (Instr.next (.pointer (some ⟨w.heap.size, 0, none⟩)) true ty).run Try.prog (w.iter s pos) = _ := fun ty => run_next_end w s pos ty h
      go_wp2
      go_ret
      refine ⟨ret_bool ?_, below_iter w s pos⟩
      rw [behind_end HB h]
      have : decide (k ≤ 8) = true := by simpa using hk
      rw [this]
      simp
      omega

set_option maxRecDepth 100000 in
theorem rvalid_any (s : ByteArray) (w : World) (hs : s.size ≤ maxLen) :
    Calls Try.prog 23 #[.string s] w fun e w' => e = .returned (.bool (validL (all s))) ∧ Below w.heap.size w w' := by
  unfold maxLen at hs
  go_enter Try.func23, Try.ntmps23
  go_wp2
  go_loopw [3] (fun n wr => ∃ (pos k : Nat), wr = w.iter s pos ∧ n = .int .i64 (k : Int) ∧ pos ≤ s.size ∧ k ≤ pos ∧ Behind s pos k) (fun _ wr => s.size - wr.iterPos w.heap.size)
  case atStart => exact ⟨0, 0, rfl, rfl, Nat.zero_le _, Nat.le_refl _, behind_start s⟩
  case round =>
    obtain ⟨pos, k, rfl, rfl, hp, hk, HB⟩ := hrel
    by_cases h : pos < s.size
    · have hnx : ∀ ty, (Instr.next (.pointer (some ⟨w.heap.size, 0, none⟩)) true ty).run Try.prog (w.iter s pos) = _ := fun ty => run_next_any w s pos ty h
      cases hg : goodB ((Utf8.decode s pos).1 : Int) with
      | false =>
        go_wp2_with (go_at_call 26; refine (good_any _ _).mono ?_; rintro e w' ⟨rfl, rfl⟩)
        go_ret
        exact ⟨ret_bool (behind_bad HB h hg).symm, below_iter w s _⟩
      | true =>
        go_wp2_with (go_at_call 26; refine (good_any _ _).mono ?_; rintro e w' ⟨rfl, rfl⟩)
        have hwd := width_in s pos h
        go_roundw
        case rel => exact ⟨pos + (Utf8.decode s pos).2, k + 1, rfl, by go_num, hwd.2, by omega, behind_step HB h hg⟩
        case measure =>
          rw [iterPos_iter, iterPos_iter]
          omega
    · have hnx : ∀ ty, (Instr.next (.pointer (some ⟨w.heap.size, 0, none⟩)) true ty).run Try.prog (w.iter s pos) = _ := fun ty => run_next_end w s pos ty h
      have HE := Lib.hid (behind_end HB h)
      by_cases h1 : 1 ≤ k
      · go_wp2
        go_ret
        refine ⟨ret_bool ?_, below_iter w s pos⟩
        rw [HE.out]
        simp [h1]
        try omega
      · go_wp2
        go_ret
        refine ⟨ret_bool ?_, below_iter w s pos⟩
        rw [HE.out]
        simp [h1]
end Go.Proofs.Ytljkngalnoepmaa.Nam
