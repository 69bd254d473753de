/-
  Read of the program's flash answers a row of its own; of a nil flash; conditions: as each states.
-/
import Derived.Test.YtklhmneapegfpaaOps
import Derived.Test.YtklhmneapegfpaaAp
namespace Go.Proofs.Ytklhmneapegfpaa
open Go.RowKit
set_option linter.unusedVariables false
set_option linter.unusedSimpArgs false

/-- A call answers a new row, its own. -/
def GivesO (zs : List Int) (w : World) (e : Ending) (w' : World) : Prop := ∃ v, e = .returned v ∧ Own w' w.heap.size v zs.length zs ∧ Below w.heap.size w w'
set_option maxRecDepth 100000 in
set_option maxHeartbeats 1000000 in
theorem read_own {T g m k : Nat} {S : Fs} (a n : Nat) (w : World) (h1 : 1 ≤ n) (h2 : a + n ≤ S.mem.length) (hf : Fl w T g m k S) : Calls Try.prog 31 #[.pointer (some ⟨g, 0, none⟩), .int .i64 (a : Int), .int .i64 (n : Int)] w (GivesO (read S a n) w) := by
  obtain ⟨c0, _⟩ := hf.cells
  have hN := hf.small
  have ha : I64 (a : Int) := ⟨by omega, by omega⟩
  have hfit : True := trivial
  rw [read_yes h1 h2]
  have hr := hf.bytes (a := a) (n := S.mem.length - a) (by omega)
  have hl : ((S.mem.drop a).take n).length = n := by rw [List.length_take, List.length_drop]; omega
  have e1 : ((S.mem.drop a).take (S.mem.length - a)) = S.mem.drop a := List.take_of_length_le (by rw [List.length_drop]; omega)
  rw [e1] at hr
  have hbt : Byt ((S.mem.drop a).take n) := byt_take (byt_drop hf.ok.byt _) _
  have WY := Lib.hid (within_yes g m S.mem.length a n w c0 (by omega) ha.2 (by omega) (by omega))
  have hmk := make_bytes n (by omega) w
  have hnew := has_new w 5 (zeroBytes n)
  have hr1 : Row (w.alloc (.cells (zeroBytes n) 5)) (some ⟨m, a, none⟩) (S.mem.length - a) (S.mem.drop a) := row_below ((Below.refl _ w).alloc (Nat.le_refl _) _) hr
  have hzs : (zeroBytes n).size = n := by simp [zeroBytes, nums_len]
  have c0' : (w.alloc (.cells (zeroBytes n) 5)).cell? ⟨g, 0, none⟩ = some (.slice (some ⟨m, 0, none⟩) S.mem.length S.mem.length) := by
    obtain ⟨_, _, _, _, _, x, _⟩ := hf
    exact (x.str.more _).at 0
  have HW := Lib.hid (show GivesO ((S.mem.drop a).take n) w (.returned (.slice (some ⟨w.heap.size, 0, none⟩) n n)) ((w.alloc (.cells (zeroBytes n) 5)).setRow w.heap.size ((zeroBytes n).toList.take 0 ++ (nums ((S.mem.drop a).take n) ++ (zeroBytes n).toList.drop (0 + n))).toArray) by
    refine ⟨_, rfl, ⟨⟨by rw [nums_len, hl]; omega, .inr ⟨w.heap.size, n, _, by rw [hl], Nat.le_refl _, setRow_heap _ _ _ _ _ _ hnew, by rw [hl]; exact Nat.le_refl _, by unfold maxLen; omega, ?_, ?_⟩⟩, hbt⟩, below_setRow ((Below.refl _ w).alloc (Nat.le_refl _) _) (Nat.le_refl _) _⟩
    · simp [nums_len, hl, hzs]
    · rw [hl]
      simp [nums_len, hl])
  have HM := Lib.hid (show Nat.min (S.mem.length - a) n = n from Nat.min_eq_right (by omega))
  have i0 : (0 : Int) ≤ (a : Int) := by omega
  have i1 : (a : Int) ≤ (S.mem.length : Int) := by omega
  have i2 : ¬ S.mem.length = a := by omega
  have i3 : (0 : Int) ≤ (n : Int) := by omega
  have h1i : ¬ (n : Int) < 1 := by omega
  have h1n : ¬ n < 1 := by omega
  clear hr hl e1 hbt hf hfit h1 h2
  go_enter Try.func31, Try.ntmps31
  go_wp2_with (first
    | (go_at_call 22; refine (there_any g _).mono ?_; rintro e w1 ⟨rfl, rfl⟩)
    | (go_at_call 40; refine WY.out.mono ?_; rintro e w1 ⟨rfl, rfl⟩)
    | (with_reducible refine wpList_cp rfl _ _ rfl n w.heap.size 0 n n rfl (some ⟨m, a, none⟩) _ _ rfl (S.mem.drop a) hr1 HM.out (zeroBytes n) 5 hnew (by omega) ?_))
  go_ret
  have F := HW.out
  simp only [List.take_zero, List.nil_append, Nat.zero_add] at F
  exact F

set_option maxRecDepth 100000 in
theorem read_nil (w : World) : Calls Try.prog 31 #[.pointer none, .int .i64 0, .int .i64 0] w fun e w' => e = .returned (.slice none 0 0) ∧ Below w.heap.size w w' := by
  have hth : Calls Try.prog 22 #[.pointer none] w fun e w' => (∃ b, e = .returned (.pointer (some ⟨b, 0, none⟩))) ∧ Below w.heap.size w w' := by
    go_enter Try.func22, Try.ntmps22
    go_wp2
    go_ret
    exact ⟨⟨_, rfl⟩, (Below.refl _ w).alloc (Nat.le_refl _) _⟩
  go_enter Try.func31, Try.ntmps31
  go_wp2_with (go_at_call 22; refine hth.mono ?_; rintro e w1 ⟨⟨b, rfl⟩, H1⟩)
  go_ret
  exact ⟨rfl, H1⟩
end Go.Proofs.Ytklhmneapegfpaa
