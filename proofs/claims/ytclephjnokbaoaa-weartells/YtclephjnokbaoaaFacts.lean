/-
  Plain facts on flashes that the laws need; conditions: as each states.
-/
import Derived.Test.YtclephjnokbaoaaAlive
namespace Go.Proofs.Ytclephjnokbaoaa
set_option linter.unusedVariables false
set_option linter.unusedSimpArgs false

theorem sets_ff {mem : List Int} {a : Nat} {b : List Int} (h : ∀ k, k < b.length → bits .andNot .u8 (b.getD k 0) (mem.getD (a + k) 0) = 0) : sets mem a b = false := by
  unfold sets setsN
  rw [List.any_eq_false]
  intro i hi
  rw [h i (List.mem_range.1 hi)]
  decide
theorem clear_zero {x : Int} (hx : 0 ≤ x ∧ x ≤ 255) : bits .andNot .u8 0 x = 0 := by
  rw [u8_andNot 0 x (by omega) (by omega) hx.1 (by omega)]
  simp
theorem clear_full {x : Int} (hx : 0 ≤ x ∧ x ≤ 255) : bits .andNot .u8 x 255 = 0 := by
  rw [u8_andNot x 255 hx.1 (by omega) (by omega) (by omega)]
  simp
theorem sect_nat {n : Nat} (h : n ≤ 400) : sect n = n := by unfold sect; omega
theorem fresh_len (n : Nat) : (fresh n).mem.length = 320 * n := List.length_replicate
theorem fresh_wear (n : Nat) : (fresh n).wear.length = n := List.length_replicate
theorem fresh_at {n j : Nat} (h : j < 320 * n) : (fresh n).mem.getD j 0 = 255 := getD_rep _ _ _ h
theorem fresh_blank {n s : Nat} (h : s < n) : blank (fresh n) s = true := by
  unfold blank
  rw [if_pos ⟨by omega, by rw [fresh_wear]; omega⟩, Int.toNat_natCast]
  unfold allFF
  rw [List.all_eq_true]
  intro i hi
  have := List.mem_range.1 hi
  rw [fresh_at (by omega)]
  rfl
theorem prog_plain {S : Fs} (ho : S.off = false) (hc : S.cut = none) {a : Nat} {b : List Int} (hf : a + b.length ≤ S.mem.length) (hs : sets S.mem a b = false) : prog S a b = (0, { S with mem := put S.mem a b [], ops := S.ops + 1 }) := by
  rw [prog_ok' ho ⟨by omega, by omega⟩ (by rw [Int.toNat_natCast]; exact hs), Int.toNat_natCast, work_none hc]
theorem fresh_sets {n a : Nat} {b : List Int} (hb : Byt b) (h : a + b.length ≤ 320 * n) : sets (fresh n).mem a b = false := sets_ff fun k hk => by
  rw [fresh_at (by omega)]
  exact clear_full (byt_at hb k)
theorem prog_fresh {n a : Nat} {b : List Int} (hb : Byt b) (h : a + b.length ≤ 320 * n) : prog (fresh n) a b = (0, { fresh n with mem := put (fresh n).mem a b [], ops := 1 }) :=
  prog_plain rfl rfl (by rw [fresh_len]; exact h) (fresh_sets hb h)
theorem read_len {S : Fs} {a n : Nat} (h1 : 1 ≤ n) (h : a + n ≤ S.mem.length) : (read S a n).length = n := by
  rw [read_yes h1 h, List.length_take, List.length_drop]; omega
theorem read_at {S : Fs} {a n : Nat} (h1 : 1 ≤ n) (h : a + n ≤ S.mem.length) {j : Nat} (hj : j < n) : (read S a n).getD j 0 = S.mem.getD (a + j) 0 := by
  rw [read_yes h1 h, getD_take _ _ _ hj, getD_drop]
theorem bounds_in {n size a : Nat} (h1 : 1 ≤ size) (h : a + size ≤ 320 * n) :
    (prog (fresh n) a (List.replicate size 0)).1 = 0 ∧ (prog (fresh n) a (List.replicate size 0)).2.ops = 1 ∧ (read (prog (fresh n) a (List.replicate size 0)).2 a size).length = size := by
  rw [prog_fresh (byt_same _ _ (by omega)) (by rw [List.length_replicate]; exact h)]
  refine ⟨rfl, rfl, read_len h1 ?_⟩
  show a + size ≤ (put _ _ _ _).length
  rw [put_len, fresh_len]
  exact h
theorem bounds_out {n size : Nat} {a : Int} (h : ¬ (0 ≤ a ∧ a ≤ (320 * n : Nat) - (size : Int))) (h1 : 1 ≤ size) : prog (fresh n) a (List.replicate size 0) = (2, fresh n) ∧ read (fresh n) a size = [] := by
  refine ⟨prog_out rfl fun x => h ⟨x.1, ?_⟩, read_no fun x => h ⟨x.2.1, ?_⟩⟩
  · have := x.2
    rw [List.length_replicate, fresh_len] at this
    omega
  · have := x.2.2
    rw [fresh_len] at this
    omega
end Go.Proofs.Ytclephjnokbaoaa
