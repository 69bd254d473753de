/-
  Are configs few and short enough? The law's own call; conditions: the row came in.
-/
import Derived.Test.YtljkngalnoepmaaSl
import Derived.LoopTactic
namespace Go.Proofs.Ytljkngalnoepmaa
open Go.RowKit
set_option linter.unusedVariables false
set_option linter.unusedSimpArgs false

def smallB (c : Cf) : Bool := decide (c.name.size ≤ 100) && (decide (c.kl ≤ 200) && decide (c.fl ≤ 3000))
def fewB (cs : List Cf) : Bool := cs.all smallB && decide (cs.length ≤ 10)
theorem few_bad {cs : List Cf} {i : Nat} {c : Cf} (h : cs[i]? = some c) (hs : smallB c = false) : fewB cs = false := by
  have : cs.all smallB = false := by
    rw [List.all_eq_false]
    exact ⟨c, List.mem_of_getElem? h, by simp [hs]⟩
  simp [fewB, this]
theorem all_take {f : Cf → Bool} {cs : List Cf} {k : Nat} {c : Cf} (h : (cs.take k).all f = true) (hc : cs[k]? = some c) (hf : f c = true) : (cs.take (k + 1)).all f = true := by
  rw [List.take_add_one, hc]
  simp only [List.all_append, h, Option.toList_some, List.all_cons, hf, List.all_nil, Bool.and_self]
theorem all_end {f : Cf → Bool} {cs : List Cf} {k : Nat} (h : (cs.take k).all f = true) (hk : cs.length ≤ k) : cs.all f = true := by rwa [List.take_of_length_le hk] at h
theorem all_bad {f : Cf → Bool} {cs : List Cf} {k : Nat} {c : Cf} (hc : cs[k]? = some c) (hf : f c = false) : cs.all f = false := by
  rw [List.all_eq_false]
  exact ⟨c, List.mem_of_getElem? hc, by simp [hf]⟩

set_option maxRecDepth 100000 in
theorem few_any (a : Option Addr) (n cap : Nat) (cs : List Cf) (B : Nat) (w : World) (hr : Cfs w B a n cs) (hn : n ≤ maxLen) : Calls Try.prog 8 #[.slice a n cap] w fun e w' => e = .returned (.bool (fewB cs)) ∧ w = w' := by
  unfold maxLen at hn
  have HR := Lib.hid hr
  have HL := Lib.hid hr.2
  clear hr
  go_enter Try.func8, Try.ntmps8
  go_wp2
  go_loopw [3] (fun i wr => ∃ k : Nat, w = wr ∧ i = .int .i64 (k : Int) ∧ k ≤ n ∧ Hid ((cs.take k).all smallB = true)) (fun i _ => n - (intOf i).toNat)
  case atStart => exact ⟨0, rfl, rfl, Nat.zero_le _, Lib.hid rfl⟩
  case round =>
    obtain ⟨k, rfl, rfl, hk, HA⟩ := hrel
    by_cases h : k < n
    · obtain ⟨b, off, rfl, hb, hrun⟩ := HR.out.1.open (by omega)
      obtain ⟨c, hc⟩ : ∃ c, cs[k]? = some c := ⟨_, List.getElem?_eq_getElem (show k < cs.length by have := HL.out; omega)⟩
      have HC := Lib.hid hc
      obtain ⟨c0, c1, c2, c3, c4, c5, c6, cl⟩ := cfs_see hrun hc
      clear hrun hc cl c2 c3 c4 c5 hb
      by_cases h1 : 100 < c.name.size
      · have EF := Lib.hid (few_bad HC.out (by unfold smallB; rw [decide_eq_false (by omega)]; rfl))
        go_wp2
        go_ret
        exact ⟨ret_bool EF.out.symm, rfl⟩
      · by_cases h2 : 200 < c.kl
        · have EF := Lib.hid (few_bad HC.out (by unfold smallB; rw [decide_eq_false (show ¬ c.kl ≤ 200 by omega), Bool.false_and, Bool.and_false]))
          have d1 : decide ((100 : Int) < (c.name.size : Int)) = false := decide_eq_false (by omega)
          have d2 : decide ((200 : Int) < (c.kl : Int)) = true := decide_eq_true (by omega)
          go_wp2
          go_ret
          exact ⟨ret_bool EF.out.symm, rfl⟩
        · by_cases h3 : 3000 < c.fl
          · have EF := Lib.hid (few_bad HC.out (by unfold smallB; rw [decide_eq_false (show ¬ c.fl ≤ 3000 by omega), Bool.and_false, Bool.and_false]))
            go_wp2
            go_ret
            exact ⟨ret_bool EF.out.symm, rfl⟩
          · have HS : Hid (smallB c = true) := Lib.hid (by unfold smallB; rw [decide_eq_true (show c.name.size ≤ 100 by omega), decide_eq_true (show c.kl ≤ 200 by omega), decide_eq_true (show c.fl ≤ 3000 by omega)]; rfl)
            go_wp2
            go_roundw
            case rel => exact ⟨k + 1, by first | rfl | trivial, by go_num, by omega, Lib.hid (all_take HA.out HC.out HS.out)⟩
            case measure => simp [intOf]; omega
    · have HE := Lib.hid (all_end HA.out (by have := HL.out; omega))
      by_cases h10 : n ≤ 10
      · have EF : Hid (true = fewB cs) := Lib.hid (by unfold fewB; rw [HE.out, HL.out, decide_eq_true h10]; rfl)
        go_wp2
        go_ret
        refine ⟨ret_bool ?_, rfl⟩
        rw [← EF.out]
        first | rfl | (simp; omega)
      · have EF : Hid (false = fewB cs) := Lib.hid (by unfold fewB; rw [HE.out, HL.out, decide_eq_false h10]; rfl)
        go_wp2
        go_ret
        refine ⟨ret_bool ?_, rfl⟩
        rw [← EF.out]
        first | rfl | (simp; omega)
end Go.Proofs.Ytljkngalnoepmaa
