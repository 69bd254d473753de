/-
  What is proved: for all numbers the law TurnBits answers true: a bit goes where it should (places and turns from 0 to 31; others the law lets by). Conditions: none.
-/
import Derived.Test.YtlnbgdfabfphfaaAlive
import Derived.Test.YtlnbgdfabfphfaaRows
import Derived.WalkKit
import Derived.ProofKit
import Derived.OpenShut
import Derived.ShutString
namespace Go.Proofs.Ytlnbgdfabfphfaa.turnBits
open Go.ChangeShapes Go.WideShapes Go.ChangeAt Go.RowKit
open Go.ChangeMaps (open_string shut_string)
set_option linter.unusedVariables false      -- a walk need not use every 'w<i>' (that an integer argument fits its kind)

theorem pow_all : ∀ k : Fin 32, (2 : Int) ^ k.val % 4294967296 = 2 ^ k.val ∧ 0 ≤ (2 : Int) ^ k.val ∧ (2 : Int) ^ k.val ≤ 4294967295 := by decide +kernel
theorem pow_word (k : Nat) (h : k < 32) : (2 : Int) ^ k % 4294967296 = 2 ^ k := (pow_all ⟨k, h⟩).1
theorem pow_bd (k : Nat) (h : k < 32) : 0 ≤ (2 : Int) ^ k ∧ (2 : Int) ^ k ≤ 4294967295 := (pow_all ⟨k, h⟩).2

theorem own : ownKnob Try.prog.godebug = none := by kernel_rfl

/-! ### STEP 1: THE WALK: the Go text returns true. 'Grown w w'': the world has at most new blocks (Derived/RowKit3.lean). Part the cases AHEAD of 'go_enter' where a test parts the walk; take each callee by a contract of your own. -/
theorem walk (a0 : Int) (a1 : Int) (w0 : (Lit.int .i64 a0).wf = true) (w1 : (Lit.int .i64 a1).wf = true) (w : World) :
    Calls Try.prog 5 #[.int .i64 a0, .int .i64 a1] w fun e w' => e = .returned (.bool true) ∧ Grown w w' := by
  by_cases h1 : a0 < 0
  · go_enter Try.func5, Try.ntmps5
    go_wp2_with (go_at_call 6; refine (alive_any _).mono ?_; rintro e w1 ⟨rfl, H1, _⟩)
    go_ret
    exact ⟨rfl, H1⟩
  by_cases h2 : 31 < a0
  · go_enter Try.func5, Try.ntmps5
    go_wp2_with (go_at_call 6; refine (alive_any _).mono ?_; rintro e w1 ⟨rfl, H1, _⟩)
    go_ret
    exact ⟨rfl, H1⟩
  by_cases h3 : a1 < 0
  · go_enter Try.func5, Try.ntmps5
    go_wp2_with (go_at_call 6; refine (alive_any _).mono ?_; rintro e w1 ⟨rfl, H1, _⟩)
    go_ret
    exact ⟨rfl, H1⟩
  by_cases h4 : 31 < a1
  · go_enter Try.func5, Try.ntmps5
    go_wp2_with (go_at_call 6; refine (alive_any _).mono ?_; rintro e w1 ⟨rfl, H1, _⟩)
    go_ret
    exact ⟨rfl, H1⟩
  obtain ⟨k, rfl⟩ := Int.eq_ofNat_of_zero_le (by omega : 0 ≤ a0)
  obtain ⟨n, rfl⟩ := Int.eq_ofNat_of_zero_le (by omega : 0 ≤ a1)
  have hk : k < 32 := by omega
  have hn : n < 32 := by omega
  obtain ⟨j, hj, ej⟩ : ∃ j : Nat, j < 32 ∧ ((k : Int) - (n : Int) + 32) % 32 = (j : Int) ∧ (k + 32 - n) % 32 = j := ⟨(k + 32 - n) % 32, Nat.mod_lt _ (by omega), by omega, rfl⟩
  have e1 : rotI (2 ^ k) (n : Int) = 2 ^ j := by rw [rotI_bit k n hk hn, ej.2]
  have e2 : ((k : Int) - (n : Int) + 32) % 32 = (j : Int) := ej.1
  have p1 := pow_word k hk
  have p2 := pow_word j hj
  have bk := pow_bd k hk
  clear ej h1 h2 h3 h4
  go_enter Try.func5, Try.ntmps5
  go_wp2_with (first
    | (go_at_call 6; refine (alive_any _).mono ?_; rintro e w1 ⟨rfl, H1, _⟩)
    | (go_at_call 7; refine (right_any _ _ _ bk).mono ?_; rintro e w1 ⟨rfl, rfl⟩))
  go_ret
  exact ⟨rfl, H1⟩

/-! ### THE ROW's STEP: WRITTEN OUT: LEAVE IT -/
set_option maxRecDepth 100000 in
theorem lifted (os : Os) (started : os.Started) (H : Type) (enc : TypeId × Value → H) :
    ReturnsInHanded {} Try.checked os 5 .any (Rows.turnBitsSpec.pre6 enc Try.prog Try.f5 Rows.turnBitsRow.domain false) (Rows.turnBitsSpec.post enc Try.prog Try.f5 false true false false) := by
  refine returnsInHanded_of_change (C := Try.checked) own started (by kernel_rfl) Try.func5
    (ChangeSpec.witness6 (enc := enc) (C := Try.checked) false ⟨#[], #[.int .i64 0, .int .i64 0], []⟩ 8 (by kernel_rfl) (by kernel_rfl) (by kernel_rfl) (by kernel_rfl)) ?_
  intro W base args ds gs before hval0 hW hcnd _
  have hval : ∀ (j : Nat) t v, Try.f5.params[j]? = some t → args[j]? = some v → Value.okWide Try.prog W .any base t v := hval0
  have hW' := hW
  obtain ⟨p, q, hA0, hV, rfl, hfz, hnd⟩ := hW
  have hA : DataW.TrodAll enc Try.prog W 0 (fun _ => true) true Try.f5.params.toList args.toList ds p := hA0
  rw [Try.params5] at hA hval
  obtain ⟨v0, vs0, d0, ds0, p0, q0, hargs, rfl, rfl, h0, r0⟩ := trodAll_cons hA
  obtain ⟨v1, vs1, d1, ds1, p1, q1, rfl, rfl, rfl, h1, r1⟩ := trodAll_cons r0
  obtain ⟨rfl, rfl, rfl⟩ := trodAll_nil r1
  obtain rfl : args = #[v0, v1] := by cases args; simp_all
  obtain ⟨rfl, rfl⟩ := trodVars_none hV
  obtain ⟨a0, rfl, rfl, rfl, w0⟩ := open_int Try.underlying3 (hval 0 3 v0 rfl rfl) h0
  obtain ⟨a1, rfl, rfl, rfl, w1⟩ := open_int Try.underlying3 (hval 1 3 v1 rfl rfl) h1
  clear hA0 hval0
  simp only [List.append_nil] at hW'
  refine (walk a0 a1 w0 w1 W).mono fun e W' ⟨he, hg⟩ => ?_
  subst he
  exact ⟨_, rfl, post_of_same (pa := []) (pv := []) hW' (fun _ _ _ => (trodAll_cons_mk (shut_bool Try.underlying4 _) trodAll_mk0)) (fun sp _ => (trodAll_cons_mk (shut_int Try.underlying3 w0) (trodAll_cons_mk (shut_int Try.underlying3 w1) trodAll_mk0))) (fun _ _ => rfl) rfl
    (hg.frame _) hg.2.1 (ok_one (by kernel_rfl) rfl (okWide_bool_mk Try.underlying4 _))⟩

theorem over : Rows.turnBitsRow.holds Try.pinned (OpenSpec.ofChange Rows.turnBitsSpec) :=
  OpenClaim.holds_of_wide 5 Try.f5 rfl rfl rfl rfl rfl rfl rfl ⟨rfl, rfl, rfl, rfl, rfl⟩ rfl rfl rfl rfl rfl (by kernel_rfl) Try.func5 (by kernel_rfl)
    (of_decide_eq_true (by kernel_rfl)) (by unfold Func.isWrapper; first | (rw [if_pos (by decide +kernel)]; kernel_rfl) | (rw [if_neg (by decide +kernel)]; exact ⟨rfl, rfl⟩))
    (fun os started H enc _ => lifted os started H enc)

/-- ████ THE STATEMENT ████ -/
theorem proved : Rows.TurnBitsSaid :=
  over
end Go.Proofs.Ytlnbgdfabfphfaa.turnBits
namespace Go.Proofs.Ytlnbgdfabfphfaa
theorem TurnBits_holds : Rows.TurnBitsSaid := turnBits.proved
#print axioms TurnBits_holds
end Go.Proofs.Ytlnbgdfabfphfaa
