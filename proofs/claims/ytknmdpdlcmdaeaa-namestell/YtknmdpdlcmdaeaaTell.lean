/-
  What is proved: for every text the law NamesTell answers true: the program counts its runes, tells whether it is a name, and makes a name of it, as the document's own answer does (texts of up to 300 bytes; longer ones the law lets by). Conditions: none.
-/
import Derived.Test.YtknmdpdlcmdaeaaAlive
import Derived.Test.YtknmdpdlcmdaeaaRows
import Derived.WalkKit
import Derived.ProofKit
import Derived.OpenShut
import Derived.ShutString
namespace Go.Proofs.Ytknmdpdlcmdaeaa.namesTell
open Go.ChangeShapes Go.WideShapes Go.ChangeAt Go.RowKit
open Go.ChangeMaps (open_string shut_string)
set_option linter.unusedVariables false      -- a walk need not use every 'w<i>' (that an integer argument fits its kind)

theorem own : ownKnob Try.prog.godebug = none := by kernel_rfl

set_option maxRecDepth 100000 in
theorem walk (a0 : ByteArray) (w0 : a0.size ≤ maxLen) (w : World) :
    Calls Try.prog 3 #[.string a0] w fun e w' => e = .returned (.bool true) ∧ Below w.heap.size w w' := by
  by_cases hl : a0.size ≤ 300
  · go_enter Try.func3, Try.ntmps3
    go_wp2_with (first
      | (go_at_call 8; refine (alive_any _).mono ?_; rintro e w1 ⟨rfl, H1⟩)
      | (go_at_call 9; refine (count_any _ _ w0).mono ?_; rintro e w2 ⟨rfl, H2⟩)
      | (go_at_call 10; refine (rcount_any _ _ w0).mono ?_; rintro e w3 ⟨rfl, H3⟩)
      | (go_at_call 11; refine (valid_any _ _).mono ?_; rintro e w4 ⟨rfl, H4⟩)
      | (go_at_call 12; refine (rvalid_any _ _ w0).mono ?_; rintro e w5 ⟨rfl, H5⟩)
      | (go_at_call 13; refine (clean_any _ _).mono ?_; rintro e w6 ⟨rfl, H6⟩)
      | (go_at_call 14; refine (rclean_any _ _).mono ?_; rintro e w7 ⟨rfl, H7⟩))
    go_ret
    exact ⟨rfl, below_next (below_next (below_next (below_next (below_next (below_next H1 H2) H3) H4) H5) H6) H7⟩
  · go_enter Try.func3, Try.ntmps3
    go_wp2_with (go_at_call 8; refine (alive_any _).mono ?_; rintro e w1 ⟨rfl, H1⟩)
    go_ret
    exact ⟨rfl, H1⟩

/-! ### THE ROW's STEP: WRITTEN OUT: LEAVE IT -/
set_option maxRecDepth 100000 in
theorem lifted (os : Os) (started : os.Started) (H : Type) (enc : TypeId × Value → H) :
    ReturnsInHanded {} Try.checked os 3 .any (Rows.namesTellSpec.pre6 enc Try.prog Try.f3 Rows.namesTellRow.domain false) (Rows.namesTellSpec.post enc Try.prog Try.f3 false true false false) := by
  refine returnsInHanded_of_change (C := Try.checked) own started (by kernel_rfl) Try.func3
    (ChangeSpec.witness6 (enc := enc) (C := Try.checked) false ⟨#[], #[.string ByteArray.empty], []⟩ 8 (by kernel_rfl) (by kernel_rfl) (by kernel_rfl) (by kernel_rfl)) ?_
  intro W base args ds gs before hval0 hW hcnd _
  have hval : ∀ (j : Nat) t v, Try.f3.params[j]? = some t → args[j]? = some v → Value.okWide Try.prog W .any base t v := hval0
  have hW' := hW
  obtain ⟨p, q, hA0, hV, rfl, hfz, hnd⟩ := hW
  have hA : DataW.TrodAll enc Try.prog W 0 (fun _ => true) true Try.f3.params.toList args.toList ds p := hA0
  rw [Try.params3] at hA hval
  obtain ⟨v0, vs0, d0, ds0, p0, q0, hargs, rfl, rfl, h0, r0⟩ := trodAll_cons hA
  obtain ⟨rfl, rfl, rfl⟩ := trodAll_nil r0
  obtain rfl : args = #[v0] := by cases args; simp_all
  obtain ⟨rfl, rfl⟩ := trodVars_none hV
  obtain ⟨a0, rfl, rfl, rfl, w0⟩ := open_string Try.underlying9 (hval 0 9 v0 rfl rfl) h0
  clear hA0 hval0
  simp only [List.append_nil] at hW'
  refine (walk a0 w0 W).mono fun e W' ⟨he, hg⟩ => ?_
  subst he
  exact ⟨_, rfl, ⟨_, _, _, [], [], [], hW', trodAll_cons_mk (shut_bool Try.underlying4 _) trodAll_mk0, trodAll_cons_mk (shut_string Try.underlying9 w0) trodAll_mk0, rfl, hg.frame _, fun h => by cases h⟩⟩

theorem over : Rows.namesTellRow.holds Try.pinned (OpenSpec.ofChange Rows.namesTellSpec) :=
  OpenClaim.holds_of_wide 3 Try.f3 rfl rfl rfl rfl rfl rfl rfl ⟨rfl, rfl, rfl, rfl, rfl⟩ rfl rfl rfl rfl rfl (by kernel_rfl) Try.func3 (by kernel_rfl)
    (of_decide_eq_true (by kernel_rfl)) (by unfold Func.isWrapper; first | (rw [if_pos (by decide +kernel)]; kernel_rfl) | (rw [if_neg (by decide +kernel)]; exact ⟨rfl, rfl⟩))
    (fun os started H enc _ => lifted os started H enc)

/-- ████ THE STATEMENT ████ -/
theorem proved : Rows.NamesTellSaid :=
  over
end Go.Proofs.Ytknmdpdlcmdaeaa.namesTell
namespace Go.Proofs.Ytknmdpdlcmdaeaa
theorem NamesTell_holds : Rows.NamesTellSaid := namesTell.proved
#print axioms NamesTell_holds
end Go.Proofs.Ytknmdpdlcmdaeaa
