/-
  What is proved: for every text the law NamesClean answers true: what the program leaves of a text is a name, or nothing, is left of itself, and a name is left as it is (texts of up to 300 bytes; longer ones the law lets by). Conditions: none.
-/
import Derived.Test.YtknmdpdlcmdaeaaAlive
import Derived.Test.YtknmdpdlcmdaeaaBack
import Derived.Test.YtknmdpdlcmdaeaaRows
import Derived.WalkKit
import Derived.ProofKit
import Derived.OpenShut
import Derived.ShutString
namespace Go.Proofs.Ytknmdpdlcmdaeaa.namesClean
open Go.ChangeShapes Go.WideShapes Go.ChangeAt Go.RowKit
open Go.ChangeMaps (open_string shut_string)
set_option linter.unusedVariables false      -- a walk need not use every 'w<i>' (that an integer argument fits its kind)

theorem own : ownKnob Try.prog.godebug = none := by kernel_rfl

theorem toList_empty {c : ByteArray} (h : ¬ c.toList = []) (hc : c = ByteArray.empty ∨ false = true) : False := by
  rcases hc with rfl | hc
  · exact h (by simp)
  · cases hc

set_option maxRecDepth 100000 in
theorem walk_valid (s : ByteArray) (w0 : s.size ≤ maxLen) (w : World) (h1 : cleanS s = s) (hl : s.size ≤ 300) (n : Nat) (h3 : validL (all s) = true) (h5 : (all s).length = n) (hn : n ≤ 8) :
    Calls Try.prog 4 #[.string s] w fun e w' => e = .returned (.bool true) ∧ Below w.heap.size w w' := by
  have C1 := clean_any s
  have V1 := valid_any s
  have N := fun w => count_any s w w0
  rw [h1] at C1
  rw [h3] at V1
  rw [h5] at N
  clear h1 h3 h5
  have D1 := Lib.hid C1
  have D3 := Lib.hid V1
  have D5 := Lib.hid N
  clear C1 V1 N
  go_enter Try.func4, Try.ntmps4
  go_wp2_with (first
    | (go_at_call 8; refine (alive_any _).mono ?_; rintro e w1 ⟨rfl, H1⟩)
    | (go_at_call 13; (with_reducible refine (D1.out _).mono ?_); rintro e wc ⟨rfl, HC⟩)
    | (go_at_call 11; (with_reducible refine (D3.out _).mono ?_); rintro e wv ⟨rfl, HV⟩)
    | (go_at_call 9; (with_reducible refine (D5.out _).mono ?_); rintro e w6 ⟨rfl, H6⟩))
  all_goals
    go_ret
    refine ⟨ret_bool (by simp; omega), ?_⟩
    refine below_next ?_ H6
    repeat (first | exact H1 | (refine below_next ?_ (by assumption)))

set_option maxRecDepth 100000 in
theorem walk_other (s c : ByteArray) (w0' : c.size ≤ maxLen) (w : World) (h1 : cleanS s = c) (h2 : cleanS c = c) (hl : s.size ≤ 300) (b2 : Bool) (n : Nat) (h3 : validL (all s) = false) (h4 : validL (all c) = b2) (h5 : (all c).length = n)
    (hn : n ≤ 8) (HE : Hid (c = ByteArray.empty ∨ b2 = true)) :
    Calls Try.prog 4 #[.string s] w fun e w' => e = .returned (.bool true) ∧ Below w.heap.size w w' := by
  have C1 := clean_any s
  have C2 := clean_any c
  have V1 := valid_any s
  have V2 := valid_any c
  have N := fun w => count_any c w w0'
  rw [h1] at C1
  rw [h2] at C2
  rw [h3] at V1
  rw [h4] at V2
  rw [h5] at N
  clear h1 h2 h3 h4 h5
  have D1 := Lib.hid C1
  have D2 := Lib.hid C2
  have D3 := Lib.hid V1
  have D4 := Lib.hid V2
  have D5 := Lib.hid N
  clear C1 C2 V1 V2 N
  cases b2
  all_goals
    go_enter Try.func4, Try.ntmps4
    go_wp2_with (first
      | (go_at_call 8; refine (alive_any _).mono ?_; rintro e w1 ⟨rfl, H1⟩)
      | (go_at_call 13; (with_reducible refine (D1.out _).mono ?_); rintro e w2 ⟨rfl, H2⟩)
      | (go_at_call 11; (with_reducible refine (D3.out _).mono ?_); rintro e w3 ⟨rfl, H3⟩)
      | (go_at_call 11; (with_reducible refine (D4.out _).mono ?_); rintro e w4 ⟨rfl, H4⟩)
      | (go_at_call 13; (with_reducible refine (D2.out _).mono ?_); rintro e w5 ⟨rfl, H5⟩)
      | (go_at_call 9; (with_reducible refine (D5.out _).mono ?_); rintro e w6 ⟨rfl, H6⟩))
  all_goals first
    | (exact (toList_empty ‹_› HE.out).elim)
    | (go_ret
       refine ⟨ret_bool (by simp; omega), ?_⟩
       first
         | exact below_next (below_next (below_next (below_next (below_next H1 H2) H3) H4) H5) H6
         | exact below_next (below_next (below_next (below_next H1 H2) H3) H5) H6)

theorem clean_size (s : ByteArray) : (cleanS s).size ≤ 32 := by
  have h1 := runesBytes_size_le (cleanL (all s))
  have h2 := clean_len (all s)
  unfold cleanS
  omega

set_option maxRecDepth 100000 in
theorem walk (a0 : ByteArray) (w0 : a0.size ≤ maxLen) (w : World) :
    Calls Try.prog 4 #[.string a0] w fun e w' => e = .returned (.bool true) ∧ Below w.heap.size w w' := by
  by_cases hl : a0.size ≤ 300
  · cases hv : validL (all a0) with
    | true =>
      have h1 := clean_valid a0 hv
      exact walk_valid a0 w0 w h1 hl _ hv rfl (by have h2 := all_clean a0; rw [h1] at h2; rw [h2]; exact clean_len _)
    | false => exact walk_other a0 (cleanS a0) (by have := clean_size a0; unfold maxLen; omega) w rfl (clean_clean a0) hl _ _ hv rfl rfl (by rw [all_clean]; exact clean_len _) (valid_clean a0)
  · go_enter Try.func4, Try.ntmps4
    go_wp2_with (go_at_call 8; refine (alive_any _).mono ?_; rintro e w1 ⟨rfl, H1⟩)
    go_ret
    exact ⟨rfl, H1⟩

/-! ### THE ROW's STEP: WRITTEN OUT: LEAVE IT -/
set_option maxRecDepth 100000 in
theorem lifted (os : Os) (started : os.Started) (H : Type) (enc : TypeId × Value → H) :
    ReturnsInHanded {} Try.checked os 4 .any (Rows.namesCleanSpec.pre6 enc Try.prog Try.f4 Rows.namesCleanRow.domain false) (Rows.namesCleanSpec.post enc Try.prog Try.f4 false true false false) := by
  refine returnsInHanded_of_change (C := Try.checked) own started (by kernel_rfl) Try.func4
    (ChangeSpec.witness6 (enc := enc) (C := Try.checked) false ⟨#[], #[.string ByteArray.empty], []⟩ 8 (by kernel_rfl) (by kernel_rfl) (by kernel_rfl) (by kernel_rfl)) ?_
  intro W base args ds gs before hval0 hW hcnd _
  have hval : ∀ (j : Nat) t v, Try.f4.params[j]? = some t → args[j]? = some v → Value.okWide Try.prog W .any base t v := hval0
  have hW' := hW
  obtain ⟨p, q, hA0, hV, rfl, hfz, hnd⟩ := hW
  have hA : DataW.TrodAll enc Try.prog W 0 (fun _ => true) true Try.f4.params.toList args.toList ds p := hA0
  rw [Try.params4] at hA hval
  obtain ⟨v0, vs0, d0, ds0, p0, q0, hargs, rfl, rfl, h0, r0⟩ := trodAll_cons hA
  obtain ⟨rfl, rfl, rfl⟩ := trodAll_nil r0
  obtain rfl : args = #[v0] := by cases args; simp_all
  obtain ⟨rfl, rfl⟩ := trodVars_none hV
  obtain ⟨a0, rfl, rfl, rfl, w0⟩ := open_string Try.underlying9 (hval 0 9 v0 rfl rfl) h0
  clear hA0 hval0
  simp only [List.append_nil] at hW'
  refine (walk a0 w0 W).mono fun e W' ⟨he, hg⟩ => ?_
  subst he
  exact ⟨_, rfl, ⟨_, _, _, [], [], [], hW', trodAll_cons_mk (shut_bool Try.underlying4 _) trodAll_mk0, trodAll_cons_mk (shut_string Try.underlying9 w0) trodAll_mk0, rfl, hg.frame _, fun h => by cases h⟩⟩

theorem over : Rows.namesCleanRow.holds Try.pinned (OpenSpec.ofChange Rows.namesCleanSpec) :=
  OpenClaim.holds_of_wide 4 Try.f4 rfl rfl rfl rfl rfl rfl rfl ⟨rfl, rfl, rfl, rfl, rfl⟩ rfl rfl rfl rfl rfl (by kernel_rfl) Try.func4 (by kernel_rfl)
    (of_decide_eq_true (by kernel_rfl)) (by unfold Func.isWrapper; first | (rw [if_pos (by decide +kernel)]; kernel_rfl) | (rw [if_neg (by decide +kernel)]; exact ⟨rfl, rfl⟩))
    (fun os started H enc _ => lifted os started H enc)

/-- ████ THE STATEMENT ████ -/
theorem proved : Rows.NamesCleanSaid :=
  over
end Go.Proofs.Ytknmdpdlcmdaeaa.namesClean
namespace Go.Proofs.Ytknmdpdlcmdaeaa
theorem NamesClean_holds : Rows.NamesCleanSaid := namesClean.proved
#print axioms NamesClean_holds
end Go.Proofs.Ytknmdpdlcmdaeaa
