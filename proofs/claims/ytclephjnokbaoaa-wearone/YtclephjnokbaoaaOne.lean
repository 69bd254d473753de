/-
  What is proved: for all budgets and sectors the law WearOne answers true: an erase takes one from what is left of its sector, and of no other one (budgets of 1 to 100, six sectors; others the law lets by). Conditions: none.
-/
import Derived.Test.YtclephjnokbaoaaWAll
import Derived.Test.YtclephjnokbaoaaRows
import Derived.WalkKit
import Derived.ProofKit
import Derived.OpenShut
import Derived.ShutString
namespace Go.Proofs.Ytclephjnokbaoaa.wearOne
open Go.ChangeShapes Go.WideShapes Go.ChangeAt Go.RowKit
open Go.ChangeMaps (open_string shut_string)
set_option linter.unusedVariables false
set_option linter.unusedSimpArgs false

theorem own : ownKnob Try.prog.godebug = none := by kernel_rfl

set_option maxRecDepth 100000 in
set_option maxHeartbeats 4000000 in
theorem walk (a0 : Int) (a1 : Int) (w0 : (Lit.int .i64 a0).wf = true) (w1 : (Lit.int .i64 a1).wf = true) (w : World) :
    Calls Try.prog 4 #[.int .i64 a0, .int .i64 a1] w fun e w' => e = .returned (.bool true) ∧ Below w.heap.size w w' := by
  clear w0 w1
  by_cases c0 : a0 < 1
  · skip
    go_enter Try.func4, Try.ntmps4
    go_wp2_with (go_at_call 5; refine (alive_any _).mono ?_; rintro e w1 ⟨rfl, H1⟩)
    go_ret
    exact ⟨rfl, H1⟩
  by_cases c1 : 100 < a0
  · skip
    go_enter Try.func4, Try.ntmps4
    go_wp2_with (go_at_call 5; refine (alive_any _).mono ?_; rintro e w1 ⟨rfl, H1⟩)
    go_ret
    exact ⟨rfl, H1⟩
  by_cases c2 : a1 < 0
  · skip
    go_enter Try.func4, Try.ntmps4
    go_wp2_with (go_at_call 5; refine (alive_any _).mono ?_; rintro e w1 ⟨rfl, H1⟩)
    go_ret
    exact ⟨rfl, H1⟩
  by_cases c3 : 5 < a1
  · skip
    go_enter Try.func4, Try.ntmps4
    go_wp2_with (go_at_call 5; refine (alive_any _).mono ?_; rintro e w1 ⟨rfl, H1⟩)
    go_ret
    exact ⟨rfl, H1⟩
  obtain ⟨b, rfl⟩ := Int.eq_ofNat_of_zero_le (show 0 ≤ a0 by omega)
  obtain ⟨s, rfl⟩ := Int.eq_ofNat_of_zero_le (show 0 ≤ a1 by omega)
  have hs : s < 6 := by omega
  have hb : 1 ≤ b := by omega
  have HB := Lib.hid hb
  have q1 : IntKind.i64.wrap (6 * (b : Int)) = 6 * (b : Int) := by rw [IntKind.wrap_i64]; omega
  have q2 : IntKind.i64.wrap (6 * (b : Int) - 1) = 6 * (b : Int) - 1 := by rw [IntKind.wrap_i64]; omega
  have HS0 := Lib.hid (show sumL (fresh 6) ⟨0, 6, b⟩ 6 = 6 * (b : Int) by rw [sum_fresh (by omega) 6 (by simp)]; rfl)
  have HS1 := Lib.hid (one_sum hs hb)
  have HL0 := Lib.hid (one_best hs hb)
  obtain ⟨r, HL, HR⟩ : ∃ r : Int, Hid (leastN (aErase (fresh 6) ⟨0, 6, b⟩ (s : Int)).2 ⟨0, 6, b⟩ (s : Int) 1 = (s : Int) ∧ leastN (aErase (fresh 6) ⟨0, 6, b⟩ (s : Int)).2 ⟨0, 6, b⟩ 0 6 = r ∧ leastN (aErase (fresh 6) ⟨0, 6, b⟩ (s : Int)).2 ⟨0, 6, b⟩ 6 3 = -1) ∧ Hid (0 ≤ r ∧ ((s : Int) = 0 → r = 1) ∧ (¬ (s : Int) = 0 → r = 0)) :=
    ⟨_, Lib.hid ⟨HL0.out.1, rfl, HL0.out.2.2⟩, Lib.hid (by rw [HL0.out.2.1]; split <;> omega)⟩
  clear HL0
  have HE := Lib.hid (aErase_wears (fresh 6) ⟨0, 6, b⟩ (s : Int))
  have HFw := Lib.hid (few_aErase (few_fresh 6) ⟨0, 6, b⟩ (s : Int))
  have HO : Hid ((aErase (fresh 6) ⟨0, 6, b⟩ (s : Int)).2.ops ≤ 1000000) := Lib.hid (by have := (aErase_wears (fresh 6) ⟨0, 6, b⟩ (s : Int)).2; simp [fresh] at this ⊢; omega)
  go_enter Try.func4, Try.ntmps4
  go_wp2_with (first
    | (go_at_call 5; (with_reducible refine (alive_any _).mono ?_); rintro e wa ⟨rfl, H1⟩; have HA := Lib.hid H1; have hn := Lib.hid (new_any 6 wa); clear H1)
    | (go_at_call 6; (with_reducible refine hn.out.mono ?_); rintro e w1 ⟨g, m, k, rfl, hg, hm, hk, f1, b1⟩; rw [show sect 6 = 6 from rfl] at f1; have HN := newArea_any 0 0 6 (b : Int) w1 f1 ⟨i64_of (by omega), i64_of (by omega), i64_of (by omega)⟩; rw [rg_len, show Pt.made 6 0 6 (b : Int) = ⟨0, 6, b⟩ by have := made_n (n := 6) (b := (b : Int)) (by omega) (by omega); rw [Int.toNat_natCast] at this; exact this] at HN; unfold capCells at HN)
    | (go_at_call 8; (with_reducible refine HN.mono ?_); rintro e w2 ⟨x, rfl, hx, a2, b2⟩; clear HN; have sz := HA.out.size; have R2 := Lib.hid (rg_new (w0 := w) (n := 6) (b := (b : Int)) (by omega) (by omega) (by omega) (by omega) (by omega) f1 (belowThen HA.out b1) hx (by rw [Int.toNat_natCast]; exact a2) b2); rw [Int.toNat_natCast] at R2; clear hg hm hk f1 b1 hx a2 b2 hn sz; have HSm := Lib.hid (wsum_any w2 R2.out.ar R2.out.fl R2.out.few (by simp [fresh]) R2.out.pok); rw [HS0.out] at HSm)
    | (go_at_call 16; (with_reducible refine HSm.out.mono ?_); rintro e w3 ⟨rfl, b3⟩; clear HSm; have R3 := Lib.hid (R2.out.kept b3); have HEr := Lib.hid (aerase_any (s : Int) w3 R3.out.ar R3.out.fl R3.out.few (by simp [fresh]) R3.out.pok))
    | (go_at_call 20; (with_reducible refine HEr.out.mono ?_); rintro e w4 ⟨rfl, t4⟩; clear HEr; have R4 := Lib.hid (R3.out.to t4 HE.out.1 HFw.out); have HL1 := Lib.hid (least_any (s : Int) 1 w4 R4.out.ar R4.out.fl R4.out.few HO.out R4.out.pok (i64_of (by omega)) (i64_of (by omega))); unfold leastV at HL1; rw [HL.out.1, if_neg (by omega)] at HL1; clear R2 R3 t4)
    | (go_at_call 14; (with_reducible refine HL1.out.mono ?_); rintro e w5 ⟨rfl, b5⟩; clear HL1; have R5 := Lib.hid (R4.out.kept b5); have HL2 := Lib.hid (least_any 0 6 w5 R5.out.ar R5.out.fl R5.out.few HO.out R5.out.pok (i64_of (by omega)) (i64_of (by omega))); unfold leastV at HL2; rw [HL.out.2.1, if_neg (by have := HR.out.1; omega)] at HL2; clear R4 b5)
    | (go_at_call 14; (with_reducible refine HL2.out.mono ?_); rintro e w6 ⟨rfl, b6⟩; clear HL2; have R6 := Lib.hid (R5.out.kept b6); have HL3 := Lib.hid (least_any 6 3 w6 R6.out.ar R6.out.fl R6.out.few HO.out R6.out.pok (i64_of (by omega)) (i64_of (by omega))); unfold leastV at HL3; rw [HL.out.2.2, if_pos (by omega)] at HL3; clear R5 b6)
    | (go_at_call 14; (with_reducible refine HL3.out.mono ?_); rintro e w7 ⟨rfl, b7⟩; clear HL3; have R7 := Lib.hid (R6.out.kept b7); have HSm := Lib.hid (wsum_any w7 R7.out.ar R7.out.fl R7.out.few HO.out R7.out.pok); rw [HS1.out] at HSm; clear R6 b7)
    | (go_at_call 16; (with_reducible refine HSm.out.mono ?_); rintro e w8 ⟨rfl, b8⟩; clear HSm; have R8 := Lib.hid (R7.out.kept b8)))
  all_goals (go_ret; refine ⟨ret_bool ?_, R8.out.bel⟩; have := HR.out)
  all_goals first | rfl | (exfalso; simp only [beq_iff_eq, Bool.not_eq_true, beq_eq_false_iff_ne, ne_eq] at *; omega)
/-! ### THE ROW's STEP: WRITTEN OUT: LEAVE IT -/
set_option maxRecDepth 100000 in
theorem lifted (os : Os) (started : os.Started) (H : Type) (enc : TypeId × Value → H) :
    ReturnsInHanded {} Try.checked os 4 .any (Rows.wearOneSpec.pre6 enc Try.prog Try.f4 Rows.wearOneRow.domain false) (Rows.wearOneSpec.post enc Try.prog Try.f4 false true false false) := by
  refine returnsInHanded_of_change (C := Try.checked) own started (by kernel_rfl) Try.func4
    (ChangeSpec.witness6 (enc := enc) (C := Try.checked) false ⟨#[], #[.int .i64 0, .int .i64 0], []⟩ 8 (by kernel_rfl) (by kernel_rfl) (by kernel_rfl) (by kernel_rfl)) ?_
  intro W base args ds gs before hval0 hW hcnd _
  have hval : ∀ (j : Nat) t v, Try.f4.params[j]? = some t → args[j]? = some v → Value.okWide Try.prog W .any base t v := hval0
  have hW' := hW
  obtain ⟨p, q, hA0, hV, rfl, hfz, hnd⟩ := hW
  have hA : DataW.TrodAll enc Try.prog W 0 (fun _ => true) true Try.f4.params.toList args.toList ds p := hA0
  rw [Try.params4] at hA hval
  obtain ⟨v0, vs0, d0, ds0, p0, q0, hargs, rfl, rfl, h0, r0⟩ := trodAll_cons hA
  obtain ⟨v1, vs1, d1, ds1, p1, q1, rfl, rfl, rfl, h1, r1⟩ := trodAll_cons r0
  obtain ⟨rfl, rfl, rfl⟩ := trodAll_nil r1
  obtain rfl : args = #[v0, v1] := by cases args; simp_all
  obtain ⟨rfl, rfl⟩ := trodVars_none hV
  obtain ⟨a0, rfl, rfl, rfl, w0⟩ := open_int Try.underlying3 (hval 0 3 v0 rfl rfl) h0
  obtain ⟨a1, rfl, rfl, rfl, w1⟩ := open_int Try.underlying3 (hval 1 3 v1 rfl rfl) h1
  clear hA0 hval0
  simp only [List.append_nil] at hW'
  refine (walk a0 a1 w0 w1 W).mono fun e W' ⟨he, hg⟩ => ?_
  subst he
  exact ⟨_, rfl, ⟨_, _, _, [], [], [], hW', trodAll_cons_mk (shut_bool Try.underlying4 _) trodAll_mk0, (trodAll_cons_mk (shut_int Try.underlying3 w0) (trodAll_cons_mk (shut_int Try.underlying3 w1) trodAll_mk0)), rfl, hg.frame _, fun h => by cases h⟩⟩

theorem over : Rows.wearOneRow.holds Try.pinned (OpenSpec.ofChange Rows.wearOneSpec) :=
  OpenClaim.holds_of_wide 4 Try.f4 rfl rfl rfl rfl rfl rfl rfl ⟨rfl, rfl, rfl, rfl, rfl⟩ rfl rfl rfl rfl rfl (by kernel_rfl) Try.func4 (by kernel_rfl)
    (of_decide_eq_true (by kernel_rfl)) (by unfold Func.isWrapper; first | (rw [if_pos (by decide +kernel)]; kernel_rfl) | (rw [if_neg (by decide +kernel)]; exact ⟨rfl, rfl⟩))
    (fun os started H enc _ => lifted os started H enc)

/-- ████ THE STATEMENT ████ -/
theorem proved : Rows.WearOneSaid :=
  over
end Go.Proofs.Ytclephjnokbaoaa.wearOne
namespace Go.Proofs.Ytclephjnokbaoaa
theorem WearOne_holds : Rows.WearOneSaid := wearOne.proved
#print axioms WearOne_holds
end Go.Proofs.Ytclephjnokbaoaa
