/-
  What is proved: for all numbers the law NorBounds answers true: what does not lie within a flash is refused, and turns nothing (up to 5 sectors, 1 to 700 bytes; others the law lets by). Conditions: none.
-/
import Derived.Test.YtobjolcacopgbaaFacts
import Derived.Test.YtobjolcacopgbaaRows
import Derived.WalkKit
import Derived.ProofKit
import Derived.OpenShut
import Derived.ShutString
namespace Go.Proofs.Ytobjolcacopgbaa.norBounds
open Go.ChangeShapes Go.WideShapes Go.ChangeAt Go.RowKit
open Go.ChangeMaps (open_string shut_string)
set_option linter.unusedVariables false      -- a walk need not use every 'w<i>' (that an integer argument fits its kind)

theorem own : ownKnob Try.prog.godebug = none := by kernel_rfl

set_option maxRecDepth 100000 in
set_option maxHeartbeats 1000000 in
theorem walk (a0 : Int) (a1 : Int) (a2 : Int) (w0 : (Lit.int .i64 a0).wf = true) (w1 : (Lit.int .i64 a1).wf = true) (w2 : (Lit.int .i64 a2).wf = true) (w : World) :
    Calls Try.prog 7 #[.int .i64 a0, .int .i64 a1, .int .i64 a2] w fun e w' => e = .returned (.bool true) ∧ Below w.heap.size w w' := by
  have hat : I64 a1 := by have := bounds_i64 w1; exact ⟨by omega, by omega⟩
  have hsz := bounds_i64 w2
  have hn := bounds_i64 w0
  clear w0 w1 w2
  by_cases h0 : a0 < 0
  · have d0 : decide (a0 < 0) = true := by simpa using h0
    go_enter Try.func7, Try.ntmps7
    go_wp2_with (go_at_call 8; refine (alive_any _).mono ?_; rintro e w1 ⟨rfl, H1⟩)
    go_ret
    exact ⟨rfl, H1⟩
  have d0 : decide (a0 < 0) = false := by simpa using h0
  by_cases h1 : 5 < a0
  · have d1 : decide (5 < a0) = true := by simpa using h1
    go_enter Try.func7, Try.ntmps7
    go_wp2_with (go_at_call 8; refine (alive_any _).mono ?_; rintro e w1 ⟨rfl, H1⟩)
    go_ret
    exact ⟨rfl, H1⟩
  have d1 : decide (5 < a0) = false := by simpa using h1
  by_cases h2 : a2 < 1
  · have d2 : decide (a2 < 1) = true := by simpa using h2
    go_enter Try.func7, Try.ntmps7
    go_wp2_with (go_at_call 8; refine (alive_any _).mono ?_; rintro e w1 ⟨rfl, H1⟩)
    go_ret
    exact ⟨rfl, H1⟩
  have d2 : decide (a2 < 1) = false := by simpa using h2
  by_cases h3 : 700 < a2
  · have d3 : decide (700 < a2) = true := by simpa using h3
    go_enter Try.func7, Try.ntmps7
    go_wp2_with (go_at_call 8; refine (alive_any _).mono ?_; rintro e w1 ⟨rfl, H1⟩)
    go_ret
    exact ⟨rfl, H1⟩
  have d3 : decide (700 < a2) = false := by simpa using h3
  obtain ⟨n, rfl⟩ := Int.eq_ofNat_of_zero_le (show 0 ≤ a0 by omega)
  obtain ⟨sz, rfl⟩ := Int.eq_ofNat_of_zero_le (show 0 ≤ a2 by omega)
  have hn5 : n ≤ 5 := by omega
  have hs1 : 1 ≤ sz := by omega
  have hs7 : sz ≤ 700 := by omega
  have s0 : (0 : Int) ≤ (sz : Int) := by omega
  have HSE := Lib.hid (sect_nat (show n ≤ 400 by omega))
  have HAT := Lib.hid hat
  clear hsz hn
  by_cases hin : 0 ≤ a1 ∧ a1 ≤ (320 * n : Nat) - (sz : Int)
  · obtain ⟨a, rfl⟩ := Int.eq_ofNat_of_zero_le hin.1
    have i0 : (0 : Int) ≤ (a : Int) := by omega
    have i1 : (a : Int) ≤ (n : Int) * 320 - (sz : Int) := by omega
    obtain ⟨e1, e2, e3⟩ := bounds_in hs1 (show a + sz ≤ 320 * n by omega)
    have E1 := Lib.hid e1
    have E2 := Lib.hid e2
    have E3 := Lib.hid e3
    clear e1 e2 e3 hin hat
    go_enter Try.func7, Try.ntmps7
    go_wp2_with (first
      | (go_at_call 8; refine (alive_any _).mono ?_; rintro e w1 ⟨rfl, H1⟩)
      | (go_at_call 9; refine (new_any _ _).mono ?_; rintro e w2 ⟨g, m, k, rfl, hg, hm, hk, f2, b2⟩; rw [HSE.out] at f2; have P2 := Lib.hid (program_any a (some ⟨w2.heap.size, 0, none⟩) sz sz (List.replicate sz 0) (w2.alloc (.cells (zeroBytes sz) 5)) HAT.out (f2.lit _) (row_text w2 (List.replicate sz 0) (byt_same _ _ (by omega)) sz List.length_replicate (0, 0)) (f2.away (Nat.le_refl _)) (by simp [fresh])); have hmk := make_bytes sz (by omega) w2; have B2 := Lib.hid (below_lit b2 (.cells (zeroBytes sz) 5)); clear b2 f2)
      | (go_at_call 13; refine P2.out.mono ?_; rintro e w3 ⟨rfl, f3, o3⟩; have B3 := Lib.hid (below_to B2.out hg hm hk o3); have F3 := Lib.hid f3; clear f3 o3 P2 hmk; rw [E1.out])
      | (go_at_call 27; refine (read_any a sz _ HAT.out (i64_small (by omega)) F3.out).mono ?_; rintro e w4 ⟨A4, c4, rfl, hc4, r4, hb4, b4⟩; have F4 := Lib.hid (F3.out.kept b4); have B4 := Lib.hid (B3.out.trans (b4.mono B3.out.size)); clear b4 hb4; rw [E3.out])
      | (go_at_call 12; refine (num_any _ _).mono ?_; rintro e w5 ⟨rfl, rfl⟩)
      | (go_at_call 22; refine (ops_any _ F4.out).mono ?_; rintro e w5 ⟨rfl, rfl⟩; rw [E2.out]))
    go_ret
    exact ⟨rfl, H1.trans (B4.out.mono H1.size)⟩
  · obtain ⟨e1, e2⟩ := bounds_out hin hs1
    have E1 := Lib.hid e1
    have E2 := Lib.hid e2
    have z0 : ¬ sz = 0 := by omega
    have z1 : ¬ 0 = sz := by omega
    have z2 : ((0 : Int) == (sz : Int)) = false := by simpa using (show ¬ (0 : Int) = (sz : Int) by omega)
    clear e1 e2
    by_cases i0 : 0 ≤ a1
    · have i1 : ¬ a1 ≤ (n : Int) * 320 - (sz : Int) := by omega
      have j0 : decide (0 ≤ a1) = true := by simpa using i0
      have j1 : decide (a1 ≤ (n : Int) * 320 - (sz : Int)) = false := by simpa using i1
      clear hin hat
      go_enter Try.func7, Try.ntmps7
      go_wp2_with (first
        | (go_at_call 8; refine (alive_any _).mono ?_; rintro e w1 ⟨rfl, H1⟩)
        | (go_at_call 9; refine (new_any _ _).mono ?_; rintro e w2 ⟨g, m, k, rfl, hg, hm, hk, f2, b2⟩; rw [HSE.out] at f2; have P2 := Lib.hid (program_any a1 (some ⟨w2.heap.size, 0, none⟩) sz sz (List.replicate sz 0) (w2.alloc (.cells (zeroBytes sz) 5)) HAT.out (f2.lit _) (row_text w2 (List.replicate sz 0) (byt_same _ _ (by omega)) sz List.length_replicate (0, 0)) (f2.away (Nat.le_refl _)) (by simp [fresh])); have hmk := make_bytes sz (by omega) w2; have B2 := Lib.hid (below_lit b2 (.cells (zeroBytes sz) 5)); clear b2 f2)
        | (go_at_call 13; refine P2.out.mono ?_; rintro e w3 ⟨rfl, f3, o3⟩; have B3 := Lib.hid (below_to B2.out hg hm hk o3); have F3 := Lib.hid f3; clear f3 o3 P2 hmk; rw [E1.out] at F3 ⊢)
        | (go_at_call 27; refine (read_any a1 sz _ HAT.out (i64_small (by omega)) F3.out).mono ?_; rintro e w4 ⟨A4, c4, rfl, hc4, r4, hb4, b4⟩; have F4 := Lib.hid (F3.out.kept b4); have B4 := Lib.hid (B3.out.trans (b4.mono B3.out.size)); clear b4 hb4; rw [E2.out] at r4 ⊢)
        | (go_at_call 12; refine (num_any _ _).mono ?_; rintro e w5 ⟨rfl, rfl⟩)
        | (go_at_call 22; refine (ops_any _ F4.out).mono ?_; rintro e w5 ⟨rfl, rfl⟩; skip))
      go_loop [12] (fun i => ∃ j : Nat, j ≤ n ∧ i = .int .i64 (j : Int)) (fun i => n - (intOf i).toNat)
      case atStart => exact ⟨0, by omega, rfl⟩
      case round =>
        obtain ⟨j, hj, rfl⟩ := hrel
        have j9 : (0 : Int) ≤ (j : Int) := by omega
        by_cases hlt : j < n
        · have HBL := Lib.hid (fresh_blank hlt)
          go_wp2_with (go_at_call 25; refine (blank_any _ _ F4.out).mono ?_; rintro e w5 ⟨rfl, rfl⟩; rw [HBL.out])
          go_round
          case rel => exact ⟨j + 1, by omega, by go_num⟩
          case measure => simp [intOf]; omega
        · obtain rfl : j = n := by omega
          go_wp2_with (go_at_call 22; refine (ops_any _ F4.out).mono ?_; rintro e w5 ⟨rfl, rfl⟩; rw [show (fresh j).ops = 0 from rfl])
          go_ret
          exact ⟨rfl, H1.trans (B4.out.mono H1.size)⟩
    · have j0 : decide (0 ≤ a1) = false := by simpa using i0
      clear hin hat
      go_enter Try.func7, Try.ntmps7
      go_wp2_with (first
        | (go_at_call 8; refine (alive_any _).mono ?_; rintro e w1 ⟨rfl, H1⟩)
        | (go_at_call 9; refine (new_any _ _).mono ?_; rintro e w2 ⟨g, m, k, rfl, hg, hm, hk, f2, b2⟩; rw [HSE.out] at f2; have P2 := Lib.hid (program_any a1 (some ⟨w2.heap.size, 0, none⟩) sz sz (List.replicate sz 0) (w2.alloc (.cells (zeroBytes sz) 5)) HAT.out (f2.lit _) (row_text w2 (List.replicate sz 0) (byt_same _ _ (by omega)) sz List.length_replicate (0, 0)) (f2.away (Nat.le_refl _)) (by simp [fresh])); have hmk := make_bytes sz (by omega) w2; have B2 := Lib.hid (below_lit b2 (.cells (zeroBytes sz) 5)); clear b2 f2)
        | (go_at_call 13; refine P2.out.mono ?_; rintro e w3 ⟨rfl, f3, o3⟩; have B3 := Lib.hid (below_to B2.out hg hm hk o3); have F3 := Lib.hid f3; clear f3 o3 P2 hmk; rw [E1.out] at F3 ⊢)
        | (go_at_call 27; refine (read_any a1 sz _ HAT.out (i64_small (by omega)) F3.out).mono ?_; rintro e w4 ⟨A4, c4, rfl, hc4, r4, hb4, b4⟩; have F4 := Lib.hid (F3.out.kept b4); have B4 := Lib.hid (B3.out.trans (b4.mono B3.out.size)); clear b4 hb4; rw [E2.out] at r4 ⊢)
        | (go_at_call 12; refine (num_any _ _).mono ?_; rintro e w5 ⟨rfl, rfl⟩)
        | (go_at_call 22; refine (ops_any _ F4.out).mono ?_; rintro e w5 ⟨rfl, rfl⟩; skip))
      go_loop [12] (fun i => ∃ j : Nat, j ≤ n ∧ i = .int .i64 (j : Int)) (fun i => n - (intOf i).toNat)
      case atStart => exact ⟨0, by omega, rfl⟩
      case round =>
        obtain ⟨j, hj, rfl⟩ := hrel
        have j9 : (0 : Int) ≤ (j : Int) := by omega
        by_cases hlt : j < n
        · have HBL := Lib.hid (fresh_blank hlt)
          go_wp2_with (go_at_call 25; refine (blank_any _ _ F4.out).mono ?_; rintro e w5 ⟨rfl, rfl⟩; rw [HBL.out])
          go_round
          case rel => exact ⟨j + 1, by omega, by go_num⟩
          case measure => simp [intOf]; omega
        · obtain rfl : j = n := by omega
          go_wp2_with (go_at_call 22; refine (ops_any _ F4.out).mono ?_; rintro e w5 ⟨rfl, rfl⟩; rw [show (fresh j).ops = 0 from rfl])
          go_ret
          exact ⟨rfl, H1.trans (B4.out.mono H1.size)⟩

/-! ### THE ROW's STEP: WRITTEN OUT: LEAVE IT -/
set_option maxRecDepth 100000 in
theorem lifted (os : Os) (started : os.Started) (H : Type) (enc : TypeId × Value → H) :
    ReturnsInHanded {} Try.checked os 7 .any (Rows.norBoundsSpec.pre6 enc Try.prog Try.f7 Rows.norBoundsRow.domain false) (Rows.norBoundsSpec.post enc Try.prog Try.f7 false true false false) := by
  refine returnsInHanded_of_change (C := Try.checked) own started (by kernel_rfl) Try.func7
    (ChangeSpec.witness6 (enc := enc) (C := Try.checked) false ⟨#[], #[.int .i64 0, .int .i64 0, .int .i64 0], []⟩ 8 (by kernel_rfl) (by kernel_rfl) (by kernel_rfl) (by kernel_rfl)) ?_
  intro W base args ds gs before hval0 hW hcnd _
  have hval : ∀ (j : Nat) t v, Try.f7.params[j]? = some t → args[j]? = some v → Value.okWide Try.prog W .any base t v := hval0
  have hW' := hW
  obtain ⟨p, q, hA0, hV, rfl, hfz, hnd⟩ := hW
  have hA : DataW.TrodAll enc Try.prog W 0 (fun _ => true) true Try.f7.params.toList args.toList ds p := hA0
  rw [Try.params7] at hA hval
  obtain ⟨v0, vs0, d0, ds0, p0, q0, hargs, rfl, rfl, h0, r0⟩ := trodAll_cons hA
  obtain ⟨v1, vs1, d1, ds1, p1, q1, rfl, rfl, rfl, h1, r1⟩ := trodAll_cons r0
  obtain ⟨v2, vs2, d2, ds2, p2, q2, rfl, rfl, rfl, h2, r2⟩ := trodAll_cons r1
  obtain ⟨rfl, rfl, rfl⟩ := trodAll_nil r2
  obtain rfl : args = #[v0, v1, v2] := by cases args; simp_all
  obtain ⟨rfl, rfl⟩ := trodVars_none hV
  obtain ⟨a0, rfl, rfl, rfl, w0⟩ := open_int Try.underlying3 (hval 0 3 v0 rfl rfl) h0
  obtain ⟨a1, rfl, rfl, rfl, w1⟩ := open_int Try.underlying3 (hval 1 3 v1 rfl rfl) h1
  obtain ⟨a2, rfl, rfl, rfl, w2⟩ := open_int Try.underlying3 (hval 2 3 v2 rfl rfl) h2
  clear hA0 hval0
  simp only [List.append_nil] at hW'
  refine (walk a0 a1 a2 w0 w1 w2 W).mono fun e W' ⟨he, hg⟩ => ?_
  subst he
  exact ⟨_, rfl, ⟨_, _, _, [], [], [], hW', trodAll_cons_mk (shut_bool Try.underlying4 _) trodAll_mk0, (trodAll_cons_mk (shut_int Try.underlying3 w0) (trodAll_cons_mk (shut_int Try.underlying3 w1) (trodAll_cons_mk (shut_int Try.underlying3 w2) trodAll_mk0))), rfl, hg.frame _, fun h => by cases h⟩⟩

theorem over : Rows.norBoundsRow.holds Try.pinned (OpenSpec.ofChange Rows.norBoundsSpec) :=
  OpenClaim.holds_of_wide 7 Try.f7 rfl rfl rfl rfl rfl rfl rfl ⟨rfl, rfl, rfl, rfl, rfl⟩ rfl rfl rfl rfl rfl (by kernel_rfl) Try.func7 (by kernel_rfl)
    (of_decide_eq_true (by kernel_rfl)) (by unfold Func.isWrapper; first | (rw [if_pos (by decide +kernel)]; kernel_rfl) | (rw [if_neg (by decide +kernel)]; exact ⟨rfl, rfl⟩))
    (fun os started H enc _ => lifted os started H enc)

/-- ████ THE STATEMENT ████ -/
theorem proved : Rows.NorBoundsSaid :=
  over
end Go.Proofs.Ytobjolcacopgbaa.norBounds
namespace Go.Proofs.Ytobjolcacopgbaa
theorem NorBounds_holds : Rows.NorBoundsSaid := norBounds.proved
#print axioms NorBounds_holds
end Go.Proofs.Ytobjolcacopgbaa
