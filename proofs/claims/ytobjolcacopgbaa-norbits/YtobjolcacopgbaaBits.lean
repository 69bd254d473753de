/-
  What is proved: for all places and bytes the law NorBits answers true: a byte can be made another one just if no bit must be set, and erasing sets all of its sector, and of no other one (places within three sectors; others the law lets by). Conditions: none.
-/
import Derived.Test.YtobjolcacopgbaaOneb
import Derived.Test.YtobjolcacopgbaaRows
import Derived.WalkKit
import Derived.ProofKit
import Derived.OpenShut
import Derived.ShutString
namespace Go.Proofs.Ytobjolcacopgbaa.norBits
open Go.ChangeShapes Go.WideShapes Go.ChangeAt Go.RowKit
open Go.ChangeMaps (open_string shut_string)
set_option linter.unusedVariables false      -- a walk need not use every 'w<i>' (that an integer argument fits its kind)

theorem own : ownKnob Try.prog.godebug = none := by kernel_rfl

theorem same_clear : ∀ n : Fin 256, n.val &&& (255 - n.val) = 0 := by decide +kernel
theorem quo320 (a : Nat) : (a : Int).tdiv 320 = ((a / 320 : Nat) : Int) := by
  rw [Int.tdiv_eq_ediv_of_nonneg (by omega)]; omega
theorem rem960 (a : Nat) : ((a : Int) + 320).tmod 960 = (((a + 320) % 960 : Nat) : Int) := by
  rw [Int.tmod_eq_emod_of_nonneg (by omega)]; omega
set_option maxRecDepth 100000 in
set_option maxHeartbeats 2000000 in
theorem walk (a0 : Int) (a1 : Int) (a2 : Int) (w0 : (Lit.int .i64 a0).wf = true) (w1 : (Lit.int .u8 a1).wf = true) (w2 : (Lit.int .u8 a2).wf = true) (w : World) :
    Calls Try.prog 4 #[.int .i64 a0, .int .u8 a1, .int .u8 a2] w fun e w' => e = .returned (.bool true) ∧ Below w.heap.size w w' := by
  have hx : 0 ≤ a1 ∧ a1 ≤ 255 := bounds_u8 w1
  have hy : 0 ≤ a2 ∧ a2 ≤ 255 := bounds_u8 w2
  have hn := bounds_i64 w0
  clear w0 w1 w2
  by_cases h0 : a0 < 0
  · have d0 : decide (a0 < 0) = true := by simpa using h0
    go_enter Try.func4, Try.ntmps4
    go_wp2_with (go_at_call 8; refine (alive_any _).mono ?_; rintro e w1 ⟨rfl, H1⟩)
    go_ret
    exact ⟨rfl, H1⟩
  have d0 : decide (a0 < 0) = false := by simpa using h0
  by_cases h1 : 960 ≤ a0
  · have d1 : decide (960 ≤ a0) = true := by simpa using h1
    go_enter Try.func4, Try.ntmps4
    go_wp2_with (go_at_call 8; refine (alive_any _).mono ?_; rintro e w1 ⟨rfl, H1⟩)
    go_ret
    exact ⟨rfl, H1⟩
  have d1 : decide (960 ≤ a0) = false := by simpa using h1
  obtain ⟨a, rfl⟩ := Int.eq_ofNat_of_zero_le (show 0 ≤ a0 by omega)
  have ha : a < 960 := by omega
  have hq := quo320 a
  have hr := rem960 a
  have hq2 : a / 320 < 3 := by omega
  obtain ⟨o, hoe⟩ : ∃ o, (a + 320) % 960 = o := ⟨_, rfl⟩
  have ho : o < 960 := by omega
  have hne : a ≠ o := by omega
  have hos : o / 320 ≠ a / 320 := by omega
  rw [hoe] at hr
  clear hoe
  obtain ⟨e1, e2, e3, e4, e5⟩ := bits3 ha ho hne hx hy
  obtain ⟨v, hv⟩ : ∃ v, (if bits .andNot .u8 a2 a1 = 0 then a2 else a1) = v := ⟨_, rfl⟩
  rw [hv] at e5
  obtain ⟨g1, g2, g3, g4, g5, g6⟩ := bits_end e5 ha ho hos
  have HE := clear_is hy hx
  have E1 := Lib.hid e1
  have E2 := Lib.hid e2
  have E4 := Lib.hid e4
  have HB := Lib.hid e5
  have G1 := Lib.hid g1
  have G2 := Lib.hid g2
  have G3 := Lib.hid g3
  have G4 := Lib.hid g4
  have G5 := Lib.hid g5
  have G6 := Lib.hid g6
  have HX := Lib.hid hx
  have HY := Lib.hid hy
  have HAT : Hid (I64 (a : Int)) := Lib.hid (i64_small (by omega))
  have HOT : Hid (I64 (o : Int)) := Lib.hid (i64_small (by omega))
  have a0' : (0 : Int) ≤ (a : Int) := by omega
  clear hn e1 e2 e4 e5 g1 g2 g3 g4 g5 g6 hos hne
  generalize hS : a / 320 = s at *
  by_cases hz : bits .andNot .u8 a2 a1 = 0
  · rw [if_pos hz] at hv e3
    subst hv
    have E3 := Lib.hid e3
    clear e3
    generalize a1 = x at *
    generalize a2 = y at *
    go_enter Try.func4, Try.ntmps4
    go_wp2_with (first
      | (go_at_call 8; refine (alive_any _).mono ?_; rintro e w1 ⟨rfl, H1⟩)
      | (go_at_call 9; refine (new_any _ _).mono ?_; rintro e w2 ⟨g, m, k, rfl, hg, hm, hk, f2, b2⟩; rw [sect3] at f2; have P2 := Lib.hid (program_any a (some ⟨w2.heap.size, 0, none⟩) 1 1 [x] (w2.alloc (.cells #[.int .u8 x] 5)) HAT.out (f2.lit _) (row_text w2 [x] (byt_one HX.out) 1 rfl (0, 0)) (f2.away (Nat.le_refl _)) (by simp [fresh])); have B2 := Lib.hid (below_lit b2 (.cells #[.int .u8 x] 5)); clear b2 f2)
      | (go_at_call_of 13 (Value.slice (some ⟨w2.heap.size, 0, none⟩) 1 1); refine P2.out.mono ?_; rintro e w3 ⟨rfl, f3, o3⟩; have B3 := Lib.hid (below_to B2.out hg hm hk o3); have P3 := Lib.hid (program_any a (some ⟨w3.heap.size, 0, none⟩) 1 1 [y] (w3.alloc (.cells #[.int .u8 y] 5)) HAT.out (f3.lit _) (row_text w3 [y] (byt_one HY.out) 1 rfl (0, 0)) (f3.away (Nat.le_refl _)) (by have := E2.out; omega)); have B3' := Lib.hid (below_lit B3.out (.cells #[.int .u8 y] 5)); clear f3 o3 P2; rw [E1.out])
      | (go_at_call_of 13 (Value.slice (some ⟨w3.heap.size, 0, none⟩) 1 1); refine P3.out.mono ?_; rintro e w4 ⟨rfl, f4, o4⟩; have B4 := Lib.hid (below_to B3'.out hg hm hk o4); have P4 := Lib.hid (program_any o (some ⟨w4.heap.size, 0, none⟩) 1 1 [7] (w4.alloc (.cells #[.int .u8 7] 5)) HOT.out (f4.lit _) (row_text w4 [7] (byt_one (by omega)) 1 rfl (0, 0)) (f4.away (Nat.le_refl _)) (by have := E4.out; omega)); have B4' := Lib.hid (below_lit B4.out (.cells #[.int .u8 7] 5)); clear f4 o4 P3; rw [E3.out])
      | (go_at_call_of 13 (Value.slice (some ⟨w4.heap.size, 0, none⟩) 1 1); refine P4.out.mono ?_; rintro e w5 ⟨rfl, f5, o5⟩; have B5 := Lib.hid (below_to B4'.out hg hm hk o5); have F5 := Lib.hid f5; clear f5 o5 P4)
      | (go_at_call 27; (with_reducible refine (read_any a 1 w5 HAT.out (i64_small (by omega)) F5.out).mono ?_); rintro e w6 ⟨A6, c6, rfl, hc6, r6, hb6, b6⟩; have F6 := Lib.hid (F5.out.kept b6); have B6 := Lib.hid (B5.out.trans (b6.mono B5.out.size)); clear b6 hb6; rw [G1.out] at r6 ⊢; obtain ⟨bb6, oo6, rfl, _, q6⟩ := row_open r6 (by simp); have q6' : w6.cell? ⟨bb6, oo6, none⟩ = some (.int .u8 y) := q6 0 (by simp); clear q6 r6)
      | (go_at_call 12; refine (num_any _ _).mono ?_; rintro e w9 ⟨rfl, rfl⟩)
      | (go_at_call 11; refine (erase_any _ _ F6.out (by have := HB.out.few; omega) G6.out).mono ?_; rintro e w7 ⟨rfl, f7, o7⟩; have B7 := Lib.hid (below_to B6.out hg hm hk o7); have F7 := Lib.hid f7; clear f7 o7; rw [G2.out])
      | (go_at_call 27; (with_reducible refine (read_any o 1 w7 HOT.out (i64_small (by omega)) F7.out).mono ?_); rintro e w8 ⟨A8, c8, rfl, hc8, r8, hb8, b8⟩; have F8 := Lib.hid (F7.out.kept b8); have B8 := Lib.hid (B7.out.trans (b8.mono B7.out.size)); clear b8 hb8; rw [G3.out] at r8 ⊢; obtain ⟨bb8, oo8, rfl, _, q8⟩ := row_open r8 (by simp); have q8' : w8.cell? ⟨bb8, oo8, none⟩ = some (.int .u8 7) := q8 0 (by simp); clear q8 r8)
      | (go_at_call 25; refine (blank_any _ _ F8.out).mono ?_; rintro e w9 ⟨rfl, rfl⟩; rw [G4.out])
      | (go_at_call 23; refine (wear_any _ _ F8.out).mono ?_; rintro e w9 ⟨rfl, rfl⟩; rw [G5.out]))
    go_ret
    exact ⟨rfl, H1.trans (B8.out.mono H1.size)⟩
  · rw [if_neg hz] at hv e3
    subst hv
    have E3 := Lib.hid e3
    clear e3
    have hab : ¬ a1 = a2 := fun e => hz (by rw [e]; have := clear_is HY.out HY.out; rw [u8_andNot a2 a2 HY.out.1 (by have := HY.out.2; omega) HY.out.1 (by have := HY.out.2; omega)]; obtain ⟨n, hn⟩ := Int.eq_ofNat_of_zero_le HY.out.1; have h2 := HY.out.2; rw [hn]; rw [hn] at h2; have := same_clear ⟨n, by omega⟩; simpa using this)
    have hzb : (bits .andNot .u8 a2 a1 == 0) = false := by simpa using hz
    have habb : (a1 == a2) = false := by simpa using hab
    generalize a1 = x at *
    generalize a2 = y at *
    go_enter Try.func4, Try.ntmps4
    go_wp2_with (first
      | (go_at_call 8; refine (alive_any _).mono ?_; rintro e w1 ⟨rfl, H1⟩)
      | (go_at_call 9; refine (new_any _ _).mono ?_; rintro e w2 ⟨g, m, k, rfl, hg, hm, hk, f2, b2⟩; rw [sect3] at f2; have P2 := Lib.hid (program_any a (some ⟨w2.heap.size, 0, none⟩) 1 1 [x] (w2.alloc (.cells #[.int .u8 x] 5)) HAT.out (f2.lit _) (row_text w2 [x] (byt_one HX.out) 1 rfl (0, 0)) (f2.away (Nat.le_refl _)) (by simp [fresh])); have B2 := Lib.hid (below_lit b2 (.cells #[.int .u8 x] 5)); clear b2 f2)
      | (go_at_call_of 13 (Value.slice (some ⟨w2.heap.size, 0, none⟩) 1 1); refine P2.out.mono ?_; rintro e w3 ⟨rfl, f3, o3⟩; have B3 := Lib.hid (below_to B2.out hg hm hk o3); have P3 := Lib.hid (program_any a (some ⟨w3.heap.size, 0, none⟩) 1 1 [y] (w3.alloc (.cells #[.int .u8 y] 5)) HAT.out (f3.lit _) (row_text w3 [y] (byt_one HY.out) 1 rfl (0, 0)) (f3.away (Nat.le_refl _)) (by have := E2.out; omega)); have B3' := Lib.hid (below_lit B3.out (.cells #[.int .u8 y] 5)); clear f3 o3 P2; rw [E1.out])
      | (go_at_call_of 13 (Value.slice (some ⟨w3.heap.size, 0, none⟩) 1 1); refine P3.out.mono ?_; rintro e w4 ⟨rfl, f4, o4⟩; have B4 := Lib.hid (below_to B3'.out hg hm hk o4); have P4 := Lib.hid (program_any o (some ⟨w4.heap.size, 0, none⟩) 1 1 [7] (w4.alloc (.cells #[.int .u8 7] 5)) HOT.out (f4.lit _) (row_text w4 [7] (byt_one (by omega)) 1 rfl (0, 0)) (f4.away (Nat.le_refl _)) (by have := E4.out; omega)); have B4' := Lib.hid (below_lit B4.out (.cells #[.int .u8 7] 5)); clear f4 o4 P3; rw [E3.out])
      | (go_at_call_of 13 (Value.slice (some ⟨w4.heap.size, 0, none⟩) 1 1); refine P4.out.mono ?_; rintro e w5 ⟨rfl, f5, o5⟩; have B5 := Lib.hid (below_to B4'.out hg hm hk o5); have F5 := Lib.hid f5; clear f5 o5 P4)
      | (go_at_call 27; (with_reducible refine (read_any a 1 w5 HAT.out (i64_small (by omega)) F5.out).mono ?_); rintro e w6 ⟨A6, c6, rfl, hc6, r6, hb6, b6⟩; have F6 := Lib.hid (F5.out.kept b6); have B6 := Lib.hid (B5.out.trans (b6.mono B5.out.size)); clear b6 hb6; rw [G1.out] at r6 ⊢; obtain ⟨bb6, oo6, rfl, _, q6⟩ := row_open r6 (by simp); have q6' : w6.cell? ⟨bb6, oo6, none⟩ = some (.int .u8 x) := q6 0 (by simp); clear q6 r6)
      | (go_at_call 12; refine (num_any _ _).mono ?_; rintro e w9 ⟨rfl, rfl⟩)
      | (go_at_call 11; refine (erase_any _ _ F6.out (by have := HB.out.few; omega) G6.out).mono ?_; rintro e w7 ⟨rfl, f7, o7⟩; have B7 := Lib.hid (below_to B6.out hg hm hk o7); have F7 := Lib.hid f7; clear f7 o7; rw [G2.out])
      | (go_at_call 27; (with_reducible refine (read_any o 1 w7 HOT.out (i64_small (by omega)) F7.out).mono ?_); rintro e w8 ⟨A8, c8, rfl, hc8, r8, hb8, b8⟩; have F8 := Lib.hid (F7.out.kept b8); have B8 := Lib.hid (B7.out.trans (b8.mono B7.out.size)); clear b8 hb8; rw [G3.out] at r8 ⊢; obtain ⟨bb8, oo8, rfl, _, q8⟩ := row_open r8 (by simp); have q8' : w8.cell? ⟨bb8, oo8, none⟩ = some (.int .u8 7) := q8 0 (by simp); clear q8 r8)
      | (go_at_call 25; refine (blank_any _ _ F8.out).mono ?_; rintro e w9 ⟨rfl, rfl⟩; rw [G4.out])
      | (go_at_call 23; refine (wear_any _ _ F8.out).mono ?_; rintro e w9 ⟨rfl, rfl⟩; rw [G5.out]))
    go_ret
    exact ⟨rfl, H1.trans (B8.out.mono H1.size)⟩

/-! ### THE ROW's STEP: WRITTEN OUT: LEAVE IT -/
set_option maxRecDepth 100000 in
theorem lifted (os : Os) (started : os.Started) (H : Type) (enc : TypeId × Value → H) :
    ReturnsInHanded {} Try.checked os 4 .any (Rows.norBitsSpec.pre6 enc Try.prog Try.f4 Rows.norBitsRow.domain false) (Rows.norBitsSpec.post enc Try.prog Try.f4 false true false false) := by
  refine returnsInHanded_of_change (C := Try.checked) own started (by kernel_rfl) Try.func4
    (ChangeSpec.witness6 (enc := enc) (C := Try.checked) false ⟨#[], #[.int .i64 0, .int .u8 0, .int .u8 0], []⟩ 8 (by kernel_rfl) (by kernel_rfl) (by kernel_rfl) (by kernel_rfl)) ?_
  intro W base args ds gs before hval0 hW hcnd _
  have hval : ∀ (j : Nat) t v, Try.f4.params[j]? = some t → args[j]? = some v → Value.okWide Try.prog W .any base t v := hval0
  have hW' := hW
  obtain ⟨p, q, hA0, hV, rfl, hfz, hnd⟩ := hW
  have hA : DataW.TrodAll enc Try.prog W 0 (fun _ => true) true Try.f4.params.toList args.toList ds p := hA0
  rw [Try.params4] at hA hval
  obtain ⟨v0, vs0, d0, ds0, p0, q0, hargs, rfl, rfl, h0, r0⟩ := trodAll_cons hA
  obtain ⟨v1, vs1, d1, ds1, p1, q1, rfl, rfl, rfl, h1, r1⟩ := trodAll_cons r0
  obtain ⟨v2, vs2, d2, ds2, p2, q2, rfl, rfl, rfl, h2, r2⟩ := trodAll_cons r1
  obtain ⟨rfl, rfl, rfl⟩ := trodAll_nil r2
  obtain rfl : args = #[v0, v1, v2] := by cases args; simp_all
  obtain ⟨rfl, rfl⟩ := trodVars_none hV
  obtain ⟨a0, rfl, rfl, rfl, w0⟩ := open_int Try.underlying3 (hval 0 3 v0 rfl rfl) h0
  obtain ⟨a1, rfl, rfl, rfl, w1⟩ := open_int Try.underlying5 (hval 1 5 v1 rfl rfl) h1
  obtain ⟨a2, rfl, rfl, rfl, w2⟩ := open_int Try.underlying5 (hval 2 5 v2 rfl rfl) h2
  clear hA0 hval0
  simp only [List.append_nil] at hW'
  refine (walk a0 a1 a2 w0 w1 w2 W).mono fun e W' ⟨he, hg⟩ => ?_
  subst he
  exact ⟨_, rfl, ⟨_, _, _, [], [], [], hW', trodAll_cons_mk (shut_bool Try.underlying4 _) trodAll_mk0, (trodAll_cons_mk (shut_int Try.underlying3 w0) (trodAll_cons_mk (shut_int Try.underlying5 w1) (trodAll_cons_mk (shut_int Try.underlying5 w2) trodAll_mk0))), rfl, hg.frame _, fun h => by cases h⟩⟩

theorem over : Rows.norBitsRow.holds Try.pinned (OpenSpec.ofChange Rows.norBitsSpec) :=
  OpenClaim.holds_of_wide 4 Try.f4 rfl rfl rfl rfl rfl rfl rfl ⟨rfl, rfl, rfl, rfl, rfl⟩ rfl rfl rfl rfl rfl (by kernel_rfl) Try.func4 (by kernel_rfl)
    (of_decide_eq_true (by kernel_rfl)) (by unfold Func.isWrapper; first | (rw [if_pos (by decide +kernel)]; kernel_rfl) | (rw [if_neg (by decide +kernel)]; exact ⟨rfl, rfl⟩))
    (fun os started H enc _ => lifted os started H enc)

/-- ████ THE STATEMENT ████ -/
theorem proved : Rows.NorBitsSaid :=
  over
end Go.Proofs.Ytobjolcacopgbaa.norBits
namespace Go.Proofs.Ytobjolcacopgbaa
theorem NorBits_holds : Rows.NorBitsSaid := norBits.proved
#print axioms NorBits_holds
end Go.Proofs.Ytobjolcacopgbaa
