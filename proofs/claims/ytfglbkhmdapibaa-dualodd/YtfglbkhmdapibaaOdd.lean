/-
  What is proved: for all rows of bytes and all numbers the law DualOdd answers true: an odd number of bytes, and two that are the same, are none (rows of 1 to 300 bytes, places from 0 on; others the law lets by). Conditions: none.
-/
import Derived.Test.YtfglbkhmdapibaaLive
import Derived.Test.YtfglbkhmdapibaaRows
import Derived.WalkKit
import Derived.ProofKit
import Derived.OpenShut
import Derived.ShutString
import Derived.ChangeOld
import Derived.Below
namespace Go.Proofs.Ytfglbkhmdapibaa.dualOdd
open Go.ChangeShapes Go.WideShapes Go.ChangeAt Go.RowKit
open Go.ChangeMaps (open_string shut_string)
set_option linter.unusedVariables false
set_option linter.unusedSimpArgs false

theorem own : ownKnob Try.prog.godebug = none := by kernel_rfl
theorem laidOut : laidOutB Try.prog = true := by kernel_rfl

/-- WHAT THE WALK IS TOLD OF A SLICE OF INTEGERS THAT CAME IN: it is nil; or it leads to a row of 'cap' cells, the numbers 'zs' (the first 'len' are its elements, the rest its spare room), each fitting its kind. -/
def IsRow (k : IntKind) (w : World) (a : Option Addr) (len cap : Nat) (zs : List Int) : Prop :=
  (a = none ∧ len = 0 ∧ cap = 0 ∧ zs = []) ∨
  ∃ x, a = some x ∧ len ≤ cap ∧ cap ≤ maxLen ∧ zs.length = cap ∧ (∀ i, i < zs.length → w.cell? (x.add i) = some (.int k (zs.getD i 0))) ∧ ∀ n ∈ zs, (Lit.int k n).wf = true

set_option maxRecDepth 100000 in
set_option maxHeartbeats 1000000 in
theorem walk (a0 : Option Addr) (len0 cap0 : Nat) (z0 : List Int) (a1 : Int) (w : World) (w0 : IsRow .u8 w a0 len0 cap0 z0) (w1 : (Lit.int .i64 a1).wf = true) :
    Calls Try.prog 5 #[.slice a0 len0 cap0, .int .i64 a1] w fun e w' => e = .returned (.bool true) ∧ Below w.heap.size w w' := by
  have hr := row_of w0
  have hat := bounds_i64 w1
  clear w0 w1
  generalize z0.take len0 = zs at *
  by_cases h0 : len0 < 1
  · have i0 : (len0 : Int) < 1 := by omega
    go_enter Try.func5, Try.ntmps5
    go_wp2_with (go_at_call 6; refine (alive_any _).mono ?_; rintro e w1 ⟨rfl, H1⟩)
    go_ret
    exact ⟨rfl, H1⟩
  have i0 : ¬ (len0 : Int) < 1 := by omega
  by_cases h1 : 300 < len0
  · have i1 : (300 : Int) < (len0 : Int) := by omega
    go_enter Try.func5, Try.ntmps5
    go_wp2_with (go_at_call 6; refine (alive_any _).mono ?_; rintro e w1 ⟨rfl, H1⟩)
    go_ret
    exact ⟨rfl, H1⟩
  have i1 : ¬ (300 : Int) < (len0 : Int) := by omega
  by_cases h2 : a1 < 0
  · go_enter Try.func5, Try.ntmps5
    go_wp2_with (go_at_call 6; refine (alive_any _).mono ?_; rintro e w1 ⟨rfl, H1⟩)
    go_ret
    exact ⟨rfl, H1⟩
  have j0 : (len0 : Int) ≠ 0 := by omega
  have hlb : ((len0 : Int) == 0) = false := by simpa using j0
  obtain ⟨K, hKe, hKN⟩ : ∃ K : Nat, a1 % (len0 : Int) = (K : Int) ∧ K < len0 := ⟨(a1 % (len0 : Int)).toNat, by have := Int.emod_nonneg a1 j0; omega, by have := Int.emod_nonneg a1 j0; have := Int.emod_lt_of_pos a1 (show (0 : Int) < len0 by omega); omega⟩
  have hKt : a1.tmod (len0 : Int) = (K : Int) := by rw [Int.tmod_eq_emod_of_nonneg (by omega)]; exact hKe
  clear hKe
  have e1 : IntKind.i64.wrap (2 * (K : Int)) = 2 * (K : Int) := by rw [IntKind.wrap_i64]; omega
  have e2 : IntKind.i64.wrap (2 * (K : Int) + 1) = 2 * (K : Int) + 1 := by rw [IntKind.wrap_i64]; omega
  have e3 : IntKind.i64.wrap (2 * (len0 : Int)) = 2 * (len0 : Int) := by rw [IntKind.wrap_i64]; omega
  have e4 : IntKind.i64.wrap (2 * (len0 : Int) - 1) = 2 * (len0 : Int) - 1 := by rw [IntKind.wrap_i64]; omega
  have e5 : (2 * (K : Int)).toNat = 2 * K := by omega
  have e6 : (2 * (K : Int) + 1).toNat = 2 * K + 1 := by omega
  have e7 : (2 * (len0 : Int) - 1).toNat = 2 * len0 - 1 := by omega
  have k1 : 2 * (K : Int) < 2 * (len0 : Int) := by omega
  have k2 : 2 * (K : Int) + 1 < 2 * (len0 : Int) := by omega
  have k3 : (0 : Int) ≤ 2 * (K : Int) := by omega
  have k4 : (0 : Int) ≤ 2 * (K : Int) + 1 := by omega
  have k5 : (0 : Int) ≤ 2 * (len0 : Int) - 1 := by omega
  have hzl := hr.1
  have HTW := Lib.hid (twin_no zs (show K < zs.length by omega))
  have HOD := Lib.hid (show ¬ Whole ((putL zs).take (2 * len0 - 1)) from odd_no (by rw [List.length_take, put_len]; omega))
  have HOE := Lib.hid (show ¬ Whole (putL zs ++ [1]) from odd_no (by rw [List.length_append, put_len, List.length_singleton]; omega))
  have HPB := Lib.hid (put_byt hr.2.1)
  have HPL := Lib.hid (show (putL zs).length = 2 * len0 by rw [put_len, hzl])
  clear hzl
  go_enter Try.func5, Try.ntmps5
  go_wp2_with (first
    | (go_at_call 6; refine (alive_any _).mono ?_; rintro e w1 ⟨rfl, H1⟩; have HP := Lib.hid (put_any a0 len0 cap0 zs w1 (row_below H1 hr) (by omega)); clear hr)
    | (go_at_call 7; (with_reducible refine HP.out.mono ?_); rintro e w2 ⟨v2, rfl, o2, b2⟩; obtain ⟨A2, c2, rfl, hc2, hx2, _⟩ := o2.form; clear o2; generalize putL zs = xs at *; have hn2 := own_nil w2 w2.heap.size)
    | (at_builtin; (with_reducible refine wpList_app rfl _ _ rfl w2.heap.size (.slice none 0 0) 0 [] rfl hn2 _ _ _ xs rfl hx2 (row_none hx2) (by omega) (Nat.le_refl _) ?_); intro v3 w3 o3 g3; rw [Nat.zero_add, List.nil_append] at o3; have b3 := below_own (Below.refl _ w2) hn2 g3 (Nat.le_refl _) (Nat.le_refl _); obtain ⟨g, cp, cur, rfl, hgb, hG, hcn, hct, hcell⟩ := own_block o3 (by omega); have q1 := hcell (2 * K) (by omega); have qF := hG.soft (2 * K + 1); have q2 : w3.cell? ⟨g, 2 * K + 1, none⟩ = some (.int .u8 (xs.getD (2 * K + 1) 0)) := hcell (2 * K + 1) (by omega); have hzb := byt_at HPB.out (2 * K); have hzb2 := byt_at HPB.out (2 * K + 1); generalize xs.getD (2 * K) 0 = z at *; generalize xs.getD (2 * K + 1) 0 = z' at *; have b4 := b3.setCell (p := ⟨g, 2 * K + 1, none⟩) hgb (.int .u8 z); have hy4 := set_row hG hct HPL.out (show 2 * K + 1 < 2 * len0 by omega) HPB.out z hzb; have hx4 := row_below b4 hx2; clear g3 o3 hn2 hcell hG hct b3; generalize hw4 : w3.setCell ⟨g, 2 * K + 1, none⟩ (.int .u8 z) = w4 at *; have HG := Lib.hid (get_not A2 (2 * len0 - 1) c2 _ w4 (row_upto hx4 (2 * len0 - 1) (by omega)) (by omega) HOD.out))
    | (go_at_call 8; (with_reducible refine HG.out.mono ?_); rintro e w5 ⟨⟨v5, rfl⟩, b5⟩; clear HG; have hx5 := row_below b5 hx4; have hy5 := row_below b5 hy4; have hn5 := own_nil w5 w5.heap.size; clear hx4 hy4)
    | (at_builtin; (with_reducible refine wpList_app rfl _ _ rfl w5.heap.size (.slice none 0 0) 0 [] rfl hn5 _ _ _ xs rfl hx5 (row_none hx5) (by omega) (Nat.le_refl _) ?_); intro v6 w6 o6 g6; rw [Nat.zero_add, List.nil_append] at o6; have b6 := below_own (Below.refl _ w5) hn5 g6 (Nat.le_refl _) (Nat.le_refl _); have ba := (Below.refl w6.heap.size w6).alloc (Nat.le_refl _) (.cells #[.int .u8 1] 5); have o6a := o6.kept ba; have b6a := b6.trans (ba.mono b6.size); have hs6 := b6a.size; have hr6 := row_one w6 (x := 1) (by omega); clear hn5 g6 o6 ba b6)
    | (at_builtin; (with_reducible refine wpList_app rfl _ _ rfl w5.heap.size v6 (2 * len0) xs rfl o6a _ _ _ [1] rfl hr6 (row_none hr6) (by omega) hs6 ?_); intro v7 w7 o7 g7; have b7 := below_own b6a o6a g7 (Nat.le_refl _) hs6; obtain ⟨A7, c7, rfl, hc7, hx7, _⟩ := o7.form; have hy7 := row_below b7 hy5; have HG7 := Lib.hid (get_not A7 (2 * len0 + 1) c7 _ w7 hx7 (by omega) HOE.out))
    | (go_at_call 8; (with_reducible refine HG7.out.mono ?_); rintro e w8 ⟨⟨v8, rfl⟩, b8⟩; have HG8 := Lib.hid (get_not (some ⟨g, 0, none⟩) (2 * len0) cp _ w8 (row_below b8 hy7) (by omega) HTW.out))
    | (go_at_call 8; (with_reducible refine HG8.out.mono ?_); rintro e w9 ⟨⟨v9, rfl⟩, b9⟩)
    | (go_at_call 8; (with_reducible refine (get_nil w9).mono ?_); rintro e w10 ⟨⟨v10, rfl⟩, b10⟩))
  go_ret
  exact ⟨rfl, belowThen (belowThen (belowThen (belowThen (belowThen (belowThen (belowThen (belowThen H1 b2) b4) b5) b7) b8) b9) b10) (Below.refl _ _)⟩

/-! ### THE ROW's STEP: WRITTEN OUT: LEAVE IT -/
set_option maxRecDepth 100000 in
theorem lifted (os : Os) (started : os.Started) (H : Type) (enc : TypeId × Value → H) :
    ReturnsInHanded {} Try.checked os 5 .any (Rows.dualOddSpec.pre6 enc Try.prog Try.f5 Rows.dualOddRow.domain false) (Rows.dualOddSpec.post enc Try.prog Try.f5 false true false false) := by
  refine returnsInHanded_of_change (C := Try.checked) own started (by kernel_rfl) Try.func5
    (ChangeSpec.witness6 (enc := enc) (C := Try.checked) false ⟨#[], #[.slice none 0 0, .int .i64 0], []⟩ 8 (by kernel_rfl) (by kernel_rfl) (by kernel_rfl) (by kernel_rfl)) ?_
  intro W base args ds gs before hval0 hW hcnd _
  have hval : ∀ (j : Nat) t v, Try.f5.params[j]? = some t → args[j]? = some v → Value.okWide Try.prog W .any base t v := hval0
  have hW' := hW
  obtain ⟨p, q, hA0, hV, rfl, hfz, hnd⟩ := hW
  have hA : DataW.TrodAll enc Try.prog W 0 (fun _ => true) true Try.f5.params.toList args.toList ds p := hA0
  rw [Try.params5] at hA hval
  obtain ⟨v0, vs0, d0, ds0, p0, q0, hargs, rfl, rfl, h0, r0⟩ := trodAll_cons hA
  obtain ⟨v1, vs1, d1, ds1, p1, q1, rfl, rfl, rfl, h1, r1⟩ := trodAll_cons r0
  obtain ⟨rfl, rfl, rfl⟩ := trodAll_nil r1
  obtain rfl : args = #[v0, v1] := by cases args; simp_all
  obtain ⟨rfl, rfl⟩ := trodVars_none hV
  obtain ⟨a0, len0, cap0, rfl⟩ := okWide_slice Try.underlying22 (hval 0 22 v0 rfl rfl)
  have k0 := h0
  have lt0 : ∀ x ∈ p0, x.block < W.heap.size := by obtain ⟨m, hm⟩ := k0; exact DataW.trod_lt m _ _ _ hm
  obtain ⟨z0, w0⟩ : ∃ zs, IsRow .u8 W a0 len0 cap0 zs := by
    obtain ⟨fuel, hf⟩ := h0
    rcases open_ints Try.underlying22 Try.underlying5 (by kernel_rfl) hf with ⟨hcs, _⟩ | ⟨x, l, c, zs, hcs, _, hl, hm, hz, _, hcell, hwz⟩
    · simp [Value.cells] at hcs
      obtain ⟨rfl, rfl, rfl⟩ := hcs
      exact ⟨[], .inl ⟨rfl, rfl, rfl, rfl⟩⟩
    · simp [Value.cells] at hcs
      obtain ⟨rfl, rfl, rfl⟩ := hcs
      exact ⟨zs, .inr ⟨_, rfl, hl, hm, by simpa using hz, hcell, hwz⟩⟩
  obtain ⟨a1, rfl, rfl, rfl, w1⟩ := open_int Try.underlying3 (hval 1 3 v1 rfl rfl) h1
  clear hA0 hval0
  refine (walk a0 len0 cap0 z0 a1 W w0 w1).mono fun e W' ⟨he, bel⟩ => ?_
  subst he
  exact ⟨_, rfl, _, _, _, [], _, [], hW', trodAll_mk1 (shut_bool Try.underlying4 _), (trodAll_cons_mk (Below.trod laidOut (by kernel_rfl) (of_decide_eq_true (by kernel_rfl)) k0 bel lt0) (trodAll_cons_mk (shut_int Try.underlying3 w1) trodAll_mk0)), rfl, bel.frame _, fun h => by cases h⟩

theorem over : Rows.dualOddRow.holds Try.pinned (OpenSpec.ofChange Rows.dualOddSpec) :=
  OpenClaim.holds_of_wide 5 Try.f5 rfl rfl rfl rfl rfl rfl rfl ⟨rfl, rfl, rfl, rfl, rfl⟩ rfl rfl rfl rfl rfl (by kernel_rfl) Try.func5 (by kernel_rfl)
    (of_decide_eq_true (by kernel_rfl)) (by unfold Func.isWrapper; first | (rw [if_pos (by decide +kernel)]; kernel_rfl) | (rw [if_neg (by decide +kernel)]; exact ⟨rfl, rfl⟩))
    (fun os started H enc _ => lifted os started H enc)

/-- ████ THE STATEMENT ████ -/
theorem proved : Rows.DualOddSaid := over
end Go.Proofs.Ytfglbkhmdapibaa.dualOdd
namespace Go.Proofs.Ytfglbkhmdapibaa
theorem DualOdd_holds : Rows.DualOddSaid := dualOdd.proved
#print axioms DualOdd_holds
end Go.Proofs.Ytfglbkhmdapibaa
