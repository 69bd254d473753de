/-
  What is proved: for all numbers and all sizes the law FieldBack answers true: a number that fits its size is read as it was written, a row behind it with its bytes 0, and one byte more is missing (sizes of 1 to 8; others, and numbers that do not fit, the law lets by). Conditions: none.
-/
import Derived.Test.YtjocpfkobojchaaLive
import Derived.Test.YtjocpfkobojchaaRows
import Derived.WalkKit
import Derived.ProofKit
import Derived.OpenShut
import Derived.ShutString
namespace Go.Proofs.Ytjocpfkobojchaa.fieldBack
open Go.ChangeShapes Go.WideShapes Go.ChangeAt Go.RowKit
open Go.ChangeMaps (open_string shut_string)
set_option linter.unusedVariables false
set_option linter.unusedSimpArgs false

theorem own : ownKnob Try.prog.godebug = none := by kernel_rfl

theorem shl_one (k : Nat) (h : k ≤ 7) : wrap64 ((2 : Int) ^ (8 * k)) = 256 ^ k := by
  rw [pow_bits]
  unfold wrap64
  match k, h with
  | 0, _ => rfl
  | 1, _ => rfl
  | 2, _ => rfl
  | 3, _ => rfl
  | 4, _ => rfl
  | 5, _ => rfl
  | 6, _ => rfl
  | 7, _ => rfl
theorem pow_le7 (k : Nat) (h : k ≤ 7) : (256 : Int) ^ k ≤ 72057594037927936 := by
  exact match k, h with
  | 0, _ => by decide
  | 1, _ => by decide
  | 2, _ => by decide
  | 3, _ => by decide
  | 4, _ => by decide
  | 5, _ => by decide
  | 6, _ => by decide
  | 7, _ => by decide
theorem raw_ab : rawL [97, 98] (cutN 4 1000) = [97, 98, 0, 0] := by decide
theorem got_app (xs ys : List Int) (k : Nat) (h : xs.length = k) : got ⟨xs ++ ys, false⟩ k = xs := by
  subst h
  rw [got_yes rfl (by simp)]
  simp
theorem aft_app (xs ys : List Int) (k : Nat) (h : xs.length = k) : aft ⟨xs ++ ys, false⟩ k = ⟨ys, false⟩ := by
  subst h
  rw [aft_yes rfl (by simp)]
  simp
theorem got_ab : got ⟨[97, 98, 0, 0], false⟩ (cutN 4 1000) = [97, 98, 0, 0] := by decide
theorem aft_ab : aft ⟨[97, 98, 0, 0], false⟩ (cutN 4 1000) = ⟨[], false⟩ := rfl
theorem got_e : w64 (val (got ⟨[], false⟩ (cutN 1 8))) = 0 := by decide
theorem aft_e : aft ⟨[], false⟩ (cutN 1 8) = ⟨[], true⟩ := rfl
theorem str_ab : strOfNums [97, 98, 0, 0] = ⟨#[97, 98, 0, 0]⟩ := by decide
set_option maxRecDepth 100000 in
set_option maxHeartbeats 1000000 in
theorem walk (a0 : Int) (a1 : Int) (w0 : (Lit.int .i64 a0).wf = true) (w1 : (Lit.int .i64 a1).wf = true) (w : World) :
    Calls Try.prog 5 #[.int .i64 a0, .int .i64 a1] w fun e w' => e = .returned (.bool true) ∧ Below w.heap.size w w' := by
  have hn := bounds_i64 w0
  have hs := bounds_i64 w1
  clear w0 w1
  by_cases h0 : a1 < 1
  · go_enter Try.func5, Try.ntmps5
    go_wp2_with (go_at_call 7; refine (alive_any _).mono ?_; rintro e w1 ⟨rfl, H1⟩)
    go_ret
    exact ⟨rfl, H1⟩
  by_cases h1 : 8 < a1
  · go_enter Try.func5, Try.ntmps5
    go_wp2_with (go_at_call 7; refine (alive_any _).mono ?_; rintro e w1 ⟨rfl, H1⟩)
    go_ret
    exact ⟨rfl, H1⟩
  obtain ⟨k, rfl⟩ := Int.eq_ofNat_of_zero_le (show 0 ≤ a1 by omega)
  by_cases h2 : a0 < 0 ∧ k < 8
  · have i1 : a0 < 0 := h2.1
    have i2 : (k : Int) < 8 := by omega
    clear h2
    go_enter Try.func5, Try.ntmps5
    go_wp2_with (go_at_call 7; refine (alive_any _).mono ?_; rintro e w1 ⟨rfl, H1⟩)
    go_ret
    exact ⟨rfl, H1⟩
  have HC := Lib.hid (show cutN (k : Int) 8 = k by unfold cutN; omega)
  have hk1 : 1 ≤ k := by omega
  have hk8 : k ≤ 8 := by omega
  by_cases h3 : k < 8
  · have hsh := shl_one k (by omega)
    have i0 : ¬ a0 < 0 := fun h => h2 ⟨h, h3⟩
    have i3 : (k : Int) < 8 := by omega
    have i4 : ¬ (k : Int) < 1 := by omega
    have i5 : ¬ (8 : Int) < (k : Int) := by omega
    by_cases h4 : (256 : Int) ^ k ≤ a0
    · clear hn hs HC
      go_enter Try.func5, Try.ntmps5
      go_wp2_with (go_at_call 7; refine (alive_any _).mono ?_; rintro e w1 ⟨rfl, H1⟩)
      go_ret
      exact ⟨rfl, H1⟩
    have HV := Lib.hid (show w64 (val (numL a0 k)) = a0 by rw [val_fit ⟨by omega, by omega⟩, w64_in hn])
    clear h2 hs
    go_enter Try.func5, Try.ntmps5
    go_wp2_with (first
      | (go_at_call 7; refine (alive_any _).mono ?_; rintro e w1 ⟨rfl, H1⟩; have hw0 := wnew w1; have b0 : Below w1.heap.size w1 (w1.alloc (.cells #[.pointer none, .int .i64 0] 27)) := (Below.refl _ w1).alloc (Nat.le_refl _) _; have HN := Lib.hid (wnum_any a0 (k : Int) (w1.alloc (.cells #[.pointer none, .int .i64 0] 27)) hn hw0 (by simp)); rw [HC.out, List.nil_append] at HN)
      | (go_at_call 10; (with_reducible refine HN.out.mono ?_); rintro e w2 ⟨rfl, h2⟩; clear HN; have hcv := Lib.run_convert_bytes_const (P := Try.prog) w2 29 5 #[.int .u8 97, .int .u8 98] 2 2 Try.underlying29 Try.underlying5; have htx : Row (w2.alloc (.cells #[.int .u8 97, .int .u8 98] 5 (2, 3))) (some ⟨w2.heap.size, 0, none⟩) 2 [97, 98] := row_text w2 [97, 98] (byt_two (by omega) (by omega)) 2 rfl (2, 3); have b2 : Below w2.heap.size w2 (w2.alloc (.cells #[.int .u8 97, .int .u8 98] 5 (2, 3))) := (Below.refl _ w2).alloc (Nat.le_refl _) _; have hlt2 := h2.lt (fun b hb => hb.elim); have HW := Lib.hid (wraw_any (some ⟨w2.heap.size, 0, none⟩) 2 2 [97, 98] 4 _ htx (h2.1.kept b2) (by rw [num_len]; omega)); rw [raw_ab] at HW; clear htx)
      | (go_at_call 8; (with_reducible refine HW.out.mono ?_); rintro e w3 ⟨rfl, h3⟩; clear HW hcv; have HB := Lib.hid (bytes_any w3 h3.1 (h3.lt (fun b hb => Nat.lt_of_lt_of_le (hlt2 b hb) b2.size))); rw [List.length_append, num_len, show [(97 : Int), 98, 0, 0].length = 4 from rfl] at HB)
      | (go_at_call 12; (with_reducible refine HB.out.mono ?_); rintro e w4 ⟨v4, rfl, o4, b4⟩; clear HB; obtain ⟨A4, c4, rfl, _, r4, _⟩ := o4.form; clear o4; have HR := Lib.hid (newReader_any A4 (k + 4) c4 _ w4 r4 (by omega)); clear r4)
      | (go_at_call 14; (with_reducible refine HR.out.mono ?_); rintro e w5 ⟨r, rfl, hr5, hd5, b5⟩; clear HR; have HD := Lib.hid (num_any (k : Int) w5 hd5); rw [HC.out, got_app _ _ k (num_len _ _), aft_app _ _ k (num_len _ _), HV.out] at HD)
      | (go_at_call 15; (with_reducible refine HD.out.mono ?_); rintro e w6 ⟨rfl, hd6, o6⟩; clear HD hd5; have HE := Lib.hid (raw_any 4 w6 hd6); rw [got_ab, aft_ab] at HE)
      | (go_at_call 16; (with_reducible refine HE.out.mono ?_); rintro e w7 ⟨v7, rfl, o7, hd7, q7⟩; clear HE hd6; obtain ⟨A7, c7, rfl, _, r7, _⟩ := o7.form; clear o7; have hcs := conv_row (c := c7) r7; rw [str_ab] at hcs; replace hcs : (convert 29 9 (.slice A7 4 c7)).run Try.prog w7 = .ok (.string ⟨#[97, 98, 0, 0]⟩) w7 := hcs; clear r7; have HL := Lib.hid (left_any w7 hd7); have HZ := Lib.hid (bad_any w7 hd7); have HY := Lib.hid (num_any 1 w7 hd7); rw [got_e, aft_e] at HY)
      | (go_at_call 17; (with_reducible refine HL.out.mono ?_); rintro e w8 ⟨rfl, rfl⟩)
      | (go_at_call 18; (with_reducible refine HZ.out.mono ?_); rintro e w8 ⟨rfl, rfl⟩; clear HZ)
      | (go_at_call 15; (with_reducible refine HY.out.mono ?_); rintro e w9 ⟨rfl, hd9, o9⟩; clear HY; have HX := Lib.hid (bad_any w9 hd9))
      | (go_at_call 18; (with_reducible refine HX.out.mono ?_); rintro e w10 ⟨rfl, rfl⟩))
    go_ret
    have s0 := H1.size
    have s1 := b0.size
    have s2 := h2.2.size
    have s3 := b2.size
    have s4 := h3.2.size
    have s5 := b4.size
    have s6 := b5.size
    have s7 := o6.size
    have s8 := q7.size
    have c1 : Below w.heap.size w (w1.alloc (.cells #[.pointer none, .int .i64 0] 27)) := H1.trans (b0.mono s0)
    have c2 : Below w.heap.size w w2 := c1.trans (h2.2.to_below (by omega) (fun b e => by omega))
    have c3 : Below w.heap.size w (w2.alloc (.cells #[.int .u8 97, .int .u8 98] 5 (2, 3))) := c2.trans (b2.mono (by omega))
    have c4 : Below w.heap.size w w3 := c3.trans (h3.2.to_below (by omega) (fun b e => by omega))
    have c5 : Below w.heap.size w w4 := c4.trans (b4.mono (by omega))
    have c6 : Below w.heap.size w w5 := c5.trans (b5.mono (by omega))
    have c7 : Below w.heap.size w w6 := c6.trans (o6.to_below (by omega) (fun b e => by omega))
    have c8 : Below w.heap.size w w7 := c7.trans (q7.to_below (by omega) (fun b e => by omega))
    exact ⟨rfl, c8.trans (o9.to_below (by omega) (fun b e => by omega))⟩
  · have HV := Lib.hid (show w64 (val (numL a0 k)) = a0 by rw [show k = 8 by omega]; exact w64_eight hn)
    have i3 : ¬ (k : Int) < 8 := by omega
    have i4 : ¬ (k : Int) < 1 := by omega
    have i5 : ¬ (8 : Int) < (k : Int) := by omega
    clear h2 hs
    go_enter Try.func5, Try.ntmps5
    go_wp2_with (first
      | (go_at_call 7; refine (alive_any _).mono ?_; rintro e w1 ⟨rfl, H1⟩; have hw0 := wnew w1; have b0 : Below w1.heap.size w1 (w1.alloc (.cells #[.pointer none, .int .i64 0] 27)) := (Below.refl _ w1).alloc (Nat.le_refl _) _; have HN := Lib.hid (wnum_any a0 (k : Int) (w1.alloc (.cells #[.pointer none, .int .i64 0] 27)) hn hw0 (by simp)); rw [HC.out, List.nil_append] at HN)
      | (go_at_call 10; (with_reducible refine HN.out.mono ?_); rintro e w2 ⟨rfl, h2⟩; clear HN; have hcv := Lib.run_convert_bytes_const (P := Try.prog) w2 29 5 #[.int .u8 97, .int .u8 98] 2 2 Try.underlying29 Try.underlying5; have htx : Row (w2.alloc (.cells #[.int .u8 97, .int .u8 98] 5 (2, 3))) (some ⟨w2.heap.size, 0, none⟩) 2 [97, 98] := row_text w2 [97, 98] (byt_two (by omega) (by omega)) 2 rfl (2, 3); have b2 : Below w2.heap.size w2 (w2.alloc (.cells #[.int .u8 97, .int .u8 98] 5 (2, 3))) := (Below.refl _ w2).alloc (Nat.le_refl _) _; have hlt2 := h2.lt (fun b hb => hb.elim); have HW := Lib.hid (wraw_any (some ⟨w2.heap.size, 0, none⟩) 2 2 [97, 98] 4 _ htx (h2.1.kept b2) (by rw [num_len]; omega)); rw [raw_ab] at HW; clear htx)
      | (go_at_call 8; (with_reducible refine HW.out.mono ?_); rintro e w3 ⟨rfl, h3⟩; clear HW hcv; have HB := Lib.hid (bytes_any w3 h3.1 (h3.lt (fun b hb => Nat.lt_of_lt_of_le (hlt2 b hb) b2.size))); rw [List.length_append, num_len, show [(97 : Int), 98, 0, 0].length = 4 from rfl] at HB)
      | (go_at_call 12; (with_reducible refine HB.out.mono ?_); rintro e w4 ⟨v4, rfl, o4, b4⟩; clear HB; obtain ⟨A4, c4, rfl, _, r4, _⟩ := o4.form; clear o4; have HR := Lib.hid (newReader_any A4 (k + 4) c4 _ w4 r4 (by omega)); clear r4)
      | (go_at_call 14; (with_reducible refine HR.out.mono ?_); rintro e w5 ⟨r, rfl, hr5, hd5, b5⟩; clear HR; have HD := Lib.hid (num_any (k : Int) w5 hd5); rw [HC.out, got_app _ _ k (num_len _ _), aft_app _ _ k (num_len _ _), HV.out] at HD)
      | (go_at_call 15; (with_reducible refine HD.out.mono ?_); rintro e w6 ⟨rfl, hd6, o6⟩; clear HD hd5; have HE := Lib.hid (raw_any 4 w6 hd6); rw [got_ab, aft_ab] at HE)
      | (go_at_call 16; (with_reducible refine HE.out.mono ?_); rintro e w7 ⟨v7, rfl, o7, hd7, q7⟩; clear HE hd6; obtain ⟨A7, c7, rfl, _, r7, _⟩ := o7.form; clear o7; have hcs := conv_row (c := c7) r7; rw [str_ab] at hcs; replace hcs : (convert 29 9 (.slice A7 4 c7)).run Try.prog w7 = .ok (.string ⟨#[97, 98, 0, 0]⟩) w7 := hcs; clear r7; have HL := Lib.hid (left_any w7 hd7); have HZ := Lib.hid (bad_any w7 hd7); have HY := Lib.hid (num_any 1 w7 hd7); rw [got_e, aft_e] at HY)
      | (go_at_call 17; (with_reducible refine HL.out.mono ?_); rintro e w8 ⟨rfl, rfl⟩)
      | (go_at_call 18; (with_reducible refine HZ.out.mono ?_); rintro e w8 ⟨rfl, rfl⟩; clear HZ)
      | (go_at_call 15; (with_reducible refine HY.out.mono ?_); rintro e w9 ⟨rfl, hd9, o9⟩; clear HY; have HX := Lib.hid (bad_any w9 hd9))
      | (go_at_call 18; (with_reducible refine HX.out.mono ?_); rintro e w10 ⟨rfl, rfl⟩))
    all_goals
      go_ret
      have s0 := H1.size
      have s1 := b0.size
      have s2 := h2.2.size
      have s3 := b2.size
      have s4 := h3.2.size
      have s5 := b4.size
      have s6 := b5.size
      have s7 := o6.size
      have s8 := q7.size
      have c1 : Below w.heap.size w (w1.alloc (.cells #[.pointer none, .int .i64 0] 27)) := H1.trans (b0.mono s0)
      have c2 : Below w.heap.size w w2 := c1.trans (h2.2.to_below (by omega) (fun b e => by omega))
      have c3 : Below w.heap.size w (w2.alloc (.cells #[.int .u8 97, .int .u8 98] 5 (2, 3))) := c2.trans (b2.mono (by omega))
      have c4 : Below w.heap.size w w3 := c3.trans (h3.2.to_below (by omega) (fun b e => by omega))
      have c5 : Below w.heap.size w w4 := c4.trans (b4.mono (by omega))
      have c6 : Below w.heap.size w w5 := c5.trans (b5.mono (by omega))
      have c7 : Below w.heap.size w w6 := c6.trans (o6.to_below (by omega) (fun b e => by omega))
      have c8 : Below w.heap.size w w7 := c7.trans (q7.to_below (by omega) (fun b e => by omega))
      exact ⟨rfl, c8.trans (o9.to_below (by omega) (fun b e => by omega))⟩

/-! ### THE ROW's STEP: WRITTEN OUT: LEAVE IT -/
set_option maxRecDepth 100000 in
theorem lifted (os : Os) (started : os.Started) (H : Type) (enc : TypeId × Value → H) :
    ReturnsInHanded {} Try.checked os 5 .any (Rows.fieldBackSpec.pre6 enc Try.prog Try.f5 Rows.fieldBackRow.domain false) (Rows.fieldBackSpec.post enc Try.prog Try.f5 false true false false) := by
  refine returnsInHanded_of_change (C := Try.checked) own started (by kernel_rfl) Try.func5
    (ChangeSpec.witness6 (enc := enc) (C := Try.checked) false ⟨#[], #[.int .i64 0, .int .i64 0], []⟩ 8 (by kernel_rfl) (by kernel_rfl) (by kernel_rfl) (by kernel_rfl)) ?_
  intro W base args ds gs before hval0 hW hcnd _
  have hval : ∀ (j : Nat) t v, Try.f5.params[j]? = some t → args[j]? = some v → Value.okWide Try.prog W .any base t v := hval0
  have hW' := hW
  obtain ⟨p, q, hA0, hV, rfl, hfz, hnd⟩ := hW
  have hA : DataW.TrodAll enc Try.prog W 0 (fun _ => true) true Try.f5.params.toList args.toList ds p := hA0
  rw [Try.params5] at hA hval
  obtain ⟨v0, vs0, d0, ds0, p0, q0, hargs, rfl, rfl, h0, r0⟩ := trodAll_cons hA
  obtain ⟨v1, vs1, d1, ds1, p1, q1, rfl, rfl, rfl, h1, r1⟩ := trodAll_cons r0
  obtain ⟨rfl, rfl, rfl⟩ := trodAll_nil r1
  obtain rfl : args = #[v0, v1] := by cases args; simp_all
  obtain ⟨rfl, rfl⟩ := trodVars_none hV
  obtain ⟨a0, rfl, rfl, rfl, w0⟩ := open_int Try.underlying3 (hval 0 3 v0 rfl rfl) h0
  obtain ⟨a1, rfl, rfl, rfl, w1⟩ := open_int Try.underlying3 (hval 1 3 v1 rfl rfl) h1
  clear hA0 hval0
  simp only [List.append_nil] at hW'
  refine (walk a0 a1 w0 w1 W).mono fun e W' ⟨he, hg⟩ => ?_
  subst he
  exact ⟨_, rfl, ⟨_, _, _, [], [], [], hW', trodAll_cons_mk (shut_bool Try.underlying4 _) trodAll_mk0, (trodAll_cons_mk (shut_int Try.underlying3 w0) (trodAll_cons_mk (shut_int Try.underlying3 w1) trodAll_mk0)), rfl, hg.frame _, fun h => by cases h⟩⟩

theorem over : Rows.fieldBackRow.holds Try.pinned (OpenSpec.ofChange Rows.fieldBackSpec) :=
  OpenClaim.holds_of_wide 5 Try.f5 rfl rfl rfl rfl rfl rfl rfl ⟨rfl, rfl, rfl, rfl, rfl⟩ rfl rfl rfl rfl rfl (by kernel_rfl) Try.func5 (by kernel_rfl)
    (of_decide_eq_true (by kernel_rfl)) (by unfold Func.isWrapper; first | (rw [if_pos (by decide +kernel)]; kernel_rfl) | (rw [if_neg (by decide +kernel)]; exact ⟨rfl, rfl⟩))
    (fun os started H enc _ => lifted os started H enc)

/-- ████ THE STATEMENT ████ -/
theorem proved : Rows.FieldBackSaid :=
  over
end Go.Proofs.Ytjocpfkobojchaa.fieldBack
namespace Go.Proofs.Ytjocpfkobojchaa
theorem FieldBack_holds : Rows.FieldBackSaid := fieldBack.proved
#print axioms FieldBack_holds
end Go.Proofs.Ytjocpfkobojchaa
