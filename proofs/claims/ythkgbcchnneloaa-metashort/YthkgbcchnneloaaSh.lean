/-
  The walk of the law MetaShort: no beginning of what is kept is read, and none with a byte 1 behind; conditions: none.
-/
import Derived.Test.YthkgbcchnneloaaLv
namespace Go.Proofs.Ythkgbcchnneloaa.metaShort
open Go.RowKit
set_option linter.unusedVariables false
set_option linter.unusedSimpArgs false

set_option maxRecDepth 100000 in
set_option maxHeartbeats 4000000 in
theorem walk (m : Mt) (n : Int) (w : World) (hm : m.Ok) (wn : (Lit.int .i64 n).wf = true) :
    Calls Try.prog 4 #[.agg m.cells, .int .i64 n] w fun e w' => e = .returned (.bool true) ∧ Below w.heap.size w w' := by
  have hz27 := zero27_run
  have C0 : Hid (Below w.heap.size w (w.alloc (.cells m.cells 27))) := Lib.hid ((Below.refl _ _).alloc (Nat.le_refl _) _)
  have H0 := Lib.hid (has_new w 27 m.cells)
  have HLV := Lib.hid (live_any (w.alloc (.cells m.cells 27)))
  have hbn := bounds_i64 wn
  have HM := Lib.hid hm
  cases hx : rightB m with
  | false =>
    have HX := Lib.hid hx
    clear hx hm wn hbn
    go_enter Try.func4, Try.ntmps4
    go_wp2_with (first
      | (go_at_call 6; (with_reducible refine HLV.out.mono ?_); rintro e w1 ⟨rfl, b1⟩; clear HLV; have H1 := Lib.hid (H0.out.kept b1); have C1 := Lib.hid (C0.out.trans (b1.mono C0.out.size)); clear b1; have L1 := Lib.hid (ld27 H1.out HM.out); have HD := Lib.hid (docRight_any m w1 HM.out); rw [HX.out] at HD)
      | (refine wpList_ld 27 _ rfl _ _ L1.out rfl rfl ?_)
      | (go_at_call 7; (with_reducible refine HD.out.mono ?_); rintro e w2 ⟨rfl, b2⟩; clear HD; have C2 := Lib.hid (C1.out.trans (b2.mono C1.out.size)); clear b2))
    go_ret
    exact ⟨rfl, C2.out⟩
  | true =>
    have HX := Lib.hid hx
    clear hx hm wn
    by_cases i2 : n < 0
    · go_enter Try.func4, Try.ntmps4
      go_wp2_with (first
        | (go_at_call 6; (with_reducible refine HLV.out.mono ?_); rintro e w1 ⟨rfl, b1⟩; clear HLV; have H1 := Lib.hid (H0.out.kept b1); have C1 := Lib.hid (C0.out.trans (b1.mono C0.out.size)); clear b1; have L1 := Lib.hid (ld27 H1.out HM.out); have HD := Lib.hid (docRight_any m w1 HM.out); rw [HX.out] at HD)
        | (refine wpList_ld 27 _ rfl _ _ L1.out rfl rfl ?_)
        | (go_at_call 7; (with_reducible refine HD.out.mono ?_); rintro e w2 ⟨rfl, b2⟩; clear HD; have C2 := Lib.hid (C1.out.trans (b2.mono C1.out.size)); clear b2))
      go_ret
      exact ⟨rfl, C2.out⟩
    obtain ⟨N, rfl⟩ := Int.eq_ofNat_of_zero_le (show 0 ≤ n by omega)
    obtain ⟨K, hK⟩ : ∃ K, N % 128 = K := ⟨_, rfl⟩
    have hKl : K < 128 := by omega
    have hmod : (N : Int).tmod 128 = (K : Int) := by rw [Int.tmod_eq_emod_of_nonneg (by omega)]; omega
    have hmod2 : (N : Int) % 128 = (K : Int) := by omega
    have HBL := Lib.hid (meta_len m)
    have HN1 := Lib.hid (not_one m)
    have HNS := Lib.hid (not_short (zs := (metaL m).take K) (by rw [List.length_take]; omega))
    have d2 : decide ((N : Int) < 0) = false := decide_eq_false i2
    clear hK
    go_enter Try.func4, Try.ntmps4
    go_wp2_with (first
      | (go_at_call 6; (with_reducible refine HLV.out.mono ?_); rintro e w1 ⟨rfl, b1⟩; clear HLV; have H1 := Lib.hid (H0.out.kept b1); have C1 := Lib.hid (C0.out.trans (b1.mono C0.out.size)); clear b1; have L1 := Lib.hid (ld27 H1.out HM.out); have HD := Lib.hid (docRight_any m w1 HM.out); rw [HX.out] at HD)
      | (refine wpList_ld 27 _ rfl _ _ L1.out rfl rfl ?_)
      | (go_at_call 7; (with_reducible refine HD.out.mono ?_); rintro e w2 ⟨rfl, b2⟩; clear HD L1; have C2 := Lib.hid (C1.out.trans (b2.mono C1.out.size)); have L2 := Lib.hid (ld27 (H1.out.kept b2) HM.out); clear b2; have HB := Lib.hid (bytes_yes w2 HM.out HX.out))
      | (refine wpList_ld 27 _ rfl _ _ L2.out rfl rfl ?_)
      | (go_at_call 8; (with_reducible refine HB.out.mono ?_); rintro e w3 ⟨v3, rfl, o3, b3⟩; clear HB L2; have C3 := Lib.hid (C2.out.trans (b3.mono C2.out.size)); obtain ⟨A2, c2, rfl, hc2, r2, _⟩ := o3.form; clear o3 b3; have R3 := Lib.hid r2; have HR := Lib.hid (read_not A2 K c2 w3 HNS.out (row_upto r2 K (by omega)) (by omega) (by omega)); clear r2)
      | (go_at_call 9; (with_reducible refine HR.out.mono ?_); rintro e w4 ⟨rfl, b4⟩; clear HR; have C4 := Lib.hid (C3.out.trans (b4.mono C3.out.size)); have R4 := Lib.hid (row_below b4 R3.out); clear b4; have hne := has_new w4 27 zeroT.cells)
      | (refine wpList_row rfl 27 _ _ rfl w4.heap.size zeroT.cells rfl rfl 27 _ hne (size27 zeroT_ok) rfl (mt_all _) ?_; intro w5 hs5 on5; have C5 := Lib.hid ((C4.out.alloc C4.out.size (.cells zeroT.cells 27)).trans (on5.to_below (C4.out.alloc C4.out.size (.cells zeroT.cells 27)).size (fun b e => by have := C4.out.size; omega))); have r4 : Row w5 A2 128 (metaL m) := row_under (row_below ((Below.refl _ _).alloc (Nat.le_refl _) (.cells zeroT.cells 27)) R4.out) (row_lies R4.out) on5 (fun b e => by omega); have n4 := own_nil w5 w5.heap.size; clear hs5 on5 hne)
      | (at_builtin; (with_reducible refine wpList_app rfl _ _ rfl w5.heap.size (.slice none 0 0) 0 [] rfl n4 A2 128 c2 (metaL m) rfl r4 (row_none r4) (by omega) (Nat.le_refl _) ?_); intro v5 w6 o5 g5; have e5 := below_own (Below.refl _ w5) n4 g5 (Nat.le_refl _) (Nat.le_refl _); rw [Nat.zero_add, List.nil_append] at o5; have l5 : Row (w6.alloc (.cells #[.int .u8 1] 5)) (some ⟨w6.heap.size, 0, none⟩) 1 [1] := row_one w6 (by omega); have e5a := e5.alloc e5.size (.cells #[.int .u8 1] 5); have o5a := o5.kept ((Below.refl _ _).alloc (Nat.le_refl _) (.cells #[.int .u8 1] 5)))
      | (at_builtin; refine wpList_app rfl _ _ rfl w5.heap.size v5 128 (metaL m) rfl o5a _ 1 1 [1] rfl l5 (row_none l5) (by omega) e5a.size ?_; intro v6 w7 o6 g6; have e6 := below_own e5a o5a g6 (Nat.le_refl _) e5a.size; have C7 := Lib.hid (C5.out.trans (e6.mono C5.out.size)); obtain ⟨A6, c6, rfl, hc6, r6, _⟩ := o6.form; have HR2 := Lib.hid (read_not A6 129 c6 w7 HN1.out r6 hc6 (by omega)); clear e5 e5a o5 o5a l5 o6 g6 e6 r6 g5 r4 n4)
      | (go_at_call 9; (with_reducible refine HR2.out.mono ?_); rintro e w8 ⟨rfl, b8⟩; clear HR2; have C8 := Lib.hid (C7.out.trans (b8.mono C7.out.size)); clear b8; have hne8 := has_new w8 27 zeroT.cells)
      | (refine wpList_row rfl 27 _ _ rfl w8.heap.size zeroT.cells rfl rfl 27 _ hne8 (size27 zeroT_ok) rfl (mt_all _) ?_; intro w9 hs9 on9; have C9 := Lib.hid ((C8.out.alloc C8.out.size (.cells zeroT.cells 27)).trans (on9.to_below (C8.out.alloc C8.out.size (.cells zeroT.cells 27)).size (fun b e => by have := C8.out.size; omega))); clear hs9 on9 hne8)
      | (go_at_call 13; (with_reducible refine (lnum_any _ _).mono ?_); rintro e wn ⟨rfl, rfl⟩))
    go_ret
    exact ⟨rfl, C9.out⟩
end Go.Proofs.Ythkgbcchnneloaa.metaShort
