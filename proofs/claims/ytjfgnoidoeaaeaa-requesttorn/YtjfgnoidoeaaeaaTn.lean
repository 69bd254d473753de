/-
  The walk of the law RequestTorn within the limits, and the whole; conditions: the request's bytes lie as they read.
-/
import Derived.Test.YtjfgnoidoeaaeaaTo
namespace Go.Proofs.Ytjfgnoidoeaaeaa.requestTorn
open Go.RowKit
set_option linter.unusedVariables false
set_option linter.unusedSimpArgs false

set_option maxRecDepth 100000 in
set_option maxHeartbeats 8000000 in
theorem walk_main (k n : Int) (A : Option Addr) (l c : Nat) (bs : List Int) (r : Rp) (T : Nat) (w : World) (hr : Row w A l bs) (hq : reqB k n l = true) (hp : respB r = true) (hT : (T : Int) ≤ 9223372036854775807) :
    Calls Try.prog 4 #[.agg (qc k n (.slice A l c)), .agg r.cells, .int .i64 (T : Int)] w fun e w' => e = .returned (.bool true) ∧ Below w.heap.size w w' := by
  have hz24 := zero24_run
  have hz27 := zero27_run
  have C0 : Hid (Below w.heap.size w ((w.alloc (.cells (qc k n (.slice A l c)) 24)).alloc (.cells r.cells 27))) := Lib.hid (((Below.refl _ _).alloc (Nat.le_refl _) _).alloc (by simp) _)
  have H0 : Hid (Has ((w.alloc (.cells (qc k n (.slice A l c)) 24)).alloc (.cells r.cells 27)) w.heap.size 24 (qc k n (.slice A l c))) := Lib.hid ((has_new w 24 (qc k n (.slice A l c))).more _)
  have g0 := has_new (w.alloc (.cells (qc k n (.slice A l c)) 24)) 27 r.cells
  rw [World.size_alloc] at g0
  have G0 := Lib.hid g0
  have HLV := Lib.hid (live_any ((w.alloc (.cells (qc k n (.slice A l c)) 24)).alloc (.cells r.cells 27)))
  clear g0
  have hqi := req_in hq
  have hpi := resp_in hp
  have hl := hr.1
  have hb := hr.2.1
  have HRW := Lib.hid hr
  have HQB := Lib.hid (show reqB k n bs.length = true by rw [hl]; exact hq)
  have HPB := Lib.hid hp
  obtain ⟨M, hM⟩ : ∃ M, 7 + l = M := ⟨_, rfl⟩
  obtain ⟨K, hK⟩ : ∃ K, T % M = K := ⟨_, rfl⟩
  obtain ⟨J, hJ⟩ : ∃ J, T % 9 = J := ⟨_, rfl⟩
  have hKl : K < M := by have := Nat.mod_lt T (show 0 < M by omega); omega
  have hJl : J < 9 := by omega
  have hmod : (T : Int).tmod (M : Int) = (K : Int) := by rw [Int.tmod_eq_emod_of_nonneg (by omega), ← hK]; exact (Int.natCast_emod T M).symm
  have hmod2 : (T : Int) % (M : Int) = (K : Int) := by rw [← hK]; exact (Int.natCast_emod T M).symm
  have hmod9 : (T : Int).tmod 9 = (J : Int) := by rw [Int.tmod_eq_emod_of_nonneg (by omega)]; omega
  have hmod9b : (T : Int) % 9 = (J : Int) := by omega
  have hwr : IntKind.i64.wrap (7 + (l : Int)) = (M : Int) := by rw [IntKind.wrap_i64]; omega
  obtain ⟨X, hX⟩ : ∃ X, reqL k n bs = X := ⟨_, rfl⟩
  obtain ⟨Y, hY⟩ : ∃ Y, respL r = Y := ⟨_, rfl⟩
  have HXL : Hid (X.length = M) := Lib.hid (by rw [← hX, req_len, hl, hM])
  have HYL : Hid (Y.length = 9) := Lib.hid (by rw [← hY, resp_len])
  have HX1 := Lib.hid (show ¬ GoodQ (X.take K) by rw [← hX]; exact good_not HQB.out hb K (by omega))
  have HX2 := Lib.hid (show ¬ GoodQ (X ++ [0]) by rw [← hX]; exact good_more HQB.out 0)
  have HY1 := Lib.hid (show ¬ GoodR (Y.take J) from not_nine (by rw [List.length_take, HYL.out]; omega))
  have HY2 := Lib.hid (show ¬ GoodR (Y ++ [0]) from not_nine (by rw [List.length_append, HYL.out]; simp))
  have HYE := Lib.hid hY
  have HBX := Lib.hid (fun (W : World) (h : Row W A l bs) => show Calls Try.prog 7 #[.agg (qc k n (.slice A l c))] W (Gives M X W) by
    have h1 := bytes_any' k n A l c bs W (by unfold I64; omega) (by unfold I64; omega) h
    have e1 : reqOut k n bs = X := by unfold reqOut; rw [if_pos HQB.out, hX]
    rw [e1, HXL.out] at h1
    exact h1)
  have HBY := Lib.hid (fun (W : World) => show Calls Try.prog 15 #[.agg r.cells] W (Gives 9 Y W) by
    have h1 := answer_any r W (by unfold I64; omega) (by unfold I64; omega) (by unfold I64; omega)
    have e1 : respOut r = Y := by unfold respOut; rw [if_pos HPB.out, hY]
    rw [e1, HYL.out] at h1
    exact h1)
  have HML := Lib.hid (show M ≤ 1007 by omega)
  have i0 : decide (1000 < (l : Int)) = false := decide_eq_false (by omega)
  have i1 : decide (k < 1) = false := decide_eq_false (by omega)
  have i2 : decide (9 < k) = false := decide_eq_false (by omega)
  have i3 : decide (n < 0) = false := decide_eq_false (by omega)
  have i4 : decide (2147483647 < n) = false := decide_eq_false (by omega)
  have i5 : decide (r.err < 0) = false := decide_eq_false (by omega)
  have i6 : decide (16 < r.err) = false := decide_eq_false (by omega)
  have i7 : decide (r.num < 0) = false := decide_eq_false (by omega)
  have i8 : decide (2147483647 < r.num) = false := decide_eq_false (by omega)
  have i9 : decide (r.gott < 0) = false := decide_eq_false (by omega)
  have ia : decide (2147483647 < r.gott) = false := decide_eq_false (by omega)
  have ib : decide ((T : Int) < 0) = false := decide_eq_false (by omega)
  have m0 : ¬ (M : Int) = 0 := by omega
  have m1 : ((M : Int) == 0) = false := by rw [beq_eq_false_iff_ne]; omega
  have KM : (K : Int) ≤ (M : Int) := by omega
  clear hK hJ hM hX hY hl hb hr hq hp hqi hpi
  go_enter Try.func4, Try.ntmps4
  go_wp2_with (first
    | (go_at_call 6; (with_reducible refine HLV.out.mono ?_); rintro e w1 ⟨rfl, b1⟩; clear HLV; have H1 := Lib.hid (H0.out.kept b1); have G1 := Lib.hid (G0.out.kept b1); have C1 := Lib.hid (C0.out.trans (b1.mono C0.out.size)); clear b1 H0 G0; have q0 : w1.cell? ⟨w.heap.size, 0, none⟩ = some (.int .i64 k) := H1.out.at 0; have q1 : w1.cell? ⟨w.heap.size, 1, none⟩ = some (.int .i64 n) := H1.out.at 1; have q2 : w1.cell? ⟨w.heap.size, 2, none⟩ = some (.slice A l c) := H1.out.at 2; have s0 := Lib.hid (ld25 (show w1.cell? ⟨w.heap.size + 1, 0, none⟩ = some (.int .i64 r.err) from G1.out.at 0)); have s1 : w1.cell? ⟨w.heap.size + 1, 1, none⟩ = some (.int .i64 r.num) := G1.out.at 1; have s2 : w1.cell? ⟨w.heap.size + 1, 2, none⟩ = some (.int .i64 r.gott) := G1.out.at 2; have L1 := Lib.hid (ld24 H1.out))
    | (refine wpList_ld 25 _ rfl _ _ s0.out rfl rfl ?_)
    | (refine wpList_ld 24 _ rfl _ _ L1.out rfl rfl ?_; have HB := Lib.hid (HBX.out w1 (row_lt HRW.out (Nat.le_refl _) C1.out)))
    | (go_at_call 7; (with_reducible refine HB.out.mono ?_); rintro e w2 ⟨v2, rfl, o2, b2⟩; clear HB L1 HBX q0 q1 q2 s0 s1 s2; have H2 := Lib.hid (H1.out.kept b2); have G2 := Lib.hid (G1.out.kept b2); have C2 := Lib.hid (C1.out.trans (b2.mono C1.out.size)); obtain ⟨A2, c2, rfl, hc2, r2, _⟩ := o2.form; have X2 := Lib.hid r2; have L2 := Lib.hid (ld27 G2.out); have HB := Lib.hid (HBY.out w2); clear o2 b2 r2 H1 G1 C1)
    | (refine wpList_ld 27 _ rfl _ _ L2.out rfl rfl ?_)
    | (go_at_call 15; (with_reducible refine HB.out.mono ?_); rintro e w3 ⟨v3, rfl, o3, b3⟩; clear HB L2 HBY; have H3 := Lib.hid (H2.out.kept b3); have G3 := Lib.hid (G2.out.kept b3); have C3 := Lib.hid (C2.out.trans (b3.mono C2.out.size)); obtain ⟨A3, c3, rfl, hc3, r3, _⟩ := o3.form; have X3 := Lib.hid (row_below b3 X2.out); have Y3 := Lib.hid r3; clear o3 b3 r3 H2 G2 C2 X2; have q2 : w3.cell? ⟨w.heap.size, 2, none⟩ = some (.slice A l c) := H3.out.at 2; have HR := Lib.hid (read_not A2 K c2 _ w3 HX1.out (row_upto X3.out K (by omega)) (by have := HML.out; omega)))
    | (go_at_call 8; (with_reducible refine HR.out.mono ?_); rintro e w4 ⟨A4, c4, rfl, b4⟩; clear HR q2; have G4 := Lib.hid (G3.out.kept b4); have C4 := Lib.hid (C3.out.trans (b4.mono C3.out.size)); have X4 := Lib.hid (row_below b4 X3.out); have Y4 := Lib.hid (row_below b4 Y3.out); clear b4 H3 G3 C3 X3 Y3; have hne := has_new w4 24 (qc 0 0 nilV))
    | (refine wpList_row rfl 24 _ _ rfl w4.heap.size (qc 0 0 (.slice A4 0 c4)) rfl rfl 24 _ hne (size24 _ _ _) rfl (qc_all _ _ _ _ _) ?_; intro w5 hs5 on5; have G5 := Lib.hid (has_on G4.out on5); have C5 := Lib.hid (below_on C4.out C4.out.size on5); have X5 := Lib.hid (row_on X4.out on5); have Y5 := Lib.hid (row_on Y4.out on5); clear hs5 on5 hne G4 C4 X4 Y4; have n5 := own_nil w5 w5.heap.size; have r5 := X5.out)
    | (at_builtin; (with_reducible refine wpList_app rfl _ _ rfl w5.heap.size (.slice none 0 0) 0 [] rfl n5 A2 M c2 X rfl r5 (row_none r5) (by have := HML.out; omega) (Nat.le_refl _) ?_); intro v6 w6 o6 g6; have e6 := below_own (Below.refl _ w5) n5 g6 (Nat.le_refl _) (Nat.le_refl _); rw [Nat.zero_add, List.nil_append] at o6; have l6 : Row (w6.alloc (.cells #[.int .u8 0] 5)) (some ⟨w6.heap.size, 0, none⟩) 1 [0] := row_one w6 (by omega); have e6a := e6.alloc e6.size (.cells #[.int .u8 0] 5); have o6a := o6.kept ((Below.refl _ _).alloc (Nat.le_refl _) (.cells #[.int .u8 0] 5)); clear r5 n5 g6 o6)
    | (at_builtin; refine wpList_app rfl _ _ rfl w5.heap.size v6 M X rfl o6a _ 1 1 [0] rfl l6 (row_none l6) (by have := HML.out; omega) e6a.size ?_; intro v7 w7 o7 g7; have e7 := below_own e6a o6a g7 (Nat.le_refl _) e6a.size; have C7 := Lib.hid (C5.out.trans (e7.mono C5.out.size)); have G7 := Lib.hid (G5.out.kept e7); have Y7 := Lib.hid (row_below e7 Y5.out); obtain ⟨A7, c7, rfl, hc7, r7, _⟩ := o7.form; have HR2 := Lib.hid (read_not A7 (M + 1) c7 _ w7 HX2.out r7 (by have := HML.out; omega)); clear e6 e6a o6a l6 o7 g7 e7 r7 G5 C5 Y5)
    | (go_at_call 8; (with_reducible refine HR2.out.mono ?_); rintro e w8 ⟨A8, c8, rfl, b8⟩; clear HR2; have G8 := Lib.hid (G7.out.kept b8); have C8 := Lib.hid (C7.out.trans (b8.mono C7.out.size)); have Y8 := Lib.hid (row_below b8 Y7.out); clear b8 G7 C7 Y7; have hne8 := has_new w8 24 (qc 0 0 nilV))
    | (refine wpList_row rfl 24 _ _ rfl w8.heap.size (qc 0 0 (.slice A8 0 c8)) rfl rfl 24 _ hne8 (size24 _ _ _) rfl (qc_all _ _ _ _ _) ?_; intro w9 hs9 on9; have G9 := Lib.hid (has_on G8.out on9); have C9 := Lib.hid (below_on C8.out C8.out.size on9); have Y9 := Lib.hid (row_on Y8.out on9); clear hs9 on9 hne8 G8 C8 Y8; have HR3 := Lib.hid (ans_not A3 J c3 _ w9 HY1.out (row_upto Y9.out J (by omega)) (by omega)))
    | (go_at_call 10; (with_reducible refine HR3.out.mono ?_); rintro e wa ⟨rfl, ba⟩; clear HR3; have Ga := Lib.hid (G9.out.kept ba); have Ca := Lib.hid (C9.out.trans (ba.mono C9.out.size)); have Ya := Lib.hid (row_below ba Y9.out); clear ba G9 C9 Y9; have hnea := has_new wa 27 zeroR.cells)
    | (refine wpList_row rfl 27 _ _ rfl wa.heap.size zeroR.cells rfl rfl 27 _ hnea (size27 _) rfl (rp_all _) ?_; intro wb hsb onb; have Gb := Lib.hid (has_on Ga.out onb); have Cb := Lib.hid (below_on Ca.out Ca.out.size onb); have Yb := Lib.hid (row_on Ya.out onb); clear hsb onb hnea Ga Ca Ya; have nb := own_nil wb wb.heap.size; have rb := Yb.out)
    | (at_builtin; (with_reducible refine wpList_app rfl _ _ rfl wb.heap.size (.slice none 0 0) 0 [] rfl nb A3 9 c3 Y rfl rb (row_none rb) (by omega) (Nat.le_refl _) ?_); intro vd wd od gd; have ed := below_own (Below.refl _ wb) nb gd (Nat.le_refl _) (Nat.le_refl _); rw [Nat.zero_add, List.nil_append] at od; have ldd : Row (wd.alloc (.cells #[.int .u8 0] 5)) (some ⟨wd.heap.size, 0, none⟩) 1 [0] := row_one wd (by omega); have eda := ed.alloc ed.size (.cells #[.int .u8 0] 5); have oda := od.kept ((Below.refl _ _).alloc (Nat.le_refl _) (.cells #[.int .u8 0] 5)); clear rb nb gd od)
    | (at_builtin; refine wpList_app rfl _ _ rfl wb.heap.size vd 9 Y rfl oda _ 1 1 [0] rfl ldd (row_none ldd) (by omega) eda.size ?_; intro ve we oe ge; have ee := below_own eda oda ge (Nat.le_refl _) eda.size; have Ce := Lib.hid (Cb.out.trans (ee.mono Cb.out.size)); have Ge := Lib.hid (Gb.out.kept ee); have Ye := Lib.hid (row_below ee Yb.out); obtain ⟨Ae, ce, rfl, hce, re, _⟩ := oe.form; have HR4 := Lib.hid (ans_not Ae 10 ce _ we HY2.out re (by omega)); clear ed eda oda ldd oe ge ee re Gb Cb Yb)
    | (go_at_call 10; (with_reducible refine HR4.out.mono ?_); rintro e wf ⟨rfl, bf⟩; clear HR4; have Gf := Lib.hid (Ge.out.kept bf); have Cf := Lib.hid (Ce.out.trans (bf.mono Ce.out.size)); have Yf := Lib.hid (row_below bf Ye.out); clear bf Ge Ce Ye; have hnef := has_new wf 27 zeroR.cells)
    | (refine wpList_row rfl 27 _ _ rfl wf.heap.size zeroR.cells rfl rfl 27 _ hnef (size27 _) rfl (rp_all _) ?_; intro wg hsg ong; have Gg := Lib.hid (has_on Gf.out ong); have Cg := Lib.hid (below_on Cf.out Cf.out.size ong); have Yg := row_on Yf.out ong; clear hsg ong hnef Gf Cf Yf; rw [← HYE.out] at Yg; have HR5 := Lib.hid (ans_yes A3 9 c3 r wg HPB.out Yg (by omega)); clear Yg)
    | (go_at_call 10; (with_reducible refine HR5.out.mono ?_); rintro e wh ⟨rfl, bh⟩; clear HR5; have Gh := Lib.hid (Gg.out.kept bh); have Ch := Lib.hid (Cg.out.trans (bh.mono Cg.out.size)); clear bh Gg Cg; have hneh := has_new wh 27 zeroR.cells)
    | (refine wpList_row rfl 27 _ _ rfl wh.heap.size r.cells rfl rfl 27 _ hneh (size27 _) rfl (rp_all _) ?_; intro wi hsi oni; have Gi := Lib.hid (ld27 (has_on Gh.out oni)); have Ci := Lib.hid (below_on Ch.out Ch.out.size oni); have Li := Lib.hid (ld27 hsi); clear hsi oni hneh Gh Ch)
    | (go_at_call 14; (with_reducible refine (num_any' _ _).mono ?_); rintro e wn ⟨rfl, rfl⟩)
    | (refine wpList_ld 27 _ rfl _ _ Li.out rfl rfl ?_)
    | (refine wpList_ld 27 _ rfl _ _ Gi.out rfl rfl ?_)
    | (refine wpList_eqR _ _ rfl r r rfl rfl rfl rfl ?_))
  go_ret
  exact ⟨rfl, Ci.out⟩
theorem walk (k n : Int) (A : Option Addr) (l c : Nat) (bs : List Int) (r : Rp) (t : Int) (w : World) (_ : I64 k) (_ : I64 n) (hr : Row w A l bs) (_ : l ≤ c) (_ : I64 r.err) (_ : I64 r.num) (_ : I64 r.gott) (w0 : (Lit.int .i64 t).wf = true) :
    Calls Try.prog 4 #[.agg (qc k n (.slice A l c)), .agg r.cells, .int .i64 t] w fun e w' => e = .returned (.bool true) ∧ Below w.heap.size w w' := by
  have ht := (bounds_i64 w0).2
  by_cases h : 1000 < (l : Int) ∨ k < 1 ∨ 9 < k ∨ n < 0 ∨ 2147483647 < n ∨ r.err < 0 ∨ 16 < r.err ∨ r.num < 0 ∨ 2147483647 < r.num ∨ r.gott < 0 ∨ 2147483647 < r.gott ∨ t < 0
  · exact walk_out k n A l c r t w h
  · obtain ⟨T, rfl⟩ := Int.eq_ofNat_of_zero_le (show 0 ≤ t by omega)
    exact walk_main k n A l c bs r T w hr (req_of ⟨by omega, by omega⟩ ⟨by omega, by omega⟩ (by omega)) (resp_of ⟨by omega, by omega⟩ ⟨by omega, by omega⟩ ⟨by omega, by omega⟩) ht
end Go.Proofs.Ytjfgnoidoeaaeaa.requestTorn
