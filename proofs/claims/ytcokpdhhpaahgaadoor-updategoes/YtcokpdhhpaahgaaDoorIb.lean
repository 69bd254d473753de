/-
  May it be kept? The program's own answer; conditions: the digests are of 32 bytes, the numbers of 64 bits.
-/
import Derived.Test.YtcokpdhhpaahgaaDoorMMt
namespace Go.Proofs.YtcokpdhhpaahgaaDoor
open Go.RowKit
set_option linter.unusedVariables false
set_option linter.unusedSimpArgs false

set_option maxRecDepth 100000 in
set_option maxHeartbeats 4000000 in
theorem inBounds_any (m : Mt) (w : World) (hm : m.Ok) : Calls Tryd.prog 38 #[.agg m.cells] w fun e w' => e = .returned (.bool (inB m)) ∧ Below w.heap.size w w' := by
  have C0 : Hid (Below w.heap.size w (w.alloc (.cells m.cells 27))) := Lib.hid ((Below.refl _ _).alloc (Nat.le_refl _) _)
  have H0 := Lib.hid (has_new w 27 m.cells)
  have S0 := Lib.hid (seen_of H0.out hm)
  have q0 := S0.out.act
  have HX1 := Lib.hid (within_any m.act 1 (w.alloc (.cells m.cells 27)))
  unfold inB
  cases e1 : decide (0 ≤ m.act ∧ m.act ≤ 1) with
  | false =>
    have E1 := Lib.hid e1
    rw [e1] at HX1
    clear e1
    go_enter Tryd.func38, Tryd.ntmps38
    go_wp2_with (first
      | (go_at_call 53; (with_reducible refine HX1.out.mono ?_); rintro e wx ⟨rfl, rfl⟩; clear HX1 q0; have HX2 := Lib.hid (rightImage_any m.h0 _ hm.h0 : Calls Tryd.prog 54 #[.agg m.h0.cells] (w.alloc (.cells m.cells 27)) _)))
    go_ret
    exact ⟨rfl, C0.out⟩
  | true =>
    have E1 := Lib.hid e1
    rw [e1] at HX1
    clear e1
    cases e2 : okI m.h0 with
    | false =>
      have E2 := Lib.hid e2
      clear e2
      go_enter Tryd.func38, Tryd.ntmps38
      go_wp2_with (first
        | (go_at_call 53; (with_reducible refine HX1.out.mono ?_); rintro e wx ⟨rfl, rfl⟩; clear HX1 q0; have HX2 := Lib.hid (rightImage_any m.h0 _ hm.h0 : Calls Tryd.prog 54 #[.agg m.h0.cells] (w.alloc (.cells m.cells 27)) _); rw [E2.out] at HX2)
        | (refine wpList_ld 24 _ rfl _ _ S0.out.l0 rfl rfl ?_)
        | (go_at_call 54; (with_reducible refine HX2.out.mono ?_); rintro e w1 ⟨rfl, b1⟩; clear HX2; have C1 := Lib.hid (C0.out.trans (b1.mono C0.out.size)); have H1 := Lib.hid (H0.out.kept b1); clear b1; have S1 := Lib.hid (seen_of H1.out hm); have HX3 := Lib.hid (rightImage_any m.h1 w1 hm.h1)))
      go_ret
      exact ⟨rfl, C1.out⟩
    | true =>
      have E2 := Lib.hid e2
      clear e2
      cases e3 : okI m.h1 with
      | false =>
        have E3 := Lib.hid e3
        clear e3
        go_enter Tryd.func38, Tryd.ntmps38
        go_wp2_with (first
          | (go_at_call 53; (with_reducible refine HX1.out.mono ?_); rintro e wx ⟨rfl, rfl⟩; clear HX1 q0; have HX2 := Lib.hid (rightImage_any m.h0 _ hm.h0 : Calls Tryd.prog 54 #[.agg m.h0.cells] (w.alloc (.cells m.cells 27)) _); rw [E2.out] at HX2)
          | (refine wpList_ld 24 _ rfl _ _ S0.out.l0 rfl rfl ?_)
          | (go_at_call 54; (with_reducible refine HX2.out.mono ?_); rintro e w1 ⟨rfl, b1⟩; clear HX2; have C1 := Lib.hid (C0.out.trans (b1.mono C0.out.size)); have H1 := Lib.hid (H0.out.kept b1); clear b1; have S1 := Lib.hid (seen_of H1.out hm); have HX3 := Lib.hid (rightImage_any m.h1 w1 hm.h1); rw [E3.out] at HX3)
          | (refine wpList_ld 24 _ rfl _ _ S1.out.l1 rfl rfl ?_)
          | (go_at_call 54; (with_reducible refine HX3.out.mono ?_); rintro e w2 ⟨rfl, b2⟩; clear HX3; have C2 := Lib.hid (C1.out.trans (b2.mono C1.out.size)); have H2 := Lib.hid (H1.out.kept b2); clear b2; have S2 := Lib.hid (seen_of H2.out hm); have HX4 := Lib.hid (rightImage_any m.com w2 hm.com)))
        go_ret
        exact ⟨rfl, C2.out⟩
      | true =>
        have E3 := Lib.hid e3
        clear e3
        cases e4 : okI m.com with
        | false =>
          have E4 := Lib.hid e4
          clear e4
          go_enter Tryd.func38, Tryd.ntmps38
          go_wp2_with (first
            | (go_at_call 53; (with_reducible refine HX1.out.mono ?_); rintro e wx ⟨rfl, rfl⟩; clear HX1 q0; have HX2 := Lib.hid (rightImage_any m.h0 _ hm.h0 : Calls Tryd.prog 54 #[.agg m.h0.cells] (w.alloc (.cells m.cells 27)) _); rw [E2.out] at HX2)
            | (refine wpList_ld 24 _ rfl _ _ S0.out.l0 rfl rfl ?_)
            | (go_at_call 54; (with_reducible refine HX2.out.mono ?_); rintro e w1 ⟨rfl, b1⟩; clear HX2; have C1 := Lib.hid (C0.out.trans (b1.mono C0.out.size)); have H1 := Lib.hid (H0.out.kept b1); clear b1; have S1 := Lib.hid (seen_of H1.out hm); have HX3 := Lib.hid (rightImage_any m.h1 w1 hm.h1); rw [E3.out] at HX3)
            | (refine wpList_ld 24 _ rfl _ _ S1.out.l1 rfl rfl ?_)
            | (go_at_call 54; (with_reducible refine HX3.out.mono ?_); rintro e w2 ⟨rfl, b2⟩; clear HX3; have C2 := Lib.hid (C1.out.trans (b2.mono C1.out.size)); have H2 := Lib.hid (H1.out.kept b2); clear b2; have S2 := Lib.hid (seen_of H2.out hm); have HX4 := Lib.hid (rightImage_any m.com w2 hm.com); rw [E4.out] at HX4)
            | (refine wpList_ld 24 _ rfl _ _ S2.out.l2 rfl rfl ?_)
            | (go_at_call 54; (with_reducible refine HX4.out.mono ?_); rintro e w3 ⟨rfl, b3⟩; clear HX4; have C3 := Lib.hid (C2.out.trans (b3.mono C2.out.size)); have H3 := Lib.hid (H2.out.kept b3); clear b3; have S3 := Lib.hid (seen_of H3.out hm)))
          go_ret
          exact ⟨rfl, C3.out⟩
        | true =>
          have E4 := Lib.hid e4
          clear e4
          have ha := of_decide_eq_true E1.out
          have ha2 : m.act = 0 ∨ m.act = 1 := by omega
          clear ha
          rcases ha2 with ha | ha
          · have EA := Lib.hid ha
            have eo : m.own = m.h0 := by unfold Mt.own; rw [if_pos ha]
            clear ha
            cases e5 : decide (m.own.ver ≠ 0) with
            | false =>
              have E5 := Lib.hid e5
              clear e5
              rw [eo] at E5
              go_enter Tryd.func38, Tryd.ntmps38
              go_wp2_with (first
                | (go_at_call 53; (with_reducible refine HX1.out.mono ?_); rintro e wx ⟨rfl, rfl⟩; clear HX1 q0; have HX2 := Lib.hid (rightImage_any m.h0 _ hm.h0 : Calls Tryd.prog 54 #[.agg m.h0.cells] (w.alloc (.cells m.cells 27)) _); rw [E2.out] at HX2)
                | (refine wpList_ld 24 _ rfl _ _ S0.out.l0 rfl rfl ?_)
                | (go_at_call 54; (with_reducible refine HX2.out.mono ?_); rintro e w1 ⟨rfl, b1⟩; clear HX2; have C1 := Lib.hid (C0.out.trans (b1.mono C0.out.size)); have H1 := Lib.hid (H0.out.kept b1); clear b1; have S1 := Lib.hid (seen_of H1.out hm); have HX3 := Lib.hid (rightImage_any m.h1 w1 hm.h1); rw [E3.out] at HX3)
                | (refine wpList_ld 24 _ rfl _ _ S1.out.l1 rfl rfl ?_)
                | (go_at_call 54; (with_reducible refine HX3.out.mono ?_); rintro e w2 ⟨rfl, b2⟩; clear HX3; have C2 := Lib.hid (C1.out.trans (b2.mono C1.out.size)); have H2 := Lib.hid (H1.out.kept b2); clear b2; have S2 := Lib.hid (seen_of H2.out hm); have HX4 := Lib.hid (rightImage_any m.com w2 hm.com); rw [E4.out] at HX4)
                | (refine wpList_ld 24 _ rfl _ _ S2.out.l2 rfl rfl ?_)
                | (go_at_call 54; (with_reducible refine HX4.out.mono ?_); rintro e w3 ⟨rfl, b3⟩; clear HX4; have C3 := Lib.hid (C2.out.trans (b3.mono C2.out.size)); have H3 := Lib.hid (H2.out.kept b3); clear b3; have S3 := Lib.hid (seen_of H3.out hm); have a3 := S3.out.act; rw [EA.out] at a3; have HX5 := Lib.hid (isOne_any m.h0 w3); rw [E5.out] at HX5)
                | (refine wpList_ld 24 _ rfl _ _ S3.out.l0 rfl rfl ?_)
                | (go_at_call 55; (with_reducible refine HX5.out.mono ?_); rintro e w4 ⟨rfl, b4⟩; clear HX5; have C4 := Lib.hid (C3.out.trans (b4.mono C3.out.size)); have H4 := Lib.hid (H3.out.kept b4); clear b4; have S4 := Lib.hid (seen_of H4.out hm); clear a3; have q4 := S4.out.least; have q5 := S4.out.gott; have q6 := S4.out.trials; have HX6 := Lib.hid (within_any m.least 1073741824 w4)))
              go_ret
              exact ⟨rfl, C4.out⟩
            | true =>
              have E5 := Lib.hid e5
              clear e5
              rw [eo] at E5
              cases e6 : decide (0 ≤ m.least ∧ m.least ≤ 1073741824) with
              | false =>
                have E6 := Lib.hid e6
                clear e6
                go_enter Tryd.func38, Tryd.ntmps38
                go_wp2_with (first
                  | (go_at_call 53; (with_reducible refine HX1.out.mono ?_); rintro e wx ⟨rfl, rfl⟩; clear HX1 q0; have HX2 := Lib.hid (rightImage_any m.h0 _ hm.h0 : Calls Tryd.prog 54 #[.agg m.h0.cells] (w.alloc (.cells m.cells 27)) _); rw [E2.out] at HX2)
                  | (refine wpList_ld 24 _ rfl _ _ S0.out.l0 rfl rfl ?_)
                  | (go_at_call 54; (with_reducible refine HX2.out.mono ?_); rintro e w1 ⟨rfl, b1⟩; clear HX2; have C1 := Lib.hid (C0.out.trans (b1.mono C0.out.size)); have H1 := Lib.hid (H0.out.kept b1); clear b1; have S1 := Lib.hid (seen_of H1.out hm); have HX3 := Lib.hid (rightImage_any m.h1 w1 hm.h1); rw [E3.out] at HX3)
                  | (refine wpList_ld 24 _ rfl _ _ S1.out.l1 rfl rfl ?_)
                  | (go_at_call 54; (with_reducible refine HX3.out.mono ?_); rintro e w2 ⟨rfl, b2⟩; clear HX3; have C2 := Lib.hid (C1.out.trans (b2.mono C1.out.size)); have H2 := Lib.hid (H1.out.kept b2); clear b2; have S2 := Lib.hid (seen_of H2.out hm); have HX4 := Lib.hid (rightImage_any m.com w2 hm.com); rw [E4.out] at HX4)
                  | (refine wpList_ld 24 _ rfl _ _ S2.out.l2 rfl rfl ?_)
                  | (go_at_call 54; (with_reducible refine HX4.out.mono ?_); rintro e w3 ⟨rfl, b3⟩; clear HX4; have C3 := Lib.hid (C2.out.trans (b3.mono C2.out.size)); have H3 := Lib.hid (H2.out.kept b3); clear b3; have S3 := Lib.hid (seen_of H3.out hm); have a3 := S3.out.act; rw [EA.out] at a3; have HX5 := Lib.hid (isOne_any m.h0 w3); rw [E5.out] at HX5)
                  | (refine wpList_ld 24 _ rfl _ _ S3.out.l0 rfl rfl ?_)
                  | (go_at_call 55; (with_reducible refine HX5.out.mono ?_); rintro e w4 ⟨rfl, b4⟩; clear HX5; have C4 := Lib.hid (C3.out.trans (b4.mono C3.out.size)); have H4 := Lib.hid (H3.out.kept b4); clear b4; have S4 := Lib.hid (seen_of H4.out hm); clear a3; have q4 := S4.out.least; have q5 := S4.out.gott; have q6 := S4.out.trials; have HX6 := Lib.hid (within_any m.least 1073741824 w4); rw [E6.out] at HX6)
                  | (go_at_call 53; (with_reducible refine HX6.out.mono ?_); rintro e wx ⟨rfl, rfl⟩; clear HX6; have HX7 := Lib.hid (within_any m.gott 6 w4)))
                go_ret
                exact ⟨rfl, C4.out⟩
              | true =>
                have E6 := Lib.hid e6
                clear e6
                cases e7 : decide (0 ≤ m.gott ∧ m.gott ≤ 6) with
                | false =>
                  have E7 := Lib.hid e7
                  clear e7
                  go_enter Tryd.func38, Tryd.ntmps38
                  go_wp2_with (first
                    | (go_at_call 53; (with_reducible refine HX1.out.mono ?_); rintro e wx ⟨rfl, rfl⟩; clear HX1 q0; have HX2 := Lib.hid (rightImage_any m.h0 _ hm.h0 : Calls Tryd.prog 54 #[.agg m.h0.cells] (w.alloc (.cells m.cells 27)) _); rw [E2.out] at HX2)
                    | (refine wpList_ld 24 _ rfl _ _ S0.out.l0 rfl rfl ?_)
                    | (go_at_call 54; (with_reducible refine HX2.out.mono ?_); rintro e w1 ⟨rfl, b1⟩; clear HX2; have C1 := Lib.hid (C0.out.trans (b1.mono C0.out.size)); have H1 := Lib.hid (H0.out.kept b1); clear b1; have S1 := Lib.hid (seen_of H1.out hm); have HX3 := Lib.hid (rightImage_any m.h1 w1 hm.h1); rw [E3.out] at HX3)
                    | (refine wpList_ld 24 _ rfl _ _ S1.out.l1 rfl rfl ?_)
                    | (go_at_call 54; (with_reducible refine HX3.out.mono ?_); rintro e w2 ⟨rfl, b2⟩; clear HX3; have C2 := Lib.hid (C1.out.trans (b2.mono C1.out.size)); have H2 := Lib.hid (H1.out.kept b2); clear b2; have S2 := Lib.hid (seen_of H2.out hm); have HX4 := Lib.hid (rightImage_any m.com w2 hm.com); rw [E4.out] at HX4)
                    | (refine wpList_ld 24 _ rfl _ _ S2.out.l2 rfl rfl ?_)
                    | (go_at_call 54; (with_reducible refine HX4.out.mono ?_); rintro e w3 ⟨rfl, b3⟩; clear HX4; have C3 := Lib.hid (C2.out.trans (b3.mono C2.out.size)); have H3 := Lib.hid (H2.out.kept b3); clear b3; have S3 := Lib.hid (seen_of H3.out hm); have a3 := S3.out.act; rw [EA.out] at a3; have HX5 := Lib.hid (isOne_any m.h0 w3); rw [E5.out] at HX5)
                    | (refine wpList_ld 24 _ rfl _ _ S3.out.l0 rfl rfl ?_)
                    | (go_at_call 55; (with_reducible refine HX5.out.mono ?_); rintro e w4 ⟨rfl, b4⟩; clear HX5; have C4 := Lib.hid (C3.out.trans (b4.mono C3.out.size)); have H4 := Lib.hid (H3.out.kept b4); clear b4; have S4 := Lib.hid (seen_of H4.out hm); clear a3; have q4 := S4.out.least; have q5 := S4.out.gott; have q6 := S4.out.trials; have HX6 := Lib.hid (within_any m.least 1073741824 w4); rw [E6.out] at HX6)
                    | (go_at_call 53; (with_reducible refine HX6.out.mono ?_); rintro e wx ⟨rfl, rfl⟩; clear HX6; have HX7 := Lib.hid (within_any m.gott 6 w4); rw [E7.out] at HX7)
                    | (go_at_call 53; (with_reducible refine HX7.out.mono ?_); rintro e wx ⟨rfl, rfl⟩; clear HX7; have HX8 := Lib.hid (within_any m.trials 2 w4)))
                  go_ret
                  exact ⟨rfl, C4.out⟩
                | true =>
                  have E7 := Lib.hid e7
                  clear e7
                  go_enter Tryd.func38, Tryd.ntmps38
                  go_wp2_with (first
                    | (go_at_call 53; (with_reducible refine HX1.out.mono ?_); rintro e wx ⟨rfl, rfl⟩; clear HX1 q0; have HX2 := Lib.hid (rightImage_any m.h0 _ hm.h0 : Calls Tryd.prog 54 #[.agg m.h0.cells] (w.alloc (.cells m.cells 27)) _); rw [E2.out] at HX2)
                    | (refine wpList_ld 24 _ rfl _ _ S0.out.l0 rfl rfl ?_)
                    | (go_at_call 54; (with_reducible refine HX2.out.mono ?_); rintro e w1 ⟨rfl, b1⟩; clear HX2; have C1 := Lib.hid (C0.out.trans (b1.mono C0.out.size)); have H1 := Lib.hid (H0.out.kept b1); clear b1; have S1 := Lib.hid (seen_of H1.out hm); have HX3 := Lib.hid (rightImage_any m.h1 w1 hm.h1); rw [E3.out] at HX3)
                    | (refine wpList_ld 24 _ rfl _ _ S1.out.l1 rfl rfl ?_)
                    | (go_at_call 54; (with_reducible refine HX3.out.mono ?_); rintro e w2 ⟨rfl, b2⟩; clear HX3; have C2 := Lib.hid (C1.out.trans (b2.mono C1.out.size)); have H2 := Lib.hid (H1.out.kept b2); clear b2; have S2 := Lib.hid (seen_of H2.out hm); have HX4 := Lib.hid (rightImage_any m.com w2 hm.com); rw [E4.out] at HX4)
                    | (refine wpList_ld 24 _ rfl _ _ S2.out.l2 rfl rfl ?_)
                    | (go_at_call 54; (with_reducible refine HX4.out.mono ?_); rintro e w3 ⟨rfl, b3⟩; clear HX4; have C3 := Lib.hid (C2.out.trans (b3.mono C2.out.size)); have H3 := Lib.hid (H2.out.kept b3); clear b3; have S3 := Lib.hid (seen_of H3.out hm); have a3 := S3.out.act; rw [EA.out] at a3; have HX5 := Lib.hid (isOne_any m.h0 w3); rw [E5.out] at HX5)
                    | (refine wpList_ld 24 _ rfl _ _ S3.out.l0 rfl rfl ?_)
                    | (go_at_call 55; (with_reducible refine HX5.out.mono ?_); rintro e w4 ⟨rfl, b4⟩; clear HX5; have C4 := Lib.hid (C3.out.trans (b4.mono C3.out.size)); have H4 := Lib.hid (H3.out.kept b4); clear b4; have S4 := Lib.hid (seen_of H4.out hm); clear a3; have q4 := S4.out.least; have q5 := S4.out.gott; have q6 := S4.out.trials; have HX6 := Lib.hid (within_any m.least 1073741824 w4); rw [E6.out] at HX6)
                    | (go_at_call 53; (with_reducible refine HX6.out.mono ?_); rintro e wx ⟨rfl, rfl⟩; clear HX6; have HX7 := Lib.hid (within_any m.gott 6 w4); rw [E7.out] at HX7)
                    | (go_at_call 53; (with_reducible refine HX7.out.mono ?_); rintro e wx ⟨rfl, rfl⟩; clear HX7; have HX8 := Lib.hid (within_any m.trials 2 w4))
                    | (go_at_call 53; (with_reducible refine HX8.out.mono ?_); rintro e wx ⟨rfl, rfl⟩))
                  go_ret
                  exact ⟨ret_bool (by simp [Bool.decide_and]), C4.out⟩
          · have EA := Lib.hid ha
            have eo : m.own = m.h1 := by unfold Mt.own; rw [if_neg (by omega)]
            clear ha
            cases e5 : decide (m.own.ver ≠ 0) with
            | false =>
              have E5 := Lib.hid e5
              clear e5
              rw [eo] at E5
              go_enter Tryd.func38, Tryd.ntmps38
              go_wp2_with (first
                | (go_at_call 53; (with_reducible refine HX1.out.mono ?_); rintro e wx ⟨rfl, rfl⟩; clear HX1 q0; have HX2 := Lib.hid (rightImage_any m.h0 _ hm.h0 : Calls Tryd.prog 54 #[.agg m.h0.cells] (w.alloc (.cells m.cells 27)) _); rw [E2.out] at HX2)
                | (refine wpList_ld 24 _ rfl _ _ S0.out.l0 rfl rfl ?_)
                | (go_at_call 54; (with_reducible refine HX2.out.mono ?_); rintro e w1 ⟨rfl, b1⟩; clear HX2; have C1 := Lib.hid (C0.out.trans (b1.mono C0.out.size)); have H1 := Lib.hid (H0.out.kept b1); clear b1; have S1 := Lib.hid (seen_of H1.out hm); have HX3 := Lib.hid (rightImage_any m.h1 w1 hm.h1); rw [E3.out] at HX3)
                | (refine wpList_ld 24 _ rfl _ _ S1.out.l1 rfl rfl ?_)
                | (go_at_call 54; (with_reducible refine HX3.out.mono ?_); rintro e w2 ⟨rfl, b2⟩; clear HX3; have C2 := Lib.hid (C1.out.trans (b2.mono C1.out.size)); have H2 := Lib.hid (H1.out.kept b2); clear b2; have S2 := Lib.hid (seen_of H2.out hm); have HX4 := Lib.hid (rightImage_any m.com w2 hm.com); rw [E4.out] at HX4)
                | (refine wpList_ld 24 _ rfl _ _ S2.out.l2 rfl rfl ?_)
                | (go_at_call 54; (with_reducible refine HX4.out.mono ?_); rintro e w3 ⟨rfl, b3⟩; clear HX4; have C3 := Lib.hid (C2.out.trans (b3.mono C2.out.size)); have H3 := Lib.hid (H2.out.kept b3); clear b3; have S3 := Lib.hid (seen_of H3.out hm); have a3 := S3.out.act; rw [EA.out] at a3; have HX5 := Lib.hid (isOne_any m.h1 w3); rw [E5.out] at HX5)
                | (refine wpList_ld 24 _ rfl _ _ S3.out.l1 rfl rfl ?_)
                | (go_at_call 55; (with_reducible refine HX5.out.mono ?_); rintro e w4 ⟨rfl, b4⟩; clear HX5; have C4 := Lib.hid (C3.out.trans (b4.mono C3.out.size)); have H4 := Lib.hid (H3.out.kept b4); clear b4; have S4 := Lib.hid (seen_of H4.out hm); clear a3; have q4 := S4.out.least; have q5 := S4.out.gott; have q6 := S4.out.trials; have HX6 := Lib.hid (within_any m.least 1073741824 w4)))
              go_ret
              exact ⟨rfl, C4.out⟩
            | true =>
              have E5 := Lib.hid e5
              clear e5
              rw [eo] at E5
              cases e6 : decide (0 ≤ m.least ∧ m.least ≤ 1073741824) with
              | false =>
                have E6 := Lib.hid e6
                clear e6
                go_enter Tryd.func38, Tryd.ntmps38
                go_wp2_with (first
                  | (go_at_call 53; (with_reducible refine HX1.out.mono ?_); rintro e wx ⟨rfl, rfl⟩; clear HX1 q0; have HX2 := Lib.hid (rightImage_any m.h0 _ hm.h0 : Calls Tryd.prog 54 #[.agg m.h0.cells] (w.alloc (.cells m.cells 27)) _); rw [E2.out] at HX2)
                  | (refine wpList_ld 24 _ rfl _ _ S0.out.l0 rfl rfl ?_)
                  | (go_at_call 54; (with_reducible refine HX2.out.mono ?_); rintro e w1 ⟨rfl, b1⟩; clear HX2; have C1 := Lib.hid (C0.out.trans (b1.mono C0.out.size)); have H1 := Lib.hid (H0.out.kept b1); clear b1; have S1 := Lib.hid (seen_of H1.out hm); have HX3 := Lib.hid (rightImage_any m.h1 w1 hm.h1); rw [E3.out] at HX3)
                  | (refine wpList_ld 24 _ rfl _ _ S1.out.l1 rfl rfl ?_)
                  | (go_at_call 54; (with_reducible refine HX3.out.mono ?_); rintro e w2 ⟨rfl, b2⟩; clear HX3; have C2 := Lib.hid (C1.out.trans (b2.mono C1.out.size)); have H2 := Lib.hid (H1.out.kept b2); clear b2; have S2 := Lib.hid (seen_of H2.out hm); have HX4 := Lib.hid (rightImage_any m.com w2 hm.com); rw [E4.out] at HX4)
                  | (refine wpList_ld 24 _ rfl _ _ S2.out.l2 rfl rfl ?_)
                  | (go_at_call 54; (with_reducible refine HX4.out.mono ?_); rintro e w3 ⟨rfl, b3⟩; clear HX4; have C3 := Lib.hid (C2.out.trans (b3.mono C2.out.size)); have H3 := Lib.hid (H2.out.kept b3); clear b3; have S3 := Lib.hid (seen_of H3.out hm); have a3 := S3.out.act; rw [EA.out] at a3; have HX5 := Lib.hid (isOne_any m.h1 w3); rw [E5.out] at HX5)
                  | (refine wpList_ld 24 _ rfl _ _ S3.out.l1 rfl rfl ?_)
                  | (go_at_call 55; (with_reducible refine HX5.out.mono ?_); rintro e w4 ⟨rfl, b4⟩; clear HX5; have C4 := Lib.hid (C3.out.trans (b4.mono C3.out.size)); have H4 := Lib.hid (H3.out.kept b4); clear b4; have S4 := Lib.hid (seen_of H4.out hm); clear a3; have q4 := S4.out.least; have q5 := S4.out.gott; have q6 := S4.out.trials; have HX6 := Lib.hid (within_any m.least 1073741824 w4); rw [E6.out] at HX6)
                  | (go_at_call 53; (with_reducible refine HX6.out.mono ?_); rintro e wx ⟨rfl, rfl⟩; clear HX6; have HX7 := Lib.hid (within_any m.gott 6 w4)))
                go_ret
                exact ⟨rfl, C4.out⟩
              | true =>
                have E6 := Lib.hid e6
                clear e6
                cases e7 : decide (0 ≤ m.gott ∧ m.gott ≤ 6) with
                | false =>
                  have E7 := Lib.hid e7
                  clear e7
                  go_enter Tryd.func38, Tryd.ntmps38
                  go_wp2_with (first
                    | (go_at_call 53; (with_reducible refine HX1.out.mono ?_); rintro e wx ⟨rfl, rfl⟩; clear HX1 q0; have HX2 := Lib.hid (rightImage_any m.h0 _ hm.h0 : Calls Tryd.prog 54 #[.agg m.h0.cells] (w.alloc (.cells m.cells 27)) _); rw [E2.out] at HX2)
                    | (refine wpList_ld 24 _ rfl _ _ S0.out.l0 rfl rfl ?_)
                    | (go_at_call 54; (with_reducible refine HX2.out.mono ?_); rintro e w1 ⟨rfl, b1⟩; clear HX2; have C1 := Lib.hid (C0.out.trans (b1.mono C0.out.size)); have H1 := Lib.hid (H0.out.kept b1); clear b1; have S1 := Lib.hid (seen_of H1.out hm); have HX3 := Lib.hid (rightImage_any m.h1 w1 hm.h1); rw [E3.out] at HX3)
                    | (refine wpList_ld 24 _ rfl _ _ S1.out.l1 rfl rfl ?_)
                    | (go_at_call 54; (with_reducible refine HX3.out.mono ?_); rintro e w2 ⟨rfl, b2⟩; clear HX3; have C2 := Lib.hid (C1.out.trans (b2.mono C1.out.size)); have H2 := Lib.hid (H1.out.kept b2); clear b2; have S2 := Lib.hid (seen_of H2.out hm); have HX4 := Lib.hid (rightImage_any m.com w2 hm.com); rw [E4.out] at HX4)
                    | (refine wpList_ld 24 _ rfl _ _ S2.out.l2 rfl rfl ?_)
                    | (go_at_call 54; (with_reducible refine HX4.out.mono ?_); rintro e w3 ⟨rfl, b3⟩; clear HX4; have C3 := Lib.hid (C2.out.trans (b3.mono C2.out.size)); have H3 := Lib.hid (H2.out.kept b3); clear b3; have S3 := Lib.hid (seen_of H3.out hm); have a3 := S3.out.act; rw [EA.out] at a3; have HX5 := Lib.hid (isOne_any m.h1 w3); rw [E5.out] at HX5)
                    | (refine wpList_ld 24 _ rfl _ _ S3.out.l1 rfl rfl ?_)
                    | (go_at_call 55; (with_reducible refine HX5.out.mono ?_); rintro e w4 ⟨rfl, b4⟩; clear HX5; have C4 := Lib.hid (C3.out.trans (b4.mono C3.out.size)); have H4 := Lib.hid (H3.out.kept b4); clear b4; have S4 := Lib.hid (seen_of H4.out hm); clear a3; have q4 := S4.out.least; have q5 := S4.out.gott; have q6 := S4.out.trials; have HX6 := Lib.hid (within_any m.least 1073741824 w4); rw [E6.out] at HX6)
                    | (go_at_call 53; (with_reducible refine HX6.out.mono ?_); rintro e wx ⟨rfl, rfl⟩; clear HX6; have HX7 := Lib.hid (within_any m.gott 6 w4); rw [E7.out] at HX7)
                    | (go_at_call 53; (with_reducible refine HX7.out.mono ?_); rintro e wx ⟨rfl, rfl⟩; clear HX7; have HX8 := Lib.hid (within_any m.trials 2 w4)))
                  go_ret
                  exact ⟨rfl, C4.out⟩
                | true =>
                  have E7 := Lib.hid e7
                  clear e7
                  go_enter Tryd.func38, Tryd.ntmps38
                  go_wp2_with (first
                    | (go_at_call 53; (with_reducible refine HX1.out.mono ?_); rintro e wx ⟨rfl, rfl⟩; clear HX1 q0; have HX2 := Lib.hid (rightImage_any m.h0 _ hm.h0 : Calls Tryd.prog 54 #[.agg m.h0.cells] (w.alloc (.cells m.cells 27)) _); rw [E2.out] at HX2)
                    | (refine wpList_ld 24 _ rfl _ _ S0.out.l0 rfl rfl ?_)
                    | (go_at_call 54; (with_reducible refine HX2.out.mono ?_); rintro e w1 ⟨rfl, b1⟩; clear HX2; have C1 := Lib.hid (C0.out.trans (b1.mono C0.out.size)); have H1 := Lib.hid (H0.out.kept b1); clear b1; have S1 := Lib.hid (seen_of H1.out hm); have HX3 := Lib.hid (rightImage_any m.h1 w1 hm.h1); rw [E3.out] at HX3)
                    | (refine wpList_ld 24 _ rfl _ _ S1.out.l1 rfl rfl ?_)
                    | (go_at_call 54; (with_reducible refine HX3.out.mono ?_); rintro e w2 ⟨rfl, b2⟩; clear HX3; have C2 := Lib.hid (C1.out.trans (b2.mono C1.out.size)); have H2 := Lib.hid (H1.out.kept b2); clear b2; have S2 := Lib.hid (seen_of H2.out hm); have HX4 := Lib.hid (rightImage_any m.com w2 hm.com); rw [E4.out] at HX4)
                    | (refine wpList_ld 24 _ rfl _ _ S2.out.l2 rfl rfl ?_)
                    | (go_at_call 54; (with_reducible refine HX4.out.mono ?_); rintro e w3 ⟨rfl, b3⟩; clear HX4; have C3 := Lib.hid (C2.out.trans (b3.mono C2.out.size)); have H3 := Lib.hid (H2.out.kept b3); clear b3; have S3 := Lib.hid (seen_of H3.out hm); have a3 := S3.out.act; rw [EA.out] at a3; have HX5 := Lib.hid (isOne_any m.h1 w3); rw [E5.out] at HX5)
                    | (refine wpList_ld 24 _ rfl _ _ S3.out.l1 rfl rfl ?_)
                    | (go_at_call 55; (with_reducible refine HX5.out.mono ?_); rintro e w4 ⟨rfl, b4⟩; clear HX5; have C4 := Lib.hid (C3.out.trans (b4.mono C3.out.size)); have H4 := Lib.hid (H3.out.kept b4); clear b4; have S4 := Lib.hid (seen_of H4.out hm); clear a3; have q4 := S4.out.least; have q5 := S4.out.gott; have q6 := S4.out.trials; have HX6 := Lib.hid (within_any m.least 1073741824 w4); rw [E6.out] at HX6)
                    | (go_at_call 53; (with_reducible refine HX6.out.mono ?_); rintro e wx ⟨rfl, rfl⟩; clear HX6; have HX7 := Lib.hid (within_any m.gott 6 w4); rw [E7.out] at HX7)
                    | (go_at_call 53; (with_reducible refine HX7.out.mono ?_); rintro e wx ⟨rfl, rfl⟩; clear HX7; have HX8 := Lib.hid (within_any m.trials 2 w4))
                    | (go_at_call 53; (with_reducible refine HX8.out.mono ?_); rintro e wx ⟨rfl, rfl⟩))
                  go_ret
                  exact ⟨ret_bool (by simp [Bool.decide_and]), C4.out⟩
end Go.Proofs.YtcokpdhhpaahgaaDoor
