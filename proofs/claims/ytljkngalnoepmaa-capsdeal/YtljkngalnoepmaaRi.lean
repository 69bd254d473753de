/-
  May a config be? The program's Right, the document's own; conditions: the config came in (its name is no longer than a text may be, its numbers are of 64 bits).
-/
import Derived.Test.YtljkngalnoepmaaSl
namespace Go.Proofs.Ytljkngalnoepmaa
open Go.RowKit
set_option linter.unusedVariables false
set_option linter.unusedSimpArgs false

set_option maxRecDepth 100000 in
theorem right_any (c : Cf) (w : World) (hc : c.Ok) : Calls Try.prog 14 #[.agg c.cells] w fun e w' => e = .returned (.bool (rightB c)) ∧ Below w.heap.size w w' := by
  have hb0 : Below w.heap.size w (w.alloc (.cells c.cells 38)) := (Below.refl _ _).alloc (Nat.le_refl _) _
  have hh := has_new w 38 c.cells
  have c00 := (see_b hh).c0
  have HV := Lib.hid (Nam.valid_any c.name (w.alloc (.cells c.cells 38)))
  cases e0 : Nam.validL (Nam.all c.name) with
  | false =>
    have EF : Hid (false = rightB c) := Lib.hid (by unfold rightB; rw [e0]; rfl)
    rw [e0] at HV
    go_enter Try.func14, Try.ntmps14
    go_wp2_with (first
      | (go_at_call 22; (with_reducible refine HV.out.mono ?_); rintro e w1 ⟨rfl, b1⟩; have C1 := Lib.hid (hb0.trans (b1.mono hb0.size)); have S1 := see_b (hh.kept b1); obtain ⟨c0, c1, c2, c3, c4, c5, c6, cl⟩ := S1; clear HV b1 cl hb0 hh)
      | (go_at_call 18; (with_reducible refine (within_any _ _ _ _).mono ?_); rintro e w2 ⟨rfl, rfl⟩))
    go_ret
    exact ⟨ret_bool EF.out, C1.out⟩
  | true =>
    cases e1 : winB (c.kl : Int) 1 64 with
    | false =>
      have EF : Hid (false = rightB c) := Lib.hid (by unfold rightB; rw [e0, e1]; rfl)
      rw [e0] at HV
      go_enter Try.func14, Try.ntmps14
      go_wp2_with (first
        | (go_at_call 22; (with_reducible refine HV.out.mono ?_); rintro e w1 ⟨rfl, b1⟩; have C1 := Lib.hid (hb0.trans (b1.mono hb0.size)); have S1 := see_b (hh.kept b1); obtain ⟨c0, c1, c2, c3, c4, c5, c6, cl⟩ := S1; clear HV b1 cl hb0 hh)
        | (go_at_call 18; (with_reducible refine (within_any _ _ _ _).mono ?_); rintro e w2 ⟨rfl, rfl⟩))
      go_ret
      exact ⟨ret_bool EF.out, C1.out⟩
    | true =>
      cases e2 : winB c.slot 1 6 with
      | false =>
        have EF : Hid (false = rightB c) := Lib.hid (by unfold rightB; rw [e0, e1, e2]; rfl)
        rw [e0] at HV
        go_enter Try.func14, Try.ntmps14
        go_wp2_with (first
          | (go_at_call 22; (with_reducible refine HV.out.mono ?_); rintro e w1 ⟨rfl, b1⟩; have C1 := Lib.hid (hb0.trans (b1.mono hb0.size)); have S1 := see_b (hh.kept b1); obtain ⟨c0, c1, c2, c3, c4, c5, c6, cl⟩ := S1; clear HV b1 cl hb0 hh)
          | (go_at_call 18; (with_reducible refine (within_any _ _ _ _).mono ?_); rintro e w2 ⟨rfl, rfl⟩))
        go_ret
        exact ⟨ret_bool EF.out, C1.out⟩
      | true =>
        cases e3 : winB c.budget 0 1000 with
        | false =>
          have EF : Hid (false = rightB c) := Lib.hid (by unfold rightB; rw [e0, e1, e2, e3]; rfl)
          rw [e0] at HV
          go_enter Try.func14, Try.ntmps14
          go_wp2_with (first
            | (go_at_call 22; (with_reducible refine HV.out.mono ?_); rintro e w1 ⟨rfl, b1⟩; have C1 := Lib.hid (hb0.trans (b1.mono hb0.size)); have S1 := see_b (hh.kept b1); obtain ⟨c0, c1, c2, c3, c4, c5, c6, cl⟩ := S1; clear HV b1 cl hb0 hh)
            | (go_at_call 18; (with_reducible refine (within_any _ _ _ _).mono ?_); rintro e w2 ⟨rfl, rfl⟩))
          go_ret
          exact ⟨ret_bool EF.out, C1.out⟩
        | true =>
          cases e4 : winB c.quota 1 c.slot with
          | false =>
            have EF : Hid (false = rightB c) := Lib.hid (by unfold rightB; rw [e0, e1, e2, e3, e4]; rfl)
            rw [e0] at HV
            go_enter Try.func14, Try.ntmps14
            go_wp2_with (first
              | (go_at_call 22; (with_reducible refine HV.out.mono ?_); rintro e w1 ⟨rfl, b1⟩; have C1 := Lib.hid (hb0.trans (b1.mono hb0.size)); have S1 := see_b (hh.kept b1); obtain ⟨c0, c1, c2, c3, c4, c5, c6, cl⟩ := S1; clear HV b1 cl hb0 hh)
              | (go_at_call 18; (with_reducible refine (within_any _ _ _ _).mono ?_); rintro e w2 ⟨rfl, rfl⟩))
            go_ret
            exact ⟨ret_bool EF.out, C1.out⟩
          | true =>
            cases e5 : winB c.rights 0 1023 with
            | false =>
              have hq := win_true e2
              have hq4 := win_true e4
              have hm : IntKind.i64.wrap (c.quota * 320) = c.quota * 320 := by rw [IntKind.wrap_i64]; omega
              clear hq hq4
              have EF : Hid (false = rightB c) := Lib.hid (by unfold rightB; rw [e0, e1, e2, e3, e4, e5]; rfl)
              rw [e0] at HV
              go_enter Try.func14, Try.ntmps14
              go_wp2_with (first
                | (go_at_call 22; (with_reducible refine HV.out.mono ?_); rintro e w1 ⟨rfl, b1⟩; have C1 := Lib.hid (hb0.trans (b1.mono hb0.size)); have S1 := see_b (hh.kept b1); obtain ⟨c0, c1, c2, c3, c4, c5, c6, cl⟩ := S1; clear HV b1 cl hb0 hh)
                | (go_at_call 18; (with_reducible refine (within_any _ _ _ _).mono ?_); rintro e w2 ⟨rfl, rfl⟩))
              go_ret
              exact ⟨ret_bool EF.out, C1.out⟩
            | true =>
              cases e6 : winB (c.fl : Int) 1 (c.quota * 320) with
              | false =>
                have hq := win_true e2
                have hq4 := win_true e4
                have hm : IntKind.i64.wrap (c.quota * 320) = c.quota * 320 := by rw [IntKind.wrap_i64]; omega
                clear hq hq4
                have EF : Hid (false = rightB c) := Lib.hid (by unfold rightB; rw [e0, e1, e2, e3, e4, e5, e6]; rfl)
                rw [e0] at HV
                go_enter Try.func14, Try.ntmps14
                go_wp2_with (first
                  | (go_at_call 22; (with_reducible refine HV.out.mono ?_); rintro e w1 ⟨rfl, b1⟩; have C1 := Lib.hid (hb0.trans (b1.mono hb0.size)); have S1 := see_b (hh.kept b1); obtain ⟨c0, c1, c2, c3, c4, c5, c6, cl⟩ := S1; clear HV b1 cl hb0 hh)
                  | (go_at_call 18; (with_reducible refine (within_any _ _ _ _).mono ?_); rintro e w2 ⟨rfl, rfl⟩))
                go_ret
                exact ⟨ret_bool EF.out, C1.out⟩
              | true =>
                have hq := win_true e2
                have hq4 := win_true e4
                have hm : IntKind.i64.wrap (c.quota * 320) = c.quota * 320 := by rw [IntKind.wrap_i64]; omega
                clear hq hq4
                have EF : Hid (true = rightB c) := Lib.hid (by unfold rightB; rw [e0, e1, e2, e3, e4, e5, e6]; rfl)
                rw [e0] at HV
                go_enter Try.func14, Try.ntmps14
                go_wp2_with (first
                  | (go_at_call 22; (with_reducible refine HV.out.mono ?_); rintro e w1 ⟨rfl, b1⟩; have C1 := Lib.hid (hb0.trans (b1.mono hb0.size)); have S1 := see_b (hh.kept b1); obtain ⟨c0, c1, c2, c3, c4, c5, c6, cl⟩ := S1; clear HV b1 cl hb0 hh)
                  | (go_at_call 18; (with_reducible refine (within_any _ _ _ _).mono ?_); rintro e w2 ⟨rfl, rfl⟩))
                go_ret
                exact ⟨ret_bool EF.out, C1.out⟩
end Go.Proofs.Ytljkngalnoepmaa
