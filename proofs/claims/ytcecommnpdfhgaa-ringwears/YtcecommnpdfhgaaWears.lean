/-
  What is proved: for all budgets and numbers the law RingWears answers true: a ring of four sectors takes as many Puts as its budget says, keeps the last one, and refuses all others (budgets of 0 to 10, up to 10 Puts more; others the law lets by). Conditions: none.
-/
import Derived.Test.YtcecommnpdfhgaaRgA
import Derived.Test.YtcecommnpdfhgaaRows
import Derived.WalkKit
import Derived.ProofKit
import Derived.OpenShut
import Derived.ShutString
namespace Go.Proofs.Ytcecommnpdfhgaa.ringWears
open Go.ChangeShapes Go.WideShapes Go.ChangeAt Go.RowKit
open Go.ChangeMaps (open_string shut_string)
set_option linter.unusedVariables false
set_option linter.unusedSimpArgs false

theorem own : ownKnob Try.prog.godebug = none := by kernel_rfl

theorem made_b {B : Nat} (h : B ≤ 1000) : Pt.made 4 0 4 (B : Int) = ⟨0, 4, B⟩ := by
  rw [made4 ⟨by omega, by omega⟩, Int.toNat_natCast]
theorem raw_first {x : Int} : (rawL [x] 156).getD 0 0 = x := rfl
/-- The rows of this law. -/
def rowW (k : Nat) : List Int := [((k + 1 : Nat) : Int)]
/-- So many calls are made. -/
def Turned (w : World) (T x g m k B Q M : Nat) (i : Value) (wr : World) : Prop := ∃ (j : Nat) (S : Fs), i = .int .i64 (j : Int) ∧ j ≤ Q + M ∧ Rg w wr T x g m k S ⟨0, 4, B⟩ ∧ Rn S ⟨0, 4, B⟩ rowW (min j Q)
set_option maxRecDepth 100000 in
set_option maxHeartbeats 2000000 in
theorem walk (a0 : Int) (a1 : Int) (w0 : (Lit.int .i64 a0).wf = true) (w1 : (Lit.int .i64 a1).wf = true) (w : World) :
    Calls Try.prog 4 #[.int .i64 a0, .int .i64 a1] w fun e w' => e = .returned (.bool true) ∧ Below w.heap.size w w' := by
  have hb0 := bounds_i64 w0
  have hb1 := bounds_i64 w1
  clear w0 w1
  by_cases c0 : a0 < 0
  · clear hb0 hb1
    go_enter Try.func4, Try.ntmps4
    go_wp2_with (go_at_call 6; refine (alive_any _).mono ?_; rintro e w1 ⟨rfl, H1⟩)
    go_ret
    exact ⟨rfl, H1⟩
  by_cases c1 : 10 < a0
  · clear hb0 hb1
    go_enter Try.func4, Try.ntmps4
    go_wp2_with (go_at_call 6; refine (alive_any _).mono ?_; rintro e w1 ⟨rfl, H1⟩)
    go_ret
    exact ⟨rfl, H1⟩
  by_cases c2 : a1 < 0
  · clear hb0 hb1
    go_enter Try.func4, Try.ntmps4
    go_wp2_with (go_at_call 6; refine (alive_any _).mono ?_; rintro e w1 ⟨rfl, H1⟩)
    go_ret
    exact ⟨rfl, H1⟩
  by_cases c3 : 10 < a1
  · clear hb0 hb1
    go_enter Try.func4, Try.ntmps4
    go_wp2_with (go_at_call 6; refine (alive_any _).mono ?_; rintro e w1 ⟨rfl, H1⟩)
    go_ret
    exact ⟨rfl, H1⟩
  clear hb0 hb1
  obtain ⟨B, rfl⟩ := Int.eq_ofNat_of_zero_le (show 0 ≤ a0 by omega)
  obtain ⟨M, rfl⟩ := Int.eq_ofNat_of_zero_le (show 0 ≤ a1 by omega)
  have hB : B ≤ 10 := by omega
  have hM : M ≤ 10 := by omega
  obtain ⟨Q, hQ⟩ : ∃ Q, Q = 4 * (B + 1) := ⟨_, rfl⟩
  have q1 : IntKind.i64.wrap ((B : Int) + 1) = (B : Int) + 1 := by rw [IntKind.wrap_i64]; omega
  have q2 : IntKind.i64.wrap (4 * ((B : Int) + 1)) = (Q : Int) := by rw [IntKind.wrap_i64]; omega
  have q3 : IntKind.i64.wrap ((Q : Int) + (M : Int)) = ((Q + M : Nat) : Int) := by rw [IntKind.wrap_i64]; omega
  have HQ := Lib.hid hQ
  have hQ1 : 4 ≤ Q := by omega
  have hQ2 : Q ≤ 44 := by omega
  clear hQ
  go_enter Try.func4, Try.ntmps4
  go_wp2_with (first
    | (go_at_call 6; (refine (alive_any _).mono ?_); rintro e u1 ⟨rfl, H1⟩; have hn := Lib.hid (new_any 4 u1))
    | (go_at_call 7; (with_reducible refine hn.out.mono ?_); rintro e u2 ⟨g, m, k, rfl, hg, hm, hk, f2, b2⟩; rw [sect4] at f2; have HN := newArea_any 0 0 4 (B : Int) u2 f2 ⟨i64_of (by omega), i64_of (by omega), i64_of (by omega)⟩; rw [rg_len, made_b (by omega)] at HN; unfold capCells at HN)
    | (go_at_call 8; (with_reducible refine HN.mono ?_); rintro e u3 ⟨x, rfl, hx, a3, b3⟩; clear HN; have s1 := H1.size; have R3 := Lib.hid (rg_made (w0 := w) (b := (B : Int)) ⟨by omega, by omega⟩ (by omega) (by omega) (by omega) f2 (belowThen H1 b2) hx (by rw [Int.toNat_natCast]; exact a3) b3); rw [Int.toNat_natCast] at R3; clear s1 hg hm hk f2 b2 hx a3 b3 hn H1))
  have HS := Lib.hid (show Turned w u2.heap.size x g m k B Q M (.int .i64 0) u3 from ⟨0, fresh 4, rfl, by omega, R3.out, by
    have := rn_made (b := (B : Int)) ⟨by omega, by omega⟩ rowW
    rw [Int.toNat_natCast] at this
    rw [Nat.zero_min]
    exact this⟩)
  clear R3
  go_loopw [9] (Turned w u2.heap.size x g m k B Q M) (fun i _ => (Q + M) - (intOf i).toNat)
  case atStart => exact HS.out
  case round =>
    clear HS
    obtain ⟨j, S, rfl, hj, hR, hN⟩ := hrel
    have HR := Lib.hid hR
    have HN := Lib.hid hN
    have hopsS : S.ops ≤ 999999 := by have := hN.ops; omega
    clear hR hN
    by_cases hlt : j < Q + M
    · have i1 : (j : Int) < ((Q + M : Nat) : Int) := by omega
      have i2 : IntKind.i64.wrap ((j : Int) + 1) = (j : Int) + 1 := by rw [IntKind.wrap_i64]; omega
      have i3 : IntKind.u8.wrap ((j : Int) + 1) = (j : Int) + 1 := by rw [IntKind.wrap_u8]; omega
      have R1 := Lib.hid (HR.out.lit (.cells #[.int .u8 ((j : Int) + 1)] 5))
      have HP := Lib.hid (rg_put R1.out hopsS 1 (row_new wr (x := (j : Int) + 1) (by omega)))
      have e1 : rowW j = [(j : Int) + 1] := by unfold rowW; simp
      by_cases hq : j < Q
      · have i4 : (j : Int) < (Q : Int) := by omega
        have i5 : ¬ (Q : Int) ≤ (j : Int) := by omega
        have h1 := HN.out
        rw [Nat.min_eq_left (by omega)] at h1
        have h2 := h1.step (by omega) (by have := HQ.out; simp only []; omega) (by rw [e1]; intro y hy; simp at hy; omega) (by rw [e1]; simp)
        rw [e1] at h2
        have H2 := Lib.hid h2
        clear h1 h2
        go_wp2_with (first
          | (go_at_call 10; (with_reducible refine HP.out.mono ?_); rintro e u4 ⟨rfl, R4', _⟩; clear HP R1; have R4 := Lib.hid R4'; rw [H2.out.1]; clear R4')
          | (go_at_call 9; (with_reducible refine (lnum_any _ _).mono ?_); rintro e u5 ⟨rfl, rfl⟩))
        go_roundw
        case rel => exact ⟨j + 1, _, by simp, by omega, R4.out, by rw [Nat.min_eq_left (by omega)]; exact H2.out.2.2⟩
        case measure => simp only [intOf]; omega
      · have i4 : ¬ (j : Int) < (Q : Int) := by omega
        have i5 : (Q : Int) ≤ (j : Int) := by omega
        have h1 := HN.out
        rw [Nat.min_eq_right (by omega)] at h1
        have h2 := h1.stop (ys := [(j : Int) + 1]) (by omega) (by have := HQ.out; simp only []; omega) (by simp)
        have H2 := Lib.hid h2
        have H1 := Lib.hid h1
        clear h1 h2
        go_wp2_with (first
          | (go_at_call 10; (with_reducible refine HP.out.mono ?_); rintro e u4 ⟨rfl, R4', _⟩; clear HP R1; rw [H2.out] at R4' ⊢; have R4 := Lib.hid R4'; clear R4')
          | (go_at_call 9; (with_reducible refine (lnum_any _ _).mono ?_); rintro e u5 ⟨rfl, rfl⟩))
        go_roundw
        case rel => exact ⟨j + 1, S, by simp, by omega, R4.out, by rw [Nat.min_eq_right (by omega)]; exact H1.out⟩
        case measure => simp only [intOf]; omega
    · obtain rfl : j = Q + M := by omega
      have i1 : ¬ ((Q + M : Nat) : Int) < ((Q + M : Nat) : Int) := by omega
      have h1 := HN.out
      rw [Nat.min_eq_right (by omega)] at h1
      have hh := h1.hd (by omega)
      have e1 : rowW (Q - 1) = [(Q : Int)] := by unfold rowW; rw [show Q - 1 + 1 = Q by omega]
      have hL : hdOf S ⟨0, 4, B⟩ = ⟨(Q + 3) % 4, (Q : Int), rawL [(Q : Int)] 156⟩ := by
        rw [hh]
        unfold toldH
        rw [if_neg (by omega), e1]
      have HL := Lib.hid (rg_last HR.out)
      rw [hL] at HL
      have hmay : mayR S ⟨0, 4, B⟩ = false := by
        rw [mayR_yes (by simp), may_no (fun k => by have h3 := (h1.may (by omega)).1 k; have := HQ.out; simp only [] at h3; omega)]
      have HMa := Lib.hid hmay
      have d1 : decide ((0 : Int) < (Q : Int)) = true := by simp; omega
      have i3 : IntKind.u8.wrap (Q : Int) = (Q : Int) := by rw [IntKind.wrap_u8]; omega
      have HRL := Lib.hid (raw_len [(Q : Int)] 156)
      clear h1 hh hmay hL HN
      go_wp2_with (first
        | (go_at_call 13; (with_reducible refine HL.out.mono ?_); rintro e u4 ⟨v4, rfl, o4, b4⟩; clear HL; rw [HRL.out] at o4; obtain ⟨G4, z4, cur4, rfl, _, _, _, _, k4⟩ := own_block o4 (by omega); have c4 := k4 0 (by omega); rw [raw_first] at c4; have R4 := Lib.hid (HR.out.kept b4); have HM := Lib.hid (rg_may R4.out (by omega)); rw [HMa.out] at HM; clear o4 k4 HR; simp only [d1])
        | (go_at_call 14; (with_reducible refine HM.out.mono ?_); rintro e u5 ⟨rfl, b5⟩; have R5 := Lib.hid (R4.out.kept b5)))
      go_ret
      exact ⟨rfl, R5.out.bel⟩

/-! ### THE ROW's STEP: WRITTEN OUT: LEAVE IT -/
set_option maxRecDepth 100000 in
theorem lifted (os : Os) (started : os.Started) (H : Type) (enc : TypeId × Value → H) :
    ReturnsInHanded {} Try.checked os 4 .any (Rows.ringWearsSpec.pre6 enc Try.prog Try.f4 Rows.ringWearsRow.domain false) (Rows.ringWearsSpec.post enc Try.prog Try.f4 false true false false) := by
  refine returnsInHanded_of_change (C := Try.checked) own started (by kernel_rfl) Try.func4
    (ChangeSpec.witness6 (enc := enc) (C := Try.checked) false ⟨#[], #[.int .i64 0, .int .i64 0], []⟩ 8 (by kernel_rfl) (by kernel_rfl) (by kernel_rfl) (by kernel_rfl)) ?_
  intro W base args ds gs before hval0 hW hcnd _
  have hval : ∀ (j : Nat) t v, Try.f4.params[j]? = some t → args[j]? = some v → Value.okWide Try.prog W .any base t v := hval0
  have hW' := hW
  obtain ⟨p, q, hA0, hV, rfl, hfz, hnd⟩ := hW
  have hA : DataW.TrodAll enc Try.prog W 0 (fun _ => true) true Try.f4.params.toList args.toList ds p := hA0
  rw [Try.params4] at hA hval
  obtain ⟨v0, vs0, d0, ds0, p0, q0, hargs, rfl, rfl, h0, r0⟩ := trodAll_cons hA
  obtain ⟨v1, vs1, d1, ds1, p1, q1, rfl, rfl, rfl, h1, r1⟩ := trodAll_cons r0
  obtain ⟨rfl, rfl, rfl⟩ := trodAll_nil r1
  obtain rfl : args = #[v0, v1] := by cases args; simp_all
  obtain ⟨rfl, rfl⟩ := trodVars_none hV
  obtain ⟨a0, rfl, rfl, rfl, w0⟩ := open_int Try.underlying3 (hval 0 3 v0 rfl rfl) h0
  obtain ⟨a1, rfl, rfl, rfl, w1⟩ := open_int Try.underlying3 (hval 1 3 v1 rfl rfl) h1
  clear hA0 hval0
  simp only [List.append_nil] at hW'
  refine (walk a0 a1 w0 w1 W).mono fun e W' ⟨he, hg⟩ => ?_
  subst he
  exact ⟨_, rfl, ⟨_, _, _, [], [], [], hW', trodAll_cons_mk (shut_bool Try.underlying4 _) trodAll_mk0, (trodAll_cons_mk (shut_int Try.underlying3 w0) (trodAll_cons_mk (shut_int Try.underlying3 w1) trodAll_mk0)), rfl, hg.frame _, fun h => by cases h⟩⟩

theorem over : Rows.ringWearsRow.holds Try.pinned (OpenSpec.ofChange Rows.ringWearsSpec) :=
  OpenClaim.holds_of_wide 4 Try.f4 rfl rfl rfl rfl rfl rfl rfl ⟨rfl, rfl, rfl, rfl, rfl⟩ rfl rfl rfl rfl rfl (by kernel_rfl) Try.func4 (by kernel_rfl)
    (of_decide_eq_true (by kernel_rfl)) (by unfold Func.isWrapper; first | (rw [if_pos (by decide +kernel)]; kernel_rfl) | (rw [if_neg (by decide +kernel)]; exact ⟨rfl, rfl⟩))
    (fun os started H enc _ => lifted os started H enc)

/-- ████ THE STATEMENT ████ -/
theorem proved : Rows.RingWearsSaid :=
  over
end Go.Proofs.Ytcecommnpdfhgaa.ringWears
namespace Go.Proofs.Ytcecommnpdfhgaa
theorem RingWears_holds : Rows.RingWearsSaid := ringWears.proved
#print axioms RingWears_holds
end Go.Proofs.Ytcecommnpdfhgaa
