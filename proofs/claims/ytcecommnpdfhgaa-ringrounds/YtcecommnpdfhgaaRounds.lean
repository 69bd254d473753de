/-
  What is proved: for all numbers the law RingRounds answers true: cells go round a ring of four sectors one by one, each is told as it was put, and each sector is erased as often as it was come to, but for the first time (1 to 40 Puts; others the law lets by). Conditions: none.
-/
import Derived.Test.YtcecommnpdfhgaaRgA
import Derived.Test.YtcecommnpdfhgaaRows
import Derived.WalkKit
import Derived.ProofKit
import Derived.OpenShut
import Derived.ShutString
namespace Go.Proofs.Ytcecommnpdfhgaa.ringRounds
open Go.ChangeShapes Go.WideShapes Go.ChangeAt Go.RowKit
open Go.ChangeMaps (open_string shut_string)
set_option linter.unusedVariables false
set_option linter.unusedSimpArgs false

theorem own : ownKnob Try.prog.godebug = none := by kernel_rfl

theorem made_b {B : Nat} (h : B ≤ 1000) : Pt.made 4 0 4 (B : Int) = ⟨0, 4, B⟩ := by
  rw [made4 ⟨by omega, by omega⟩, Int.toNat_natCast]
theorem raw_first {x : Int} : (rawL [x] 156).getD 0 0 = x := rfl
/-- The rows of this law. -/
def rowR (k : Nat) : List Int := [(k : Int)]
/-- So many Puts are made. -/
def Gone (w : World) (T x g m k n : Nat) (i : Value) (wr : World) : Prop := ∃ (j : Nat) (S : Fs), i = .int .i64 (j : Int) ∧ j ≤ n ∧ Rg w wr T x g m k S ⟨0, 4, 100⟩ ∧ Rn S ⟨0, 4, 100⟩ rowR j
theorem mod_four (j : Nat) : (j : Int).tmod 4 = ((j % 4 : Nat) : Int) := by
  rw [Int.tmod_eq_emod_of_nonneg (by omega)]; omega
set_option maxRecDepth 100000 in
set_option maxHeartbeats 2000000 in
theorem walk (a0 : Int) (w0 : (Lit.int .i64 a0).wf = true) (w : World) :
    Calls Try.prog 5 #[.int .i64 a0] w fun e w' => e = .returned (.bool true) ∧ Below w.heap.size w w' := by
  have hb0 := bounds_i64 w0
  clear w0
  by_cases c0 : a0 < 1
  · clear hb0
    go_enter Try.func5, Try.ntmps5
    go_wp2_with (go_at_call 6; refine (alive_any _).mono ?_; rintro e w1 ⟨rfl, H1⟩)
    go_ret
    exact ⟨rfl, H1⟩
  by_cases c1 : 40 < a0
  · clear hb0
    go_enter Try.func5, Try.ntmps5
    go_wp2_with (go_at_call 6; refine (alive_any _).mono ?_; rintro e w1 ⟨rfl, H1⟩)
    go_ret
    exact ⟨rfl, H1⟩
  clear hb0
  obtain ⟨n, rfl⟩ := Int.eq_ofNat_of_zero_le (show 0 ≤ a0 by omega)
  have hn1 : 1 ≤ n := by omega
  have hn2 : n ≤ 40 := by omega
  go_enter Try.func5, Try.ntmps5
  go_wp2_with (first
    | (go_at_call 6; (refine (alive_any _).mono ?_); rintro e u1 ⟨rfl, H1⟩; have hn := Lib.hid (new_any 4 u1))
    | (go_at_call 7; (with_reducible refine hn.out.mono ?_); rintro e u2 ⟨g, m, k, rfl, hg, hm, hk, f2, b2⟩; rw [sect4] at f2; have HN := newArea_any 0 0 4 100 u2 f2 ⟨i64_of (by omega), i64_of (by omega), i64_of (by omega)⟩; rw [rg_len, made4 (by omega)] at HN; unfold capCells at HN)
    | (go_at_call 8; (with_reducible refine HN.mono ?_); rintro e u3 ⟨x, rfl, hx, a3, b3⟩; clear HN; have s1 := H1.size; have R3 : Hid (Rg w u3 u2.heap.size x g m k (fresh 4) ⟨0, 4, 100⟩) := Lib.hid (rg_made (w0 := w) (b := 100) ⟨by omega, by omega⟩ (by omega) (by omega) (by omega) f2 (belowThen H1 b2) hx a3 b3); clear s1 hg hm hk f2 b2 hx a3 b3 hn H1))
  have HS := Lib.hid (show Gone w u2.heap.size x g m k n (.int .i64 0) u3 from ⟨0, fresh 4, rfl, by omega, R3.out, rn_made (b := 100) ⟨by omega, by omega⟩ rowR⟩)
  clear R3
  go_loopw [6] (Gone w u2.heap.size x g m k n) (fun i _ => n - (intOf i).toNat)
  case atStart => exact HS.out
  case round =>
    clear HS
    obtain ⟨j, S, rfl, hj, hR, hN⟩ := hrel
    have HR := Lib.hid hR
    have HN := Lib.hid hN
    have hopsS : S.ops ≤ 999999 := by have := hN.ops; omega
    clear hR hN
    by_cases hlt : j < n
    · have i1 : (j : Int) < (n : Int) := by omega
      have i2 : IntKind.i64.wrap ((j : Int) + 1) = (j : Int) + 1 := by rw [IntKind.wrap_i64]; omega
      have i3 : IntKind.u8.wrap (j : Int) = (j : Int) := by rw [IntKind.wrap_u8]; omega
      have i6 := mod_four j
      have h1 := HN.out
      have hh := h1.hd (by omega)
      have HX := Lib.hid (rg_next HR.out)
      rw [hh, told_next] at HX
      have h2 := h1.step (by omega) (by simp only []; omega) (by unfold rowR; intro y hy; simp at hy; omega) (by simp [rowR])
      have h3 := h2.2.2.hd (by omega)
      have H2 := Lib.hid h2
      have H3 := Lib.hid (show hdOf (putR S ⟨0, 4, 100⟩ [(j : Int)]).2 ⟨0, 4, 100⟩ = ⟨(j + 1 + 3) % 4, ((j + 1 : Nat) : Int), rawL [(j : Int)] 156⟩ by
        have := h3
        unfold toldH at this
        rw [if_neg (by omega), Nat.add_sub_cancel] at this
        exact this)
      have HRL := Lib.hid (raw_len [(j : Int)] 156)
      have d1 : decide ((0 : Int) < ((j + 1 : Nat) : Int)) = true := decide_eq_true (by omega)
      have d2 : ((j + 1 : Nat) : Int) = (j : Int) + 1 := by omega
      clear h1 h2 h3 hh
      go_wp2_with (first
        | (go_at_call 15; (with_reducible refine HX.out.mono ?_); rintro e u4 ⟨rfl, b4⟩; clear HX; have R4 := Lib.hid ((HR.out.kept b4).lit (.cells #[.int .u8 (j : Int)] 5)); have HP := Lib.hid (rg_put R4.out hopsS 1 (row_new u4 (x := (j : Int)) (by omega))); clear HR)
        | (go_at_call 10; (with_reducible refine HP.out.mono ?_); rintro e u5 ⟨rfl, R5', _⟩; clear HP R4; have R5 := Lib.hid R5'; rw [show (putR S ⟨0, 4, 100⟩ [(j : Int)]).1 = 0 from H2.out.1]; have HL := Lib.hid (rg_last R5.out); rw [H3.out] at HL; clear R5')
        | (go_at_call 9; (with_reducible refine (lnum_any _ _).mono ?_); rintro e u6 ⟨rfl, rfl⟩)
        | (go_at_call 13; (with_reducible refine HL.out.mono ?_); rintro e u7 ⟨v7, rfl, o7, b7⟩; clear HL; rw [HRL.out] at o7; obtain ⟨G7, z7, cur7, rfl, _, _, _, _, k7⟩ := own_block o7 (by omega); have c7 := k7 0 (by omega); rw [raw_first] at c7; have R7 := Lib.hid (R5.out.kept b7); clear o7 k7 R5; simp only [d1]; rw [d2]))
      go_roundw
      case rel => exact ⟨j + 1, _, by simp, by omega, R7.out, H2.out.2.2⟩
      case measure => simp only [intOf]; omega
    · obtain rfl : j = n := by omega
      have i1 : ¬ (j : Int) < (j : Int) := by omega
      clear hlt hj
      obtain ⟨wa, rfl⟩ : ∃ y, y = wr := ⟨wr, rfl⟩
      go_wp2_with fail
      go_loopw [10] (fun i wr => ∃ s : Nat, i = .int .i64 (s : Int) ∧ s ≤ 4 ∧ wa = wr) (fun i _ => 4 - (intOf i).toNat)
      case atStart => exact ⟨0, rfl, by omega, rfl⟩
      case round =>
        obtain ⟨s, rfl, hs, rfl⟩ := hrel
        by_cases h4 : s < 4
        · have j1 : (s : Int) < 4 := by omega
          have j2 : IntKind.i64.wrap ((s : Int) + 1) = (s : Int) + 1 := by rw [IntKind.wrap_i64]; omega
          have j3 : IntKind.i64.wrap ((j : Int) + 3) = (j : Int) + 3 := by rw [IntKind.wrap_i64]; omega
          have j4 : IntKind.i64.wrap ((j : Int) + 3 - (s : Int)) = (j : Int) + 3 - (s : Int) := by rw [IntKind.wrap_i64]; omega
          obtain ⟨q, hq⟩ : ∃ q, q = (j + 3 - s) / 4 := ⟨_, rfl⟩
          have j5 : ((j : Int) + 3 - (s : Int)).tdiv 4 = (q : Int) := by rw [Int.tdiv_eq_ediv_of_nonneg (by omega)]; omega
          have j6 : IntKind.i64.wrap (q : Int) = (q : Int) := by rw [IntKind.wrap_i64]; omega
          have j7 : IntKind.i64.wrap ((q : Int) - 1) = (q : Int) - 1 := by rw [IntKind.wrap_i64]; omega
          have HW := Lib.hid (wear_any (s : Int) wa HR.out.fl)
          have hw := HN.out.wear s h4
          rw [show (((⟨0, 4, 100⟩ : Pt).fst : Nat) : Int) + (s : Int) = (s : Int) by show (0 : Int) + (s : Int) = s; omega] at hw
          have hwq : wOf s j = q - 1 := by unfold wOf; omega
          rw [hw, hwq] at HW
          have hqb : q ≤ 100 := by omega
          clear hw hwq hq
          by_cases hq0 : 0 < q
          · have j8 : (0 : Int) < (q : Int) := by omega
            rw [show ((q - 1 : Nat) : Int) = (q : Int) - 1 by omega] at HW
            go_wp2_with (go_at_call 16; (with_reducible refine HW.out.mono ?_); rintro e u8 ⟨rfl, rfl⟩)
            go_roundw
            case rel => exact ⟨s + 1, by simp, by omega, by simp⟩
            case measure => simp only [intOf]; omega
          · obtain rfl : q = 0 := by omega
            rw [show ((0 - 1 : Nat) : Int) = 0 from rfl] at HW
            go_wp2_with (go_at_call 16; (with_reducible refine HW.out.mono ?_); rintro e u8 ⟨rfl, rfl⟩)
            go_roundw
            case rel => exact ⟨s + 1, by simp, by omega, by simp⟩
            case measure => simp only [intOf]; omega
        · obtain rfl : s = 4 := by omega
          go_wp2
          go_ret
          exact ⟨rfl, HR.out.bel⟩

/-! ### THE ROW's STEP: WRITTEN OUT: LEAVE IT -/
set_option maxRecDepth 100000 in
theorem lifted (os : Os) (started : os.Started) (H : Type) (enc : TypeId × Value → H) :
    ReturnsInHanded {} Try.checked os 5 .any (Rows.ringRoundsSpec.pre6 enc Try.prog Try.f5 Rows.ringRoundsRow.domain false) (Rows.ringRoundsSpec.post enc Try.prog Try.f5 false true false false) := by
  refine returnsInHanded_of_change (C := Try.checked) own started (by kernel_rfl) Try.func5
    (ChangeSpec.witness6 (enc := enc) (C := Try.checked) false ⟨#[], #[.int .i64 0], []⟩ 8 (by kernel_rfl) (by kernel_rfl) (by kernel_rfl) (by kernel_rfl)) ?_
  intro W base args ds gs before hval0 hW hcnd _
  have hval : ∀ (j : Nat) t v, Try.f5.params[j]? = some t → args[j]? = some v → Value.okWide Try.prog W .any base t v := hval0
  have hW' := hW
  obtain ⟨p, q, hA0, hV, rfl, hfz, hnd⟩ := hW
  have hA : DataW.TrodAll enc Try.prog W 0 (fun _ => true) true Try.f5.params.toList args.toList ds p := hA0
  rw [Try.params5] at hA hval
  obtain ⟨v0, vs0, d0, ds0, p0, q0, hargs, rfl, rfl, h0, r0⟩ := trodAll_cons hA
  obtain ⟨rfl, rfl, rfl⟩ := trodAll_nil r0
  obtain rfl : args = #[v0] := by cases args; simp_all
  obtain ⟨rfl, rfl⟩ := trodVars_none hV
  obtain ⟨a0, rfl, rfl, rfl, w0⟩ := open_int Try.underlying3 (hval 0 3 v0 rfl rfl) h0
  clear hA0 hval0
  simp only [List.append_nil] at hW'
  refine (walk a0 w0 W).mono fun e W' ⟨he, hg⟩ => ?_
  subst he
  exact ⟨_, rfl, ⟨_, _, _, [], [], [], hW', trodAll_cons_mk (shut_bool Try.underlying4 _) trodAll_mk0, (trodAll_cons_mk (shut_int Try.underlying3 w0) trodAll_mk0), rfl, hg.frame _, fun h => by cases h⟩⟩

theorem over : Rows.ringRoundsRow.holds Try.pinned (OpenSpec.ofChange Rows.ringRoundsSpec) :=
  OpenClaim.holds_of_wide 5 Try.f5 rfl rfl rfl rfl rfl rfl rfl ⟨rfl, rfl, rfl, rfl, rfl⟩ rfl rfl rfl rfl rfl (by kernel_rfl) Try.func5 (by kernel_rfl)
    (of_decide_eq_true (by kernel_rfl)) (by unfold Func.isWrapper; first | (rw [if_pos (by decide +kernel)]; kernel_rfl) | (rw [if_neg (by decide +kernel)]; exact ⟨rfl, rfl⟩))
    (fun os started H enc _ => lifted os started H enc)

/-- ████ THE STATEMENT ████ -/
theorem proved : Rows.RingRoundsSaid :=
  over
end Go.Proofs.Ytcecommnpdfhgaa.ringRounds
namespace Go.Proofs.Ytcecommnpdfhgaa
theorem RingRounds_holds : Rows.RingRoundsSaid := ringRounds.proved
#print axioms RingRounds_holds
end Go.Proofs.Ytcecommnpdfhgaa
