/-
  What is proved: for all numbers and rows of numbers the law WearTells answers true: what is left of any part, behind any erases, which sector has the most, and whether nothing can be put into the ring any more, is as the document says (up to 12 sectors, 60 erases; others the law lets by). Conditions: none.
-/
import Derived.Test.YtclephjnokbaoaaWAll
import Derived.Test.YtclephjnokbaoaaRows
import Derived.WalkKit
import Derived.ProofKit
import Derived.OpenShut
import Derived.ShutString
import Derived.ChangeOld
import Derived.Below
namespace Go.Proofs.Ytclephjnokbaoaa.wearTells
open Go.ChangeShapes Go.WideShapes Go.ChangeAt Go.RowKit
open Go.ChangeMaps (open_string shut_string)
set_option linter.unusedVariables false
set_option linter.unusedSimpArgs false

theorem own : ownKnob Try.prog.godebug = none := by kernel_rfl
theorem laidOut : laidOutB Try.prog = true := by kernel_rfl

/-- WHAT THE WALK IS TOLD OF A SLICE OF INTEGERS THAT CAME IN: it is nil; or it leads to a row of 'cap' cells, the numbers 'zs' (the first 'len' are its elements, the rest its spare room), each fitting its kind. -/
def IsRow (k : IntKind) (w : World) (a : Option Addr) (len cap : Nat) (zs : List Int) : Prop :=
  (a = none ∧ len = 0 ∧ cap = 0 ∧ zs = []) ∨
  ∃ x, a = some x ∧ len ≤ cap ∧ cap ≤ maxLen ∧ zs.length = cap ∧ (∀ i, i < zs.length → w.cell? (x.add i) = some (.int k (zs.getD i 0))) ∧ ∀ n ∈ zs, (Lit.int k n).wf = true

theorem and1 (n : Int) : bits .and .i64 n 1 = 0 ∨ bits .and .i64 n 1 = 1 := by
  have h7 : (BitVec.ofInt 64 1).toNat = 1 := by decide
  obtain ⟨x, hx⟩ : ∃ x, (BitVec.ofInt 64 n).toNat = x := ⟨_, rfl⟩
  have key : (BitVec.ofInt 64 n &&& BitVec.ofInt 64 1).toNat = x &&& 1 := by rw [BitVec.toNat_and, h7, hx]
  have h1 : x &&& 1 ≤ 1 := Nat.and_le_right
  have e : bits .and .i64 n 1 = IntKind.i64.wrap ((BitVec.ofInt 64 n &&& BitVec.ofInt 64 1).toNat : Nat) := rfl
  rw [e, key, IntKind.wrap_i64]
  omega
theorem ints_at {w : World} {x : Addr} {zs : List Int} (h : ∀ i, i < zs.length → w.cell? (x.add i) = some (.int .i64 (zs.getD i 0))) (h0 : 0 < zs.length) : ∃ b off, x = ⟨b, off, none⟩ ∧ ∀ j, j < zs.length → w.cell? ⟨b, off + j, none⟩ = some (.int .i64 (zs.getD j 0)) := by
  obtain ⟨b, off, rfl⟩ := plain_at (h 0 h0)
  exact ⟨b, off, rfl, fun j hj => by rw [← add_plain]; exact h j hj⟩
/-- Both answer alike: what is told of the one is told of the other. -/
theorem least_al {L d : Nat} {S R : Fs} {P Q : Pt} (h : Alike L d S R) (hl : Like P Q) (f n : Int) : leastN R Q f n = leastN S P f n := by rw [← least_like hl, least_sim h.sim]
theorem sum_al {L d : Nat} {S R : Fs} {P Q : Pt} (h : Alike L d S R) (hl : Like P Q) : sumL R Q Q.cnt = sumL S P P.cnt := by rw [← hl.1, ← sum_like hl, sum_sim h.sim]
/-- What came in: numbers. -/
def Ints (w : World) (a : Option Addr) (len : Nat) (z : List Int) : Prop := len = 0 ∨ ∃ b off, a = some ⟨b, off, none⟩ ∧ b < w.heap.size ∧ ∀ j, j < len → w.cell? ⟨b, off + j, none⟩ = some (.int .i64 (z.getD j 0)) ∧ I64 (z.getD j 0)
set_option maxRecDepth 100000 in
set_option maxHeartbeats 4000000 in
theorem tells_within (n : Nat) (bu : Int) (a : Option Addr) (len cap : Nat) (z : List Int) (fr kk : Int) (w : World) (hrow : Ints w a len z) (h12 : n ≤ 12) (h60 : len ≤ 60) (hi : I64 bu) (hfr : I64 fr) (hkk : I64 kk) :
    Calls Try.prog 3 #[.int .i64 (n : Int), .int .i64 bu, .slice a len cap, .int .i64 fr, .int .i64 kk] w fun e w' => e = .returned (.bool true) ∧ Below w.heap.size w w' := by
  have d0 : ¬ (n : Int) < 0 := by omega
  have d1 : ¬ (12 : Int) < (n : Int) := by omega
  have d4 : ¬ (60 : Int) < (len : Int) := by omega
  have HROW := Lib.hid hrow
  have HI := Lib.hid hi
  have HFR := Lib.hid hfr
  have HKK := Lib.hid hkk
  have HSE := Lib.hid (sect_nat (show n ≤ 400 by omega))
  clear hrow hi hfr hkk
  go_enter Try.func3, Try.ntmps3
  go_wp2_with (first
    | (go_at_call 5; refine (alive_any _).mono ?_; rintro e W1 ⟨rfl, H1⟩; have N1 := Lib.hid (new_any (n : Int) W1))
    | (go_at_call 6; (with_reducible refine N1.out.mono ?_); rintro e W2 ⟨g, m, k, rfl, hg, hm, hk, f2', b2⟩; rw [HSE.out] at f2'; have N2 := Lib.hid (rnew_any (n : Int) W2))
    | (go_at_call 7; (with_reducible refine N2.out.mono ?_); rintro e W3 ⟨gr, mr, kr, rfl, hgr, hmr, hkr, f3', b3⟩; rw [HSE.out] at f3'; have b13 := b2.trans (b3.mono b2.size); have B3 := Lib.hid (H1.trans (b13.mono H1.size)); have FF := Lib.hid ((f2'.kept b3).raise rfl b3.size); have RR := Lib.hid f3'; have HF2 := Lib.hid f2'; have HB1 := Lib.hid H1; have HB2 := Lib.hid b2; have HB3 := Lib.hid b3; have NA := newArea_any 0 0 (n : Int) bu W3 FF.out ⟨⟨by omega, by omega⟩, ⟨by omega, by omega⟩, HI.out⟩; rw [fresh_wear] at NA; unfold capCells at NA; have HNA := Lib.hid NA; clear NA b13 f2' f3' b2 b3 H1 N1 N2)
    | (go_at_call 8; (with_reducible refine HNA.out.mono ?_); rintro e W5 ⟨x, rfl, hx, a5, b5⟩; clear HNA; have HA5 := Lib.hid a5; have HB5 := Lib.hid b5; have NB := rnewArea_any 0 0 (n : Int) bu W5 (RR.out.kept HB5.out) ⟨⟨by omega, by omega⟩, ⟨by omega, by omega⟩, HI.out⟩; rw [fresh_wear] at NB; unfold capCells at NB; have HNB := Lib.hid NB; clear NB a5 b5)
    | (go_at_call 9; (with_reducible refine HNB.out.mono ?_); rintro e W6 ⟨y, rfl, hy, a6, b6⟩; clear HNB; have HA6 := Lib.hid a6; have HB6 := Lib.hid b6; clear a6 b6))
  obtain ⟨P, hP⟩ : ∃ P, Pt.made n 0 (n : Int) bu = P := ⟨_, rfl⟩
  obtain ⟨Q, hQ⟩ : ∃ Q, Pt.rmade n 0 (n : Int) bu = Q := ⟨_, rfl⟩
  have HLK := Lib.hid (show Like P Q by rw [← hP, ← hQ]; exact made_like _ _ _ _)
  have HPO := Lib.hid (show P.Ok n by rw [← hP]; exact Pt.made_ok (by omega) _ _ _)
  have HQO := Lib.hid (show Q.Ok n by rw [← hQ]; exact Pt.rmade_ok (by omega) _ _ _)
  rw [hP] at HA5
  rw [hQ] at HA6
  clear hP hQ
  have B36 := Lib.hid (HB5.out.trans (HB6.out.mono HB5.out.size))
  have s35 := HB5.out.size
  have HAT := Lib.hid (show PrAt w W3.heap.size g m k gr mr kr x y by
    have i2 := HF2.out.in
    have i3 := RR.out.in
    have s1 := HB1.out.size
    have s2 := HB2.out.size
    have s3 := HB3.out.size
    have l2 : ∀ b, In3 g m k b → W1.heap.size ≤ b := by rintro b (rfl | rfl | rfl) <;> assumption
    have l3 : ∀ b, In3 gr mr kr b → W2.heap.size ≤ b := by rintro b (rfl | rfl | rfl) <;> assumption
    refine ⟨fun b h => ?_, fun b h => ?_, fun b h1 h2 => ?_, by omega, by omega⟩
    · have := i2 b h; have := l2 b h; omega
    · have := i3 b h; have := l3 b h; omega
    · have := i2 b h1; have := l3 b h2; omega)
  have hst : Going w W3.heap.size g m k gr mr kr x y P Q n len (.int .i64 0) W6 :=
    ⟨0, fresh n, fresh n, rfl, Nat.zero_le _, Nat.zero_le _, ⟨fresh_sim _ _, few_fresh _, few_fresh _, fresh_wear n⟩, FF.out.kept B36.out, RR.out.kept B36.out, HA5.out.kept HB6.out, HA6.out, B3.out.trans (B36.out.mono B3.out.size), B36.out.size⟩
  have HST := Lib.hid hst
  obtain ⟨T, hTe⟩ : ∃ T, T = W3.heap.size := ⟨_, rfl⟩
  rw [← hTe] at HST HAT
  clear hst hTe s35 HA5 HA6 HB1 HB2 HB3 HB5 HB6 HF2 FF RR B3 B36 hg hm hk hgr hmr hkr hx hy HI HSE
  go_loopw [16] (Going w T g m k gr mr kr x y P Q n len) (fun v _ => len - (intOf v).toNat)
  case atStart => exact HST.out
  case round =>
    clear HST
    obtain ⟨j, S, R, rfl, hj, hS, hG, h3x⟩ := hrel
    have j0 : (0 : Int) ≤ (j : Int) := by omega
    have HRO := Lib.hid (show R.ops = S.ops from hG.sim.ops.symm)
    by_cases hlt : j < len
    · have j1 : (j : Int) < (len : Int) := by omega
      have jw : IntKind.i64.wrap ((j : Int) + 1) = (j : Int) + 1 := by rw [IntKind.wrap_i64]; omega
      obtain ⟨b, off, ha, hbw, hA⟩ : ∃ b off, a = some ⟨b, off, none⟩ ∧ b < w.heap.size ∧ w.cell? ⟨b, off + j, none⟩ = some (.int .i64 (z.getD j 0)) ∧ I64 (z.getD j 0) := by
        rcases HROW.out with h | ⟨b, off, h1, hb, h2⟩
        · omega
        · exact ⟨b, off, h1, hb, h2 j hlt⟩
      subst ha
      obtain ⟨v, hv⟩ : ∃ v, z.getD j 0 = v := ⟨_, rfl⟩
      rw [hv] at hA
      obtain ⟨hA1, hA2⟩ := hA
      have HC := Lib.hid (fun (W : World) (h : Below w.heap.size w W) => (h.cell (p := ⟨b, off + j, none⟩) hbw).trans hA1)
      obtain ⟨M, hM⟩ : ∃ M, bits .and .i64 v 1 = M := ⟨_, rfl⟩
      have hM1 : M = 0 ∨ M = 1 := by rw [← hM]; exact and1 v
      have hM2 : 0 ≤ M ∧ M ≤ 1 := by omega
      have hM3 : IntKind.i64.wrap (M * 320) = M * 320 := by rw [IntKind.wrap_i64]; omega
      obtain ⟨D, hD⟩ : ∃ D, 2 * (len - (j + 1)) = D := ⟨_, rfl⟩
      have HG := Lib.hid (show Alike n (D + 1 + 1) S R by rw [← hD, show 2 * (len - (j + 1)) + 1 + 1 = 2 * (len - j) by omega]; exact hG)
      have HD := Lib.hid hD
      have H3 := Lib.hid h3x
      have c0 := HC.out _ h3x.low
      have HTop := Lib.hid (fun (W : World) (h : T ≤ W.heap.size) => show Clear g m k (some ⟨W.heap.size, 0, none⟩) 1 ∧ Clear gr mr kr (some ⟨W.heap.size, 0, none⟩) 1 from ⟨.inr (fun y hy hin => by cases hy; have := (HAT.out.lf _ hin).2; simp only [] at this; omega), .inr (fun y hy hin => by cases hy; have := (HAT.out.lr _ hin).2; simp only [] at this; omega)⟩)
      have HG1 := Lib.hid (al_erase HG.out v)
      have HG2 := Lib.hid (al_prog HG1.out (M * 320) [0])
      have o1 := (erase_wears S v).2
      have o2 := (erase_wears R v).2
      have o3 := (prog_wears (erase S v).2 (M * 320) [0]).2
      have ro := HRO.out
      have O1 : Hid ((erase S v).2.ops ≤ 1000000) := Lib.hid (by omega)
      have O2 : Hid ((erase R v).2.ops ≤ 1000000) := Lib.hid (by omega)
      have O3 : Hid ((prog (erase S v).2 (M * 320) [0]).2.ops ≤ 2 * (j + 1)) := Lib.hid (by omega)
      have O0 : Hid (S.ops ≤ 1000000 ∧ R.ops ≤ 1000000) := Lib.hid (by omega)
      have HMI := Lib.hid (show I64 (M * 320) from ⟨by omega, by omega⟩)
      clear hM1 hM2 h3x hG hA1 hA2 hv hD o1 o2 o3 ro
      go_wp2_with (first
        | (go_at_call 10; (with_reducible refine (erase_any v _ H3.out.f O0.out.1 HG.out.fs).mono ?_); rintro e w1 ⟨rfl, t1⟩; have P1 := Lib.hid (H3.out.of_f HAT.out t1); have c1 := HC.out _ P1.out.low; clear t1 c0 H3)
        | (go_at_call 11; (with_reducible refine (rerase_any v _ P1.out.r O0.out.2 HG.out.fr).mono ?_); rintro e w2 ⟨rfl, t2⟩; have P2 := Lib.hid (P1.out.of_r HAT.out t2); have c2 := HC.out _ P2.out.low; clear t2 c1 P1; have P3 := Lib.hid (P2.out.kept ((Below.refl _ w2).alloc (Nat.le_refl _) (.cells #[.int .u8 0] 5))); have HP3 := Lib.hid (program_any (M * 320) _ 1 1 [0] _ HMI.out P3.out.f (row_new w2 (x := 0) (by omega)) (HTop.out w2 P2.out.top).1 O1.out))
        | (go_at_call 12; (with_reducible refine HP3.out.mono ?_); rintro e w4 ⟨rfl, t4⟩; have P4 := Lib.hid (P3.out.of_f HAT.out t4); have c4 := HC.out _ P4.out.low; clear t4 c2 P2 P3 HP3; have P5 := Lib.hid (P4.out.kept ((Below.refl _ w4).alloc (Nat.le_refl _) (.cells #[.int .u8 0] 5))); have HP5 := Lib.hid (rprogram_any (M * 320) _ 1 1 [0] _ HMI.out P5.out.r (row_new w4 (x := 0) (by omega)) (by omega) (HTop.out w4 P4.out.top).2 O2.out))
        | (go_at_call 13; (with_reducible refine HP5.out.mono ?_); rintro e w6 ⟨rfl, t6⟩; have P6 := Lib.hid (P5.out.of_r HAT.out t6); clear t6 c4 P4 P5 HP5))
      go_roundw
      case rel => exact ⟨j + 1, _, _, by simp, by omega, O3.out, by rw [HD.out]; exact HG2.out, P6.out⟩
      case measure => simp only [intOf]; omega
    · obtain rfl : j = len := by omega
      have j1 : ¬ (j : Int) < (j : Int) := by omega
      have HG := Lib.hid hG
      have H3 := Lib.hid h3x
      have hSo : S.ops ≤ 1000000 := by omega
      have hRo : R.ops ≤ 1000000 := by have := HRO.out; omega
      have HPs := Lib.hid (show P.Ok S.wear.length by rw [hG.wl]; exact HPO.out)
      have HQs := Lib.hid (show Q.Ok R.wear.length by rw [hG.wr]; exact HQO.out)
      have hFS := hG.fs
      have hFR := hG.fr
      have HLe := Lib.hid (least_al hG HLK.out fr kk)
      have HSu := Lib.hid (sum_al hG HLK.out)
      have HMa := Lib.hid (al_may hG HLK.out)
      clear hG h3x HROW
      have HV := Lib.hid (show leastV S P fr kk = .tuple (if leastN S P fr kk < 0 then #[.int .i64 0, .bool false] else #[.int .i64 (leastN S P fr kk), .bool true]) from rfl)
      have HVr := Lib.hid (show leastV R Q fr kk = .tuple (if leastN S P fr kk < 0 then #[.int .i64 0, .bool false] else #[.int .i64 (leastN S P fr kk), .bool true]) by rw [← HLe.out]; rfl)
      obtain ⟨q, hq⟩ : ∃ q, leastN S P fr kk = q := ⟨_, rfl⟩
      obtain ⟨u, hu⟩ : ∃ u, sumL S P P.cnt = u := ⟨_, rfl⟩
      obtain ⟨mb, hmb⟩ : ∃ mb, mayR S P = mb := ⟨_, rfl⟩
      rw [hq] at HV HVr
      rw [hu] at HSu
      rw [hmb] at HMa
      have HU := Lib.hid hu
      have HB := Lib.hid hmb
      clear hq hu hmb HLe
      by_cases hn : q < 0
      · cases mb
        · skip
          have HL1 := Lib.hid (least_any fr kk _ H3.out.a H3.out.f hFS hSo HPs.out HFR.out HKK.out)
          rw [HV.out, if_pos hn] at HL1
          go_wp2_with (first
            | (go_at_call 14; (with_reducible refine HL1.out.mono ?_); rintro e w1 ⟨rfl, b1⟩; clear HL1; have P1 := Lib.hid (H3.out.kept b1); clear b1 H3; have HL2 := Lib.hid (rleast_any fr kk _ P1.out.b P1.out.r hFR hRo HQs.out HFR.out HKK.out); rw [HVr.out, if_pos hn] at HL2)
            | (go_at_call 15; (with_reducible refine HL2.out.mono ?_); rintro e w2 ⟨rfl, b2⟩; clear HL2; have P2 := Lib.hid (P1.out.kept b2); clear b2 P1; have HS1 := Lib.hid (wsum_any _ P2.out.a P2.out.f hFS hSo HPs.out); rw [HU.out] at HS1)
            | (go_at_call 16; (with_reducible refine HS1.out.mono ?_); rintro e w3 ⟨rfl, b3⟩; clear HS1; have P3 := Lib.hid (P2.out.kept b3); clear b3 P2; have HS2 := Lib.hid (rwsum_any _ P3.out.b P3.out.r hFR hRo HQs.out); rw [HSu.out] at HS2)
            | (go_at_call 17; (with_reducible refine HS2.out.mono ?_); rintro e w4 ⟨rfl, b4⟩; clear HS2; have P4 := Lib.hid (P3.out.kept b4); clear b4 P3; have HM1 := Lib.hid (spent_any _ P4.out.a P4.out.f hFS hSo HPs.out); rw [HB.out] at HM1)
            | (go_at_call 18; (with_reducible refine HM1.out.mono ?_); rintro e w5 ⟨rfl, b5⟩; clear HM1; have P5 := Lib.hid (P4.out.kept b5); clear b5 P4; have HM2 := Lib.hid (rmay_any _ P5.out.b P5.out.r hFR hRo HQs.out); rw [HMa.out] at HM2)
            | (go_at_call 19; (with_reducible refine HM2.out.mono ?_); rintro e w6 ⟨rfl, b6⟩; clear HM2; have P6 := Lib.hid (P5.out.kept b6)))
          go_ret
          exact ⟨rfl, P6.out.low⟩
        · skip
          have HL1 := Lib.hid (least_any fr kk _ H3.out.a H3.out.f hFS hSo HPs.out HFR.out HKK.out)
          rw [HV.out, if_pos hn] at HL1
          go_wp2_with (first
            | (go_at_call 14; (with_reducible refine HL1.out.mono ?_); rintro e w1 ⟨rfl, b1⟩; clear HL1; have P1 := Lib.hid (H3.out.kept b1); clear b1 H3; have HL2 := Lib.hid (rleast_any fr kk _ P1.out.b P1.out.r hFR hRo HQs.out HFR.out HKK.out); rw [HVr.out, if_pos hn] at HL2)
            | (go_at_call 15; (with_reducible refine HL2.out.mono ?_); rintro e w2 ⟨rfl, b2⟩; clear HL2; have P2 := Lib.hid (P1.out.kept b2); clear b2 P1; have HS1 := Lib.hid (wsum_any _ P2.out.a P2.out.f hFS hSo HPs.out); rw [HU.out] at HS1)
            | (go_at_call 16; (with_reducible refine HS1.out.mono ?_); rintro e w3 ⟨rfl, b3⟩; clear HS1; have P3 := Lib.hid (P2.out.kept b3); clear b3 P2; have HS2 := Lib.hid (rwsum_any _ P3.out.b P3.out.r hFR hRo HQs.out); rw [HSu.out] at HS2)
            | (go_at_call 17; (with_reducible refine HS2.out.mono ?_); rintro e w4 ⟨rfl, b4⟩; clear HS2; have P4 := Lib.hid (P3.out.kept b4); clear b4 P3; have HM1 := Lib.hid (spent_any _ P4.out.a P4.out.f hFS hSo HPs.out); rw [HB.out] at HM1)
            | (go_at_call 18; (with_reducible refine HM1.out.mono ?_); rintro e w5 ⟨rfl, b5⟩; clear HM1; have P5 := Lib.hid (P4.out.kept b5); clear b5 P4; have HM2 := Lib.hid (rmay_any _ P5.out.b P5.out.r hFR hRo HQs.out); rw [HMa.out] at HM2)
            | (go_at_call 19; (with_reducible refine HM2.out.mono ?_); rintro e w6 ⟨rfl, b6⟩; clear HM2; have P6 := Lib.hid (P5.out.kept b6)))
          go_ret
          exact ⟨rfl, P6.out.low⟩
      · cases mb
        · skip
          have HL1 := Lib.hid (least_any fr kk _ H3.out.a H3.out.f hFS hSo HPs.out HFR.out HKK.out)
          rw [HV.out, if_neg hn] at HL1
          go_wp2_with (first
            | (go_at_call 14; (with_reducible refine HL1.out.mono ?_); rintro e w1 ⟨rfl, b1⟩; clear HL1; have P1 := Lib.hid (H3.out.kept b1); clear b1 H3; have HL2 := Lib.hid (rleast_any fr kk _ P1.out.b P1.out.r hFR hRo HQs.out HFR.out HKK.out); rw [HVr.out, if_neg hn] at HL2)
            | (go_at_call 15; (with_reducible refine HL2.out.mono ?_); rintro e w2 ⟨rfl, b2⟩; clear HL2; have P2 := Lib.hid (P1.out.kept b2); clear b2 P1; have HS1 := Lib.hid (wsum_any _ P2.out.a P2.out.f hFS hSo HPs.out); rw [HU.out] at HS1)
            | (go_at_call 16; (with_reducible refine HS1.out.mono ?_); rintro e w3 ⟨rfl, b3⟩; clear HS1; have P3 := Lib.hid (P2.out.kept b3); clear b3 P2; have HS2 := Lib.hid (rwsum_any _ P3.out.b P3.out.r hFR hRo HQs.out); rw [HSu.out] at HS2)
            | (go_at_call 17; (with_reducible refine HS2.out.mono ?_); rintro e w4 ⟨rfl, b4⟩; clear HS2; have P4 := Lib.hid (P3.out.kept b4); clear b4 P3; have HM1 := Lib.hid (spent_any _ P4.out.a P4.out.f hFS hSo HPs.out); rw [HB.out] at HM1)
            | (go_at_call 18; (with_reducible refine HM1.out.mono ?_); rintro e w5 ⟨rfl, b5⟩; clear HM1; have P5 := Lib.hid (P4.out.kept b5); clear b5 P4; have HM2 := Lib.hid (rmay_any _ P5.out.b P5.out.r hFR hRo HQs.out); rw [HMa.out] at HM2)
            | (go_at_call 19; (with_reducible refine HM2.out.mono ?_); rintro e w6 ⟨rfl, b6⟩; clear HM2; have P6 := Lib.hid (P5.out.kept b6)))
          go_ret
          exact ⟨rfl, P6.out.low⟩
        · skip
          have HL1 := Lib.hid (least_any fr kk _ H3.out.a H3.out.f hFS hSo HPs.out HFR.out HKK.out)
          rw [HV.out, if_neg hn] at HL1
          go_wp2_with (first
            | (go_at_call 14; (with_reducible refine HL1.out.mono ?_); rintro e w1 ⟨rfl, b1⟩; clear HL1; have P1 := Lib.hid (H3.out.kept b1); clear b1 H3; have HL2 := Lib.hid (rleast_any fr kk _ P1.out.b P1.out.r hFR hRo HQs.out HFR.out HKK.out); rw [HVr.out, if_neg hn] at HL2)
            | (go_at_call 15; (with_reducible refine HL2.out.mono ?_); rintro e w2 ⟨rfl, b2⟩; clear HL2; have P2 := Lib.hid (P1.out.kept b2); clear b2 P1; have HS1 := Lib.hid (wsum_any _ P2.out.a P2.out.f hFS hSo HPs.out); rw [HU.out] at HS1)
            | (go_at_call 16; (with_reducible refine HS1.out.mono ?_); rintro e w3 ⟨rfl, b3⟩; clear HS1; have P3 := Lib.hid (P2.out.kept b3); clear b3 P2; have HS2 := Lib.hid (rwsum_any _ P3.out.b P3.out.r hFR hRo HQs.out); rw [HSu.out] at HS2)
            | (go_at_call 17; (with_reducible refine HS2.out.mono ?_); rintro e w4 ⟨rfl, b4⟩; clear HS2; have P4 := Lib.hid (P3.out.kept b4); clear b4 P3; have HM1 := Lib.hid (spent_any _ P4.out.a P4.out.f hFS hSo HPs.out); rw [HB.out] at HM1)
            | (go_at_call 18; (with_reducible refine HM1.out.mono ?_); rintro e w5 ⟨rfl, b5⟩; clear HM1; have P5 := Lib.hid (P4.out.kept b5); clear b5 P4; have HM2 := Lib.hid (rmay_any _ P5.out.b P5.out.r hFR hRo HQs.out); rw [HMa.out] at HM2)
            | (go_at_call 19; (with_reducible refine HM2.out.mono ?_); rintro e w6 ⟨rfl, b6⟩; clear HM2; have P6 := Lib.hid (P5.out.kept b6)))
          go_ret
          exact ⟨rfl, P6.out.low⟩
set_option maxRecDepth 100000 in
set_option maxHeartbeats 4000000 in
theorem walk (a0 : Int) (a1 : Int) (a2 : Option Addr) (len2 cap2 : Nat) (z2 : List Int) (a3 : Int) (a4 : Int) (w : World) (w0 : (Lit.int .i64 a0).wf = true) (w1 : (Lit.int .i64 a1).wf = true) (w2 : IsRow .i64 w a2 len2 cap2 z2) (w3 : (Lit.int .i64 a3).wf = true) (w4 : (Lit.int .i64 a4).wf = true) :
    Calls Try.prog 3 #[.int .i64 a0, .int .i64 a1, .slice a2 len2 cap2, .int .i64 a3, .int .i64 a4] w fun e w' => e = .returned (.bool true) ∧ Below w.heap.size w w' := by
  have hb1 := bounds_i64 w1
  have hb3 := bounds_i64 w3
  have hb4 := bounds_i64 w4
  have hrow : Ints w a2 len2 z2 := by
    rcases w2 with ⟨rfl, rfl, rfl, rfl⟩ | ⟨x, rfl, hlc, hm, hz, hc, hwf⟩
    · exact .inl rfl
    · by_cases h0 : len2 = 0
      · exact .inl h0
      · obtain ⟨b, off, rfl, hcell⟩ := ints_at hc (by omega)
        exact .inr ⟨b, off, rfl, World.block_lt_of_cell? _ _ (hcell 0 (by omega)), fun j hj => ⟨hcell j (by omega), by have := bounds_i64 (hwf _ (getD_mem (xs := z2) (i := j) (by omega))); exact ⟨by omega, by omega⟩⟩⟩
  clear w0 w1 w2 w3 w4
  by_cases h0 : a0 < 0
  · clear hrow hb1 hb3 hb4
    go_enter Try.func3, Try.ntmps3
    go_wp2_with (go_at_call 5; refine (alive_any _).mono ?_; rintro e w1 ⟨rfl, H1⟩)
    go_ret
    exact ⟨rfl, H1⟩
  by_cases h1 : 12 < a0
  · clear hrow hb1 hb3 hb4
    go_enter Try.func3, Try.ntmps3
    go_wp2_with (go_at_call 5; refine (alive_any _).mono ?_; rintro e w1 ⟨rfl, H1⟩)
    go_ret
    exact ⟨rfl, H1⟩
  by_cases h2 : 60 < len2
  · have d3 : (60 : Int) < (len2 : Int) := by omega
    clear hrow hb1 hb3 hb4
    go_enter Try.func3, Try.ntmps3
    go_wp2_with (go_at_call 5; refine (alive_any _).mono ?_; rintro e w1 ⟨rfl, H1⟩)
    go_ret
    exact ⟨rfl, H1⟩
  obtain ⟨n, rfl⟩ := Int.eq_ofNat_of_zero_le (show 0 ≤ a0 by omega)
  exact tells_within n a1 a2 len2 cap2 z2 a3 a4 w hrow (by omega) (by omega) ⟨by omega, by omega⟩ ⟨by omega, by omega⟩ ⟨by omega, by omega⟩
/-! ### THE ROW's STEP: WRITTEN OUT: LEAVE IT -/
set_option maxRecDepth 100000 in
theorem lifted (os : Os) (started : os.Started) (H : Type) (enc : TypeId × Value → H) :
    ReturnsInHanded {} Try.checked os 3 .any (Rows.wearTellsSpec.pre6 enc Try.prog Try.f3 Rows.wearTellsRow.domain false) (Rows.wearTellsSpec.post enc Try.prog Try.f3 false true false false) := by
  refine returnsInHanded_of_change (C := Try.checked) own started (by kernel_rfl) Try.func3
    (ChangeSpec.witness6 (enc := enc) (C := Try.checked) false ⟨#[], #[.int .i64 0, .int .i64 0, .slice none 0 0, .int .i64 0, .int .i64 0], []⟩ 8 (by kernel_rfl) (by kernel_rfl) (by kernel_rfl) (by kernel_rfl)) ?_
  intro W base args ds gs before hval0 hW hcnd _
  have hval : ∀ (j : Nat) t v, Try.f3.params[j]? = some t → args[j]? = some v → Value.okWide Try.prog W .any base t v := hval0
  have hW' := hW
  obtain ⟨p, q, hA0, hV, rfl, hfz, hnd⟩ := hW
  have hA : DataW.TrodAll enc Try.prog W 0 (fun _ => true) true Try.f3.params.toList args.toList ds p := hA0
  rw [Try.params3] at hA hval
  obtain ⟨v0, vs0, d0, ds0, p0, q0, hargs, rfl, rfl, h0, r0⟩ := trodAll_cons hA
  obtain ⟨v1, vs1, d1, ds1, p1, q1, rfl, rfl, rfl, h1, r1⟩ := trodAll_cons r0
  obtain ⟨v2, vs2, d2, ds2, p2, q2, rfl, rfl, rfl, h2, r2⟩ := trodAll_cons r1
  obtain ⟨v3, vs3, d3, ds3, p3, q3, rfl, rfl, rfl, h3, r3⟩ := trodAll_cons r2
  obtain ⟨v4, vs4, d4, ds4, p4, q4, rfl, rfl, rfl, h4, r4⟩ := trodAll_cons r3
  obtain ⟨rfl, rfl, rfl⟩ := trodAll_nil r4
  obtain rfl : args = #[v0, v1, v2, v3, v4] := by cases args; simp_all
  obtain ⟨rfl, rfl⟩ := trodVars_none hV
  obtain ⟨a0, rfl, rfl, rfl, w0⟩ := open_int Try.underlying3 (hval 0 3 v0 rfl rfl) h0
  obtain ⟨a1, rfl, rfl, rfl, w1⟩ := open_int Try.underlying3 (hval 1 3 v1 rfl rfl) h1
  obtain ⟨a2, len2, cap2, rfl⟩ := okWide_slice Try.underlying22 (hval 2 22 v2 rfl rfl)
  have k2 := h2
  have lt2 : ∀ x ∈ p2, x.block < W.heap.size := by obtain ⟨m, hm⟩ := k2; exact DataW.trod_lt m _ _ _ hm
  obtain ⟨z2, w2⟩ : ∃ zs, IsRow .i64 W a2 len2 cap2 zs := by
    obtain ⟨fuel, hf⟩ := h2
    rcases open_ints Try.underlying22 Try.underlying3 (by kernel_rfl) hf with ⟨hcs, _⟩ | ⟨x, l, c, zs, hcs, _, hl, hm, hz, _, hcell, hwz⟩
    · simp [Value.cells] at hcs
      obtain ⟨rfl, rfl, rfl⟩ := hcs
      exact ⟨[], .inl ⟨rfl, rfl, rfl, rfl⟩⟩
    · simp [Value.cells] at hcs
      obtain ⟨rfl, rfl, rfl⟩ := hcs
      exact ⟨zs, .inr ⟨_, rfl, hl, hm, by simpa using hz, hcell, hwz⟩⟩
  obtain ⟨a3, rfl, rfl, rfl, w3⟩ := open_int Try.underlying3 (hval 3 3 v3 rfl rfl) h3
  obtain ⟨a4, rfl, rfl, rfl, w4⟩ := open_int Try.underlying3 (hval 4 3 v4 rfl rfl) h4
  clear hA0 hval0
  refine (walk a0 a1 a2 len2 cap2 z2 a3 a4 W w0 w1 w2 w3 w4).mono fun e W' ⟨he, bel⟩ => ?_
  subst he
  exact ⟨_, rfl, _, _, _, [], _, [], hW', trodAll_mk1 (shut_bool Try.underlying4 _), (trodAll_cons_mk (shut_int Try.underlying3 w0) (trodAll_cons_mk (shut_int Try.underlying3 w1) (trodAll_cons_mk (Below.trod laidOut (by kernel_rfl) (of_decide_eq_true (by kernel_rfl)) k2 bel lt2) (trodAll_cons_mk (shut_int Try.underlying3 w3) (trodAll_cons_mk (shut_int Try.underlying3 w4) trodAll_mk0))))), rfl, bel.frame _, fun h => by cases h⟩

theorem over : Rows.wearTellsRow.holds Try.pinned (OpenSpec.ofChange Rows.wearTellsSpec) :=
  OpenClaim.holds_of_wide 3 Try.f3 rfl rfl rfl rfl rfl rfl rfl ⟨rfl, rfl, rfl, rfl, rfl⟩ rfl rfl rfl rfl rfl (by kernel_rfl) Try.func3 (by kernel_rfl)
    (of_decide_eq_true (by kernel_rfl)) (by unfold Func.isWrapper; first | (rw [if_pos (by decide +kernel)]; kernel_rfl) | (rw [if_neg (by decide +kernel)]; exact ⟨rfl, rfl⟩))
    (fun os started H enc _ => lifted os started H enc)

/-- ████ THE STATEMENT ████ -/
theorem proved : Rows.WearTellsSaid := over
end Go.Proofs.Ytclephjnokbaoaa.wearTells
namespace Go.Proofs.Ytclephjnokbaoaa
theorem WearTells_holds : Rows.WearTellsSaid := wearTells.proved
#print axioms WearTells_holds
end Go.Proofs.Ytclephjnokbaoaa
