/-
  Several texts in one: Rar, Rme, Rbl; each says its own conditions.
-/
import Derived.Test.YtklhmneapegfpaaGreatDoorApl
import Derived.Test.YtklhmneapegfpaaGreatDoorRers
import Derived.Handy
import Derived.StillTailTactics
import Derived.Deep.RegionHeld
namespace Go.Proofs.YtklhmneapegfpaaGreatDoor
open Go.RowKit
set_option linter.unusedVariables false
set_option linter.unusedSimpArgs false

theorem still2 {P : Program} {f : FuncId} {args : Array Value} {w : World} {v : Value} (h : Calls P f args w fun e w' => e = .returned v ∧ w = w') : Calls P f args w (fun e w'' => e = .returned v ∧ w'' = w) :=
  h.mono fun _ _ h => ⟨h.1, h.2.symm⟩
def raCells (g : Nat) (P : Pt) : Array Value := #[.pointer (some ⟨g, 0, none⟩), .int .i64 (P.fst : Int), .int .i64 (P.cnt : Int), .int .i64 (P.bud : Int)]
/-- The document's area at block x. -/
def Rar (w : World) (x g : Nat) (P : Pt) : Prop := Has w x 70 (raCells g P)
theorem Rar.kept {w w' : World} {x g : Nat} {P : Pt} (h : Rar w x g P) (hb : Below w.heap.size w w') : Rar w' x g P := Has.kept h hb
theorem Rar.only {w w' : World} {x g : Nat} {P : Pt} {p : Nat → Prop} (h : Rar w x g P) (o : Only p w w') (hp : ¬ p x) : Rar w' x g P := Has.only h o hp
theorem ra_cells {w : World} {x g : Nat} {P : Pt} (h : Rar w x g P) : w.cell? ⟨x, 0, none⟩ = some (.pointer (some ⟨g, 0, none⟩)) ∧ w.cell? ⟨x, 1, none⟩ = some (.int .i64 (P.fst : Int)) ∧ w.cell? ⟨x, 2, none⟩ = some (.int .i64 (P.cnt : Int)) ∧ w.cell? ⟨x, 3, none⟩ = some (.int .i64 (P.bud : Int)) :=
  ⟨h.at 0, h.at 1, h.at 2, h.at 3⟩
set_option maxRecDepth 100000 in
theorem rin_any {x g : Nat} {P : Pt} (s a n : Int) (w : World) (h : Rar w x g P) (ha : I64 a) (hn : I64 n) : Calls Tryz.prog 62 #[.pointer (some ⟨x, 0, none⟩), .int .i64 s, .int .i64 a, .int .i64 n] w fun e w' => e = .returned (.bool (decide (P.in s a n))) ∧ w = w' := by
  obtain ⟨c0, c1, c2, c3⟩ := ra_cells h
  clear h c0 c1 c3
  obtain ⟨c, hc⟩ : ∃ c, (P.cnt : Int) = c := ⟨_, rfl⟩
  have hP : P.in s a n ↔ (0 ≤ s ∧ s < c) ∧ 0 ≤ a ∧ 0 ≤ n ∧ n ≤ 320 - a := by rw [← hc]; exact Iff.rfl
  rw [hc] at c2
  obtain ⟨b, hb⟩ : ∃ b, decide (P.in s a n) = b := ⟨_, rfl⟩
  rw [hb]
  have hB := Lib.hid (show b = decide ((0 ≤ s ∧ s < c) ∧ 0 ≤ a ∧ 0 ≤ n ∧ n ≤ 320 - a) by rw [← hb]; exact decide_eq_decide.2 hP)
  clear hb hP hc
  have TT : ∀ {q : Prop} [Decidable q], ¬ q → decide q = false := fun h => by simpa using h
  by_cases h1 : 0 ≤ s
  · by_cases h2 : s < c
    · by_cases h3 : 0 ≤ a
      · by_cases h4 : 0 ≤ n
        · have q : IntKind.i64.wrap (320 - n) = 320 - n := by rw [IntKind.wrap_i64]; have := hn.2; omega
          by_cases h5 : n ≤ 320
          · obtain ⟨d, hd⟩ : ∃ d, decide (a ≤ 320 - n) = d := ⟨_, rfl⟩
            have hD := Lib.hid hd
            go_enter Tryz.func62, Tryz.ntmps62
            go_wp2
            go_ret
            refine ⟨ret_bool ?_, rfl⟩
            rw [hB.out]
            first | (rw [← hD.out]) | skip
            refine decide_eq_decide.2 ?_
            omega
          · have e := TT (q := n ≤ 320) h5
            obtain rfl : b = false := hB.out.trans (TT (by omega))
            clear hB
            go_enter Tryz.func62, Tryz.ntmps62
            go_wp2
            go_ret
            exact ⟨rfl, rfl⟩
        · have e := TT (q := 0 ≤ n) h4
          obtain rfl : b = false := hB.out.trans (TT (by omega))
          clear hB
          go_enter Tryz.func62, Tryz.ntmps62
          go_wp2
          go_ret
          exact ⟨rfl, rfl⟩
      · have e := TT (q := 0 ≤ a) h3
        obtain rfl : b = false := hB.out.trans (TT (by omega))
        clear hB
        go_enter Tryz.func62, Tryz.ntmps62
        go_wp2
        go_ret
        exact ⟨rfl, rfl⟩
    · have e := TT (q := s < c) h2
      obtain rfl : b = false := hB.out.trans (TT (by omega))
      clear hB
      go_enter Tryz.func62, Tryz.ntmps62
      go_wp2
      go_ret
      exact ⟨rfl, rfl⟩
  · have e := TT (q := 0 ≤ s) h1
    obtain rfl : b = false := hB.out.trans (TT (by omega))
    clear hB
    go_enter Tryz.func62, Tryz.ntmps62
    go_wp2
    go_ret
    exact ⟨rfl, rfl⟩
end Go.Proofs.YtklhmneapegfpaaGreatDoor

namespace Go.Proofs.YtklhmneapegfpaaGreatDoor
open Go.RowKit
set_option linter.unusedVariables false
set_option linter.unusedSimpArgs false

set_option maxRecDepth 100000 in
set_option maxHeartbeats 1000000 in
theorem rleft_any {T x g m k : Nat} {S : Fs} {P : Pt} (s : Int) (w : World) (ha : Rar w x g P) (hf : Rl w T g m k S) (hfew : Few S) (hops : S.ops ≤ 1000000) (hp : P.Ok S.wear.length) :
    Calls Tryz.prog 33 #[.pointer (some ⟨x, 0, none⟩), .int .i64 s] w fun e w' => e = .returned (.int .i64 (aLeft S P s)) ∧ Below w.heap.size w w' := by
  obtain ⟨c0, c1, c2, c3⟩ := ra_cells ha
  unfold aLeft
  by_cases hs : P.has s
  · rw [if_pos hs]
    obtain ⟨q, rfl, hq⟩ := Pt.has_nat hs
    have h1 := hp.in'
    have h2 := hp.few
    have hbu := hp.bud
    have hx := wear_few hfew ((P.fst : Int) + (q : Int))
    have HW := Lib.hid (rwear_any ((P.fst : Int) + (q : Int)) w.drew (hf.kept ((Below.refl _ w).drew)))
    generalize wearAt S ((P.fst : Int) + (q : Int)) = v at *
    have q1 : IntKind.i64.wrap ((P.fst : Int) + (q : Int)) = (P.fst : Int) + (q : Int) := by rw [IntKind.wrap_i64]; omega
    have q2 : IntKind.i64.wrap ((P.bud : Int) - v) = (P.bud : Int) - v := by rw [IntKind.wrap_i64]; omega
    have i0 : ¬ (q : Int) < 0 := by omega
    have i1 : ¬ (P.cnt : Int) ≤ (q : Int) := by omega
    have i2 : ¬ P.cnt ≤ q := by omega
    have d1 : decide ((P.cnt : Int) ≤ (q : Int)) = false := by simpa using i1
    have HC := Lib.hid (rcut_any ((P.bud : Int) - v) 0 1000 w.drew (by omega))
    have hmx : min (max ((P.bud : Int) - v) 0) 1000 = max ((P.bud : Int) - v) 0 := by omega
    rw [hmx] at HC
    clear hs ha hf hp
    go_enter Tryz.func33, Tryz.ntmps33
    go_wp2_with fail
    refine wp_region_still_lit (by kernel_rfl) (by kernel_rfl) ?_
    simp only [World.drew_eq]
    repeat still_step
    still_call (still2 HW.out)
    repeat still_step
    still_call (still2 HC.out)
    repeat still_step
    refine wpStill_nil ?_
    go_wp2_with fail
    go_ret
    exact ⟨rfl, (Below.refl _ w).drew⟩
  · rw [if_neg hs]
    have hs' : s < 0 ∨ (0 ≤ s ∧ (P.cnt : Int) ≤ s) := by
      by_cases h : s < 0
      · exact .inl h
      · exact .inr ⟨by omega, by
          by_cases h2 : (P.cnt : Int) ≤ s
          · exact h2
          · exact absurd ⟨by omega, by omega⟩ hs⟩
    rcases hs' with h1 | ⟨h1, h2⟩
    · have d1 : decide (s < 0) = true := by simpa using h1
      clear hs
      go_enter Tryz.func33, Tryz.ntmps33
      go_wp2
      go_ret
      exact ⟨rfl, Below.refl _ _⟩
    · have d1 : ¬ s < 0 := by omega
      have d2 : decide ((P.cnt : Int) ≤ s) = true := by simpa using h2
      clear hs
      go_enter Tryz.func33, Tryz.ntmps33
      go_wp2
      go_ret
      exact ⟨rfl, Below.refl _ _⟩
set_option maxRecDepth 100000 in
set_option maxHeartbeats 1000000 in
theorem raerase_any {T x g m k : Nat} {S : Fs} {P : Pt} (s : Int) (w : World) (ha : Rar w x g P) (hf : Rl w T g m k S) (hfew : Few S) (hops : S.ops ≤ 1000000) (hp : P.Ok S.wear.length) :
    Calls Tryz.prog 35 #[.pointer (some ⟨x, 0, none⟩), .int .i64 s] w fun e w' => e = .returned (.int .i64 (aErase S P s).1) ∧ RlTo T g m k (aErase S P s).2 w w' := by
  obtain ⟨c0, c1, c2, c3⟩ := ra_cells ha
  unfold aErase
  by_cases hs : P.has s
  · rw [if_pos hs]
    have HL := Lib.hid (rleft_any s w ha hf hfew hops hp)
    obtain ⟨q, rfl, hq⟩ := Pt.has_nat hs
    have h1 := hp.in'
    have h2 := hp.few
    have q1 : IntKind.i64.wrap ((P.fst : Int) + (q : Int)) = (P.fst : Int) + (q : Int) := by rw [IntKind.wrap_i64]; omega
    have i0 : ¬ (q : Int) < 0 := by omega
    have i1 : ¬ (P.cnt : Int) ≤ (q : Int) := by omega
    have i2 : ¬ P.cnt ≤ q := by omega
    have d1 : decide ((P.cnt : Int) ≤ (q : Int)) = false := by simpa using i1
    have HA := Lib.hid ha
    have HF := Lib.hid hf
    clear hs ha hf hp
    by_cases hz : aLeft S P (q : Int) = 0
    · rw [if_pos hz]
      rw [hz] at HL
      go_enter Tryz.func35, Tryz.ntmps35
      go_wp2_with (go_at_call 33; (with_reducible refine HL.out.mono ?_); rintro e w1 ⟨rfl, b1⟩)
      go_ret
      exact ⟨rfl, HF.out.kept b1, Only.of_below b1⟩
    · rw [if_neg hz]
      generalize aLeft S P (q : Int) = lf at *
      have hz' : (lf == 0) = false := by simpa using hz
      go_enter Tryz.func35, Tryz.ntmps35
      go_wp2_with (go_at_call 33; (with_reducible refine HL.out.mono ?_); rintro e w1 ⟨rfl, b1⟩; obtain ⟨k0, k1, k2, k3⟩ := ra_cells (HA.out.kept b1); have B1 := Lib.hid b1; clear c0 c1 c2 c3 b1)
      refine wp_region_still_tail 10 (by kernel_rfl) (by kernel_rfl) ?_
      simp only [World.drew_eq]
      simp only [List.take_succ_cons, List.take_zero, List.drop_succ_cons, List.drop_zero]
      repeat still_step
      refine wpStill_nil ?_
      go_wp2_with (go_at_call 61; refine (rerase_any ((P.fst : Int) + (q : Int)) _ (HF.out.kept B1.out.drew) hops hfew).mono ?_; rintro e w2 ⟨rfl, f2, o2⟩)
      go_ret
      exact ⟨rfl, f2, (Only.of_below B1.out.drew).trans o2⟩
  · rw [if_neg hs]
    have hs' : s < 0 ∨ (0 ≤ s ∧ (P.cnt : Int) ≤ s) := by
      by_cases h : s < 0
      · exact .inl h
      · exact .inr ⟨by omega, by
          by_cases h2 : (P.cnt : Int) ≤ s
          · exact h2
          · exact absurd ⟨by omega, by omega⟩ hs⟩
    rcases hs' with h1 | ⟨h1, h2⟩
    · have d1 : decide (s < 0) = true := by simpa using h1
      clear hs
      go_enter Tryz.func35, Tryz.ntmps35
      go_wp2
      go_ret
      exact ⟨rfl, hf, Only.refl _ _⟩
    · have d1 : ¬ s < 0 := by omega
      have d2 : decide ((P.cnt : Int) ≤ s) = true := by simpa using h2
      clear hs
      go_enter Tryz.func35, Tryz.ntmps35
      go_wp2
      go_ret
      exact ⟨rfl, hf, Only.refl _ _⟩
set_option maxRecDepth 100000 in
set_option maxHeartbeats 1000000 in
theorem raread_any {T x g m k : Nat} {S : Fs} {P : Pt} (s a n : Int) (w : World) (ha : Rar w x g P) (hf : Rl w T g m k S) (hp : P.Ok S.wear.length) (hi1 : I64 a) (hi2 : I64 n) :
    Calls Tryz.prog 39 #[.pointer (some ⟨x, 0, none⟩), .int .i64 s, .int .i64 a, .int .i64 n] w (Gives (aRead S P s a n) w) := by
  obtain ⟨c0, c1, c2, c3⟩ := ra_cells ha
  have HI := Lib.hid (rin_any s a n w ha hi1 hi2)
  unfold aRead
  by_cases hs : P.in s a n
  · rw [if_pos hs]
    have hd : decide (P.in s a n) = true := by simpa using hs
    rw [hd] at HI
    obtain ⟨h0, ha0, hn0, hna⟩ := hs
    obtain ⟨q, rfl, hq⟩ := Pt.has_nat h0
    have h1 := hp.in'
    have h2 := hp.few
    have hpl : P.place (q : Int) a = ((P.fst : Int) + (q : Int)) * 320 + a := rfl
    rw [hpl]
    have hpi : I64 (((P.fst : Int) + (q : Int)) * 320 + a) := ⟨by omega, by omega⟩
    have q1 : IntKind.i64.wrap ((P.fst : Int) + (q : Int)) = (P.fst : Int) + (q : Int) := by rw [IntKind.wrap_i64]; omega
    have q2 : IntKind.i64.wrap (((P.fst : Int) + (q : Int)) * 320) = ((P.fst : Int) + (q : Int)) * 320 := by rw [IntKind.wrap_i64]; omega
    have q3 : IntKind.i64.wrap (((P.fst : Int) + (q : Int)) * 320 + a) = ((P.fst : Int) + (q : Int)) * 320 + a := by rw [IntKind.wrap_i64]; omega
    have HF := Lib.hid hf
    clear h0 ha0 hn0 hna hpl hd ha hf hp
    go_enter Tryz.func39, Tryz.ntmps39
    go_wp2_with (go_at_call 62; (with_reducible refine HI.out.mono ?_); rintro e w1 ⟨rfl, rfl⟩)
    refine wp_region_still_tail 14 (by kernel_rfl) (by kernel_rfl) ?_
    simp only [World.drew_eq]
    simp only [List.take_succ_cons, List.take_zero, List.drop_succ_cons, List.drop_zero]
    repeat still_step
    refine wpStill_nil ?_
    go_wp2_with (go_at_call 52; refine (rread_any (((P.fst : Int) + (q : Int)) * 320 + a) n _ hpi hi2 (HF.out.kept ((Below.refl _ w).drew))).mono ?_; rintro e w4 ⟨A4, c4, rfl, hc4, r4, hA4, b4⟩)
    go_ret
    exact ⟨A4, c4, rfl, hc4, r4, hA4, ((Below.refl _ w).drew).trans b4⟩
  · rw [if_neg hs]
    have hd : decide (P.in s a n) = false := by simpa using hs
    rw [hd] at HI
    clear hs hd
    go_enter Tryz.func39, Tryz.ntmps39
    go_wp2_with (go_at_call 62; (with_reducible refine HI.out.mono ?_); rintro e w1 ⟨rfl, rfl⟩)
    go_ret
    exact ⟨none, 0, rfl, Nat.le_refl _, row_nil _, fun x hx => (by cases hx), Below.refl _ _⟩
set_option maxRecDepth 100000 in
set_option maxHeartbeats 1000000 in
theorem raprogram_any {T x g m k : Nat} {S : Fs} {P : Pt} (s a : Int) (A : Option Addr) (N z : Nat) (zs : List Int) (w : World) (ha : Rar w x g P) (hf : Rl w T g m k S) (hp : P.Ok S.wear.length) (hi1 : I64 a) (hr : Row w A N zs) (hN : N ≤ 1000000) (hA : Clear g m k A N) (hops : S.ops ≤ 1000000) :
    Calls Tryz.prog 36 #[.pointer (some ⟨x, 0, none⟩), .int .i64 s, .int .i64 a, .slice A N z] w fun e w' => e = .returned (.int .i64 (aProg S P s a zs).1) ∧ RlTo T g m k (aProg S P s a zs).2 w w' := by
  have hi2 : I64 (N : Int) := ⟨by omega, by omega⟩
  have HR := Lib.hid hr
  obtain ⟨c0, c1, c2, c3⟩ := ra_cells ha
  have HI := Lib.hid (rin_any s a (N : Int) w ha hi1 hi2)
  unfold aProg
  rw [hr.1]
  clear hr
  by_cases hs : P.in s a (N : Int)
  · rw [if_pos hs]
    have hd : decide (P.in s a (N : Int)) = true := by simpa using hs
    rw [hd] at HI
    obtain ⟨h0, ha0, hn0, hna⟩ := hs
    obtain ⟨q, rfl, hq⟩ := Pt.has_nat h0
    have h1 := hp.in'
    have h2 := hp.few
    have hpl : P.place (q : Int) a = ((P.fst : Int) + (q : Int)) * 320 + a := rfl
    rw [hpl]
    have hpi : I64 (((P.fst : Int) + (q : Int)) * 320 + a) := ⟨by omega, by omega⟩
    have q1 : IntKind.i64.wrap ((P.fst : Int) + (q : Int)) = (P.fst : Int) + (q : Int) := by rw [IntKind.wrap_i64]; omega
    have q2 : IntKind.i64.wrap (((P.fst : Int) + (q : Int)) * 320) = ((P.fst : Int) + (q : Int)) * 320 := by rw [IntKind.wrap_i64]; omega
    have q3 : IntKind.i64.wrap (((P.fst : Int) + (q : Int)) * 320 + a) = ((P.fst : Int) + (q : Int)) * 320 + a := by rw [IntKind.wrap_i64]; omega
    have HF := Lib.hid hf
    clear h0 ha0 hn0 hna hpl hd ha hf hp
    go_enter Tryz.func36, Tryz.ntmps36
    go_wp2_with (go_at_call 62; (with_reducible refine HI.out.mono ?_); rintro e w1 ⟨rfl, rfl⟩)
    refine wp_region_still_tail 14 (by kernel_rfl) (by kernel_rfl) ?_
    simp only [World.drew_eq]
    simp only [List.take_succ_cons, List.take_zero, List.drop_succ_cons, List.drop_zero]
    repeat still_step
    refine wpStill_nil ?_
    go_wp2_with (go_at_call 63; refine (rprogram_any (((P.fst : Int) + (q : Int)) * 320 + a) A N z zs _ hpi (HF.out.kept ((Below.refl _ w).drew)) (row_below ((Below.refl _ w).drew) HR.out) hN hA hops).mono ?_; rintro e w4 ⟨rfl, f4, o4⟩)
    go_ret
    exact ⟨rfl, f4, (Only.of_below ((Below.refl _ w).drew)).trans o4⟩
  · rw [if_neg hs]
    have hd : decide (P.in s a (N : Int)) = false := by simpa using hs
    rw [hd] at HI
    clear hs hd
    go_enter Tryz.func36, Tryz.ntmps36
    go_wp2_with (go_at_call 62; (with_reducible refine HI.out.mono ?_); rintro e w1 ⟨rfl, rfl⟩)
    go_ret
    exact ⟨rfl, hf, Only.refl _ _⟩
end Go.Proofs.YtklhmneapegfpaaGreatDoor

namespace Go.Proofs.YtklhmneapegfpaaGreatDoor
open Go.RowKit
set_option linter.unusedVariables false
set_option linter.unusedSimpArgs false

set_option maxRecDepth 100000 in
set_option maxHeartbeats 4000000 in
theorem rablank_any {T x g m k : Nat} {S : Fs} {P : Pt} (s : Int) (w : World) (ha : Rar w x g P) (hf : Rl w T g m k S) (hp : P.Ok S.wear.length) :
    Calls Tryz.prog 32 #[.pointer (some ⟨x, 0, none⟩), .int .i64 s] w fun e w' => e = .returned (.bool (aBlank S P s)) ∧ Below w.heap.size w w' := by
  obtain ⟨c0, c1, c2, c3⟩ := ra_cells ha
  unfold aBlank
  by_cases hs : P.has s
  · rw [if_pos hs]
    obtain ⟨q, rfl, hq⟩ := Pt.has_nat hs
    have h1 := hp.in'
    have h2 := hp.few
    have HW := Lib.hid (rblank_any ((P.fst : Int) + (q : Int)) w.drew (hf.kept ((Below.refl _ w).drew)))
    generalize blank S ((P.fst : Int) + (q : Int)) = v at *
    have q1 : IntKind.i64.wrap ((P.fst : Int) + (q : Int)) = (P.fst : Int) + (q : Int) := by rw [IntKind.wrap_i64]; omega
    have i0 : (0 : Int) ≤ (q : Int) := by omega
    have i1 : (q : Int) < (P.cnt : Int) := by omega
    have d1 : decide ((q : Int) < (P.cnt : Int)) = true := by simpa using i1
    clear hs ha hf hp
    go_enter Tryz.func32, Tryz.ntmps32
    go_wp2_with fail
    refine wp_region_still_lit (by kernel_rfl) (by kernel_rfl) ?_
    simp only [World.drew_eq]
    iterate 21 still_step
    still_call (still2 HW.out)
    iterate 2 still_step
    refine wpStill_nil ?_
    go_wp2_with fail
    go_ret
    exact ⟨rfl, (Below.refl _ w).drew⟩
  · rw [if_neg hs]
    have hs' : s < 0 ∨ (0 ≤ s ∧ (P.cnt : Int) ≤ s) := by
      by_cases h : s < 0
      · exact .inl h
      · exact .inr ⟨by omega, by
          by_cases h2 : (P.cnt : Int) ≤ s
          · exact h2
          · exact absurd ⟨by omega, by omega⟩ hs⟩
    rcases hs' with h1 | ⟨h1, h2⟩
    · have d0 : ¬ 0 ≤ s := by omega
      have d1 : decide (0 ≤ s) = false := by simpa using d0
      clear hs
      go_enter Tryz.func32, Tryz.ntmps32
      go_wp2_with fail
      go_region
      go_wp2_with fail
      go_ret
      exact ⟨rfl, (Below.refl _ w).drew⟩
    · have d0 : ¬ s < (P.cnt : Int) := by omega
      have d2 : decide (s < (P.cnt : Int)) = false := by simpa using d0
      clear hs
      go_enter Tryz.func32, Tryz.ntmps32
      go_wp2_with fail
      go_region
      go_wp2_with fail
      go_ret
      exact ⟨rfl, (Below.refl _ w).drew⟩
end Go.Proofs.YtklhmneapegfpaaGreatDoor
