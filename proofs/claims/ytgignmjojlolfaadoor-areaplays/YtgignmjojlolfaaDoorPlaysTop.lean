/-
  What is proved: for all numbers, parts and rows of calls the law AreaPlays answers true: what any row of calls to two areas of one flash answers, and every byte and erase, is as the document says (up to 6 sectors, 60 calls, rows of 700 bytes and masks of 50; others the law lets by). Conditions: the two tables of package sha hold what their initialisers lay (the card ties that to the program text).
-/
import Derived.Test.YtgignmjojlolfaaDoorPlay
import Derived.Test.YtgignmjojlolfaaDoorCards
import Derived.SevenTiedAt
namespace Go.Proofs.YtgignmjojlolfaaDoor.areaPlays
open Go.ChangeShapes Go.WideShapes Go.ChangeAt Go.RowKit
open Go.Proofs.YtgignmjojlolfaaDoor.Sha (laid2 own door_met tabs_of_laid laidOut)
set_option linter.unusedVariables false
set_option maxRecDepth 100000 in
theorem cap_of {H : Type} {enc : TypeId × Value → H} {w : World} {fuel : Nat} {cs : Array Value} {x : DataW H × List MemPlace} (hs : cs.size = Tryd.prog.cellsOf 23) (h : DataW.trod enc Tryd.prog w 0 (fun _ => true) true fuel 23 (Value.agg cs).cells.toList = some x) : ∃ r f l, cs = capCells r f l ∧ (I64 f ∧ I64 l) := by
  have h5 : Tryd.prog.cellsOf 23 = 3 := by kernel_rfl
  have e3 : Tryd.prog.cellsOf 3 = 1 := by kernel_rfl
  rw [h5] at hs
  obtain ⟨xs, n', _, _, _, hxl, hf⟩ := DataW.trod_struct Tryd.underlying23 h
  obtain ⟨l⟩ := cs
  match l, hs, xs, hxl with
  | [v0, v1, v2], _, [y0, y1, y2], _ =>
    have f0 : DataW.trod enc Tryd.prog w 0 (fun _ => true) true n' 3 (List.take (Tryd.prog.cellsOf 3) [v0, v1, v2]) = some y0 := hf 0 _ rfl
    have f1 : DataW.trod enc Tryd.prog w 0 (fun _ => true) true n' 3 (List.take (Tryd.prog.cellsOf 3) [v1, v2]) = some y1 := hf 1 _ rfl
    have f2 : DataW.trod enc Tryd.prog w 0 (fun _ => true) true n' 3 (List.take (Tryd.prog.cellsOf 3) [v2]) = some y2 := hf 2 _ rfl
    rw [e3] at f0 f1 f2
    obtain ⟨k0, rfl, _⟩ := num_of (y := y0) f0
    obtain ⟨k1, rfl, i1⟩ := num_of (y := y1) f1
    obtain ⟨k2, rfl, i2⟩ := num_of (y := y2) f2
    exact ⟨k0, k1, k2, rfl, i1, i2⟩
set_option maxRecDepth 100000 in
set_option maxHeartbeats 1000000 in
theorem walk (a0 : Int) (r1 f1 l1 r2 f2 l2 a3 : Int) (a4 : Option Addr) (len4 cap4 : Nat) (w : World) (w0 : (Lit.int .i64 a0).wf = true) (w1 : I64 f1 ∧ I64 l1) (w2 : I64 f2 ∧ I64 l2) (w3 : (Lit.int .i64 a3).wf = true) (w4 : Acts w a4 len4) (ht : Sha.Tabs w) :
    Calls Tryd.prog 3 #[.int .i64 a0, .agg (capCells r1 f1 l1), .agg (capCells r2 f2 l2), .int .i64 a3, .slice a4 len4 cap4] w fun e w' => e = .returned (.bool true) ∧ Below w.heap.size w w' := by
  have hbw : Below w.heap.size w ((w.alloc (.cells (capCells r1 f1 l1) 23)).alloc (.cells (capCells r2 f2 l2) 23)) := ((Below.refl _ w).alloc (Nat.le_refl _) _).alloc (by simp) _
  have HBW := Lib.hid hbw
  have hb3 := bounds_i64 w3
  clear hbw
  by_cases h0 : a0 < 0
  · have d0 : decide (a0 < 0) = true := by simpa using h0
    unfold capCells at *
    go_enter Tryd.func3, Tryd.ntmps3
    go_wp2_with (go_at_call 5; refine (alive_any _).mono ?_; rintro e w1 ⟨rfl, H1⟩)
    go_ret
    exact ⟨rfl, HBW.out.trans (H1.mono HBW.out.size)⟩
  have d0 : decide (a0 < 0) = false := by simpa using h0
  by_cases h1 : 6 < a0
  · have d1 : decide (6 < a0) = true := by simpa using h1
    unfold capCells at *
    go_enter Tryd.func3, Tryd.ntmps3
    go_wp2_with (go_at_call 5; refine (alive_any _).mono ?_; rintro e w1 ⟨rfl, H1⟩)
    go_ret
    exact ⟨rfl, HBW.out.trans (H1.mono HBW.out.size)⟩
  have d1 : decide (6 < a0) = false := by simpa using h1
  by_cases h2 : 60 < len4
  · have d2 : decide (60 < len4) = true := by simpa using h2
    have d3 : (60 : Int) < (len4 : Int) := by omega
    unfold capCells at *
    go_enter Tryd.func3, Tryd.ntmps3
    go_wp2_with (go_at_call 5; refine (alive_any _).mono ?_; rintro e w1 ⟨rfl, H1⟩)
    go_ret
    exact ⟨rfl, HBW.out.trans (H1.mono HBW.out.size)⟩
  obtain ⟨n, rfl⟩ := Int.eq_ofNat_of_zero_le (show 0 ≤ a0 by omega)
  exact plays_within n r1 f1 l1 r2 f2 l2 a3 a4 len4 cap4 w w4 (by omega) (by omega) ⟨w1.1, w1.2, w2.1, w2.2, by omega, by omega⟩ ht

set_option maxRecDepth 100000 in
theorem lifted (os : Os) (started : os.Started) (H : Type) (enc : TypeId × Value → H) :
    ReturnsInHanded {} Tryd.checked os 3 .any (fun w args => (Rows.areaPlaysSpec.pre enc Tryd.prog Tryd.f3 [] false w args ∧ laidMetH Tryd.prog laid2 w) ∧ sizedMet enc Tryd.prog Tryd.f3 (OpenSpec.ofChange Rows.areaPlaysSpec) false w args)
      (Rows.areaPlaysSpec.post enc Tryd.prog Tryd.f3 false true false false) := by
  refine returnsInHanded_of_change_and (C := Tryd.checked) (X := fun w _ => laidMetH Tryd.prog laid2 w) (fun _ _ _ hh h => h.of_heap hh) own started (by kernel_rfl) Tryd.func3
    (ChangeSpec.witness_shaped (enc := enc) (C := Tryd.checked) (os := os) (X := fun w _ => laidMetH Tryd.prog laid2 w) false (World.doorLaid Tryd.prog 400 os) #[.int .i64 0, .agg #[.int .i64 0, .int .i64 0, .int .i64 0], .agg #[.int .i64 0, .int .i64 0, .int .i64 0], .int .i64 0, .slice none 0 0] 8 rfl (World.shaped_of_RefB (by kernel_rfl) (by kernel_rfl)) (by kernel_rfl) (by kernel_rfl) (by kernel_rfl) (door_met os _)) ?_
  intro W base args ds gs before hval0 hW _ _ hL _
  have hval : ∀ (j : Nat) t v, Tryd.f3.params[j]? = some t → args[j]? = some v → Value.okWide Tryd.prog W .any base t v := hval0
  have hW' := hW
  obtain ⟨p, q, hA0, hV, rfl, hfz, hnd⟩ := hW
  have hA : DataW.TrodAll enc Tryd.prog W 0 (fun _ => true) true Tryd.f3.params.toList args.toList ds p := hA0
  rw [Tryd.params3] at hA hval
  obtain ⟨v0, vs0, d0, ds0, p0, q0, hargs, rfl, rfl, h0, r0⟩ := trodAll_cons hA
  obtain ⟨v1, vs1, d1, ds1, p1, q1, rfl, rfl, rfl, h1, r1⟩ := trodAll_cons r0
  obtain ⟨v2, vs2, d2, ds2, p2, q2, rfl, rfl, rfl, h2, r2⟩ := trodAll_cons r1
  obtain ⟨v3, vs3, d3, ds3, p3, q3, rfl, rfl, rfl, h3, r3⟩ := trodAll_cons r2
  obtain ⟨v4, vs4, d4, ds4, p4, q4, rfl, rfl, rfl, h4, r4⟩ := trodAll_cons r3
  obtain ⟨rfl, rfl, rfl⟩ := trodAll_nil r4
  obtain rfl : args = #[v0, v1, v2, v3, v4] := by cases args; simp_all
  obtain ⟨rfl, rfl⟩ := trodVars_none hV
  obtain ⟨a0, rfl, rfl, rfl, w0⟩ := open_int Tryd.underlying3 (hval 0 3 v0 rfl rfl) h0
  obtain ⟨cs1, rfl, hcz1⟩ := okWide_struct Tryd.underlying23 (hval 1 23 v1 rfl rfl)
  have k1 := h1
  have lt1 : ∀ x ∈ p1, x.block < W.heap.size := by obtain ⟨m, hm⟩ := k1; exact DataW.trod_lt m _ _ _ hm
  obtain ⟨cr1, cf1, cl1, rfl, w1⟩ : ∃ r f l, cs1 = capCells r f l ∧ (I64 f ∧ I64 l) := by
    obtain ⟨fuel, hf⟩ := h1
    exact cap_of hcz1 hf
  obtain ⟨cs2, rfl, hcz2⟩ := okWide_struct Tryd.underlying23 (hval 2 23 v2 rfl rfl)
  have k2 := h2
  have lt2 : ∀ x ∈ p2, x.block < W.heap.size := by obtain ⟨m, hm⟩ := k2; exact DataW.trod_lt m _ _ _ hm
  obtain ⟨cr2, cf2, cl2, rfl, w2⟩ : ∃ r f l, cs2 = capCells r f l ∧ (I64 f ∧ I64 l) := by
    obtain ⟨fuel, hf⟩ := h2
    exact cap_of hcz2 hf
  obtain ⟨a3, rfl, rfl, rfl, w3⟩ := open_int Tryd.underlying3 (hval 3 3 v3 rfl rfl) h3
  obtain ⟨a4, len4, cap4, rfl⟩ := okWide_slice Tryd.underlying24 (hval 4 24 v4 rfl rfl)
  have k4 := h4
  have lt4 : ∀ x ∈ p4, x.block < W.heap.size := by obtain ⟨m, hm⟩ := k4; exact DataW.trod_lt m _ _ _ hm
  have w4 : Acts W a4 len4 := by
    obtain ⟨fuel, hf⟩ := h4
    exact acts_of hf
  clear hA0 hval0
  refine (walk a0 cr1 cf1 cl1 cr2 cf2 cl2 a3 a4 len4 cap4 W w0 w1 w2 w3 w4 (tabs_of_laid hL)).mono fun e W' ⟨he, bel⟩ => ?_
  subst he
  exact ⟨_, rfl, _, _, _, [], _, [], hW', trodAll_mk1 (shut_bool Tryd.underlying4 _), (trodAll_cons_mk (shut_int Tryd.underlying3 w0) (trodAll_cons_mk (Below.trod laidOut (by kernel_rfl) (of_decide_eq_true (by kernel_rfl)) k1 bel lt1) (trodAll_cons_mk (Below.trod laidOut (by kernel_rfl) (of_decide_eq_true (by kernel_rfl)) k2 bel lt2) (trodAll_cons_mk (shut_int Tryd.underlying3 w3) (trodAll_cons_mk (Below.trod laidOut (by kernel_rfl) (of_decide_eq_true (by kernel_rfl)) k4 bel lt4) trodAll_mk0))))), rfl, bel.frame _, fun h => by cases h⟩

theorem over : Rows.AreaPlaysSaid :=
  OpenClaim.holds_of_wide 3 Tryd.f3 rfl rfl rfl rfl rfl rfl rfl ⟨rfl, rfl, rfl, rfl, rfl⟩ rfl rfl rfl rfl rfl (by kernel_rfl) Tryd.func3 (by kernel_rfl)
    (of_decide_eq_true (by kernel_rfl)) (by unfold Func.isWrapper; first | (rw [if_pos (by decide +kernel)]; kernel_rfl) | (rw [if_neg (by decide +kernel)]; exact ⟨rfl, rfl⟩))
    (fun os started H enc _ => lifted os started H enc)

theorem card : Rows.AreaPlaysCardSaid :=
  Claim7.holds_tied_plain_at .later [] [.data, .data] true (true, "d4b5a964a79521097094c2623301de436a598f9bd3b852b7a7c8e8d13cb2a7d8") true
    over (fun _ h => by cases h) (by kernel_rfl) (fun _ h => by cases h) areaPlays_row_tie rfl ⟨rfl, rfl⟩ (by kernel_rfl) rfl
    (fun f fn hf hfn => by
      obtain rfl : f = 3 := Option.some.inj ((show Tryd.prog.funcNamed Rows.areaPlaysRow.func = some 3 by kernel_rfl).symm.trans hf) |>.symm
      obtain rfl : fn = Tryd.f3 := (Option.some.inj (Tryd.func3.symm.trans hfn)).symm
      exact ⟨by kernel_rfl, fun j t ht => by
        rw [Tryd.params3] at ht
        have hm : t ∈ [3, 23, 23, 3, 24] := by simpa using Array.mem_of_getElem? ht
        have hall : ([3, 23, 23, 3, 24].all fun u => !Tryd.prog.wantsStandIn u) = true := by kernel_rfl
        exact (show Tryd.prog.wantsStandIn t = false by simpa using List.all_eq_true.1 hall t hm)⟩)
    (by kernel_rfl)
end Go.Proofs.YtgignmjojlolfaaDoor.areaPlays
namespace Go.Proofs.YtgignmjojlolfaaDoor
theorem AreaPlays_holds : Rows.AreaPlaysCardSaid := areaPlays.card
#print axioms AreaPlays_holds
end Go.Proofs.YtgignmjojlolfaaDoor
