/-
  More small calls of package area: whose, within, left, Len, New; conditions: as each states.
-/
import Derived.Test.YtklhmneapegfpaaAr
import Derived.BigQuiet
import Derived.StillTailTactics
import Derived.Deep.RegionWith
namespace Go.Proofs.Ytklhmneapegfpaa
open Go.RowKit
set_option linter.unusedVariables false
set_option linter.unusedSimpArgs false

theorem within_any (F : Value) (f c b s a n : Int) (w : World) (ha : I64 a) : Calls Try.prog 30 #[.agg (fsCells F f c b), .int .i64 s, .int .i64 a, .int .i64 n] w fun e w' => e = .returned (.bool (decide ((0 ≤ s ∧ s < c) ∧ 0 ≤ a ∧ 0 ≤ n ∧ n ≤ 320 - a))) ∧ Below w.heap.size w w' := by
  have hb : Below w.heap.size w (w.alloc (.cells (fsCells F f c b) 50)) := (Below.refl _ _).alloc (Nat.le_refl _) _
  have hx := has_new w 50 (fsCells F f c b)
  have hh := Lib.hid (ahas_any F f c b s (w.alloc (.cells (fsCells F f c b) 50)))
  by_cases hs : 0 ≤ s ∧ s < c
  · have hd : decide (0 ≤ s ∧ s < c) = true := by simpa using hs
    by_cases h1 : 0 ≤ a
    · have q : IntKind.i64.wrap (320 - a) = 320 - a := by rw [IntKind.wrap_i64]; have := ha.2; omega
      by_cases h2 : 0 ≤ n
      · by_cases h3 : n ≤ 320 - a
        · have hE : decide ((0 ≤ s ∧ s < c) ∧ 0 ≤ a ∧ 0 ≤ n ∧ n ≤ 320 - a) = true := by simpa using ⟨hs, h1, h2, h3⟩
          rw [hE]
          clear hs ha
          go_enter Try.func30, Try.ntmps30
          go_wp2_with (first
            | (refine wpList_load_row rfl 50 _ rfl w.heap.size rfl 50 _ (0, 0) _ hx Try.underlying50 rfl (size53 _ _ _ _) ?_)
            | (go_at_call 35; refine hh.out.mono ?_; rintro e w1 ⟨rfl, H1⟩; rw [hd]))
          go_ret
          exact ⟨rfl, hb.trans (H1.mono (by simp))⟩
        · have hE : decide ((0 ≤ s ∧ s < c) ∧ 0 ≤ a ∧ 0 ≤ n ∧ n ≤ 320 - a) = false := by simp only [decide_eq_false_iff_not]; omega
          rw [hE]
          clear hs ha
          have d3 : decide (n ≤ 320 - a) = false := by simpa using h3
          go_enter Try.func30, Try.ntmps30
          go_wp2_with (first
            | (refine wpList_load_row rfl 50 _ rfl w.heap.size rfl 50 _ (0, 0) _ hx Try.underlying50 rfl (size53 _ _ _ _) ?_)
            | (go_at_call 35; refine hh.out.mono ?_; rintro e w1 ⟨rfl, H1⟩; rw [hd]))
          go_ret
          exact ⟨rfl, hb.trans (H1.mono (by simp))⟩
      · have hE : decide ((0 ≤ s ∧ s < c) ∧ 0 ≤ a ∧ 0 ≤ n ∧ n ≤ 320 - a) = false := by simp only [decide_eq_false_iff_not]; omega
        rw [hE]
        clear hs ha
        go_enter Try.func30, Try.ntmps30
        go_wp2_with (first
          | (refine wpList_load_row rfl 50 _ rfl w.heap.size rfl 50 _ (0, 0) _ hx Try.underlying50 rfl (size53 _ _ _ _) ?_)
          | (go_at_call 35; refine hh.out.mono ?_; rintro e w1 ⟨rfl, H1⟩; rw [hd]))
        go_ret
        exact ⟨rfl, hb.trans (H1.mono (by simp))⟩
    · have hE : decide ((0 ≤ s ∧ s < c) ∧ 0 ≤ a ∧ 0 ≤ n ∧ n ≤ 320 - a) = false := by simp only [decide_eq_false_iff_not]; omega
      rw [hE]
      clear hs ha
      go_enter Try.func30, Try.ntmps30
      go_wp2_with (first
        | (refine wpList_load_row rfl 50 _ rfl w.heap.size rfl 50 _ (0, 0) _ hx Try.underlying50 rfl (size53 _ _ _ _) ?_)
        | (go_at_call 35; refine hh.out.mono ?_; rintro e w1 ⟨rfl, H1⟩; rw [hd]))
      go_ret
      exact ⟨rfl, hb.trans (H1.mono (by simp))⟩
  · have hd : decide (0 ≤ s ∧ s < c) = false := by simpa using hs
    have hE : decide ((0 ≤ s ∧ s < c) ∧ 0 ≤ a ∧ 0 ≤ n ∧ n ≤ 320 - a) = false := by simp only [decide_eq_false_iff_not]; omega
    rw [hE]
    clear hs ha
    go_enter Try.func30, Try.ntmps30
    go_wp2_with (first
      | (refine wpList_load_row rfl 50 _ rfl w.heap.size rfl 50 _ (0, 0) _ hx Try.underlying50 rfl (size53 _ _ _ _) ?_)
      | (go_at_call 35; refine hh.out.mono ?_; rintro e w1 ⟨rfl, H1⟩; rw [hd]))
    go_ret
    exact ⟨rfl, hb.trans (H1.mono (by simp))⟩
theorem assert_yes (v : Value) (w : World) : (Instr.typeAssert (.iface 50 v) 46 50 true).run Try.prog w = .ok (.tuple #[v, .bool true]) w := by
  simp [Instr.typeAssert, run_underlying Try.underlying50]
theorem zero53 (w : World) : (zeroValue 50).run Try.prog w = .ok (.agg (fsCells (.pointer none) 0 0 0)) w := by
  have h : (Try.prog.info? 50).map (·.zero) = some (some (.agg (fsCells (.pointer none) 0 0 0))) := by kernel_rfl
  obtain ⟨i, hi, hz⟩ := Option.map_eq_some_iff.1 h
  simp [zeroValue, typeInfo, hi, hz]
theorem assert_no (v : Value) (w : World) : (Instr.typeAssert (.iface 44 v) 46 50 true).run Try.prog w = .ok (.tuple #[.agg (fsCells (.pointer none) 0 0 0), .bool false]) w := by
  simp [Instr.typeAssert, run_underlying Try.underlying50, zero53, fsCells]
theorem fs_all (F : Value) (f c b : Int) (h : F.oneCell' = true) : ∀ v ∈ (fsCells F f c b).toList, v.oneCell' = true := by
  intro v hv
  simp [fsCells] at hv
  rcases hv with rfl | rfl | rfl | rfl
  · exact h
  · rfl
  · rfl
  · rfl
theorem whose_any (g : Nat) (P : Pt) (w : World) : Calls Try.prog 28 #[partV g P] w fun e w' => e = .returned (.agg (whoV g P)) ∧ Below w.heap.size w w' := by
  have a1 := assert_yes
  have a2 := assert_no
  by_cases hc : 0 < P.cnt
  · rw [partV_yes hc, whoV_yes hc]
    unfold fsCells at *
    go_enter Try.func28, Try.ntmps28
    go_wp2
    go_returns
    exact ⟨rfl, ((Below.refl _ w).alloc (Nat.le_refl _) _).alloc (by simp) _⟩
  · rw [partV_no hc, whoV_no hc]
    unfold fsCells at *
    go_enter Try.func28, Try.ntmps28
    go_wp2
    go_returns
    exact ⟨rfl, ((Below.refl _ w).alloc (Nat.le_refl _) _).alloc (by simp) _⟩
set_option maxRecDepth 100000 in
/-- What is left of a sector that there is. -/
theorem aleft_any {T g m k : Nat} {S : Fs} {P : Pt} (s : Nat) (w : World) (hf : Fl w T g m k S) (hfew : Few S) (hops : S.ops ≤ 1000000) (hp : P.Ok S.wear.length) (hs : s < P.cnt) :
    Calls Try.prog 37 #[.agg (fsCells (.pointer (some ⟨g, 0, none⟩)) P.fst P.cnt P.bud), .int .i64 (s : Int)] w fun e w' => e = .returned (.int .i64 (max ((P.bud : Int) - wearAt S ((P.fst : Int) + (s : Int))) 0)) ∧ Below w.heap.size w w' := by
  have hb : Below w.heap.size w (w.alloc (.cells (fsCells (.pointer (some ⟨g, 0, none⟩)) P.fst P.cnt P.bud) 50)) := (Below.refl _ _).alloc (Nat.le_refl _) _
  have hf1 := hf.kept hb
  have hw := Lib.hid (wear_any ((P.fst : Int) + (s : Int)) _ (hf1.kept ((Below.refl _ _).drew)))
  have hx := wear_few hfew ((P.fst : Int) + (s : Int))
  have := hp.in'
  have := hp.few
  have hbu := hp.bud
  generalize wearAt S ((P.fst : Int) + (s : Int)) = q at *
  have q1 : IntKind.i64.wrap ((P.fst : Int) + (s : Int)) = (P.fst : Int) + (s : Int) := by rw [IntKind.wrap_i64]; omega
  have q2 : IntKind.i64.wrap ((P.bud : Int) - q) = (P.bud : Int) - q := by rw [IntKind.wrap_i64]; omega
  clear hf hf1 hp
  unfold fsCells at *
  go_enter Try.func37, Try.ntmps37
  go_wp2_with fail
  refine wp_region_still_lit (by kernel_rfl) (by kernel_rfl) ?_
  simp only [World.drew_eq]
  repeat still_step
  still_call (hw.out.mono fun e w1 h => ⟨h.1, h.2.symm⟩)
  repeat still_step
  refine wpStill_nil ?_
  go_wp2
  all_goals (go_ret; exact ⟨ret_int (by omega), hb.drew⟩)
end Go.Proofs.Ytklhmneapegfpaa
