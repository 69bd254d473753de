/-
  The document's NewArea: a new area; conditions: the flash is there.
-/
import Derived.Test.YtclephjnokbaoaaRbl
import Derived.Test.YtclephjnokbaoaaAn
namespace Go.Proofs.Ytclephjnokbaoaa
open Go.RowKit
set_option linter.unusedVariables false
set_option linter.unusedSimpArgs false

/-- The part that the document makes of a flash of L sectors. -/
def Pt.rmade (L : Nat) (f l b : Int) : Pt :=
  if 0 ≤ f ∧ 0 ≤ l ∧ f ≤ (L : Int) then { fst := f.toNat, cnt := (min (max l 0) ((L : Int) - f)).toNat, bud := (min (max b 0) 1000).toNat } else { fst := 0, cnt := 0, bud := (min (max b 0) 1000).toNat }
theorem Pt.rmade_ok {L : Nat} (h : L ≤ 400) (f l b : Int) : (Pt.rmade L f l b).Ok L := by
  unfold Pt.rmade
  split
  · exact ⟨by simp only []; omega, h, by simp only []; omega⟩
  · exact ⟨by simp only []; omega, h, by simp only []; omega⟩
/-- Two parts that are the same, or both of no sectors. -/
def Like (P Q : Pt) : Prop := P.cnt = Q.cnt ∧ (0 < P.cnt → P = Q)
theorem made_like (L : Nat) (f l b : Int) : Like (Pt.made L f l b) (Pt.rmade L f l b) := by
  unfold Pt.made Pt.rmade
  by_cases h : 0 ≤ f ∧ 0 < l ∧ f < (L : Int)
  · rw [if_pos h, if_pos (by omega)]
    have e : (min l ((L : Int) - f)).toNat = (min (max l 0) ((L : Int) - f)).toNat := by omega
    rw [e]
    exact ⟨rfl, fun _ => rfl⟩
  · rw [if_neg h]
    by_cases h2 : 0 ≤ f ∧ 0 ≤ l ∧ f ≤ (L : Int)
    · rw [if_pos h2]
      exact ⟨by simp only []; omega, fun x => by simp at x⟩
    · rw [if_neg h2]
      exact ⟨rfl, fun x => by simp at x⟩
theorem Like.has {P Q : Pt} (h : Like P Q) (s : Int) : P.has s ↔ Q.has s := by unfold Pt.has; rw [h.1]
theorem Like.in {P Q : Pt} (h : Like P Q) (s a n : Int) : P.in s a n ↔ Q.in s a n := by unfold Pt.in; rw [h.has s]
theorem Like.of {P Q : Pt} (h : Like P Q) {s : Int} (hs : P.has s) : P = Q := h.2 (by have := hs.1; have := hs.2; omega)
theorem aLeft_like {P Q : Pt} (h : Like P Q) (S : Fs) (s : Int) : aLeft S P s = aLeft S Q s := by
  by_cases hs : P.has s
  · rw [h.of hs]
  · unfold aLeft; rw [if_neg hs, if_neg (fun x => hs ((h.has s).2 x))]
theorem aErase_like {P Q : Pt} (h : Like P Q) (S : Fs) (s : Int) : aErase S P s = aErase S Q s := by
  by_cases hs : P.has s
  · rw [h.of hs]
  · unfold aErase; rw [if_neg hs, if_neg (fun x => hs ((h.has s).2 x))]
theorem aBlank_like {P Q : Pt} (h : Like P Q) (S : Fs) (s : Int) : aBlank S P s = aBlank S Q s := by
  by_cases hs : P.has s
  · rw [h.of hs]
  · unfold aBlank; rw [if_neg hs, if_neg (fun x => hs ((h.has s).2 x))]
theorem aRead_like {P Q : Pt} (h : Like P Q) (S : Fs) (s a n : Int) : aRead S P s a n = aRead S Q s a n := by
  by_cases hs : P.in s a n
  · rw [h.of hs.1]
  · unfold aRead; rw [if_neg hs, if_neg (fun x => hs ((h.in s a n).2 x))]
theorem aProg_like {P Q : Pt} (h : Like P Q) (S : Fs) (s a : Int) (b : List Int) : aProg S P s a b = aProg S Q s a b := by
  by_cases hs : P.in s a b.length
  · rw [h.of hs.1]
  · unfold aProg; rw [if_neg hs, if_neg (fun x => hs ((h.in s a _).2 x))]
/-- A new block that is an area. -/
def MadeRar (g : Nat) (P : Pt) (w : World) (e : Ending) (w' : World) : Prop := ∃ x, e = .returned (.pointer (some ⟨x, 0, none⟩)) ∧ w.heap.size ≤ x ∧ Rar w' x g P ∧ Below w.heap.size w w'
theorem rmade_no {L : Nat} {f l b : Int} (h : ¬ (0 ≤ f ∧ 0 ≤ l ∧ f ≤ (L : Int))) : Pt.rmade L f l b = { fst := 0, cnt := 0, bud := (min (max b 0) 1000).toNat } := by unfold Pt.rmade; rw [if_neg h]
theorem rmade_yes {L : Nat} {f l b : Int} (h : 0 ≤ f ∧ 0 ≤ l ∧ f ≤ (L : Int)) : Pt.rmade L f l b = { fst := f.toNat, cnt := (min (max l 0) ((L : Int) - f)).toNat, bud := (min (max b 0) 1000).toNat } := by unfold Pt.rmade; rw [if_pos h]
theorem made_rpart {w w2 : World} {g : Nat} {P : Pt} {o : Obj} {cs : Array Value} (hv : cs = raCells g P) (h2 : w2.heap = ((w.alloc o).alloc (.cells cs 67)).heap) (hb : Below w.heap.size w w2) : MadeRar g P w (.returned (.pointer (some ⟨w.heap.size + 1, 0, none⟩))) w2 := by
  refine ⟨_, rfl, by omega, ?_, hb⟩
  have := has_new (w.alloc o) 67 cs
  unfold Rar Has at *
  rw [h2, ← hv]
  simpa using this
set_option maxRecDepth 100000 in
set_option maxHeartbeats 1000000 in
theorem rnewArea_any {T g m k : Nat} {S : Fs} (r f l b : Int) (w : World) (hf : Rl w T g m k S) (hi : I64 f ∧ I64 l ∧ I64 b) :
    Calls Try.prog 9 #[.pointer (some ⟨g, 0, none⟩), .agg (capCells r f l), .int .i64 b] w (MadeRar g (Pt.rmade S.wear.length f l b) w) := by
  have HC := Lib.hid (rcut_any b 0 1000 (w.alloc (.cells (capCells r f l) 31)).drew (by omega))
  have h400 := hf.ok.few
  have HL := Lib.hid (show ∀ W, Below w.heap.size w W → Calls Try.prog 24 #[.pointer (some ⟨g, 0, none⟩)] W (fun e w'' => e = .returned (.int .i64 (S.wear.length : Int)) ∧ w'' = W) from fun W hW => still2 (rlen_any W (hf.kept hW)))
  clear hf
  by_cases h1 : 0 ≤ f
  · have d1 : ¬ f < 0 := by omega
    by_cases h2 : 0 ≤ l
    · have d2 : ¬ l < 0 := by omega
      by_cases h3 : f ≤ (S.wear.length : Int)
      · rw [rmade_yes ⟨h1, h2, h3⟩]
        have d3 : ¬ (S.wear.length : Int) < f := by omega
        have d4 : decide ((S.wear.length : Int) < f) = false := by simpa using d3
        have q1 : IntKind.i64.wrap ((S.wear.length : Int) - f) = (S.wear.length : Int) - f := by rw [IntKind.wrap_i64]; omega
        have HK := Lib.hid (show ∀ W, Calls Try.prog 22 #[.int .i64 l, .int .i64 0, .int .i64 ((S.wear.length : Int) - f)] W (fun e w'' => e = .returned (.int .i64 (min (max l 0) ((S.wear.length : Int) - f))) ∧ w'' = W) from fun W => still2 (rcut_any l 0 ((S.wear.length : Int) - f) W (by omega)))
        generalize S.wear.length = L at *
        unfold capCells at *
        go_enter Try.func9, Try.ntmps9
        go_wp2_with fail
        refine wp_region_still_tail 5 (by kernel_rfl) (by kernel_rfl) ?_
        simp only [World.drew_eq]
        simp only [List.take_succ_cons, List.take_zero, List.drop_succ_cons, List.drop_zero]
        repeat still_step
        still_call (still2 HC.out)
        repeat still_step
        refine wpStill_nil ?_
        go_wp2_with fail
        refine wp_region_still_lit (by kernel_rfl) (by kernel_rfl) ?_
        simp only [World.drew_eq]
        iterate 12 still_step
        still_call (HL.out _ (by go_grown))
        iterate 2 still_step
        refine wpStill_nil ?_
        go_wp2_with fail
        refine wp_region_still_tail 9 (by kernel_rfl) (by kernel_rfl) ?_
        simp only [World.drew_eq]
        simp only [List.take_succ_cons, List.take_zero, List.drop_succ_cons, List.drop_zero]
        iterate 4 still_step
        still_call (HL.out _ (by go_grown))
        iterate 3 still_step
        still_call (HK.out _)
        refine wpStill_nil ?_
        go_wp2_with fail
        go_ret
        exact made_rpart (by simp [raCells]; omega) rfl (by go_grown)
      · rw [rmade_no (fun x => h3 x.2.2)]
        have d3 : (S.wear.length : Int) < f := by omega
        have d4 : decide ((S.wear.length : Int) < f) = true := by simpa using d3
        generalize S.wear.length = L at *
        unfold capCells at *
        go_enter Try.func9, Try.ntmps9
        go_wp2_with fail
        refine wp_region_still_tail 5 (by kernel_rfl) (by kernel_rfl) ?_
        simp only [World.drew_eq]
        simp only [List.take_succ_cons, List.take_zero, List.drop_succ_cons, List.drop_zero]
        repeat still_step
        still_call (still2 HC.out)
        repeat still_step
        refine wpStill_nil ?_
        go_wp2_with fail
        refine wp_region_still_lit (by kernel_rfl) (by kernel_rfl) ?_
        simp only [World.drew_eq]
        iterate 12 still_step
        still_call (HL.out _ (by go_grown))
        iterate 2 still_step
        refine wpStill_nil ?_
        go_wp2_with fail
        go_ret
        exact made_rpart (by simp [raCells]; omega) rfl (by go_grown)
    · rw [rmade_no (fun x => h2 x.2.1)]
      unfold capCells at *
      have h2' : l < 0 := by omega
      have d2 : decide (l < 0) = true := by simpa using h2'
      have d3 : decide (f < 0) = false := by simpa using d1
      go_enter Try.func9, Try.ntmps9
      go_wp2_with fail
      refine wp_region_still_tail 5 (by kernel_rfl) (by kernel_rfl) ?_
      simp only [World.drew_eq]
      simp only [List.take_succ_cons, List.take_zero, List.drop_succ_cons, List.drop_zero]
      repeat still_step
      still_call (still2 HC.out)
      repeat still_step
      refine wpStill_nil ?_
      go_wp2_with fail
      go_region
      go_wp2_with fail
      go_ret
      exact made_rpart (by simp [raCells]; omega) rfl (by go_grown)
  · rw [rmade_no (fun x => h1 x.1)]
    unfold capCells at *
    have h1' : f < 0 := by omega
    have d1 : decide (f < 0) = true := by simpa using h1'
    go_enter Try.func9, Try.ntmps9
    go_wp2_with fail
    refine wp_region_still_tail 5 (by kernel_rfl) (by kernel_rfl) ?_
    simp only [World.drew_eq]
    simp only [List.take_succ_cons, List.take_zero, List.drop_succ_cons, List.drop_zero]
    repeat still_step
    still_call (still2 HC.out)
    repeat still_step
    refine wpStill_nil ?_
    go_wp2_with fail
    go_region
    go_wp2_with fail
    go_ret
    exact made_rpart (by simp [raCells]; omega) rfl (by go_grown)
end Go.Proofs.Ytclephjnokbaoaa
