/-
  area.New: a new area; conditions: the flash is there.
-/
import Derived.Test.YtklhmneapegfpaaAs
namespace Go.Proofs.Ytklhmneapegfpaa
open Go.RowKit
set_option linter.unusedVariables false
set_option linter.unusedSimpArgs false

def capCells (r f l : Int) : Array Value := #[.int .i64 r, .int .i64 f, .int .i64 l]
theorem still_of {P : Program} {f : FuncId} {args : Array Value} {w : World} {v : Value} (h : Calls P f args w fun e w' => e = .returned v ∧ w = w') : Calls P f args w (fun e w'' => e = .returned v ∧ w'' = w) :=
  h.mono fun _ _ h => ⟨h.1, h.2.symm⟩
/-- A new block that is an area. -/
def MadeAr (g : Nat) (P : Pt) (w : World) (e : Ending) (w' : World) : Prop := ∃ x, e = .returned (.pointer (some ⟨x, 0, none⟩)) ∧ w.heap.size ≤ x ∧ Ar w' x g P ∧ Below w.heap.size w w'
theorem made_no {L : Nat} {f l b : Int} (h : ¬ (0 ≤ f ∧ 0 < l ∧ f < (L : Int))) : Pt.made L f l b = { fst := 0, cnt := 0, bud := 0 } := by unfold Pt.made; rw [if_neg h]
theorem made_part {w w2 : World} {g : Nat} {P : Pt} {o : Obj} {v : Value} (hv : v = partV g P) (h2 : w2.heap = ((w.alloc o).alloc (.cells #[v] 48)).heap) (hb : Below w.heap.size w w2) : MadeAr g P w (.returned (.pointer (some ⟨w.heap.size + 1, 0, none⟩))) w2 := by
  refine ⟨_, rfl, by omega, ?_, hb⟩
  have := has_new (w.alloc o) 48 #[v]
  unfold Ar Has at *
  rw [h2, ← hv]
  simpa using this
theorem nobody_is {g : Nat} : Value.iface 44 (.agg #[]) = partV g { fst := 0, cnt := 0, bud := 0 } := rfl
theorem somebody_is {g : Nat} {L : Nat} {f l b : Int} (h : 0 ≤ f ∧ 0 < l ∧ f < (L : Int)) {n q : Int} (hn : n = min l ((L : Int) - f)) (hq : q = min (max b 0) 1000) : Value.iface 50 (.agg (fsCells (.pointer (some ⟨g, 0, none⟩)) f n q)) = partV g (Pt.made L f l b) := by
  subst hn hq
  have e : Pt.made L f l b = { fst := f.toNat, cnt := (min l ((L : Int) - f)).toNat, bud := (min (max b 0) 1000).toNat } := by unfold Pt.made; rw [if_pos h]
  rw [e, partV_yes (by simp only []; omega)]
  simp only []
  rw [Int.toNat_of_nonneg (by omega), Int.toNat_of_nonneg (by omega), Int.toNat_of_nonneg (by omega)]
set_option maxRecDepth 100000 in
set_option maxHeartbeats 1000000 in
theorem newArea_any {T g m k : Nat} {S : Fs} (r f l b : Int) (w : World) (hf : Fl w T g m k S) (hi : I64 f ∧ I64 l ∧ I64 b) :
    Calls Try.prog 7 #[.pointer (some ⟨g, 0, none⟩), .agg (capCells r f l), .int .i64 b] w (MadeAr g (Pt.made S.wear.length f l b) w) := by
  have hb : Below w.heap.size w (w.alloc (.cells (capCells r f l) 30)) := (Below.refl _ _).alloc (Nat.le_refl _) _
  have hf1 := hf.kept hb
  have hL := Lib.hid (still_of (len_any _ (hf1.kept ((Below.refl _ _).drew))))
  have hL2 := Lib.hid (still_of (len_any _ (hf1.kept (((Below.refl _ _).drew).drew))))
  have h400 := hf.ok.few
  clear hf hf1
  by_cases h1 : 0 ≤ f
  · by_cases h2 : 0 < l
    · by_cases h3 : f < (S.wear.length : Int)
      · have HX := Lib.hid (show 0 ≤ f ∧ 0 < l ∧ f < (S.wear.length : Int) from ⟨h1, h2, h3⟩)
        unfold capCells at *
        have h2' : ¬ l ≤ 0 := by omega
        have h1' : ¬ f < 0 := by omega
        have h3' : ¬ (S.wear.length : Int) ≤ f := by omega
        have d3 : decide ((S.wear.length : Int) ≤ f) = false := by simpa using h3'
        have q1 : IntKind.i64.wrap ((S.wear.length : Int) - f) = (S.wear.length : Int) - f := by rw [IntKind.wrap_i64]; omega
        generalize S.wear.length = L at *
        go_enter Try.func7, Try.ntmps7
        go_wp2_with fail
        refine wp_region_still_lit (by kernel_rfl) (by kernel_rfl) ?_
        simp only [World.drew_eq]
        repeat still_step
        still_call hL.out
        repeat still_step
        refine wpStill_nil ?_
        go_wp2_with fail
        refine wp_region_still_lit (by kernel_rfl) (by kernel_rfl) ?_
        simp only [World.drew_eq]
        repeat still_step
        still_call hL2.out
        repeat still_step
        refine wpStill_nil ?_
        go_wp2_with fail
        all_goals (go_ret; exact made_part (somebody_is HX.out (by omega) (by omega)) rfl ((((Below.refl _ w).alloc (Nat.le_refl _) _).alloc (by simp) _).drew).drew)
      · rw [made_no (fun x => h3 x.2.2)]
        unfold capCells at *
        have h2' : ¬ l ≤ 0 := by omega
        have h1' : ¬ f < 0 := by omega
        have h3' : (S.wear.length : Int) ≤ f := by omega
        have d3 : decide ((S.wear.length : Int) ≤ f) = true := by simpa using h3'
        generalize S.wear.length = L at *
        go_enter Try.func7, Try.ntmps7
        go_wp2_with fail
        refine wp_region_still_lit (by kernel_rfl) (by kernel_rfl) ?_
        simp only [World.drew_eq]
        repeat still_step
        still_call hL.out
        repeat still_step
        refine wpStill_nil ?_
        go_wp2
        go_ret
        exact made_part nobody_is rfl (((Below.refl _ w).alloc (Nat.le_refl _) _).alloc (by simp) _).drew
    · rw [made_no (fun x => h2 x.2.1)]
      unfold capCells at *
      have h2' : l ≤ 0 := by omega
      have h1' : ¬ f < 0 := by omega
      go_enter Try.func7, Try.ntmps7
      go_wp2_with fail
      refine wp_region_still_lit (by kernel_rfl) (by kernel_rfl) ?_
      simp only [World.drew_eq]
      repeat still_step
      refine wpStill_nil ?_
      go_wp2
      go_ret
      exact made_part nobody_is rfl (((Below.refl _ w).alloc (Nat.le_refl _) _).alloc (by simp) _).drew
  · rw [made_no (fun x => h1 x.1)]
    unfold capCells at *
    have h1' : f < 0 := by omega
    go_enter Try.func7, Try.ntmps7
    go_wp2_with fail
    refine wp_region_still_lit (by kernel_rfl) (by kernel_rfl) ?_
    simp only [World.drew_eq]
    repeat still_step
    refine wpStill_nil ?_
    go_wp2
    go_ret
    exact made_part nobody_is rfl (((Below.refl _ w).alloc (Nat.le_refl _) _).alloc (by simp) _).drew
end Go.Proofs.Ytklhmneapegfpaa
