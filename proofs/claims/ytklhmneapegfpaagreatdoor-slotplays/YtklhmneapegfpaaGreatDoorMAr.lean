/-
  Several texts in one: Ar, As, An, Rna, Alive, Facts, Dig, Am, Ap, Rown, Abl; each says its own conditions.
-/
import Derived.Test.YtklhmneapegfpaaGreatDoorApl
import Derived.Test.YtklhmneapegfpaaGreatDoorOps
import Derived.Handy
import Derived.BigQuiet
import Derived.StillTailTactics
import Derived.Deep.RegionWith
import Derived.Test.YtklhmneapegfpaaGreatDoorRbl
import Derived.Test.YtklhmneapegfpaaGreatDoorRers
import Derived.Test.YtklhmneapegfpaaGreatDoorShaLaid
import Derived.Deep.RegionHeld
namespace Go.Proofs.YtklhmneapegfpaaGreatDoor
open Go.RowKit
set_option linter.unusedVariables false
set_option linter.unusedSimpArgs false

/-- The struct that tells a flash's sectors. -/
def fsCells (F : Value) (f c b : Int) : Array Value := #[F, .int .i64 f, .int .i64 c, .int .i64 b]
def partV (g : Nat) (P : Pt) : Value := if 0 < P.cnt then .iface 68 (.agg (fsCells (.pointer (some ⟨g, 0, none⟩)) P.fst P.cnt P.bud)) else .iface 62 (.agg #[])
def whoV (g : Nat) (P : Pt) : Array Value := if 0 < P.cnt then fsCells (.pointer (some ⟨g, 0, none⟩)) P.fst P.cnt P.bud else fsCells (.pointer none) 0 0 0
theorem partV_yes {g : Nat} {P : Pt} (h : 0 < P.cnt) : partV g P = .iface 68 (.agg (fsCells (.pointer (some ⟨g, 0, none⟩)) P.fst P.cnt P.bud)) := if_pos h
theorem partV_no {g : Nat} {P : Pt} (h : ¬ 0 < P.cnt) : partV g P = .iface 62 (.agg #[]) := if_neg h
theorem whoV_yes {g : Nat} {P : Pt} (h : 0 < P.cnt) : whoV g P = fsCells (.pointer (some ⟨g, 0, none⟩)) P.fst P.cnt P.bud := if_pos h
theorem whoV_no {g : Nat} {P : Pt} (h : ¬ 0 < P.cnt) : whoV g P = fsCells (.pointer none) 0 0 0 := if_neg h
/-- The area at block x. -/
def Ar (w : World) (x g : Nat) (P : Pt) : Prop := Has w x 66 #[partV g P]
theorem size53 (F : Value) (f c b : Int) : (Tryz.prog.info? 68).map (·.size) = some (fsCells F f c b).size := by
  show _ = some 4
  kernel_rfl
theorem handed_any {x g : Nat} {P : Pt} (w : World) (h : Ar w x g P) : Calls Tryz.prog 47 #[.pointer (some ⟨x, 0, none⟩)] w fun e w' => e = .returned (partV g P) ∧ w = w' := by
  have c0 : w.cell? ⟨x, 0, none⟩ = some (partV g P) := h.at 0
  unfold partV at *
  by_cases hc : 0 < P.cnt
  · rw [if_pos hc] at c0 ⊢
    unfold fsCells at *
    go_enter Tryz.func47, Tryz.ntmps47
    go_wp2
    go_ret
    exact ⟨rfl, rfl⟩
  · rw [if_neg hc] at c0 ⊢
    go_enter Tryz.func47, Tryz.ntmps47
    go_wp2
    go_ret
    exact ⟨rfl, rfl⟩
theorem handed_nil (w : World) : Calls Tryz.prog 47 #[.pointer none] w fun e w' => e = .returned (.iface 62 (.agg #[])) ∧ w = w' := by
  go_enter Tryz.func47, Tryz.ntmps47
  go_wp2
  go_ret
  exact ⟨rfl, rfl⟩
theorem ahas_any (F : Value) (f c b s : Int) (w : World) : Calls Tryz.prog 75 #[.agg (fsCells F f c b), .int .i64 s] w fun e w' => e = .returned (.bool (decide (0 ≤ s ∧ s < c))) ∧ Below w.heap.size w w' := by
  have hb : Below w.heap.size w (w.alloc (.cells (fsCells F f c b) 68)) := (Below.refl _ _).alloc (Nat.le_refl _) _
  unfold fsCells at *
  by_cases h1 : 0 ≤ s
  · by_cases h2 : s < c
    · have e : decide (0 ≤ s ∧ s < c) = true := by simp [h1, h2]
      rw [e]
      go_enter Tryz.func75, Tryz.ntmps75
      go_wp2
      go_ret
      exact ⟨rfl, hb⟩
    · have e : decide (0 ≤ s ∧ s < c) = false := by simp [h2]
      rw [e]
      go_enter Tryz.func75, Tryz.ntmps75
      go_wp2
      go_ret
      exact ⟨rfl, hb⟩
  · have e : decide (0 ≤ s ∧ s < c) = false := by simp [h1]
    rw [e]
    go_enter Tryz.func75, Tryz.ntmps75
    go_wp2
    go_ret
    exact ⟨rfl, hb⟩
theorem place_any (F : Value) (f c b s a : Int) (w : World) (hf : 0 ≤ f ∧ f ≤ 1000) (hs : 0 ≤ s ∧ s ≤ 1000) (ha : 0 ≤ a ∧ a ≤ 1000) : Calls Tryz.prog 49 #[.agg (fsCells F f c b), .int .i64 s, .int .i64 a] w fun e w' => e = .returned (.int .i64 ((f + s) * 320 + a)) ∧ Below w.heap.size w w' := by
  have hb : Below w.heap.size w (w.alloc (.cells (fsCells F f c b) 68)) := (Below.refl _ _).alloc (Nat.le_refl _) _
  have q1 : IntKind.i64.wrap (f + s) = f + s := by rw [IntKind.wrap_i64]; omega
  have q2 : IntKind.i64.wrap ((f + s) * 320) = (f + s) * 320 := by rw [IntKind.wrap_i64]; omega
  have q3 : IntKind.i64.wrap ((f + s) * 320 + a) = (f + s) * 320 + a := by rw [IntKind.wrap_i64]; omega
  unfold fsCells at *
  go_enter Tryz.func49, Tryz.ntmps49
  go_wp2
  go_ret
  exact ⟨rfl, hb⟩
end Go.Proofs.YtklhmneapegfpaaGreatDoor

namespace Go.Proofs.YtklhmneapegfpaaGreatDoor
open Go.RowKit
set_option linter.unusedVariables false
set_option linter.unusedSimpArgs false

theorem within_any (F : Value) (f c b s a n : Int) (w : World) (ha : I64 a) : Calls Tryz.prog 64 #[.agg (fsCells F f c b), .int .i64 s, .int .i64 a, .int .i64 n] w fun e w' => e = .returned (.bool (decide ((0 ≤ s ∧ s < c) ∧ 0 ≤ a ∧ 0 ≤ n ∧ n ≤ 320 - a))) ∧ Below w.heap.size w w' := by
  have hb : Below w.heap.size w (w.alloc (.cells (fsCells F f c b) 68)) := (Below.refl _ _).alloc (Nat.le_refl _) _
  have hx := has_new w 68 (fsCells F f c b)
  have hh := Lib.hid (ahas_any F f c b s (w.alloc (.cells (fsCells F f c b) 68)))
  by_cases hs : 0 ≤ s ∧ s < c
  · have hd : decide (0 ≤ s ∧ s < c) = true := by simpa using hs
    by_cases h1 : 0 ≤ a
    · have q : IntKind.i64.wrap (320 - a) = 320 - a := by rw [IntKind.wrap_i64]; have := ha.2; omega
      by_cases h2 : 0 ≤ n
      · by_cases h3 : n ≤ 320 - a
        · have hE : decide ((0 ≤ s ∧ s < c) ∧ 0 ≤ a ∧ 0 ≤ n ∧ n ≤ 320 - a) = true := by simpa using ⟨hs, h1, h2, h3⟩
          rw [hE]
          clear hs ha
          go_enter Tryz.func64, Tryz.ntmps64
          go_wp2_with (first
            | (refine wpList_load_row rfl 68 _ rfl w.heap.size rfl 68 _ (0, 0) _ hx Tryz.underlying68 rfl (size53 _ _ _ _) ?_)
            | (go_at_call 75; refine hh.out.mono ?_; rintro e w1 ⟨rfl, H1⟩; rw [hd]))
          go_ret
          exact ⟨rfl, hb.trans (H1.mono (by simp))⟩
        · have hE : decide ((0 ≤ s ∧ s < c) ∧ 0 ≤ a ∧ 0 ≤ n ∧ n ≤ 320 - a) = false := by simp only [decide_eq_false_iff_not]; omega
          rw [hE]
          clear hs ha
          have d3 : decide (n ≤ 320 - a) = false := by simpa using h3
          go_enter Tryz.func64, Tryz.ntmps64
          go_wp2_with (first
            | (refine wpList_load_row rfl 68 _ rfl w.heap.size rfl 68 _ (0, 0) _ hx Tryz.underlying68 rfl (size53 _ _ _ _) ?_)
            | (go_at_call 75; refine hh.out.mono ?_; rintro e w1 ⟨rfl, H1⟩; rw [hd]))
          go_ret
          exact ⟨rfl, hb.trans (H1.mono (by simp))⟩
      · have hE : decide ((0 ≤ s ∧ s < c) ∧ 0 ≤ a ∧ 0 ≤ n ∧ n ≤ 320 - a) = false := by simp only [decide_eq_false_iff_not]; omega
        rw [hE]
        clear hs ha
        go_enter Tryz.func64, Tryz.ntmps64
        go_wp2_with (first
          | (refine wpList_load_row rfl 68 _ rfl w.heap.size rfl 68 _ (0, 0) _ hx Tryz.underlying68 rfl (size53 _ _ _ _) ?_)
          | (go_at_call 75; refine hh.out.mono ?_; rintro e w1 ⟨rfl, H1⟩; rw [hd]))
        go_ret
        exact ⟨rfl, hb.trans (H1.mono (by simp))⟩
    · have hE : decide ((0 ≤ s ∧ s < c) ∧ 0 ≤ a ∧ 0 ≤ n ∧ n ≤ 320 - a) = false := by simp only [decide_eq_false_iff_not]; omega
      rw [hE]
      clear hs ha
      go_enter Tryz.func64, Tryz.ntmps64
      go_wp2_with (first
        | (refine wpList_load_row rfl 68 _ rfl w.heap.size rfl 68 _ (0, 0) _ hx Tryz.underlying68 rfl (size53 _ _ _ _) ?_)
        | (go_at_call 75; refine hh.out.mono ?_; rintro e w1 ⟨rfl, H1⟩; rw [hd]))
      go_ret
      exact ⟨rfl, hb.trans (H1.mono (by simp))⟩
  · have hd : decide (0 ≤ s ∧ s < c) = false := by simpa using hs
    have hE : decide ((0 ≤ s ∧ s < c) ∧ 0 ≤ a ∧ 0 ≤ n ∧ n ≤ 320 - a) = false := by simp only [decide_eq_false_iff_not]; omega
    rw [hE]
    clear hs ha
    go_enter Tryz.func64, Tryz.ntmps64
    go_wp2_with (first
      | (refine wpList_load_row rfl 68 _ rfl w.heap.size rfl 68 _ (0, 0) _ hx Tryz.underlying68 rfl (size53 _ _ _ _) ?_)
      | (go_at_call 75; refine hh.out.mono ?_; rintro e w1 ⟨rfl, H1⟩; rw [hd]))
    go_ret
    exact ⟨rfl, hb.trans (H1.mono (by simp))⟩
theorem assert_yes (v : Value) (w : World) : (Instr.typeAssert (.iface 68 v) 64 68 true).run Tryz.prog w = .ok (.tuple #[v, .bool true]) w := by
  simp [Instr.typeAssert, run_underlying Tryz.underlying68]
theorem zero53 (w : World) : (zeroValue 68).run Tryz.prog w = .ok (.agg (fsCells (.pointer none) 0 0 0)) w := by
  have h : (Tryz.prog.info? 68).map (·.zero) = some (some (.agg (fsCells (.pointer none) 0 0 0))) := by kernel_rfl
  obtain ⟨i, hi, hz⟩ := Option.map_eq_some_iff.1 h
  simp [zeroValue, typeInfo, hi, hz]
theorem assert_no (v : Value) (w : World) : (Instr.typeAssert (.iface 62 v) 64 68 true).run Tryz.prog w = .ok (.tuple #[.agg (fsCells (.pointer none) 0 0 0), .bool false]) w := by
  simp [Instr.typeAssert, run_underlying Tryz.underlying68, zero53, fsCells]
theorem fs_all (F : Value) (f c b : Int) (h : F.oneCell' = true) : ∀ v ∈ (fsCells F f c b).toList, v.oneCell' = true := by
  intro v hv
  simp [fsCells] at hv
  rcases hv with rfl | rfl | rfl | rfl
  · exact h
  · rfl
  · rfl
  · rfl
theorem whose_any (g : Nat) (P : Pt) (w : World) : Calls Tryz.prog 46 #[partV g P] w fun e w' => e = .returned (.agg (whoV g P)) ∧ Below w.heap.size w w' := by
  have a1 := assert_yes
  have a2 := assert_no
  by_cases hc : 0 < P.cnt
  · rw [partV_yes hc, whoV_yes hc]
    unfold fsCells at *
    go_enter Tryz.func46, Tryz.ntmps46
    go_wp2
    go_returns
    exact ⟨rfl, ((Below.refl _ w).alloc (Nat.le_refl _) _).alloc (by simp) _⟩
  · rw [partV_no hc, whoV_no hc]
    unfold fsCells at *
    go_enter Tryz.func46, Tryz.ntmps46
    go_wp2
    go_returns
    exact ⟨rfl, ((Below.refl _ w).alloc (Nat.le_refl _) _).alloc (by simp) _⟩
set_option maxRecDepth 100000 in
/-- What is left of a sector that there is. -/
theorem aleft_any {T g m k : Nat} {S : Fs} {P : Pt} (s : Nat) (w : World) (hf : Fl w T g m k S) (hfew : Few S) (hops : S.ops ≤ 1000000) (hp : P.Ok S.wear.length) (hs : s < P.cnt) :
    Calls Tryz.prog 77 #[.agg (fsCells (.pointer (some ⟨g, 0, none⟩)) P.fst P.cnt P.bud), .int .i64 (s : Int)] w fun e w' => e = .returned (.int .i64 (max ((P.bud : Int) - wearAt S ((P.fst : Int) + (s : Int))) 0)) ∧ Below w.heap.size w w' := by
  have hb : Below w.heap.size w (w.alloc (.cells (fsCells (.pointer (some ⟨g, 0, none⟩)) P.fst P.cnt P.bud) 68)) := (Below.refl _ _).alloc (Nat.le_refl _) _
  have hf1 := hf.kept hb
  have hw := Lib.hid (wear_any ((P.fst : Int) + (s : Int)) _ (hf1.kept ((Below.refl _ _).drew)))
  have hx := wear_few hfew ((P.fst : Int) + (s : Int))
  have := hp.in'
  have := hp.few
  have hbu := hp.bud
  generalize wearAt S ((P.fst : Int) + (s : Int)) = q at *
  have q1 : IntKind.i64.wrap ((P.fst : Int) + (s : Int)) = (P.fst : Int) + (s : Int) := by rw [IntKind.wrap_i64]; omega
  have q2 : IntKind.i64.wrap ((P.bud : Int) - q) = (P.bud : Int) - q := by rw [IntKind.wrap_i64]; omega
  clear hf hf1 hp
  unfold fsCells at *
  go_enter Tryz.func77, Tryz.ntmps77
  go_wp2_with fail
  refine wp_region_still_lit (by kernel_rfl) (by kernel_rfl) ?_
  simp only [World.drew_eq]
  repeat still_step
  still_call (hw.out.mono fun e w1 h => ⟨h.1, h.2.symm⟩)
  repeat still_step
  refine wpStill_nil ?_
  go_wp2
  all_goals (go_ret; exact ⟨ret_int (by omega), hb.drew⟩)
end Go.Proofs.YtklhmneapegfpaaGreatDoor

namespace Go.Proofs.YtklhmneapegfpaaGreatDoor
open Go.RowKit
set_option linter.unusedVariables false
set_option linter.unusedSimpArgs false

def capCells (r f l : Int) : Array Value := #[.int .i64 r, .int .i64 f, .int .i64 l]
theorem still_of {P : Program} {f : FuncId} {args : Array Value} {w : World} {v : Value} (h : Calls P f args w fun e w' => e = .returned v ∧ w = w') : Calls P f args w (fun e w'' => e = .returned v ∧ w'' = w) :=
  h.mono fun _ _ h => ⟨h.1, h.2.symm⟩
/-- A new block that is an area. -/
def MadeAr (g : Nat) (P : Pt) (w : World) (e : Ending) (w' : World) : Prop := ∃ x, e = .returned (.pointer (some ⟨x, 0, none⟩)) ∧ w.heap.size ≤ x ∧ Ar w' x g P ∧ Below w.heap.size w w'
theorem made_no {L : Nat} {f l b : Int} (h : ¬ (0 ≤ f ∧ 0 < l ∧ f < (L : Int))) : Pt.made L f l b = { fst := 0, cnt := 0, bud := 0 } := by unfold Pt.made; rw [if_neg h]
theorem made_part {w w2 : World} {g : Nat} {P : Pt} {o : Obj} {v : Value} (hv : v = partV g P) (h2 : w2.heap = ((w.alloc o).alloc (.cells #[v] 66)).heap) (hb : Below w.heap.size w w2) : MadeAr g P w (.returned (.pointer (some ⟨w.heap.size + 1, 0, none⟩))) w2 := by
  refine ⟨_, rfl, by omega, ?_, hb⟩
  have := has_new (w.alloc o) 66 #[v]
  unfold Ar Has at *
  rw [h2, ← hv]
  simpa using this
theorem nobody_is {g : Nat} : Value.iface 62 (.agg #[]) = partV g { fst := 0, cnt := 0, bud := 0 } := rfl
theorem somebody_is {g : Nat} {L : Nat} {f l b : Int} (h : 0 ≤ f ∧ 0 < l ∧ f < (L : Int)) {n q : Int} (hn : n = min l ((L : Int) - f)) (hq : q = min (max b 0) 1000) : Value.iface 68 (.agg (fsCells (.pointer (some ⟨g, 0, none⟩)) f n q)) = partV g (Pt.made L f l b) := by
  subst hn hq
  have e : Pt.made L f l b = { fst := f.toNat, cnt := (min l ((L : Int) - f)).toNat, bud := (min (max b 0) 1000).toNat } := by unfold Pt.made; rw [if_pos h]
  rw [e, partV_yes (by simp only []; omega)]
  simp only []
  rw [Int.toNat_of_nonneg (by omega), Int.toNat_of_nonneg (by omega), Int.toNat_of_nonneg (by omega)]
set_option maxRecDepth 100000 in
set_option maxHeartbeats 1000000 in
theorem newArea_any {T g m k : Nat} {S : Fs} (r f l b : Int) (w : World) (hf : Fl w T g m k S) (hi : I64 f ∧ I64 l ∧ I64 b) :
    Calls Tryz.prog 7 #[.pointer (some ⟨g, 0, none⟩), .agg (capCells r f l), .int .i64 b] w (MadeAr g (Pt.made S.wear.length f l b) w) := by
  have hb : Below w.heap.size w (w.alloc (.cells (capCells r f l) 31)) := (Below.refl _ _).alloc (Nat.le_refl _) _
  have hf1 := hf.kept hb
  have hL := Lib.hid (still_of (len_any _ (hf1.kept ((Below.refl _ _).drew))))
  have hL2 := Lib.hid (still_of (len_any _ (hf1.kept (((Below.refl _ _).drew).drew))))
  have h400 := hf.ok.few
  clear hf hf1
  by_cases h1 : 0 ≤ f
  · by_cases h2 : 0 < l
    · by_cases h3 : f < (S.wear.length : Int)
      · have HX := Lib.hid (show 0 ≤ f ∧ 0 < l ∧ f < (S.wear.length : Int) from ⟨h1, h2, h3⟩)
        unfold capCells at *
        have h2' : ¬ l ≤ 0 := by omega
        have h1' : ¬ f < 0 := by omega
        have h3' : ¬ (S.wear.length : Int) ≤ f := by omega
        have d3 : decide ((S.wear.length : Int) ≤ f) = false := by simpa using h3'
        have q1 : IntKind.i64.wrap ((S.wear.length : Int) - f) = (S.wear.length : Int) - f := by rw [IntKind.wrap_i64]; omega
        generalize S.wear.length = L at *
        go_enter Tryz.func7, Tryz.ntmps7
        go_wp2_with fail
        refine wp_region_still_lit (by kernel_rfl) (by kernel_rfl) ?_
        simp only [World.drew_eq]
        repeat still_step
        still_call hL.out
        repeat still_step
        refine wpStill_nil ?_
        go_wp2_with fail
        refine wp_region_still_lit (by kernel_rfl) (by kernel_rfl) ?_
        simp only [World.drew_eq]
        repeat still_step
        still_call hL2.out
        repeat still_step
        refine wpStill_nil ?_
        go_wp2_with fail
        all_goals (go_ret; exact made_part (somebody_is HX.out (by omega) (by omega)) rfl ((((Below.refl _ w).alloc (Nat.le_refl _) _).alloc (by simp) _).drew).drew)
      · rw [made_no (fun x => h3 x.2.2)]
        unfold capCells at *
        have h2' : ¬ l ≤ 0 := by omega
        have h1' : ¬ f < 0 := by omega
        have h3' : (S.wear.length : Int) ≤ f := by omega
        have d3 : decide ((S.wear.length : Int) ≤ f) = true := by simpa using h3'
        generalize S.wear.length = L at *
        go_enter Tryz.func7, Tryz.ntmps7
        go_wp2_with fail
        refine wp_region_still_lit (by kernel_rfl) (by kernel_rfl) ?_
        simp only [World.drew_eq]
        repeat still_step
        still_call hL.out
        repeat still_step
        refine wpStill_nil ?_
        go_wp2
        go_ret
        exact made_part nobody_is rfl (((Below.refl _ w).alloc (Nat.le_refl _) _).alloc (by simp) _).drew
    · rw [made_no (fun x => h2 x.2.1)]
      unfold capCells at *
      have h2' : l ≤ 0 := by omega
      have h1' : ¬ f < 0 := by omega
      go_enter Tryz.func7, Tryz.ntmps7
      go_wp2_with fail
      refine wp_region_still_lit (by kernel_rfl) (by kernel_rfl) ?_
      simp only [World.drew_eq]
      repeat still_step
      refine wpStill_nil ?_
      go_wp2
      go_ret
      exact made_part nobody_is rfl (((Below.refl _ w).alloc (Nat.le_refl _) _).alloc (by simp) _).drew
  · rw [made_no (fun x => h1 x.1)]
    unfold capCells at *
    have h1' : f < 0 := by omega
    go_enter Tryz.func7, Tryz.ntmps7
    go_wp2_with fail
    refine wp_region_still_lit (by kernel_rfl) (by kernel_rfl) ?_
    simp only [World.drew_eq]
    repeat still_step
    refine wpStill_nil ?_
    go_wp2
    go_ret
    exact made_part nobody_is rfl (((Below.refl _ w).alloc (Nat.le_refl _) _).alloc (by simp) _).drew
end Go.Proofs.YtklhmneapegfpaaGreatDoor

namespace Go.Proofs.YtklhmneapegfpaaGreatDoor
open Go.RowKit
set_option linter.unusedVariables false
set_option linter.unusedSimpArgs false

/-- The part that the document makes of a flash of L sectors. -/
def Pt.rmade (L : Nat) (f l b : Int) : Pt :=
  if 0 ≤ f ∧ 0 ≤ l ∧ f ≤ (L : Int) then { fst := f.toNat, cnt := (min (max l 0) ((L : Int) - f)).toNat, bud := (min (max b 0) 1000).toNat } else { fst := 0, cnt := 0, bud := (min (max b 0) 1000).toNat }
theorem Pt.rmade_ok {L : Nat} (h : L ≤ 400) (f l b : Int) : (Pt.rmade L f l b).Ok L := by
  unfold Pt.rmade
  split
  · exact ⟨by simp only []; omega, h, by simp only []; omega⟩
  · exact ⟨by simp only []; omega, h, by simp only []; omega⟩
/-- Two parts that are the same, or both of no sectors. -/
def Like (P Q : Pt) : Prop := P.cnt = Q.cnt ∧ (0 < P.cnt → P = Q)
theorem made_like (L : Nat) (f l b : Int) : Like (Pt.made L f l b) (Pt.rmade L f l b) := by
  unfold Pt.made Pt.rmade
  by_cases h : 0 ≤ f ∧ 0 < l ∧ f < (L : Int)
  · rw [if_pos h, if_pos (by omega)]
    have e : (min l ((L : Int) - f)).toNat = (min (max l 0) ((L : Int) - f)).toNat := by omega
    rw [e]
    exact ⟨rfl, fun _ => rfl⟩
  · rw [if_neg h]
    by_cases h2 : 0 ≤ f ∧ 0 ≤ l ∧ f ≤ (L : Int)
    · rw [if_pos h2]
      exact ⟨by simp only []; omega, fun x => by simp at x⟩
    · rw [if_neg h2]
      exact ⟨rfl, fun x => by simp at x⟩
theorem Like.has {P Q : Pt} (h : Like P Q) (s : Int) : P.has s ↔ Q.has s := by unfold Pt.has; rw [h.1]
theorem Like.in {P Q : Pt} (h : Like P Q) (s a n : Int) : P.in s a n ↔ Q.in s a n := by unfold Pt.in; rw [h.has s]
theorem Like.of {P Q : Pt} (h : Like P Q) {s : Int} (hs : P.has s) : P = Q := h.2 (by have := hs.1; have := hs.2; omega)
theorem aLeft_like {P Q : Pt} (h : Like P Q) (S : Fs) (s : Int) : aLeft S P s = aLeft S Q s := by
  by_cases hs : P.has s
  · rw [h.of hs]
  · unfold aLeft; rw [if_neg hs, if_neg (fun x => hs ((h.has s).2 x))]
theorem aErase_like {P Q : Pt} (h : Like P Q) (S : Fs) (s : Int) : aErase S P s = aErase S Q s := by
  by_cases hs : P.has s
  · rw [h.of hs]
  · unfold aErase; rw [if_neg hs, if_neg (fun x => hs ((h.has s).2 x))]
theorem aBlank_like {P Q : Pt} (h : Like P Q) (S : Fs) (s : Int) : aBlank S P s = aBlank S Q s := by
  by_cases hs : P.has s
  · rw [h.of hs]
  · unfold aBlank; rw [if_neg hs, if_neg (fun x => hs ((h.has s).2 x))]
theorem aRead_like {P Q : Pt} (h : Like P Q) (S : Fs) (s a n : Int) : aRead S P s a n = aRead S Q s a n := by
  by_cases hs : P.in s a n
  · rw [h.of hs.1]
  · unfold aRead; rw [if_neg hs, if_neg (fun x => hs ((h.in s a n).2 x))]
theorem aProg_like {P Q : Pt} (h : Like P Q) (S : Fs) (s a : Int) (b : List Int) : aProg S P s a b = aProg S Q s a b := by
  by_cases hs : P.in s a b.length
  · rw [h.of hs.1]
  · unfold aProg; rw [if_neg hs, if_neg (fun x => hs ((h.in s a _).2 x))]
/-- A new block that is an area. -/
def MadeRar (g : Nat) (P : Pt) (w : World) (e : Ending) (w' : World) : Prop := ∃ x, e = .returned (.pointer (some ⟨x, 0, none⟩)) ∧ w.heap.size ≤ x ∧ Rar w' x g P ∧ Below w.heap.size w w'
theorem rmade_no {L : Nat} {f l b : Int} (h : ¬ (0 ≤ f ∧ 0 ≤ l ∧ f ≤ (L : Int))) : Pt.rmade L f l b = { fst := 0, cnt := 0, bud := (min (max b 0) 1000).toNat } := by unfold Pt.rmade; rw [if_neg h]
theorem rmade_yes {L : Nat} {f l b : Int} (h : 0 ≤ f ∧ 0 ≤ l ∧ f ≤ (L : Int)) : Pt.rmade L f l b = { fst := f.toNat, cnt := (min (max l 0) ((L : Int) - f)).toNat, bud := (min (max b 0) 1000).toNat } := by unfold Pt.rmade; rw [if_pos h]
theorem made_rpart {w w2 : World} {g : Nat} {P : Pt} {o : Obj} {cs : Array Value} (hv : cs = raCells g P) (h2 : w2.heap = ((w.alloc o).alloc (.cells cs 70)).heap) (hb : Below w.heap.size w w2) : MadeRar g P w (.returned (.pointer (some ⟨w.heap.size + 1, 0, none⟩))) w2 := by
  refine ⟨_, rfl, by omega, ?_, hb⟩
  have := has_new (w.alloc o) 70 cs
  unfold Rar Has at *
  rw [h2, ← hv]
  simpa using this
set_option maxRecDepth 100000 in
set_option maxHeartbeats 1000000 in
theorem rnewArea_any {T g m k : Nat} {S : Fs} (r f l b : Int) (w : World) (hf : Rl w T g m k S) (hi : I64 f ∧ I64 l ∧ I64 b) :
    Calls Tryz.prog 8 #[.pointer (some ⟨g, 0, none⟩), .agg (capCells r f l), .int .i64 b] w (MadeRar g (Pt.rmade S.wear.length f l b) w) := by
  have HC := Lib.hid (rcut_any b 0 1000 (w.alloc (.cells (capCells r f l) 31)).drew (by omega))
  have h400 := hf.ok.few
  have HL := Lib.hid (show ∀ W, Below w.heap.size w W → Calls Tryz.prog 29 #[.pointer (some ⟨g, 0, none⟩)] W (fun e w'' => e = .returned (.int .i64 (S.wear.length : Int)) ∧ w'' = W) from fun W hW => still2 (rlen_any W (hf.kept hW)))
  clear hf
  by_cases h1 : 0 ≤ f
  · have d1 : ¬ f < 0 := by omega
    by_cases h2 : 0 ≤ l
    · have d2 : ¬ l < 0 := by omega
      by_cases h3 : f ≤ (S.wear.length : Int)
      · rw [rmade_yes ⟨h1, h2, h3⟩]
        have d3 : ¬ (S.wear.length : Int) < f := by omega
        have d4 : decide ((S.wear.length : Int) < f) = false := by simpa using d3
        have q1 : IntKind.i64.wrap ((S.wear.length : Int) - f) = (S.wear.length : Int) - f := by rw [IntKind.wrap_i64]; omega
        have HK := Lib.hid (show ∀ W, Calls Tryz.prog 27 #[.int .i64 l, .int .i64 0, .int .i64 ((S.wear.length : Int) - f)] W (fun e w'' => e = .returned (.int .i64 (min (max l 0) ((S.wear.length : Int) - f))) ∧ w'' = W) from fun W => still2 (rcut_any l 0 ((S.wear.length : Int) - f) W (by omega)))
        generalize S.wear.length = L at *
        unfold capCells at *
        go_enter Tryz.func8, Tryz.ntmps8
        go_wp2_with fail
        refine wp_region_still_tail 5 (by kernel_rfl) (by kernel_rfl) ?_
        simp only [World.drew_eq]
        simp only [List.take_succ_cons, List.take_zero, List.drop_succ_cons, List.drop_zero]
        repeat still_step
        still_call (still2 HC.out)
        repeat still_step
        refine wpStill_nil ?_
        go_wp2_with fail
        refine wp_region_still_lit (by kernel_rfl) (by kernel_rfl) ?_
        simp only [World.drew_eq]
        iterate 12 still_step
        still_call (HL.out _ (by go_grown))
        iterate 2 still_step
        refine wpStill_nil ?_
        go_wp2_with fail
        refine wp_region_still_tail 9 (by kernel_rfl) (by kernel_rfl) ?_
        simp only [World.drew_eq]
        simp only [List.take_succ_cons, List.take_zero, List.drop_succ_cons, List.drop_zero]
        iterate 4 still_step
        still_call (HL.out _ (by go_grown))
        iterate 3 still_step
        still_call (HK.out _)
        refine wpStill_nil ?_
        go_wp2_with fail
        go_ret
        exact made_rpart (by simp [raCells]; omega) rfl (by go_grown)
      · rw [rmade_no (fun x => h3 x.2.2)]
        have d3 : (S.wear.length : Int) < f := by omega
        have d4 : decide ((S.wear.length : Int) < f) = true := by simpa using d3
        generalize S.wear.length = L at *
        unfold capCells at *
        go_enter Tryz.func8, Tryz.ntmps8
        go_wp2_with fail
        refine wp_region_still_tail 5 (by kernel_rfl) (by kernel_rfl) ?_
        simp only [World.drew_eq]
        simp only [List.take_succ_cons, List.take_zero, List.drop_succ_cons, List.drop_zero]
        repeat still_step
        still_call (still2 HC.out)
        repeat still_step
        refine wpStill_nil ?_
        go_wp2_with fail
        refine wp_region_still_lit (by kernel_rfl) (by kernel_rfl) ?_
        simp only [World.drew_eq]
        iterate 12 still_step
        still_call (HL.out _ (by go_grown))
        iterate 2 still_step
        refine wpStill_nil ?_
        go_wp2_with fail
        go_ret
        exact made_rpart (by simp [raCells]; omega) rfl (by go_grown)
    · rw [rmade_no (fun x => h2 x.2.1)]
      unfold capCells at *
      have h2' : l < 0 := by omega
      have d2 : decide (l < 0) = true := by simpa using h2'
      have d3 : decide (f < 0) = false := by simpa using d1
      go_enter Tryz.func8, Tryz.ntmps8
      go_wp2_with fail
      refine wp_region_still_tail 5 (by kernel_rfl) (by kernel_rfl) ?_
      simp only [World.drew_eq]
      simp only [List.take_succ_cons, List.take_zero, List.drop_succ_cons, List.drop_zero]
      repeat still_step
      still_call (still2 HC.out)
      repeat still_step
      refine wpStill_nil ?_
      go_wp2_with fail
      go_region
      go_wp2_with fail
      go_ret
      exact made_rpart (by simp [raCells]; omega) rfl (by go_grown)
  · rw [rmade_no (fun x => h1 x.1)]
    unfold capCells at *
    have h1' : f < 0 := by omega
    have d1 : decide (f < 0) = true := by simpa using h1'
    go_enter Tryz.func8, Tryz.ntmps8
    go_wp2_with fail
    refine wp_region_still_tail 5 (by kernel_rfl) (by kernel_rfl) ?_
    simp only [World.drew_eq]
    simp only [List.take_succ_cons, List.take_zero, List.drop_succ_cons, List.drop_zero]
    repeat still_step
    still_call (still2 HC.out)
    repeat still_step
    refine wpStill_nil ?_
    go_wp2_with fail
    go_region
    go_wp2_with fail
    go_ret
    exact made_rpart (by simp [raCells]; omega) rfl (by go_grown)
end Go.Proofs.YtklhmneapegfpaaGreatDoor

namespace Go.Proofs.YtklhmneapegfpaaGreatDoor
open Go.RowKit
set_option linter.unusedVariables false
set_option linter.unusedSimpArgs false

theorem Fl.away {w : World} {T g m k : Nat} {S : Fs} (hf : Fl w T g m k S) {b off : Nat} (hb : w.heap.size ≤ b) : Away g m k (some ⟨b, off, none⟩) := fun x hx e => by
  cases hx
  have := hf.in _ e
  simp only [] at this
  omega
theorem Fl.lit {w : World} {T g m k : Nat} {S : Fs} (hf : Fl w T g m k S) (o : Obj) : Fl (w.alloc o) T g m k S := hf.kept ((Below.refl _ w).alloc (Nat.le_refl _) o)
/-- What a call on a flash of the law's own leaves, seen from the law's start. -/
theorem below_to {w w1 w2 : World} {g m k : Nat} (h : Below w.heap.size w w1) (hg : w.heap.size ≤ g) (hm : w.heap.size ≤ m) (hk : w.heap.size ≤ k) (o : Only (In3 g m k) w1 w2) : Below w.heap.size w w2 :=
  h.trans (o.to_below h.size (by rintro b (rfl | rfl | rfl) <;> assumption))
theorem below_lit {w w1 : World} (h : Below w.heap.size w w1) (o : Obj) : Below w.heap.size w (w1.alloc o) := h.alloc h.size o
theorem sect3 : sect 3 = 3 := rfl
theorem first5 : (prog (fresh 3) 0 [5]).1 = 0 ∧ (prog (fresh 3) 0 [5]).2.ops = 1 ∧ (prog (prog (fresh 3) 0 [5]).2 0 [6]).1 = 3 ∧ (prog (prog (fresh 3) 0 [5]).2 0 [6]).2.wear.length = 3 ∧ (read (prog (prog (fresh 3) 0 [5]).2 0 [6]).2 0 1).length = 1 := by decide +kernel
theorem i64_small {a : Int} (h : -1000000 ≤ a ∧ a ≤ 1000000) : I64 a := ⟨by omega, by omega⟩
theorem byt_one {x : Int} (h : 0 ≤ x ∧ x ≤ 255) : Byt [x] := byt_same 1 x h
end Go.Proofs.YtklhmneapegfpaaGreatDoor

namespace Go.Proofs.YtklhmneapegfpaaGreatDoor
set_option linter.unusedVariables false
set_option linter.unusedSimpArgs false

theorem sets_ff {mem : List Int} {a : Nat} {b : List Int} (h : ∀ k, k < b.length → bits .andNot .u8 (b.getD k 0) (mem.getD (a + k) 0) = 0) : sets mem a b = false := by
  unfold sets setsN
  rw [List.any_eq_false]
  intro i hi
  rw [h i (List.mem_range.1 hi)]
  decide
theorem clear_zero {x : Int} (hx : 0 ≤ x ∧ x ≤ 255) : bits .andNot .u8 0 x = 0 := by
  rw [u8_andNot 0 x (by omega) (by omega) hx.1 (by omega)]
  simp
theorem clear_full {x : Int} (hx : 0 ≤ x ∧ x ≤ 255) : bits .andNot .u8 x 255 = 0 := by
  rw [u8_andNot x 255 hx.1 (by omega) (by omega) (by omega)]
  simp
theorem sect_nat {n : Nat} (h : n ≤ 400) : sect n = n := by unfold sect; omega
theorem fresh_len (n : Nat) : (fresh n).mem.length = 320 * n := List.length_replicate
theorem fresh_wear (n : Nat) : (fresh n).wear.length = n := List.length_replicate
theorem fresh_at {n j : Nat} (h : j < 320 * n) : (fresh n).mem.getD j 0 = 255 := getD_rep _ _ _ h
theorem fresh_blank {n s : Nat} (h : s < n) : blank (fresh n) s = true := by
  unfold blank
  rw [if_pos ⟨by omega, by rw [fresh_wear]; omega⟩, Int.toNat_natCast]
  unfold allFF
  rw [List.all_eq_true]
  intro i hi
  have := List.mem_range.1 hi
  rw [fresh_at (by omega)]
  rfl
theorem prog_plain {S : Fs} (ho : S.off = false) (hc : S.cut = none) {a : Nat} {b : List Int} (hf : a + b.length ≤ S.mem.length) (hs : sets S.mem a b = false) : prog S a b = (0, { S with mem := put S.mem a b [], ops := S.ops + 1 }) := by
  rw [prog_ok' ho ⟨by omega, by omega⟩ (by rw [Int.toNat_natCast]; exact hs), Int.toNat_natCast, work_none hc]
theorem fresh_sets {n a : Nat} {b : List Int} (hb : Byt b) (h : a + b.length ≤ 320 * n) : sets (fresh n).mem a b = false := sets_ff fun k hk => by
  rw [fresh_at (by omega)]
  exact clear_full (byt_at hb k)
theorem prog_fresh {n a : Nat} {b : List Int} (hb : Byt b) (h : a + b.length ≤ 320 * n) : prog (fresh n) a b = (0, { fresh n with mem := put (fresh n).mem a b [], ops := 1 }) :=
  prog_plain rfl rfl (by rw [fresh_len]; exact h) (fresh_sets hb h)
theorem read_len {S : Fs} {a n : Nat} (h1 : 1 ≤ n) (h : a + n ≤ S.mem.length) : (read S a n).length = n := by
  rw [read_yes h1 h, List.length_take, List.length_drop]; omega
theorem read_at {S : Fs} {a n : Nat} (h1 : 1 ≤ n) (h : a + n ≤ S.mem.length) {j : Nat} (hj : j < n) : (read S a n).getD j 0 = S.mem.getD (a + j) 0 := by
  rw [read_yes h1 h, getD_take _ _ _ hj, getD_drop]
theorem bounds_in {n size a : Nat} (h1 : 1 ≤ size) (h : a + size ≤ 320 * n) :
    (prog (fresh n) a (List.replicate size 0)).1 = 0 ∧ (prog (fresh n) a (List.replicate size 0)).2.ops = 1 ∧ (read (prog (fresh n) a (List.replicate size 0)).2 a size).length = size := by
  rw [prog_fresh (byt_same _ _ (by omega)) (by rw [List.length_replicate]; exact h)]
  refine ⟨rfl, rfl, read_len h1 ?_⟩
  show a + size ≤ (put _ _ _ _).length
  rw [put_len, fresh_len]
  exact h
theorem bounds_out {n size : Nat} {a : Int} (h : ¬ (0 ≤ a ∧ a ≤ (320 * n : Nat) - (size : Int))) (h1 : 1 ≤ size) : prog (fresh n) a (List.replicate size 0) = (2, fresh n) ∧ read (fresh n) a size = [] := by
  refine ⟨prog_out rfl fun x => h ⟨x.1, ?_⟩, read_no fun x => h ⟨x.2.1, ?_⟩⟩
  · have := x.2
    rw [List.length_replicate, fresh_len] at this
    omega
  · have := x.2.2
    rw [fresh_len] at this
    omega
end Go.Proofs.YtklhmneapegfpaaGreatDoor

namespace Go.Proofs.YtklhmneapegfpaaGreatDoor
open Go.RowKit
set_option linter.unusedVariables false
set_option linter.unusedSimpArgs false

/-- The bytes of the first k sectors. -/
def dSec (S : Fs) (P : Pt) (k : Nat) : List Int := (S.mem.drop (P.fst * 320)).take (k * 320)
/-- The wears of the first k sectors. -/
def dWear (S : Fs) (P : Pt) : Nat → List Int
  | 0 => []
  | k + 1 => dWear S P k ++ Sha.bytes4 (wearAt S ((P.fst : Int) + (k : Int)))
def dRow (S : Fs) (P : Pt) : List Int := dSec S P P.cnt ++ dWear S P P.cnt
def aDig (S : Fs) (P : Pt) : List Int := Sha.shaI (dRow S P)
theorem dWear_len (S : Fs) (P : Pt) : ∀ k, (dWear S P k).length = 4 * k
  | 0 => rfl
  | k + 1 => by rw [dWear, List.length_append, dWear_len S P k]; show 4 * k + 4 = _; omega
theorem dSec_len {S : Fs} {P : Pt} (hS : S.Ok) (hp : P.Ok S.wear.length) {k : Nat} (hk : k ≤ P.cnt) : (dSec S P k).length = k * 320 := by
  unfold dSec
  have := hp.in'
  rw [List.length_take, List.length_drop, hS.len]
  omega
theorem dSec_more {S : Fs} {P : Pt} (hS : S.Ok) (hp : P.Ok S.wear.length) {k : Nat} (hk : k < P.cnt) : dSec S P (k + 1) = dSec S P k ++ read S ((((P.fst : Int) + (k : Int)) * 320)) 320 := by
  have h := hp.in'
  have hl := hS.len
  have e : (((P.fst : Int) + (k : Int)) * 320) = (((P.fst + k) * 320 : Nat) : Int) := by omega
  rw [e, show ((320 : Int)) = ((320 : Nat) : Int) from rfl, read_yes (by omega) (by omega)]
  unfold dSec
  rw [show (k + 1) * 320 = k * 320 + 320 by omega, List.take_add, List.drop_drop, show P.fst * 320 + k * 320 = (P.fst + k) * 320 by omega]
theorem dSec_all {S : Fs} {P : Pt} (hS : S.Ok) (hp : P.Ok S.wear.length) (hc : 0 < P.cnt) : dSec S P P.cnt = read S ((P.fst * 320 : Nat) : Int) ((P.cnt * 320 : Nat) : Int) := by
  have h := hp.in'
  have hl := hS.len
  rw [read_yes (by omega) (by omega)]
  rfl
theorem dSec_byt {S : Fs} (hS : S.Ok) (P : Pt) (k : Nat) : Byt (dSec S P k) := byt_take (byt_drop hS.byt _) _
theorem wear_word {S : Fs} (h : Few S) (ho : S.ops ≤ 1000000) (s : Int) : 0 ≤ wearAt S s ∧ wearAt S s ≤ 4294967295 := by have := wear_few h s; omega
theorem dWear_byt {S : Fs} (h : Few S) (ho : S.ops ≤ 1000000) (P : Pt) : ∀ k, Byt (dWear S P k)
  | 0 => byt_nil
  | k + 1 => byt_app (dWear_byt h ho P k) (Sha.bytes4_bd (wear_word h ho _))
theorem dRow_sim {d : Nat} {S R : Fs} (h : Sim d S R) (P : Pt) : aDig S P = aDig R P := by
  have e : ∀ k, dWear S P k = dWear R P k := fun k => by
    induction k with
    | zero => rfl
    | succ k ih => rw [dWear, dWear, ih, wearAt_sim h]
  unfold aDig dRow dSec
  rw [e, h.mem]
theorem aDig_like {P Q : Pt} (h : Like P Q) (S : Fs) : aDig S P = aDig S Q := by
  by_cases hc : 0 < P.cnt
  · rw [h.2 hc]
  · have h1 : P.cnt = 0 := by omega
    have h2 : Q.cnt = 0 := by rw [← h.1]; exact h1
    unfold aDig dRow dSec
    rw [h1, h2, Nat.zero_mul, List.take_zero, List.take_zero]
    rfl
theorem row_sha {w : World} {a : Option Addr} {n : Nat} {zs : List Int} (h : Row w a n zs) : Sha.Row w a n zs := h
theorem own_sha {w : World} {b n : Nat} {v : Value} {zs : List Int} (h : Own w b v n zs) : Sha.Own w b v n zs := h
theorem has_sha {w : World} {g : Nat} {t : TypeId} {cs : Array Value} (h : Has w g t cs) : Sha.Has w g t cs := h
theorem sha_has {w : World} {g : Nat} {t : TypeId} {cs : Array Value} (h : Sha.Has w g t cs) : Has w g t cs := h
end Go.Proofs.YtklhmneapegfpaaGreatDoor

namespace Go.Proofs.YtklhmneapegfpaaGreatDoor
open Go.RowKit
set_option linter.unusedVariables false
set_option linter.unusedSimpArgs false

theorem Ar.kept {w w' : World} {x g : Nat} {P : Pt} (h : Ar w x g P) (hb : Below w.heap.size w w') : Ar w' x g P := Has.kept h hb
theorem fs_cells {w : World} {x : Nat} {F : Value} {f c b : Int} (h : Has w x 68 (fsCells F f c b)) : w.cell? ⟨x, 0, none⟩ = some F ∧ w.cell? ⟨x, 1, none⟩ = some (.int .i64 f) ∧ w.cell? ⟨x, 2, none⟩ = some (.int .i64 c) ∧ w.cell? ⟨x, 3, none⟩ = some (.int .i64 b) :=
  ⟨h.at 0, h.at 1, h.at 2, h.at 3⟩
theorem who_is (g : Nat) (P : Pt) : ∃ F f b, whoV g P = fsCells (.pointer F) f P.cnt b := by
  by_cases h : 0 < P.cnt
  · exact ⟨_, _, _, whoV_yes h⟩
  · have e : (P.cnt : Int) = 0 := by omega
    rw [e]
    exact ⟨_, _, _, whoV_no h⟩
/-- The world behind 'whose', with the struct's own copy, and what comes behind. -/
theorem behind {w w1 w2 : World} {o : Obj} (H1 : Below w.heap.size w w1) (H2 : Below (w1.alloc o).heap.size (w1.alloc o) w2) : Below w.heap.size w w2 :=
  (H1.alloc H1.size o).trans (H2.mono (by have := H1.size; simp; omega))
set_option maxRecDepth 100000 in
set_option maxHeartbeats 1000000 in
theorem left_any {T x g m k : Nat} {S : Fs} {P : Pt} (s : Int) (w : World) (ha : Ar w x g P) (hf : Fl w T g m k S) (hfew : Few S) (hops : S.ops ≤ 1000000) (hp : P.Ok S.wear.length) :
    Calls Tryz.prog 57 #[.pointer (some ⟨x, 0, none⟩), .int .i64 s] w fun e w' => e = .returned (.int .i64 (aLeft S P s)) ∧ Below w.heap.size w w' := by
  have hh := Lib.hid (handed_any w ha)
  have hW := Lib.hid (whose_any g P w)
  have HA := Lib.hid ha
  have HF := Lib.hid hf
  clear ha hf
  unfold aLeft
  by_cases hs : P.has s
  · obtain ⟨q, rfl, hq⟩ := Pt.has_nat hs
    have hc : 0 < P.cnt := by omega
    rw [whoV_yes hc] at hW
    rw [if_pos hs]
    have hd : decide (0 ≤ (q : Int) ∧ (q : Int) < (P.cnt : Int)) = true := by simpa using hq
    clear hs
    unfold fsCells at hW
    go_enter Tryz.func57, Tryz.ntmps57
    go_wp2_with (first
      | (go_at_call 47; (with_reducible refine hh.out.mono ?_); rintro e w0 ⟨rfl, rfl⟩)
      | (go_at_call 46; (with_reducible refine hW.out.mono ?_); rintro e w1 ⟨rfl, H1⟩)
      | (go_at_call 75; refine (ahas_any _ _ _ _ _ _).mono ?_; rintro e w2 ⟨rfl, H2⟩; have hx := (has_new w1 68 (fsCells (.pointer (some ⟨g, 0, none⟩)) P.fst P.cnt P.bud)).kept H2; have HX := Lib.hid hx; have b2 := Lib.hid (behind H1 H2); obtain ⟨k0, k1, k2, k3⟩ := fs_cells hx; clear hx; rw [hd])
      | (go_at_call 77; refine (aleft_any (P := P) q _ (HF.out.kept b2.out) hfew hops hp hq).mono ?_; rintro e w3 ⟨rfl, H3⟩))
    go_ret
    exact ⟨rfl, b2.out.trans (H3.mono b2.out.size)⟩
  · rw [if_neg hs]
    obtain ⟨F, f, b, hwho⟩ := who_is g P
    rw [hwho] at hW
    clear hwho
    have hd : decide (0 ≤ s ∧ s < (P.cnt : Int)) = false := by simp only [decide_eq_false_iff_not]; exact hs
    unfold fsCells at hW
    go_enter Tryz.func57, Tryz.ntmps57
    go_wp2_with (first
      | (go_at_call 47; (with_reducible refine hh.out.mono ?_); rintro e w0 ⟨rfl, rfl⟩)
      | (go_at_call 46; (with_reducible refine hW.out.mono ?_); rintro e w1 ⟨rfl, H1⟩)
      | (go_at_call 75; refine (ahas_any _ _ _ _ _ _).mono ?_; rintro e w2 ⟨rfl, H2⟩; skip; rw [hd]))
    go_ret
    exact ⟨rfl, behind H1 H2⟩
set_option maxRecDepth 100000 in
set_option maxHeartbeats 1000000 in
theorem aerase_any {T x g m k : Nat} {S : Fs} {P : Pt} (s : Int) (w : World) (ha : Ar w x g P) (hf : Fl w T g m k S) (hfew : Few S) (hops : S.ops ≤ 1000000) (hp : P.Ok S.wear.length) :
    Calls Tryz.prog 59 #[.pointer (some ⟨x, 0, none⟩), .int .i64 s] w fun e w' => e = .returned (.int .i64 (aErase S P s).1) ∧ FlTo T g m k (aErase S P s).2 w w' := by
  have hh := Lib.hid (handed_any w ha)
  have hW := Lib.hid (whose_any g P w)
  have HA := Lib.hid ha
  have HF := Lib.hid hf
  clear ha hf
  unfold aErase
  by_cases hs : P.has s
  · have hal : aLeft S P s = max ((P.bud : Int) - wearAt S ((P.fst : Int) + s)) 0 := by unfold aLeft; rw [if_pos hs]
    rw [if_pos hs, hal]
    obtain ⟨q, rfl, hq⟩ := Pt.has_nat hs
    have hc : 0 < P.cnt := by omega
    rw [whoV_yes hc] at hW
    have hd : decide (0 ≤ (q : Int) ∧ (q : Int) < (P.cnt : Int)) = true := by simpa using hq
    have h1 := hp.in'
    have h2 := hp.few
    have q1 : IntKind.i64.wrap ((P.fst : Int) + (q : Int)) = (P.fst : Int) + (q : Int) := by rw [IntKind.wrap_i64]; omega
    clear hs hal
    unfold fsCells at hW
    by_cases hz : max ((P.bud : Int) - wearAt S ((P.fst : Int) + (q : Int))) 0 = 0
    · rw [if_pos hz]
      go_enter Tryz.func59, Tryz.ntmps59
      go_wp2_with (first
        | (go_at_call 47; (with_reducible refine hh.out.mono ?_); rintro e w0 ⟨rfl, rfl⟩)
        | (go_at_call 46; (with_reducible refine hW.out.mono ?_); rintro e w1 ⟨rfl, H1⟩)
        | (go_at_call 75; refine (ahas_any _ _ _ _ _ _).mono ?_; rintro e w2 ⟨rfl, H2⟩; have hx := (has_new w1 68 (fsCells (.pointer (some ⟨g, 0, none⟩)) P.fst P.cnt P.bud)).kept H2; have HX := Lib.hid hx; have b2 := Lib.hid (behind H1 H2); obtain ⟨k0, k1, k2, k3⟩ := fs_cells hx; clear hx; rw [hd])
        | (go_at_call 77; refine (aleft_any (P := P) q _ (HF.out.kept b2.out) hfew hops hp hq).mono ?_; rintro e w3 ⟨rfl, H3⟩; rw [hz]))
      go_ret
      have b3 := b2.out.trans (H3.mono b2.out.size)
      exact ⟨rfl, HF.out.kept b3, Only.of_below b3⟩
    · rw [if_neg hz]
      have hz' : (max ((P.bud : Int) - wearAt S ((P.fst : Int) + (q : Int))) 0 == 0) = false := by simpa using hz
      go_enter Tryz.func59, Tryz.ntmps59
      go_wp2_with (first
        | (go_at_call 47; (with_reducible refine hh.out.mono ?_); rintro e w0 ⟨rfl, rfl⟩)
        | (go_at_call 46; (with_reducible refine hW.out.mono ?_); rintro e w1 ⟨rfl, H1⟩)
        | (go_at_call 75; refine (ahas_any _ _ _ _ _ _).mono ?_; rintro e w2 ⟨rfl, H2⟩; have hx := (has_new w1 68 (fsCells (.pointer (some ⟨g, 0, none⟩)) P.fst P.cnt P.bud)).kept H2; have HX := Lib.hid hx; have b2 := Lib.hid (behind H1 H2); obtain ⟨k0, k1, k2, k3⟩ := fs_cells hx; clear hx; rw [hd])
        | (go_at_call 77; refine (aleft_any (P := P) q _ (HF.out.kept b2.out) hfew hops hp hq).mono ?_; rintro e w3 ⟨rfl, H3⟩; have b3 := Lib.hid (b2.out.trans (H3.mono b2.out.size)); obtain ⟨j0, j1, j2, j3⟩ := fs_cells (HX.out.kept H3); generalize max ((P.bud : Int) - wearAt S ((P.fst : Int) + (q : Int))) 0 = lf at *)
        | (go_at_call 78; refine (erase_any ((P.fst : Int) + (q : Int)) _ (HF.out.kept b3.out) hops hfew).mono ?_; rintro e w4 ⟨rfl, F4, O4⟩))
      go_ret
      exact ⟨rfl, F4, (Only.of_below b3.out).trans O4⟩
  · rw [if_neg hs]
    obtain ⟨F, f, b, hwho⟩ := who_is g P
    rw [hwho] at hW
    clear hwho
    have hd : decide (0 ≤ s ∧ s < (P.cnt : Int)) = false := by simp only [decide_eq_false_iff_not]; exact hs
    unfold fsCells at hW
    go_enter Tryz.func59, Tryz.ntmps59
    go_wp2_with (first
      | (go_at_call 47; (with_reducible refine hh.out.mono ?_); rintro e w0 ⟨rfl, rfl⟩)
      | (go_at_call 46; (with_reducible refine hW.out.mono ?_); rintro e w1 ⟨rfl, H1⟩)
      | (go_at_call 75; refine (ahas_any _ _ _ _ _ _).mono ?_; rintro e w2 ⟨rfl, H2⟩; skip; rw [hd]))
    go_ret
    have b3 := behind H1 H2
    exact ⟨rfl, HF.out.kept b3, Only.of_below b3⟩
end Go.Proofs.YtklhmneapegfpaaGreatDoor

namespace Go.Proofs.YtklhmneapegfpaaGreatDoor
open Go.RowKit
set_option linter.unusedVariables false
set_option linter.unusedSimpArgs false

set_option maxRecDepth 100000 in
set_option maxHeartbeats 1000000 in
theorem aread_any {T x g m k : Nat} {S : Fs} {P : Pt} (s a n : Int) (w : World) (ha : Ar w x g P) (hf : Fl w T g m k S) (hp : P.Ok S.wear.length) (hi1 : I64 a) (hi2 : I64 n) :
    Calls Tryz.prog 41 #[.pointer (some ⟨x, 0, none⟩), .int .i64 s, .int .i64 a, .int .i64 n] w (Gives (aRead S P s a n) w) := by
  have hh := Lib.hid (handed_any w ha)
  have hW := Lib.hid (whose_any g P w)
  have HA := Lib.hid ha
  have HF := Lib.hid hf
  clear ha hf
  unfold aRead
  by_cases hs : P.in s a n
  · rw [if_pos hs]
    obtain ⟨h0, ha0, hn0, hna⟩ := hs
    have hd : decide ((0 ≤ s ∧ s < (P.cnt : Int)) ∧ 0 ≤ a ∧ 0 ≤ n ∧ n ≤ 320 - a) = true := by simp only [decide_eq_true_eq]; exact ⟨h0, ha0, hn0, hna⟩
    obtain ⟨q, rfl, hq⟩ := Pt.has_nat h0
    have hc : 0 < P.cnt := by omega
    rw [whoV_yes hc] at hW
    have h1 := hp.in'
    have h2 := hp.few
    have hpl : P.place (q : Int) a = ((P.fst : Int) + (q : Int)) * 320 + a := rfl
    rw [hpl]
    have hpi : I64 (((P.fst : Int) + (q : Int)) * 320 + a) := ⟨by omega, by omega⟩
    have HPL := Lib.hid (fun W => place_any (.pointer (some ⟨g, 0, none⟩)) P.fst P.cnt P.bud (q : Int) a W ⟨by omega, by omega⟩ ⟨by omega, by omega⟩ ⟨by omega, by omega⟩)
    generalize ((P.fst : Int) + (q : Int)) * 320 + a = pl at *
    clear h0 ha0 hn0 hna hpl
    unfold fsCells at hW
    go_enter Tryz.func41, Tryz.ntmps41
    go_wp2_with (first
      | (go_at_call 47; (with_reducible refine hh.out.mono ?_); rintro e w0 ⟨rfl, rfl⟩)
      | (go_at_call 46; (with_reducible refine hW.out.mono ?_); rintro e w1 ⟨rfl, H1⟩)
      | (go_at_call 64; refine (within_any _ _ _ _ _ _ _ _ hi1).mono ?_; rintro e w2 ⟨rfl, H2⟩; have hx := (has_new w1 68 (fsCells (.pointer (some ⟨g, 0, none⟩)) P.fst P.cnt P.bud)).kept H2; have HX := Lib.hid hx; have b2 := Lib.hid (behind H1 H2); obtain ⟨k0, k1, k2, k3⟩ := fs_cells hx; clear hx; rw [hd]))
    have HS7 := Lib.hid (show Has w2.drew w1.heap.size 68 (fsCells (.pointer (some ⟨g, 0, none⟩)) P.fst P.cnt P.bud) from HX.out)
    have b7 := Lib.hid b2.out.drew
    clear k0 k1 k2 k3 hh hW H1 H2
    refine wp_region_held_drew (S := fun W => Has W w1.heap.size 68 (fsCells (.pointer (some ⟨g, 0, none⟩)) P.fst P.cnt P.bud)) (by kernel_rfl) HS7.out ?_
    intro _
    refine wpAnyH_take (i := 0) (v := .pointer (some ⟨w1.heap.size, 0, none⟩)) rfl (by kernel_rfl) (by kernel_rfl) (by kernel_rfl) (fun _ _ _ h => h) (Or.inl ⟨by rfl, (fun W _ => by go_simp)⟩) HS7.out ?_
    simp only [List.getElem_toArray, List.getElem_cons_succ, List.getElem_cons_zero, Act.put, List.setIfInBounds_toArray, List.set_cons_zero, List.set_cons_succ]
    refine wpAnyH_take (i := 1) (v := .pointer (some ⟨g, 0, none⟩)) rfl (by kernel_rfl) (by kernel_rfl) (by kernel_rfl) (fun _ _ _ h => h) (Or.inl ⟨by rfl, (fun W hW => by obtain ⟨q0, q1, q2, q3⟩ := fs_cells hW; go_simp)⟩) HS7.out ?_
    simp only [List.getElem_toArray, List.getElem_cons_succ, List.getElem_cons_zero, Act.put, List.setIfInBounds_toArray, List.set_cons_zero, List.set_cons_succ]
    refine wpAnyH_take (i := 2) (v := .agg #[.pointer (some ⟨g, 0, none⟩), .int .i64 (P.fst : Int), .int .i64 (P.cnt : Int), .int .i64 (P.bud : Int)]) rfl (by kernel_rfl) (by kernel_rfl) (by kernel_rfl) (fun _ _ _ h => h) (Or.inl ⟨by rfl, (fun W hW => by obtain ⟨q0, q1, q2, q3⟩ := fs_cells hW; go_simp)⟩) HS7.out ?_
    simp only [List.getElem_toArray, List.getElem_cons_succ, List.getElem_cons_zero, Act.put, List.setIfInBounds_toArray, List.set_cons_zero, List.set_cons_succ]
    refine wpAnyH_take (i := 3) (v := .int .i64 (q : Int)) rfl (by kernel_rfl) (by kernel_rfl) (by kernel_rfl) (fun _ _ _ h => h) (Or.inl ⟨by rfl, (fun W _ => by go_simp)⟩) HS7.out ?_
    simp only [List.getElem_toArray, List.getElem_cons_succ, List.getElem_cons_zero, Act.put, List.setIfInBounds_toArray, List.set_cons_zero, List.set_cons_succ]
    refine wpAnyH_take (i := 4) (v := .int .i64 a) rfl (by kernel_rfl) (by kernel_rfl) (by kernel_rfl) (fun _ _ _ h => h) (Or.inl ⟨by rfl, (fun W _ => by go_simp)⟩) HS7.out ?_
    simp only [List.getElem_toArray, List.getElem_cons_succ, List.getElem_cons_zero, Act.put, List.setIfInBounds_toArray, List.set_cons_zero, List.set_cons_succ]
    refine wpAnyH_take (i := 6) (v := .int .i64 n) rfl (by kernel_rfl) (by kernel_rfl) (by kernel_rfl) (fun _ _ _ h => h) (Or.inl ⟨by rfl, (fun W _ => by go_simp)⟩) HS7.out ?_
    simp only [List.getElem_toArray, List.getElem_cons_succ, List.getElem_cons_zero, Act.put, List.setIfInBounds_toArray, List.set_cons_zero, List.set_cons_succ]
    refine wpAnyH_ready (rs := [5]) (by kernel_rfl) (by simp) ?_
    refine AllReadyH.cons rfl (fun K hK => ?_) AllReadyH.nil
    go_simp
    refine (HPL.out _).mono ?_
    rintro e w3 ⟨rfl, H3⟩
    have HS8 := Lib.hid (HS7.out.kept H3)
    have b3 := Lib.hid (b7.out.trans (H3.mono b7.out.size))
    refine hK.out _ _ HS8.out (fun _ => ?_)
    clear hK K
    refine wpAnyH_ready (rs := [7]) (by kernel_rfl) (by simp) ?_
    refine AllReadyH.cons rfl (fun K hK => ?_) AllReadyH.nil
    go_simp
    refine (read_any pl n w3 hpi hi2 (HF.out.kept b3.out)).mono ?_
    rintro e w4 ⟨A4, c4, rfl, hc4, r4, hA4, b4⟩
    have HS9 := Lib.hid (HS8.out.kept b4)
    refine hK.out _ _ HS9.out (fun _ => ?_)
    clear hK K
    refine wpAnyH_take (i := 8) (v := .slice A4 (read S pl n).length c4) rfl (by kernel_rfl) (by kernel_rfl) (by kernel_rfl) (fun _ _ _ h => h) (Or.inl ⟨by rfl, (fun W _ => by go_simp)⟩) HS9.out ?_
    simp only [List.getElem_toArray, List.getElem_cons_succ, List.getElem_cons_zero, Act.put, List.setIfInBounds_toArray, List.set_cons_zero, List.set_cons_succ]
    refine wpAnyH_done (by kernel_rfl) ?_ _
    go_wp2
    go_ret
    exact ⟨A4, c4, rfl, hc4, r4, fun x hx => Nat.le_trans b3.out.size (hA4 x hx), b3.out.trans (b4.mono b3.out.size)⟩
  · rw [if_neg hs]
    obtain ⟨F, f, b, hwho⟩ := who_is g P
    rw [hwho] at hW
    clear hwho
    have hd : decide ((0 ≤ s ∧ s < (P.cnt : Int)) ∧ 0 ≤ a ∧ 0 ≤ n ∧ n ≤ 320 - a) = false := by simp only [decide_eq_false_iff_not]; exact hs
    unfold fsCells at hW
    go_enter Tryz.func41, Tryz.ntmps41
    go_wp2_with (first
      | (go_at_call 47; (with_reducible refine hh.out.mono ?_); rintro e w0 ⟨rfl, rfl⟩)
      | (go_at_call 46; (with_reducible refine hW.out.mono ?_); rintro e w1 ⟨rfl, H1⟩)
      | (go_at_call 64; refine (within_any _ _ _ _ _ _ _ _ hi1).mono ?_; rintro e w2 ⟨rfl, H2⟩; skip; rw [hd]))
    go_ret
    have b3 := behind H1 H2
    exact ⟨none, 0, rfl, Nat.le_refl _, row_nil _, fun x hx => (by cases hx), b3⟩
set_option maxRecDepth 100000 in
set_option maxHeartbeats 1000000 in
theorem aprogram_any {T x g m k : Nat} {S : Fs} {P : Pt} (s a : Int) (A : Option Addr) (N z : Nat) (zs : List Int) (w : World) (ha : Ar w x g P) (hf : Fl w T g m k S) (hp : P.Ok S.wear.length) (hi1 : I64 a) (hr : Row w A N zs) (hA : Clear g m k A N) (hops : S.ops ≤ 1000000) :
    Calls Tryz.prog 60 #[.pointer (some ⟨x, 0, none⟩), .int .i64 s, .int .i64 a, .slice A N z] w fun e w' => e = .returned (.int .i64 (aProg S P s a zs).1) ∧ FlTo T g m k (aProg S P s a zs).2 w w' := by
  have hlen := hr.1
  have HR := Lib.hid hr
  clear hr
  have hh := Lib.hid (handed_any w ha)
  have hW := Lib.hid (whose_any g P w)
  have HA := Lib.hid ha
  have HF := Lib.hid hf
  clear ha hf
  unfold aProg
  rw [hlen]
  by_cases hs : P.in s a (N : Int)
  · rw [if_pos hs]
    obtain ⟨h0, ha0, hn0, hna⟩ := hs
    have hd : decide ((0 ≤ s ∧ s < (P.cnt : Int)) ∧ 0 ≤ a ∧ 0 ≤ (N : Int) ∧ (N : Int) ≤ 320 - a) = true := by simp only [decide_eq_true_eq]; exact ⟨h0, ha0, hn0, hna⟩
    obtain ⟨q, rfl, hq⟩ := Pt.has_nat h0
    have hc : 0 < P.cnt := by omega
    rw [whoV_yes hc] at hW
    have h1 := hp.in'
    have h2 := hp.few
    have hpl : P.place (q : Int) a = ((P.fst : Int) + (q : Int)) * 320 + a := rfl
    rw [hpl]
    have hpi : I64 (((P.fst : Int) + (q : Int)) * 320 + a) := ⟨by omega, by omega⟩
    have HPL := Lib.hid (fun W => place_any (.pointer (some ⟨g, 0, none⟩)) P.fst P.cnt P.bud (q : Int) a W ⟨by omega, by omega⟩ ⟨by omega, by omega⟩ ⟨by omega, by omega⟩)
    generalize ((P.fst : Int) + (q : Int)) * 320 + a = pl at *
    clear h0 ha0 hn0 hna hpl
    unfold fsCells at hW
    go_enter Tryz.func60, Tryz.ntmps60
    go_wp2_with (first
      | (go_at_call 47; (with_reducible refine hh.out.mono ?_); rintro e w0 ⟨rfl, rfl⟩)
      | (go_at_call 46; (with_reducible refine hW.out.mono ?_); rintro e w1 ⟨rfl, H1⟩)
      | (go_at_call 64; refine (within_any _ _ _ _ _ _ _ _ hi1).mono ?_; rintro e w2 ⟨rfl, H2⟩; have hx := (has_new w1 68 (fsCells (.pointer (some ⟨g, 0, none⟩)) P.fst P.cnt P.bud)).kept H2; have HX := Lib.hid hx; have b2 := Lib.hid (behind H1 H2); obtain ⟨k0, k1, k2, k3⟩ := fs_cells hx; clear hx; rw [hd]))
    have HS7 := Lib.hid (show Has w2.drew w1.heap.size 68 (fsCells (.pointer (some ⟨g, 0, none⟩)) P.fst P.cnt P.bud) from HX.out)
    have b7 := Lib.hid b2.out.drew
    have H0 := Lib.hid H1.size
    clear k0 k1 k2 k3 hh hW H1 H2
    refine wp_region_held_drew (S := fun W => Has W w1.heap.size 68 (fsCells (.pointer (some ⟨g, 0, none⟩)) P.fst P.cnt P.bud)) (by kernel_rfl) HS7.out ?_
    intro _
    refine wpAnyH_take (i := 0) (v := .pointer (some ⟨w1.heap.size, 0, none⟩)) rfl (by kernel_rfl) (by kernel_rfl) (by kernel_rfl) (fun _ _ _ h => h) (Or.inl ⟨by rfl, (fun W _ => by go_simp)⟩) HS7.out ?_
    simp only [List.getElem_toArray, List.getElem_cons_succ, List.getElem_cons_zero, Act.put, List.setIfInBounds_toArray, List.set_cons_zero, List.set_cons_succ]
    refine wpAnyH_take (i := 1) (v := .pointer (some ⟨g, 0, none⟩)) rfl (by kernel_rfl) (by kernel_rfl) (by kernel_rfl) (fun _ _ _ h => h) (Or.inl ⟨by rfl, (fun W hW => by obtain ⟨q0, q1, q2, q3⟩ := fs_cells hW; go_simp)⟩) HS7.out ?_
    simp only [List.getElem_toArray, List.getElem_cons_succ, List.getElem_cons_zero, Act.put, List.setIfInBounds_toArray, List.set_cons_zero, List.set_cons_succ]
    refine wpAnyH_take (i := 2) (v := .agg #[.pointer (some ⟨g, 0, none⟩), .int .i64 (P.fst : Int), .int .i64 (P.cnt : Int), .int .i64 (P.bud : Int)]) rfl (by kernel_rfl) (by kernel_rfl) (by kernel_rfl) (fun _ _ _ h => h) (Or.inl ⟨by rfl, (fun W hW => by obtain ⟨q0, q1, q2, q3⟩ := fs_cells hW; go_simp)⟩) HS7.out ?_
    simp only [List.getElem_toArray, List.getElem_cons_succ, List.getElem_cons_zero, Act.put, List.setIfInBounds_toArray, List.set_cons_zero, List.set_cons_succ]
    refine wpAnyH_take (i := 3) (v := .int .i64 (q : Int)) rfl (by kernel_rfl) (by kernel_rfl) (by kernel_rfl) (fun _ _ _ h => h) (Or.inl ⟨by rfl, (fun W _ => by go_simp)⟩) HS7.out ?_
    simp only [List.getElem_toArray, List.getElem_cons_succ, List.getElem_cons_zero, Act.put, List.setIfInBounds_toArray, List.set_cons_zero, List.set_cons_succ]
    refine wpAnyH_take (i := 4) (v := .int .i64 a) rfl (by kernel_rfl) (by kernel_rfl) (by kernel_rfl) (fun _ _ _ h => h) (Or.inl ⟨by rfl, (fun W _ => by go_simp)⟩) HS7.out ?_
    simp only [List.getElem_toArray, List.getElem_cons_succ, List.getElem_cons_zero, Act.put, List.setIfInBounds_toArray, List.set_cons_zero, List.set_cons_succ]
    refine wpAnyH_take (i := 6) (v := .slice A N z) rfl (by kernel_rfl) (by kernel_rfl) (by kernel_rfl) (fun _ _ _ h => h) (Or.inl ⟨by rfl, (fun W _ => by go_simp)⟩) HS7.out ?_
    simp only [List.getElem_toArray, List.getElem_cons_succ, List.getElem_cons_zero, Act.put, List.setIfInBounds_toArray, List.set_cons_zero, List.set_cons_succ]
    refine wpAnyH_ready (rs := [5]) (by kernel_rfl) (by simp) ?_
    refine AllReadyH.cons rfl (fun K hK => ?_) AllReadyH.nil
    go_simp
    refine (HPL.out _).mono ?_
    rintro e w3 ⟨rfl, H3⟩
    have HS8 := Lib.hid (HS7.out.kept H3)
    have b3 := Lib.hid (b7.out.trans (H3.mono b7.out.size))
    refine hK.out _ _ HS8.out (fun _ => ?_)
    clear hK K
    refine wpAnyH_ready (rs := [7]) (by kernel_rfl) (by simp) ?_
    refine AllReadyH.cons rfl (fun K hK => ?_) AllReadyH.nil
    go_simp
    refine (program_any pl A N z zs w3 hpi (HF.out.kept b3.out) (row_below b3.out HR.out) hA hops).mono ?_
    rintro e w4 ⟨rfl, F4, O4⟩
    have HS9 := Lib.hid (HS8.out.only O4 (fun x => by have := HF.out.in _ x; have := H0.out; omega))
    refine hK.out _ _ HS9.out (fun _ => ?_)
    clear hK K
    refine wpAnyH_take (i := 8) (v := .int .i64 (prog S pl zs).1) rfl (by kernel_rfl) (by kernel_rfl) (by kernel_rfl) (fun _ _ _ h => h) (Or.inl ⟨by rfl, (fun W _ => by go_simp)⟩) HS9.out ?_
    simp only [List.getElem_toArray, List.getElem_cons_succ, List.getElem_cons_zero, Act.put, List.setIfInBounds_toArray, List.set_cons_zero, List.set_cons_succ]
    refine wpAnyH_done (by kernel_rfl) ?_ _
    go_wp2
    go_ret
    exact ⟨rfl, F4, (Only.of_below b3.out).trans O4⟩
  · rw [if_neg hs]
    obtain ⟨F, f, b, hwho⟩ := who_is g P
    rw [hwho] at hW
    clear hwho
    have hd : decide ((0 ≤ s ∧ s < (P.cnt : Int)) ∧ 0 ≤ a ∧ 0 ≤ (N : Int) ∧ (N : Int) ≤ 320 - a) = false := by simp only [decide_eq_false_iff_not]; exact hs
    unfold fsCells at hW
    go_enter Tryz.func60, Tryz.ntmps60
    go_wp2_with (first
      | (go_at_call 47; (with_reducible refine hh.out.mono ?_); rintro e w0 ⟨rfl, rfl⟩)
      | (go_at_call 46; (with_reducible refine hW.out.mono ?_); rintro e w1 ⟨rfl, H1⟩)
      | (go_at_call 64; refine (within_any _ _ _ _ _ _ _ _ hi1).mono ?_; rintro e w2 ⟨rfl, H2⟩; skip; rw [hd]))
    go_ret
    have b3 := behind H1 H2
    exact ⟨rfl, HF.out.kept b3, Only.of_below b3⟩
end Go.Proofs.YtklhmneapegfpaaGreatDoor

namespace Go.Proofs.YtklhmneapegfpaaGreatDoor
open Go.RowKit
set_option linter.unusedVariables false
set_option linter.unusedSimpArgs false

/-- A call answers a new row, its own. -/
def GivesO (zs : List Int) (w : World) (e : Ending) (w' : World) : Prop := ∃ v, e = .returned v ∧ Own w' w.heap.size v zs.length zs ∧ Below w.heap.size w w'
set_option maxRecDepth 100000 in
set_option maxHeartbeats 1000000 in
theorem read_own {T g m k : Nat} {S : Fs} (a n : Nat) (w : World) (h1 : 1 ≤ n) (h2 : a + n ≤ S.mem.length) (hf : Fl w T g m k S) : Calls Tryz.prog 48 #[.pointer (some ⟨g, 0, none⟩), .int .i64 (a : Int), .int .i64 (n : Int)] w (GivesO (read S a n) w) := by
  obtain ⟨c0, _⟩ := hf.cells
  have hN := hf.small
  have ha : I64 (a : Int) := ⟨by omega, by omega⟩
  have hfit : True := trivial
  rw [read_yes h1 h2]
  have hr := hf.bytes (a := a) (n := S.mem.length - a) (by omega)
  have hl : ((S.mem.drop a).take n).length = n := by rw [List.length_take, List.length_drop]; omega
  have e1 : ((S.mem.drop a).take (S.mem.length - a)) = S.mem.drop a := List.take_of_length_le (by rw [List.length_drop]; omega)
  rw [e1] at hr
  have hbt : Byt ((S.mem.drop a).take n) := byt_take (byt_drop hf.ok.byt _) _
  have WY := Lib.hid (within_yes g m S.mem.length a n w c0 (by omega) ha.2 (by omega) (by omega))
  have hmk := make_bytes n (by omega) w
  have hnew := has_new w 5 (zeroBytes n)
  have hr1 : Row (w.alloc (.cells (zeroBytes n) 5)) (some ⟨m, a, none⟩) (S.mem.length - a) (S.mem.drop a) := row_below ((Below.refl _ w).alloc (Nat.le_refl _) _) hr
  have hzs : (zeroBytes n).size = n := by simp [zeroBytes, nums_len]
  have c0' : (w.alloc (.cells (zeroBytes n) 5)).cell? ⟨g, 0, none⟩ = some (.slice (some ⟨m, 0, none⟩) S.mem.length S.mem.length) := by
    obtain ⟨_, _, _, _, _, x, _⟩ := hf
    exact (x.str.more _).at 0
  have HW := Lib.hid (show GivesO ((S.mem.drop a).take n) w (.returned (.slice (some ⟨w.heap.size, 0, none⟩) n n)) ((w.alloc (.cells (zeroBytes n) 5)).setRow w.heap.size ((zeroBytes n).toList.take 0 ++ (nums ((S.mem.drop a).take n) ++ (zeroBytes n).toList.drop (0 + n))).toArray) by
    refine ⟨_, rfl, ⟨⟨by rw [nums_len, hl]; omega, .inr ⟨w.heap.size, n, _, by rw [hl], Nat.le_refl _, setRow_heap _ _ _ _ _ _ hnew, by rw [hl]; exact Nat.le_refl _, by unfold maxLen; omega, ?_, ?_⟩⟩, hbt⟩, below_setRow ((Below.refl _ w).alloc (Nat.le_refl _) _) (Nat.le_refl _) _⟩
    · simp [nums_len, hl, hzs]
    · rw [hl]
      simp [nums_len, hl])
  have HM := Lib.hid (show Nat.min (S.mem.length - a) n = n from Nat.min_eq_right (by omega))
  have i0 : (0 : Int) ≤ (a : Int) := by omega
  have i1 : (a : Int) ≤ (S.mem.length : Int) := by omega
  have i2 : ¬ S.mem.length = a := by omega
  have i3 : (0 : Int) ≤ (n : Int) := by omega
  have h1i : ¬ (n : Int) < 1 := by omega
  have h1n : ¬ n < 1 := by omega
  clear hr hl e1 hbt hf hfit h1 h2
  go_enter Tryz.func48, Tryz.ntmps48
  go_wp2_with (first
    | (go_at_call 30; refine (there_any g _).mono ?_; rintro e w1 ⟨rfl, rfl⟩)
    | (go_at_call 71; refine WY.out.mono ?_; rintro e w1 ⟨rfl, rfl⟩)
    | (with_reducible refine wpList_cp rfl _ _ rfl n w.heap.size 0 n n rfl (some ⟨m, a, none⟩) _ _ rfl (S.mem.drop a) hr1 HM.out (zeroBytes n) 5 hnew (by omega) ?_))
  go_ret
  have F := HW.out
  simp only [List.take_zero, List.nil_append, Nat.zero_add] at F
  exact F

set_option maxRecDepth 100000 in
theorem read_nil (w : World) : Calls Tryz.prog 48 #[.pointer none, .int .i64 0, .int .i64 0] w fun e w' => e = .returned (.slice none 0 0) ∧ Below w.heap.size w w' := by
  have hth : Calls Tryz.prog 30 #[.pointer none] w fun e w' => (∃ b, e = .returned (.pointer (some ⟨b, 0, none⟩))) ∧ Below w.heap.size w w' := by
    go_enter Tryz.func30, Tryz.ntmps30
    go_wp2
    go_ret
    exact ⟨⟨_, rfl⟩, (Below.refl _ w).alloc (Nat.le_refl _) _⟩
  go_enter Tryz.func48, Tryz.ntmps48
  go_wp2_with (go_at_call 30; refine hth.mono ?_; rintro e w1 ⟨⟨b, rfl⟩, H1⟩)
  go_ret
  exact ⟨rfl, H1⟩
end Go.Proofs.YtklhmneapegfpaaGreatDoor

namespace Go.Proofs.YtklhmneapegfpaaGreatDoor
open Go.RowKit
set_option linter.unusedVariables false
set_option linter.unusedSimpArgs false

set_option maxRecDepth 100000 in
set_option maxHeartbeats 1000000 in
theorem ablank_any {T x g m k : Nat} {S : Fs} {P : Pt} (s : Int) (w : World) (ha : Ar w x g P) (hf : Fl w T g m k S) (hp : P.Ok S.wear.length) :
    Calls Tryz.prog 56 #[.pointer (some ⟨x, 0, none⟩), .int .i64 s] w fun e w' => e = .returned (.bool (aBlank S P s)) ∧ Below w.heap.size w w' := by
  have hh := Lib.hid (handed_any w ha)
  have hW := Lib.hid (whose_any g P w)
  have HA := Lib.hid ha
  have HF := Lib.hid hf
  clear ha hf
  unfold aBlank
  by_cases hs : P.has s
  · obtain ⟨q, rfl, hq⟩ := Pt.has_nat hs
    have hc : 0 < P.cnt := by omega
    rw [whoV_yes hc] at hW
    rw [if_pos hs]
    have hd : decide (0 ≤ (q : Int) ∧ (q : Int) < (P.cnt : Int)) = true := by simpa using hq
    have h1 := hp.in'
    have h2 := hp.few
    have q1 : IntKind.i64.wrap ((P.fst : Int) + (q : Int)) = (P.fst : Int) + (q : Int) := by rw [IntKind.wrap_i64]; omega
    clear hs
    unfold fsCells at hW
    go_enter Tryz.func56, Tryz.ntmps56
    go_wp2_with (first
      | (go_at_call 47; (with_reducible refine hh.out.mono ?_); rintro e w0 ⟨rfl, rfl⟩)
      | (go_at_call 46; (with_reducible refine hW.out.mono ?_); rintro e w1 ⟨rfl, H1⟩)
      | (go_at_call 75; refine (ahas_any _ _ _ _ _ _).mono ?_; rintro e w2 ⟨rfl, H2⟩; have hx := (has_new w1 68 (fsCells (.pointer (some ⟨g, 0, none⟩)) P.fst P.cnt P.bud)).kept H2; have HX := Lib.hid hx; have b2 := Lib.hid (behind H1 H2); obtain ⟨k0, k1, k2, k3⟩ := fs_cells hx; clear hx; rw [hd])
      | (go_at_call 76; refine (blank_any ((P.fst : Int) + (q : Int)) _ (HF.out.kept b2.out)).mono ?_; rintro e w3 ⟨rfl, rfl⟩))
    go_ret
    exact ⟨rfl, b2.out⟩
  · rw [if_neg hs]
    obtain ⟨F, f, b, hwho⟩ := who_is g P
    rw [hwho] at hW
    clear hwho
    have hd : decide (0 ≤ s ∧ s < (P.cnt : Int)) = false := by simp only [decide_eq_false_iff_not]; exact hs
    unfold fsCells at hW
    go_enter Tryz.func56, Tryz.ntmps56
    go_wp2_with (first
      | (go_at_call 47; (with_reducible refine hh.out.mono ?_); rintro e w0 ⟨rfl, rfl⟩)
      | (go_at_call 46; (with_reducible refine hW.out.mono ?_); rintro e w1 ⟨rfl, H1⟩)
      | (go_at_call 75; refine (ahas_any _ _ _ _ _ _).mono ?_; rintro e w2 ⟨rfl, H2⟩; skip; rw [hd]))
    go_ret
    exact ⟨rfl, behind H1 H2⟩
/-- So many wears lie behind the bytes. -/
def Digs (w : World) (S : Fs) (P : Pt) (rb pb base : Nat) (F : Value) (v4 v19 : Value) (wr : World) : Prop :=
  ∃ (s : Nat) (v : Value), v = v4 ∧ v19 = .int .i64 (s : Int) ∧ s ≤ P.cnt ∧ Own wr base v (P.cnt * 320 + 4 * s) (dSec S P P.cnt ++ dWear S P s) ∧ Has wr pb 68 (fsCells F P.fst P.cnt P.bud) ∧ Has wr rb 47 Sha.zero24 ∧ Below w.heap.size w wr ∧ base ≤ wr.heap.size
theorem Has.grew {w w' : World} {b N : Nat} {t : TypeId} {cs : Array Value} {r : Option Nat} (h : Has w b t cs) (hg : w.grownBy w' r) (hr : ∀ k, r = some k → N ≤ k) (hb : b < N) : Has w' b t cs :=
  (hg.block b h.size (fun e => by have := hr b e.symm; omega)).trans h
set_option maxRecDepth 100000 in
set_option maxHeartbeats 2000000 in
theorem adigest_any {T x g m k : Nat} {S : Fs} {P : Pt} (w : World) (ha : Ar w x g P) (hf : Fl w T g m k S) (hp : P.Ok S.wear.length) (hfew : Few S) (hops : S.ops ≤ 1000000) (ht : Sha.Tabs w) :
    Calls Tryz.prog 24 #[.pointer (some ⟨x, 0, none⟩)] w fun e w' => e = .returned (.agg (Sha.nums (aDig S P)).toArray) ∧ Below w.heap.size w w' := by
  have hz := Sha.zero24_run
  have hba : Below w.heap.size w (w.alloc (.cells Sha.zero24 47)) := (Below.refl _ _).alloc (Nat.le_refl _) _
  have hh := Lib.hid (handed_any _ (ha.kept hba))
  have hW := Lib.hid (whose_any g P (w.alloc (.cells Sha.zero24 47)))
  have hout := Lib.hid (has_new w 47 Sha.zero24)
  have HF := Lib.hid hf
  have HT := Lib.hid ht
  have HBA := Lib.hid hba
  have hok := hf.ok
  have hl := hok.len
  have h1 := hp.in'
  have h2 := hp.few
  have HDL := Lib.hid (dSec_len hok hp (Nat.le_refl P.cnt))
  have HDW := Lib.hid (dWear_len S P)
  have HSL := Lib.hid (show (aDig S P).length = 32 from rfl)
  clear ha hf ht hba
  by_cases hc : 0 < P.cnt
  · rw [whoV_yes hc] at hW
    have HRO := Lib.hid (fun W hW => read_own (P.fst * 320) (P.cnt * 320) W (by omega) (by omega) (HF.out.kept (w' := W) hW))
    rw [← dSec_all hok hp hc] at HRO
    have HPL := Lib.hid (fun W => place_any (.pointer (some ⟨g, 0, none⟩)) P.fst P.cnt P.bud 0 0 W ⟨by omega, by omega⟩ ⟨by omega, by omega⟩ ⟨by omega, by omega⟩)
    have ep : ((P.fst : Int) + 0) * 320 + 0 = ((P.fst * 320 : Nat) : Int) := by omega
    rw [ep] at HPL
    have em : IntKind.i64.wrap ((P.cnt : Int) * 320) = ((P.cnt * 320 : Nat) : Int) := by rw [IntKind.wrap_i64]; omega
    have HEM := Lib.hid em
    clear ep em
    unfold fsCells at hW
    go_enter Tryz.func24, Tryz.ntmps24
    go_wp2_with (first
      | (go_at_call 47; (with_reducible refine hh.out.mono ?_); rintro e w0 ⟨rfl, rfl⟩)
      | (go_at_call 46; (with_reducible refine hW.out.mono ?_); rintro e w1 ⟨rfl, H1⟩))
    have b2 := Lib.hid (show Below w.heap.size w (w1.alloc (.cells (fsCells (.pointer (some ⟨g, 0, none⟩)) P.fst P.cnt P.bud) 68)) from (HBA.out.trans (H1.mono HBA.out.size)).alloc (HBA.out.trans (H1.mono HBA.out.size)).size _)
    have HO := Lib.hid (show Has (w1.alloc (.cells (fsCells (.pointer (some ⟨g, 0, none⟩)) P.fst P.cnt P.bud) 68)) w.heap.size 47 Sha.zero24 from (hout.out.kept H1).more _)
    have HS6 := Lib.hid (show Has (w1.alloc (.cells (fsCells (.pointer (some ⟨g, 0, none⟩)) P.fst P.cnt P.bud) 68)) w1.heap.size 68 (fsCells (.pointer (some ⟨g, 0, none⟩)) P.fst P.cnt P.bud) from has_new w1 68 _)
    have hlt : w.heap.size < w1.heap.size := by have := H1.size; simp at this; omega
    unfold fsCells at b2 HO
    have HS6' := HS6.out
    unfold fsCells at HS6'
    generalize hpb : w1.heap.size = pb at *
    generalize hwc : w1.alloc (.cells #[.pointer (some ⟨g, 0, none⟩), .int .i64 (P.fst : Int), .int .i64 (P.cnt : Int), .int .i64 (P.bud : Int)] 68) = wc at *
    clear hh hW H1 hwc hpb
    have HS7 := Lib.hid (show Has wc.drew pb 68 (fsCells (.pointer (some ⟨g, 0, none⟩)) P.fst P.cnt P.bud) from HS6')
    have HO7 := Lib.hid (show Has wc.drew w.heap.size 47 Sha.zero24 from HO.out)
    have b7 := Lib.hid b2.out.drew
    clear HS6 HS6' HO b2
    refine wp_region_held_drew (S := fun W => Has W pb 68 (fsCells (.pointer (some ⟨g, 0, none⟩)) P.fst P.cnt P.bud)) (by kernel_rfl) HS7.out ?_
    intro _
    refine wpAnyH_take (i := 0) (v := .pointer (some ⟨pb, 0, none⟩)) rfl (by kernel_rfl) (by kernel_rfl) (by kernel_rfl) (fun _ _ _ h => h) (Or.inl ⟨by rfl, (fun W _ => by go_simp)⟩) HS7.out ?_
    simp only [List.getElem_toArray, List.getElem_cons_succ, List.getElem_cons_zero, Act.put, List.setIfInBounds_toArray, List.set_cons_zero, List.set_cons_succ]
    refine wpAnyH_take (i := 1) (v := .pointer (some ⟨g, 0, none⟩)) rfl (by kernel_rfl) (by kernel_rfl) (by kernel_rfl) (fun _ _ _ h => h) (Or.inl ⟨by rfl, (fun W hW => by obtain ⟨q0, q1, q2, q3⟩ := fs_cells hW; go_simp)⟩) HS7.out ?_
    simp only [List.getElem_toArray, List.getElem_cons_succ, List.getElem_cons_zero, Act.put, List.setIfInBounds_toArray, List.set_cons_zero, List.set_cons_succ]
    refine wpAnyH_take (i := 2) (v := .agg #[.pointer (some ⟨g, 0, none⟩), .int .i64 (P.fst : Int), .int .i64 (P.cnt : Int), .int .i64 (P.bud : Int)]) rfl (by kernel_rfl) (by kernel_rfl) (by kernel_rfl) (fun _ _ _ h => h) (Or.inl ⟨by rfl, (fun W hW => by obtain ⟨q0, q1, q2, q3⟩ := fs_cells hW; go_simp)⟩) HS7.out ?_
    simp only [List.getElem_toArray, List.getElem_cons_succ, List.getElem_cons_zero, Act.put, List.setIfInBounds_toArray, List.set_cons_zero, List.set_cons_succ]
    refine wpAnyH_take (i := 4) (v := .pointer (some ⟨pb, 2, none⟩)) rfl (by kernel_rfl) (by kernel_rfl) (by kernel_rfl) (fun _ _ _ h => h) (Or.inl ⟨by rfl, (fun W _ => by go_simp)⟩) HS7.out ?_
    simp only [List.getElem_toArray, List.getElem_cons_succ, List.getElem_cons_zero, Act.put, List.setIfInBounds_toArray, List.set_cons_zero, List.set_cons_succ]
    refine wpAnyH_take (i := 5) (v := .int .i64 (P.cnt : Int)) rfl (by kernel_rfl) (by kernel_rfl) (by kernel_rfl) (fun _ _ _ h => h) (Or.inl ⟨by rfl, (fun W hW => by obtain ⟨q0, q1, q2, q3⟩ := fs_cells hW; go_simp)⟩) HS7.out ?_
    simp only [List.getElem_toArray, List.getElem_cons_succ, List.getElem_cons_zero, Act.put, List.setIfInBounds_toArray, List.set_cons_zero, List.set_cons_succ]
    refine wpAnyH_take (i := 6) (v := .int .i64 ((P.cnt * 320 : Nat) : Int)) rfl (by kernel_rfl) (by kernel_rfl) (by kernel_rfl) (fun _ _ _ h => h) (Or.inl ⟨by rfl, (fun W hW => by have q9 := HEM.out; go_simp)⟩) HS7.out ?_
    simp only [List.getElem_toArray, List.getElem_cons_succ, List.getElem_cons_zero, Act.put, List.setIfInBounds_toArray, List.set_cons_zero, List.set_cons_succ]
    refine wpAnyH_ready (rs := [3]) (by kernel_rfl) (by simp) ?_
    refine AllReadyH.cons rfl (fun K hK => ?_) AllReadyH.nil
    go_simp
    refine (HPL.out _).mono ?_
    rintro e w3 ⟨rfl, H3⟩
    have HS8 := Lib.hid (HS7.out.kept H3)
    have HO8 := Lib.hid (HO7.out.kept H3)
    have b3 := Lib.hid (b7.out.trans (H3.mono b7.out.size))
    refine hK.out _ _ HS8.out (fun _ => ?_)
    clear hK K
    refine wpAnyH_ready (rs := [7]) (by kernel_rfl) (by simp) ?_
    refine AllReadyH.cons rfl (fun K hK => ?_) AllReadyH.nil
    go_simp
    refine (HRO.out w3 b3.out).mono ?_
    rintro e w4 ⟨v4, rfl, ho4, b4⟩
    have HS9 := Lib.hid (HS8.out.kept b4)
    have HO9 := Lib.hid (HO8.out.kept b4)
    have B9 := Lib.hid (b3.out.trans (b4.mono b3.out.size))
    refine hK.out _ _ HS9.out (fun _ => ?_)
    clear hK K
    refine wpAnyH_take (i := 8) (v := v4) rfl (by kernel_rfl) (by kernel_rfl) (by kernel_rfl) (fun _ _ _ h => h) (Or.inl ⟨by rfl, (fun W _ => by go_simp)⟩) HS9.out ?_
    simp only [List.getElem_toArray, List.getElem_cons_succ, List.getElem_cons_zero, Act.put, List.setIfInBounds_toArray, List.set_cons_zero, List.set_cons_succ]
    refine wpAnyH_done (by kernel_rfl) ?_ _
    have hpb3 : pb < w3.heap.size := HS8.out.size
    rw [HDL.out] at ho4
    have hst : Digs w S P w.heap.size pb w3.heap.size (.pointer (some ⟨g, 0, none⟩)) v4 (.int .i64 0) w4 :=
      ⟨0, v4, rfl, rfl, Nat.zero_le _, by simpa [dWear] using ho4, HS9.out, HO9.out, B9.out, b4.size⟩
    obtain ⟨k0, k1, k2, k3⟩ := fs_cells HS9.out
    generalize hbs : w3.heap.size = base at *
    clear ho4 b4 HS7 HS8 HS9 HO7 HO8 HO9 B9 b3 b7 HRO HPL H3 hbs
    go_wp2_with fail
    go_loopw [4, 19] (fun v4 v19 wr => Digs w S P w.heap.size pb base (.pointer (some ⟨g, 0, none⟩)) v4 v19 wr) (fun _ v19 _ => P.cnt - (intOf v19).toNat)
    case atStart => exact hst
    case round =>
      clear hst k0 k1 k2 k3
      obtain ⟨s, v, rfl, rfl, hs, ho, hP, hO, hb, hbs⟩ := hrel
      obtain ⟨Wz, rfl⟩ : ∃ x, x = wr := ⟨_, rfl⟩
      obtain ⟨k0, k1, k2, k3⟩ := fs_cells hP
      have s0 : (0 : Int) ≤ (s : Int) := by omega
      by_cases hlt : s < P.cnt
      · have s1 : (s : Int) < (P.cnt : Int) := by omega
        obtain ⟨A, c, rfl, hcap, hr, hA⟩ := ho.form
        clear hcap hr hA
        have q1 : IntKind.i64.wrap ((P.fst : Int) + (s : Int)) = (P.fst : Int) + (s : Int) := by rw [IntKind.wrap_i64]; omega
        have HWE := Lib.hid (wear_any ((P.fst : Int) + (s : Int)) Wz (HF.out.kept hb))
        have hword := wear_word hfew hops ((P.fst : Int) + (s : Int))
        have HDN := Lib.hid (show dWear S P (s + 1) = dWear S P s ++ Sha.bytes4 (wearAt S ((P.fst : Int) + (s : Int))) from rfl)
        generalize wearAt S ((P.fst : Int) + (s : Int)) = wv at *
        have q2 : IntKind.u32.wrap wv = wv := by rw [IntKind.wrap_u32]; omega
        have HBY := Lib.hid (Sha.bytes_any wv Wz hword)
        have hrw := Lib.hid (row_text Wz (Sha.bytes4 wv) (Sha.bytes4_bd hword) 4 rfl (0, 0))
        have hal : Below Wz.heap.size Wz (Wz.alloc (.cells ((Sha.bytes4 wv).map (Value.int .u8)).toArray 5)) := (Below.refl _ Wz).alloc (Nat.le_refl _) _
        have HOW := Lib.hid (ho.kept hal)
        have HPK := Lib.hid (hP.kept hal)
        have HOK := Lib.hid (hO.kept hal)
        have HBK := Lib.hid (hb.trans (hal.mono hb.size))
        have hbs2 : base ≤ (Wz.alloc (.cells ((Sha.bytes4 wv).map (Value.int .u8)).toArray 5)).heap.size := Nat.le_trans hbs hal.size
        clear ho hP hO hb hal
        go_wp2_with (first
          | (go_at_call 51; (with_reducible refine HWE.out.mono ?_); rintro e w8 ⟨rfl, rfl⟩)
          | (go_at_call 50; (with_reducible refine HBY.out.mono ?_); rintro e w8 ⟨rfl, rfl⟩)
          | (at_builtin; refine wpList_app rfl _ _ rfl base _ _ _ rfl HOW.out _ _ _ _ rfl hrw.out (fun h => by cases h) (by omega) hbs2 ?_; intro v6 w6 ho6 hg6))
        have hge := HOW.out.block
        have HP6 := Lib.hid (HPK.out.grew hg6 hge hpb3)
        have HO6 := Lib.hid (HOK.out.grew hg6 hge (by omega))
        have HB6 := Lib.hid (below_own HBK.out HOW.out hg6 (by omega) HBK.out.size)
        have hs6 : base ≤ w6.heap.size := Nat.le_trans hbs2 hg6.size
        rw [List.append_assoc, ← HDN.out] at ho6
        have HN6 := Lib.hid ho6
        clear ho6 hg6 hge
        go_roundw
        case rel => exact ⟨s + 1, _, rfl, by go_num, by omega, by rw [show P.cnt * 320 + 4 * (s + 1) = P.cnt * 320 + 4 * s + 4 by omega]; exact HN6.out, HP6.out, HO6.out, HB6.out, hs6⟩
        case measure => simp [intOf]; omega
      · obtain rfl : s = P.cnt := by omega
        obtain ⟨A, c, rfl, hcap, hr, hA⟩ := ho.form
        have HSM := Lib.hid (Sha.shaSum_any A _ c _ Wz (row_sha hr) hcap (HT.out.kept hb) (by omega))
        have HO9 := Lib.hid hO
        have HB9 := Lib.hid hb
        have HDE := Lib.hid (show Sha.shaI (dSec S P P.cnt ++ dWear S P P.cnt) = aDig S P from rfl)
        rw [HDE.out] at HSM
        obtain ⟨dig, hdig⟩ : ∃ d, aDig S P = d := ⟨_, rfl⟩
        rw [hdig] at HSM HSL
        have HDG := Lib.hid hdig
        clear hdig
        clear ho hP hO hb hr hA k0 k1 k2 k3
        go_wp2_with (first
          | (go_at_call 42; (with_reducible refine HSM.out.mono ?_); rintro e w9 ⟨rfl, H9⟩; have hO9 := HO9.out.kept H9; have hB9 := HB9.out.trans (H9.mono HB9.out.size))
          | (refine wpList_store_row rfl 47 _ _ rfl w.heap.size (Sha.nums dig).toArray rfl rfl 47 _ hO9 (Sha.size24 HSL.out) (by rw [Sha.zero24_size, List.size_toArray, Sha.nums_len, HSL.out]) (Sha.nums_all _) ?_))
        exact bodyPost_ret (results_cell_row rfl _ _ w.heap.size 47 (Sha.nums dig).toArray (0, 0) _ rfl (setRow_heap _ _ _ _ _ _ hO9) Tryz.underlying47 rfl (Sha.size24 HSL.out)) rfl ⟨by rw [HDG.out], below_setRow hB9 (Nat.le_refl _) _⟩
  · rw [whoV_no hc] at hW
    have hc0 : P.cnt = 0 := by omega
    have HE := Lib.hid (show aDig S P = Sha.shaI [] by unfold aDig dRow dSec; rw [hc0, Nat.zero_mul, List.take_zero]; rfl)
    have HPL := Lib.hid (fun W => place_any (.pointer none) 0 0 0 0 0 W ⟨by omega, by omega⟩ ⟨by omega, by omega⟩ ⟨by omega, by omega⟩)
    rw [show ((0 : Int) + 0) * 320 + 0 = 0 from rfl] at HPL
    rw [HE.out] at HSL ⊢
    have HSM := Lib.hid (fun W (hW : Below w.heap.size w W) => Sha.shaSum_any none 0 0 [] W (row_sha (row_nil W)) (Nat.le_refl _) (HT.out.kept hW) (by omega))
    generalize Sha.shaI [] = dig at *
    unfold fsCells at hW
    go_enter Tryz.func24, Tryz.ntmps24
    go_wp2_with (first
      | (go_at_call 47; (with_reducible refine hh.out.mono ?_); rintro e w0 ⟨rfl, rfl⟩)
      | (go_at_call 46; (with_reducible refine hW.out.mono ?_); rintro e w1 ⟨rfl, H1⟩))
    have b2 := Lib.hid (show Below w.heap.size w (w1.alloc (.cells (fsCells (.pointer none) 0 0 0) 68)) from (HBA.out.trans (H1.mono HBA.out.size)).alloc (HBA.out.trans (H1.mono HBA.out.size)).size _)
    have HO := Lib.hid (show Has (w1.alloc (.cells (fsCells (.pointer none) 0 0 0) 68)) w.heap.size 47 Sha.zero24 from (hout.out.kept H1).more _)
    have HS6 := Lib.hid (show Has (w1.alloc (.cells (fsCells (.pointer none) 0 0 0) 68)) w1.heap.size 68 (fsCells (.pointer none) 0 0 0) from has_new w1 68 _)
    have hlt : w.heap.size < w1.heap.size := by have := H1.size; simp at this; omega
    unfold fsCells at b2 HO
    have HS6' := HS6.out
    unfold fsCells at HS6'
    generalize hpb : w1.heap.size = pb at *
    generalize hwc : w1.alloc (.cells #[.pointer none, .int .i64 0, .int .i64 0, .int .i64 0] 68) = wc at *
    clear hh hW H1 hwc hpb
    have HS7 := Lib.hid (show Has wc.drew pb 68 (fsCells (.pointer none) 0 0 0) from HS6')
    have HO7 := Lib.hid (show Has wc.drew w.heap.size 47 Sha.zero24 from HO.out)
    have b7 := Lib.hid b2.out.drew
    clear HS6 HS6' HO b2
    refine wp_region_held_drew (S := fun W => Has W pb 68 (fsCells (.pointer none) 0 0 0)) (by kernel_rfl) HS7.out ?_
    intro _
    refine wpAnyH_take (i := 0) (v := .pointer (some ⟨pb, 0, none⟩)) rfl (by kernel_rfl) (by kernel_rfl) (by kernel_rfl) (fun _ _ _ h => h) (Or.inl ⟨by rfl, (fun W _ => by go_simp)⟩) HS7.out ?_
    simp only [List.getElem_toArray, List.getElem_cons_succ, List.getElem_cons_zero, Act.put, List.setIfInBounds_toArray, List.set_cons_zero, List.set_cons_succ]
    refine wpAnyH_take (i := 1) (v := .pointer none) rfl (by kernel_rfl) (by kernel_rfl) (by kernel_rfl) (fun _ _ _ h => h) (Or.inl ⟨by rfl, (fun W hW => by obtain ⟨q0, q1, q2, q3⟩ := fs_cells hW; go_simp)⟩) HS7.out ?_
    simp only [List.getElem_toArray, List.getElem_cons_succ, List.getElem_cons_zero, Act.put, List.setIfInBounds_toArray, List.set_cons_zero, List.set_cons_succ]
    refine wpAnyH_take (i := 2) (v := .agg #[.pointer none, .int .i64 0, .int .i64 0, .int .i64 0]) rfl (by kernel_rfl) (by kernel_rfl) (by kernel_rfl) (fun _ _ _ h => h) (Or.inl ⟨by rfl, (fun W hW => by obtain ⟨q0, q1, q2, q3⟩ := fs_cells hW; go_simp)⟩) HS7.out ?_
    simp only [List.getElem_toArray, List.getElem_cons_succ, List.getElem_cons_zero, Act.put, List.setIfInBounds_toArray, List.set_cons_zero, List.set_cons_succ]
    refine wpAnyH_take (i := 4) (v := .pointer (some ⟨pb, 2, none⟩)) rfl (by kernel_rfl) (by kernel_rfl) (by kernel_rfl) (fun _ _ _ h => h) (Or.inl ⟨by rfl, (fun W _ => by go_simp)⟩) HS7.out ?_
    simp only [List.getElem_toArray, List.getElem_cons_succ, List.getElem_cons_zero, Act.put, List.setIfInBounds_toArray, List.set_cons_zero, List.set_cons_succ]
    refine wpAnyH_take (i := 5) (v := .int .i64 0) rfl (by kernel_rfl) (by kernel_rfl) (by kernel_rfl) (fun _ _ _ h => h) (Or.inl ⟨by rfl, (fun W hW => by obtain ⟨q0, q1, q2, q3⟩ := fs_cells hW; go_simp)⟩) HS7.out ?_
    simp only [List.getElem_toArray, List.getElem_cons_succ, List.getElem_cons_zero, Act.put, List.setIfInBounds_toArray, List.set_cons_zero, List.set_cons_succ]
    refine wpAnyH_take (i := 6) (v := .int .i64 0) rfl (by kernel_rfl) (by kernel_rfl) (by kernel_rfl) (fun _ _ _ h => h) (Or.inl ⟨by rfl, (fun W hW => by have q9 : IntKind.i64.wrap 0 = 0 := rfl; go_simp)⟩) HS7.out ?_
    simp only [List.getElem_toArray, List.getElem_cons_succ, List.getElem_cons_zero, Act.put, List.setIfInBounds_toArray, List.set_cons_zero, List.set_cons_succ]
    refine wpAnyH_ready (rs := [3]) (by kernel_rfl) (by simp) ?_
    refine AllReadyH.cons rfl (fun K hK => ?_) AllReadyH.nil
    go_simp
    refine (HPL.out _).mono ?_
    rintro e w3 ⟨rfl, H3⟩
    have HS8 := Lib.hid (HS7.out.kept H3)
    have HO8 := Lib.hid (HO7.out.kept H3)
    have b3 := Lib.hid (b7.out.trans (H3.mono b7.out.size))
    refine hK.out _ _ HS8.out (fun _ => ?_)
    clear hK K
    refine wpAnyH_ready (rs := [7]) (by kernel_rfl) (by simp) ?_
    refine AllReadyH.cons rfl (fun K hK => ?_) AllReadyH.nil
    go_simp
    refine (read_nil w3).mono ?_
    rintro e w4 ⟨rfl, b4⟩
    have HS9 := Lib.hid (HS8.out.kept b4)
    have HO9 := Lib.hid (HO8.out.kept b4)
    have B9 := Lib.hid (b3.out.trans (b4.mono b3.out.size))
    refine hK.out _ _ HS9.out (fun _ => ?_)
    clear hK K
    refine wpAnyH_take (i := 8) (v := .slice none 0 0) rfl (by kernel_rfl) (by kernel_rfl) (by kernel_rfl) (fun _ _ _ h => h) (Or.inl ⟨by rfl, (fun W _ => by go_simp)⟩) HS9.out ?_
    simp only [List.getElem_toArray, List.getElem_cons_succ, List.getElem_cons_zero, Act.put, List.setIfInBounds_toArray, List.set_cons_zero, List.set_cons_succ]
    refine wpAnyH_done (by kernel_rfl) ?_ _
    obtain ⟨k0, k1, k2, k3⟩ := fs_cells HS9.out
    clear HS7 HS8 HO7 HO8 b3 b7 HPL H3 b4
    go_wp2_with fail
    go_loop [4, 19] (fun v4 v19 => v4 = .slice none 0 0 ∧ v19 = .int .i64 0) (fun _ _ => 0)
    case atStart => exact ⟨rfl, rfl⟩
    case round =>
      obtain ⟨rfl, rfl⟩ := hrel
      have HS2 := Lib.hid (HSM.out w4 B9.out)
      go_wp2_with (first
        | (go_at_call 42; (with_reducible refine HS2.out.mono ?_); rintro e w9 ⟨rfl, H9⟩; have hO9 := HO9.out.kept H9; have hB9 := B9.out.trans (H9.mono B9.out.size))
        | (refine wpList_store_row rfl 47 _ _ rfl w.heap.size (Sha.nums dig).toArray rfl rfl 47 _ hO9 (Sha.size24 HSL.out) (by rw [Sha.zero24_size, List.size_toArray, Sha.nums_len, HSL.out]) (Sha.nums_all _) ?_))
      exact bodyPost_ret (results_cell_row rfl _ _ w.heap.size 47 (Sha.nums dig).toArray (0, 0) _ rfl (setRow_heap _ _ _ _ _ _ hO9) Tryz.underlying47 rfl (Sha.size24 HSL.out)) rfl ⟨rfl, below_setRow hB9 (Nat.le_refl _) _⟩
end Go.Proofs.YtklhmneapegfpaaGreatDoor
