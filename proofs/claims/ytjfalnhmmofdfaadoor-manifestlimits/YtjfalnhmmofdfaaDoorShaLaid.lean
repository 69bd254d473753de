/-
  What the laid tables give the walks; two hashes that are the same compare so; conditions: as each states.
-/
import Derived.Test.YtjfalnhmmofdfaaDoorShaAlive
import Derived.Test.YtjfalnhmmofdfaaDoorTie
import Derived.ProofKit
import Derived.LaidMore
import Derived.Lay
import Derived.OpenShut
import Derived.Stop.Joined
import Derived.Stop.LaidErr
import Derived.Lib.LaidTab
import Derived.ChangeKeysEq
import Derived.ShutString
import Derived.ChangeOld
import Derived.Carry
namespace Go.Proofs.YtjfalnhmmofdfaaDoor.Sha
open Go.ChangeShapes Go.WideShapes Go.ChangeAt Go.RowKit
set_option linter.unusedVariables false
set_option linter.unusedSimpArgs false

theorem own : ownKnob Tryd.prog.godebug = none := by kernel_rfl
theorem laidOut : laidOutB Tryd.prog = true := by kernel_rfl
def laid2 : List (String × DataW Unit) := Rows.manifestTellsRow.laid
def nm0 : String := (laid2.map (·.1)).getD 1 default
def nm1 : String := (laid2.map (·.1)).getD 2 default
theorem gFirst : Tryd.prog.globalNamed nm0 = some 0 := by kernel_rfl
theorem gConst : Tryd.prog.globalNamed nm1 = some 1 := by kernel_rfl
theorem tFirst : (Tryd.prog.globals[0]?).map (·.type) = some 97 := by kernel_rfl
theorem tConst : (Tryd.prog.globals[1]?).map (·.type) = some 112 := by kernel_rfl
theorem cells44 : Tryd.prog.cellsOf 96 = 1 := by kernel_rfl
theorem cells45 : Tryd.prog.cellsOf 97 = 8 := by kernel_rfl
theorem cells61 : Tryd.prog.cellsOf 112 = 64 := by kernel_rfl
def firstL : List Int := [st0.a, st0.b, st0.c, st0.d, st0.e, st0.f, st0.g, st0.h]
theorem laid_form : ∃ x y, laid2 = [x, (nm0, Lib.tabData .u32 firstL), (nm1, Lib.tabData .u32 constL), y] := ⟨_, _, rfl⟩
theorem tabs_of_laid {W : World} (h : laidMetH Tryd.prog laid2 W) : Tabs W := by
  obtain ⟨x, y, e⟩ := laid_form
  rw [MakeChecks.laidMetH_plain _ _ _ (by kernel_rfl), e] at h
  replace h := h.tail
  have h1 := Lib.tabIs_of_head gFirst tFirst Tryd.underlying97 Tryd.underlying96 cells44 cells45 h
  have h2 := Lib.tabIs_of_head gConst tConst Tryd.underlying112 Tryd.underlying96 cells44 cells61 h.tail
  have c := fun i (hi : i < 8) => h1.cell gFirst i hi
  have d := fun i (hi : i < 64) => h2.cell gConst i hi
  exact ⟨World.block_lt_of_cell? W ⟨1, 0, none⟩ (d 0 (by omega)), d, c 0 (by omega), c 1 (by omega), c 2 (by omega), c 3 (by omega), c 4 (by omega), c 5 (by omega), c 6 (by omega), c 7 (by omega)⟩
/-- The witness's world bears the laid tables. -/
theorem lay_met (os : Os) (args : Array Value) : laidMetH Tryd.prog laid2 ((World.laidAll Tryd.prog os laid2).forCall (fun _ _ => 0) ⟨#[], args, []⟩).memory := by
  rw [MakeChecks.laidMetH_plain _ _ _ (by kernel_rfl)]; exact laidMet_laidAll _ (by kernel_rfl) (by kernel_rfl)

theorem eqItems_same (zs : List Int) (w : World) : ∀ is : List Nat, (∀ i ∈ is, i < zs.length) → (Op.eqItems 9999 5 1 (nums zs).toArray (nums zs).toArray is).run Tryd.prog w = .ok true w
  | [], _ => by simp [Op.eqItems]
  | i :: is, h => by
    have hi : i < zs.length := h i (by simp)
    have hp : (part 5 (nums zs).toArray (i * 1)).run Tryd.prog w = .ok (.int .u8 zs[i]) w := by
      have hc : (nums zs).toArray[i]? = some (.int .u8 zs[i]) := by simp [nums, hi]
      simp [part, go_sem, hc]
    have he : (Op.equalIn 9999 5 (.int .u8 zs[i]) (.int .u8 zs[i])).run Tryd.prog w = .ok true w := by
      rw [run_equalIn_int w 9998 5 .u8 .u8 _ _ Tryd.underlying5]; simp
    simp only [Op.eqItems, Sem.run_bind, hp, Result.andThen_ok, he, Bool.not_true, Bool.false_eq_true, if_false]
    exact eqItems_same zs w is (fun j hj => h j (by simp [hj]))
/-- A hash is the same as itself. -/
theorem eq24 (zs : List Int) (h : zs.length = 32) (w : World) : (Op.equalIn 10000 23 (.agg (nums zs).toArray) (.agg (nums zs).toArray)).run Tryd.prog w = .ok true w := by
  obtain ⟨i, hi, _, _, _⟩ := info_parts info5
  rw [run_equalIn_array w 9999 (nums zs).toArray (nums zs).toArray Tryd.underlying23 hi, show Tryd.prog.cellsOf 5 = 1 by kernel_rfl]
  exact eqItems_same zs w _ (fun i hi => by rw [h]; exact List.mem_range.1 hi)

/-- What is told of a slice of bytes that came in. -/
def IsRow (k : IntKind) (w : World) (a : Option Addr) (len cap : Nat) (zs : List Int) : Prop :=
  (a = none ∧ len = 0 ∧ cap = 0 ∧ zs = []) ∨
  ∃ x, a = some x ∧ len ≤ cap ∧ cap ≤ maxLen ∧ zs.length = cap ∧ (∀ i, i < zs.length → w.cell? (x.add i) = some (.int k (zs.getD i 0))) ∧ ∀ n ∈ zs, (Lit.int k n).wf = true
theorem row_of {w : World} {a : Option Addr} {len cap : Nat} {zs : List Int} (h : IsRow .u8 w a len cap zs) : Row w a len (zs.take len) ∧ len ≤ cap := by
  rcases h with ⟨rfl, rfl, rfl, rfl⟩ | ⟨x, rfl, hlc, hm, hz, hc, hwf⟩
  · exact ⟨⟨rfl, fun n hn => by simp at hn, .inl rfl⟩, Nat.le_refl _⟩
  · refine ⟨⟨by simp; omega, fun n hn => bounds_u8 (hwf n (List.mem_of_mem_take hn)), ?_⟩, hlc⟩
    by_cases h0 : len = 0
    · exact .inl h0
    · obtain ⟨b, off, rfl, hcell⟩ := ints_at hc (by omega)
      refine .inr ⟨b, off, rfl, ?_, fun j hj => ?_⟩
      · have := hcell 0 (by omega)
        exact World.block_lt_of_cell? _ _ this
      · rw [hcell j (by omega)]
        simp [List.getD_eq_getElem?_getD, hj]
end Go.Proofs.YtjfalnhmmofdfaaDoor.Sha
