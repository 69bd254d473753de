/-
  What the laid tables give the walks; two hashes that are the same compare so; conditions: as each states.
-/
import Derived.Test.YtklhmneapegfpaaGreatDoorShaAlive
import Derived.Test.YtklhmneapegfpaaGreatDoorTie
import Derived.ProofKit
import Derived.LaidMore
import Derived.OpenShut
import Derived.Stop.Joined
import Derived.Stop.LaidErr
import Derived.Lib.LaidTab
import Derived.ChangeKeysEq
import Derived.ShutString
import Derived.ChangeOld
import Derived.Carry
namespace Go.Proofs.YtklhmneapegfpaaGreatDoor.Sha
open Go.ChangeShapes Go.WideShapes Go.ChangeAt Go.RowKit
set_option linter.unusedVariables false
set_option linter.unusedSimpArgs false

theorem own : ownKnob Tryz.prog.godebug = none := by kernel_rfl
theorem laidOut : laidOutB Tryz.prog = true := by kernel_rfl
def laid2 : List (String × DataW Unit) := Rows.slotPlaysRow.laid
def nm0 : String := (laid2.map (·.1)).getD 0 default
def nm1 : String := (laid2.map (·.1)).getD 1 default
theorem gFirst : Tryz.prog.globalNamed nm0 = some 0 := by kernel_rfl
theorem gConst : Tryz.prog.globalNamed nm1 = some 2 := by kernel_rfl
theorem tFirst : (Tryz.prog.globals[0]?).map (·.type) = some 92 := by kernel_rfl
theorem tConst : (Tryz.prog.globals[2]?).map (·.type) = some 113 := by kernel_rfl
theorem cells44 : Tryz.prog.cellsOf 87 = 1 := by kernel_rfl
theorem cells45 : Tryz.prog.cellsOf 92 = 8 := by kernel_rfl
theorem cells61 : Tryz.prog.cellsOf 113 = 64 := by kernel_rfl
def firstL : List Int := [st0.a, st0.b, st0.c, st0.d, st0.e, st0.f, st0.g, st0.h]
theorem laid_form : laid2 = [(nm0, Lib.tabData .u32 firstL), (nm1, Lib.tabData .u32 constL)] := rfl
theorem tabs_of_laid {W : World} (h : laidMetH Tryz.prog laid2 W) : Tabs W := by
  rw [MakeChecks.laidMetH_plain _ _ _ (by kernel_rfl), laid_form] at h
  have h1 := Lib.tabIs_of_head gFirst tFirst Tryz.underlying92 Tryz.underlying87 cells44 cells45 h
  have h2 := Lib.tabIs_of_head gConst tConst Tryz.underlying113 Tryz.underlying87 cells44 cells61 h.tail
  have c := fun i (hi : i < 8) => h1.cell gFirst i hi
  have d := fun i (hi : i < 64) => h2.cell gConst i hi
  exact ⟨World.block_lt_of_cell? W ⟨2, 0, none⟩ (d 0 (by omega)), d, c 0 (by omega), c 1 (by omega), c 2 (by omega), c 3 (by omega), c 4 (by omega), c 5 (by omega), c 6 (by omega), c 7 (by omega)⟩
set_option maxRecDepth 100000 in
theorem door_met (os : Os) (args : Array Value) : laidMetH Tryz.prog laid2 ((World.doorLaid Tryz.prog 400 os).forCall (fun _ _ => 0) ⟨#[], args, []⟩).memory :=
  laidMetH_of_parts3 (fuel := 8) (laidMet_of_run' 8 (by kernel_rfl) (by kernel_rfl)) (by kernel_rfl) (by kernel_rfl)

theorem eqItems_same (zs : List Int) (w : World) : ∀ is : List Nat, (∀ i ∈ is, i < zs.length) → (Op.eqItems 9999 5 1 (nums zs).toArray (nums zs).toArray is).run Tryz.prog w = .ok true w
  | [], _ => by simp [Op.eqItems]
  | i :: is, h => by
    have hi : i < zs.length := h i (by simp)
    have hp : (part 5 (nums zs).toArray (i * 1)).run Tryz.prog w = .ok (.int .u8 zs[i]) w := by
      have hc : (nums zs).toArray[i]? = some (.int .u8 zs[i]) := by simp [nums, hi]
      simp [part, go_sem, hc]
    have he : (Op.equalIn 9999 5 (.int .u8 zs[i]) (.int .u8 zs[i])).run Tryz.prog w = .ok true w := by
      rw [run_equalIn_int w 9998 5 .u8 .u8 _ _ Tryz.underlying5]; simp
    simp only [Op.eqItems, Sem.run_bind, hp, Result.andThen_ok, he, Bool.not_true, Bool.false_eq_true, if_false]
    exact eqItems_same zs w is (fun j hj => h j (by simp [hj]))
/-- A hash is the same as itself. -/
theorem eq24 (zs : List Int) (h : zs.length = 32) (w : World) : (Op.equalIn 10000 47 (.agg (nums zs).toArray) (.agg (nums zs).toArray)).run Tryz.prog w = .ok true w := by
  obtain ⟨i, hi, _, _, _⟩ := info_parts info5
  rw [run_equalIn_array w 9999 (nums zs).toArray (nums zs).toArray Tryz.underlying47 hi, show Tryz.prog.cellsOf 5 = 1 by kernel_rfl]
  exact eqItems_same zs w _ (fun i hi => by rw [h]; exact List.mem_range.1 hi)

/-- What is told of a slice of bytes that came in. -/
def IsRow (k : IntKind) (w : World) (a : Option Addr) (len cap : Nat) (zs : List Int) : Prop :=
  (a = none ∧ len = 0 ∧ cap = 0 ∧ zs = []) ∨
  ∃ x, a = some x ∧ len ≤ cap ∧ cap ≤ maxLen ∧ zs.length = cap ∧ (∀ i, i < zs.length → w.cell? (x.add i) = some (.int k (zs.getD i 0))) ∧ ∀ n ∈ zs, (Lit.int k n).wf = true
theorem row_of {w : World} {a : Option Addr} {len cap : Nat} {zs : List Int} (h : IsRow .u8 w a len cap zs) : Row w a len (zs.take len) ∧ len ≤ cap := by
  rcases h with ⟨rfl, rfl, rfl, rfl⟩ | ⟨x, rfl, hlc, hm, hz, hc, hwf⟩
  · exact ⟨⟨rfl, fun n hn => by simp at hn, .inl rfl⟩, Nat.le_refl _⟩
  · refine ⟨⟨by simp; omega, fun n hn => bounds_u8 (hwf n (List.mem_of_mem_take hn)), ?_⟩, hlc⟩
    by_cases h0 : len = 0
    · exact .inl h0
    · obtain ⟨b, off, rfl, hcell⟩ := ints_at hc (by omega)
      refine .inr ⟨b, off, rfl, ?_, fun j hj => ?_⟩
      · have := hcell 0 (by omega)
        exact World.block_lt_of_cell? _ _ this
      · rw [hcell j (by omega)]
        simp [List.getD_eq_getElem?_getD, hj]
end Go.Proofs.YtklhmneapegfpaaGreatDoor.Sha
