/-
  Two hashes compared in a region; conditions: none.
-/
import Derived.Test.YtklhmneapegfpaaGreatDoorPa
import Derived.Deep.RegionHeld3
namespace Go.Proofs.YtklhmneapegfpaaGreatDoor
open Go.RowKit
set_option linter.unusedVariables false
set_option linter.unusedSimpArgs false

theorem yields_neq32 {ops : Array Oper} {S : World → Prop} {o : Oper} {a : Act} (hw : Region.wanted o (yielded ops a.tmps) = true) (x y : Operand) (ho : o.op = .binOp .neq 47 x y 47) (zs : List Int) (hl : zs.length = 32) (hx : a.eval x = .agg (Sha.nums zs).toArray) (hy : a.eval y = .agg (Sha.nums zs).toArray) :
    YieldsIf Tryz.prog ops S o (.bool false) a :=
  Or.inl ⟨hw, fun W hW => by
    have h1 := run_eqGuard_agg (P := Tryz.prog) W .neq 47 x y (Sha.nums zs).toArray (Sha.nums zs).toArray (by kernel_rfl)
    have h2 := run_neq_struct (P := Tryz.prog) W 47 (Sha.nums zs).toArray (Sha.nums zs).toArray
    rw [Sha.eq24 zs hl W] at h2
    unfold execOp
    simp only [ho, hx, hy, Sem.run_bind, h1, Result.andThen_ok]
    simp [h1, h2]⟩
/-- An append of a drawn region whose run is known. -/
theorem step_run {w : World} {ops : Array Oper} {o : Oper} {a : Act} {K : Act → World → Prop} {Q : Exit → Act → World → Prop} {E : Prop} (hw : Region.wanted o (yielded ops a.tmps) = true) (s x : Operand)
    (ho : o.op = .call { callee := .builtin .append, args := #[s, x], argTypes := #[34, 34] }) (t : TypeId) (hty : o.type = t) (v u v' : Value) (hs : a.eval s = v) (hx : a.eval x = u) {w' : World}
    (hrun : (Builtin.append_ #[34, 34] t #[v, u]).run Tryz.prog w = .ok v' w') (h : K (a.put o.dst v') w') :
    if Region.wanted o (yielded ops a.tmps) = true then Oper.wp Tryz.prog o a w K Q else E := by
  rw [if_pos hw]
  unfold Oper.wp execOp
  simp only [ho, hty, resolve, invoke, builtin, Sem.run_bind, Sem.run_pure, Result.andThen_ok, List.map_toArray, List.map_cons, List.map_nil, hs, hx, hrun]
  exact h
end Go.Proofs.YtklhmneapegfpaaGreatDoor
