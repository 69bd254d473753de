/-
  Which versions may come, and what the least one is from then on: the program's answers and the document's; conditions: as each states.
-/
import Derived.Test.YtjljciimppmlnaaVe
import Derived.BigQuiet
import Derived.Laws.CopyOwn
namespace Go.Proofs.Ytjljciimppmlnaa
open Go.RowKit
set_option linter.unusedVariables false
set_option linter.unusedSimpArgs false

theorem not_agg3 (w : World) : (isAgg 3).run Try.prog w = .ok false w := by unfold isAgg; rw [Sem.run_bind, run_underlying Try.underlying3 w]; rfl
theorem part_int (k : Nat) (cs : Array Value) (x : Int) (h : cs[k]? = some (.int .i64 x)) (w : World) : (part 3 cs k).run Try.prog w = .ok (.int .i64 x) w := by
  unfold part
  rw [Sem.run_bind, not_agg3]
  simp [h]
theorem field_ver (i : Im) : ∀ W : World, (Instr.field 24 (.agg i.cells) 0).run Try.prog W = .ok (.int .i64 i.ver) W := by
  intro W
  unfold Instr.field
  rw [Sem.run_bind, run_underlying Try.underlying24 W]
  exact part_int 0 i.cells i.ver rfl W
theorem confirm_any (m : Mt) (w : World) (hm : m.Ok) : Calls Try.prog 8 #[.agg m.cells] w fun e w' => e = .returned (.int .i64 (confN m)) ∧ Below w.heap.size w w' := by
  have hb : Below w.heap.size w (w.alloc (.cells m.cells 27)) := (Below.refl _ _).alloc (Nat.le_refl _) _
  have H0 := has_new w 27 m.cells
  have L0 := ld27 H0 hm
  have HW := Lib.hid (wait_any m (w.alloc (.cells m.cells 27)) hm)
  have f0 := field_ver m.oth
  have EF : Hid (confN m = if m.oth.ver ≤ 0 then m.least else if m.least < m.oth.ver then m.oth.ver else m.least) := Lib.hid rfl
  obtain ⟨o, ho⟩ : ∃ o, m.oth = o := ⟨_, rfl⟩
  rw [ho] at HW f0 EF
  obtain ⟨cn, hcn⟩ : ∃ x, confN m = x := ⟨_, rfl⟩
  rw [hcn] at EF ⊢
  clear ho hcn
  by_cases h1 : o.ver ≤ 0
  · have E := Lib.hid (EF.out.trans (if_pos h1))
    clear EF
    go_enter Try.func8, Try.ntmps8
    go_wp2_with (first
      | (refine wpList_ld 27 _ rfl _ _ L0 rfl rfl ?_)
      | (go_at_call 10; (with_reducible refine HW.out.mono ?_); rintro e w1 ⟨rfl, b1⟩; clear HW L0; have c1 := hb.trans (b1.mono hb.size); have c69 := (seen_of (H0.kept b1) hm).least))
    go_ret
    exact ⟨ret_int E.out.symm, c1⟩
  · by_cases h2 : m.least < o.ver
    · have E := Lib.hid (EF.out.trans ((if_neg h1).trans (if_pos h2)))
      clear EF
      go_enter Try.func8, Try.ntmps8
      go_wp2_with (first
        | (refine wpList_ld 27 _ rfl _ _ L0 rfl rfl ?_)
        | (go_at_call 10; (with_reducible refine HW.out.mono ?_); rintro e w1 ⟨rfl, b1⟩; clear HW L0; have c1 := hb.trans (b1.mono hb.size); have c69 := (seen_of (H0.kept b1) hm).least))
      go_ret
      exact ⟨ret_int (by rw [E.out]), c1⟩
    · have E := Lib.hid (EF.out.trans ((if_neg h1).trans (if_neg h2)))
      clear EF
      go_enter Try.func8, Try.ntmps8
      go_wp2_with (first
        | (refine wpList_ld 27 _ rfl _ _ L0 rfl rfl ?_)
        | (go_at_call 10; (with_reducible refine HW.out.mono ?_); rintro e w1 ⟨rfl, b1⟩; clear HW L0; have c1 := hb.trans (b1.mono hb.size); have c69 := (seen_of (H0.kept b1) hm).least))
      go_ret
      exact ⟨ret_int (by rw [E.out]), c1⟩
theorem i64_two : I64 2 := by unfold I64; omega
theorem alive_any (w : World) : Calls Try.prog 5 #[] w fun e w' => e = .returned (.bool true) ∧ Below w.heap.size w w' := by
  have hz27 := zero27_run
  have HA := Lib.hid (may_any zeroT 1 w zeroT_ok)
  rw [show mayV zeroT 1 = true by decide] at HA
  have ok2 : Mt.Ok { zeroT with least := 2 } := ⟨zeroI_ok, zeroI_ok, zeroI_ok, i64_zero, i64_two, i64_zero, i64_zero, i64_zero⟩
  have HC : Hid (∀ w1 : World, Calls Try.prog 6 #[.agg (zeroT.cells.setIfInBounds 69 (.int .i64 2)), .int .i64 1] w1 fun e w' => e = .returned (.bool false) ∧ Below w1.heap.size w1 w') := Lib.hid (fun w1 => by
    have := may_any _ 1 w1 ok2
    rwa [← mt_set69 2 zeroT_ok] at this)
  clear ok2
  go_enter Try.func5, Try.ntmps5
  go_wp2_with (first
    | (refine wpList_build_to rfl 27 _ rfl _ built27 ?_)
    | (go_at_call 6; (with_reducible refine HA.out.mono ?_); rintro e w1 ⟨rfl, b1⟩; clear HA; have HB := Lib.hid (HC.out w1))
    | (go_at_call 6; (with_reducible refine HB.out.mono ?_); rintro e w2 ⟨rfl, b2⟩; have c2 := b1.trans (b2.mono b1.size)))
  go_ret
  exact ⟨rfl, c2⟩
end Go.Proofs.Ytjljciimppmlnaa
