/-
  May it be kept? The program's own answer; conditions: the digests are of 32 bytes, the numbers of 64 bits.
-/
import Derived.Test.YthkgbcchnneloaaSl
import Derived.Deep.RegionHeld3
namespace Go.Proofs.Ythkgbcchnneloaa
open Go.RowKit
set_option linter.unusedVariables false
set_option linter.unusedSimpArgs false

set_option maxRecDepth 100000 in
theorem canCome_any (m : Mt) (o : Im) (w : World) (hm : m.Ok) (ho : o.Ok) : Calls Try.prog 41 #[.agg m.cells, .agg o.cells] w fun e w' => e = .returned (.bool (canB m o)) ∧ Below w.heap.size w w' := by
  have ba : Below w.heap.size w (w.alloc (.cells m.cells 27)) := (Below.refl _ _).alloc (Nat.le_refl _) _
  have hb : Below w.heap.size w ((w.alloc (.cells m.cells 27)).alloc (.cells o.cells 24)) := ba.alloc ba.size _
  have hh : Has ((w.alloc (.cells m.cells 27)).alloc (.cells o.cells 24)) w.heap.size 27 m.cells := (has_new w 27 m.cells).more _
  have ho0 := has_new (w.alloc (.cells m.cells 27)) 24 o.cells
  rw [World.size_alloc] at ho0
  have S0 := seen_of hh hm
  have HI := Lib.hid (isOne_any m.com ((w.alloc (.cells m.cells 27)).alloc (.cells o.cells 24)))
  unfold canB
  cases e1 : decide (m.com.ver ≠ 0) with
  | false =>
    rw [e1] at HI
    clear e1
    go_enter Try.func41, Try.ntmps41
    go_wp2_with (first
      | (refine wpList_ld 24 _ rfl _ _ S0.l2 rfl rfl ?_)
      | (go_at_call 40; (with_reducible refine HI.out.mono ?_); rintro e w1 ⟨rfl, b1⟩; clear HI; have c1 := hb.trans (b1.mono hb.size); have h1 := hh.kept b1; have o1 := ho0.kept b1; have S1 := ld24w o1 ho; have HJ := Lib.hid (isOne_any o w1)))
    go_ret
    exact ⟨rfl, c1⟩
  | true =>
    rw [e1] at HI
    clear e1
    cases e2 : decide (o.ver ≠ 0) with
    | true =>
      rw [show decide (¬ o.ver ≠ 0) = false from decide_eq_false (fun h => h (of_decide_eq_true e2))]
      have E2 := Lib.hid e2
      clear e2
      go_enter Try.func41, Try.ntmps41
      go_wp2_with (first
        | (refine wpList_ld 24 _ rfl _ _ S0.l2 rfl rfl ?_)
        | (go_at_call 40; (with_reducible refine HI.out.mono ?_); rintro e w1 ⟨rfl, b1⟩; clear HI; have c1 := hb.trans (b1.mono hb.size); have h1 := hh.kept b1; have o1 := ho0.kept b1; have S1 := ld24w o1 ho; have HJ := Lib.hid (isOne_any o w1); rw [E2.out] at HJ)
        | (refine wpList_ld 24 _ rfl _ _ S1 rfl rfl ?_)
        | (go_at_call 40; (with_reducible refine HJ.out.mono ?_); rintro e w2 ⟨rfl, b2⟩; clear HJ; have c2 := c1.trans (b2.mono c1.size)))
      go_ret
      exact ⟨rfl, c2⟩
    | false =>
      rw [show decide (¬ o.ver ≠ 0) = true from decide_eq_true (of_decide_eq_false e2)]
      have E2 := Lib.hid e2
      clear e2
      go_enter Try.func41, Try.ntmps41
      go_wp2_with (first
        | (refine wpList_ld 24 _ rfl _ _ S0.l2 rfl rfl ?_)
        | (go_at_call 40; (with_reducible refine HI.out.mono ?_); rintro e w1 ⟨rfl, b1⟩; clear HI; have c1 := hb.trans (b1.mono hb.size); have h1 := hh.kept b1; have o1 := ho0.kept b1; have S1 := ld24w o1 ho; have HJ := Lib.hid (isOne_any o w1); rw [E2.out] at HJ)
        | (refine wpList_ld 24 _ rfl _ _ S1 rfl rfl ?_)
        | (go_at_call 40; (with_reducible refine HJ.out.mono ?_); rintro e w2 ⟨rfl, b2⟩; clear HJ; have c2 := c1.trans (b2.mono c1.size); have q2 := (seen_of (h1.kept b2) hm).trials))
      go_ret
      exact ⟨ret_bool (by by_cases e : m.trials = 0 <;> simp [e]), c2⟩
end Go.Proofs.Ythkgbcchnneloaa
