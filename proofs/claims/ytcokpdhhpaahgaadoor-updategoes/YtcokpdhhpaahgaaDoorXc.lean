/-
  What the document says may not be kept: its chunks, its trials; conditions: the digests are of 32 bytes.
-/
import Derived.Test.YtcokpdhhpaahgaaDoorMMt
namespace Go.Proofs.YtcokpdhhpaahgaaDoor
open Go.RowKit
set_option linter.unusedVariables false
set_option linter.unusedSimpArgs false

set_option maxRecDepth 100000 in
set_option maxHeartbeats 4000000 in
theorem doc_not9 (m : Mt) (w : World) (hm : m.Ok) (n1 : ¬ m.act < 0) (n2 : ¬ 1 < m.act) (n3 : okI m.h0 = true) (n4 : okI m.h1 = true) (n5 : (m.own.ver == 0) = false) (n6 : ¬ m.least < 0) (n7 : ¬ 1073741824 < m.least) (n8 : ¬ m.gott < 0) (n9 : 6 < m.gott) : Calls Tryd.prog 16 #[.agg m.cells] w fun e w' => e = .returned (.bool false) ∧ Below w.heap.size w w' := by
  have C0 : Hid (Below w.heap.size w (w.alloc (.cells m.cells 27))) := Lib.hid ((Below.refl _ _).alloc (Nat.le_refl _) _)
  have H0 := Lib.hid (has_new w 27 m.cells)
  have S0 := Lib.hid (seen_of H0.out hm)
  have q0 := S0.out.act
  obtain ⟨kk, hk, hk2⟩ : ∃ kk : Nat, m.act = (kk : Int) ∧ kk < 2 := ⟨m.act.toNat, by omega, by omega⟩
  have KA := Lib.hid hk
  have i0 : (0 : Int) ≤ (kk : Int) := by omega
  have i1 : (kk : Int) < 2 := by omega
  rw [hk] at n1 n2 q0
  clear hk
  have d1 : decide ((kk : Int) < 0) = false := decide_eq_false n1
  have d2 : decide (1 < (kk : Int)) = false := decide_eq_false n2
  have d6 : decide (m.least < 0) = false := decide_eq_false n6
  have d7 : decide (1073741824 < m.least) = false := decide_eq_false n7
  have d8 : decide (m.gott < 0) = false := decide_eq_false n8
  have d9 : decide (6 < m.gott) = true := decide_eq_true n9
  have HX3 : Hid (Calls Tryd.prog 34 #[.agg m.h0.cells, .bool false] (w.alloc (.cells m.cells 27)) _) := Lib.hid (image_one m.h0 _ hm.h0)
  rw [n3] at HX3
  have N4 := Lib.hid n4
  clear n3
  clear n4
  go_enter Tryd.func16, Tryd.ntmps16
  go_wp2_with (first
    | (refine wpList_ld 24 _ rfl _ _ S0.out.l0 rfl rfl ?_)
    | (go_at_call 34; (with_reducible refine HX3.out.mono ?_); rintro e w1 ⟨rfl, b1⟩; clear HX3; have C1 := Lib.hid (C0.out.trans (b1.mono C0.out.size)); have H1 := Lib.hid (H0.out.kept b1); clear b1; have S1 := Lib.hid (seen_of H1.out hm); have HX4 := Lib.hid (image_one m.h1 w1 hm.h1); rw [N4.out] at HX4)
    | (refine wpList_ld 24 _ rfl _ _ S1.out.l1 rfl rfl ?_)
    | (go_at_call 34; (with_reducible refine HX4.out.mono ?_); rintro e w2 ⟨rfl, b2⟩; clear HX4; have C2 := Lib.hid (C1.out.trans (b2.mono C1.out.size)); have H2 := Lib.hid (H1.out.kept b2); clear b2; have S2 := Lib.hid (seen_of H2.out hm); have p0 := S2.out.act; rw [KA.out] at p0; have p1 := own_at H2.out hm KA.out hk2; have p6 := S2.out.least; have p8 := S2.out.gott))
  go_ret
  exact ⟨rfl, C2.out⟩
set_option maxRecDepth 100000 in
set_option maxHeartbeats 4000000 in
theorem doc_not10 (m : Mt) (w : World) (hm : m.Ok) (n1 : ¬ m.act < 0) (n2 : ¬ 1 < m.act) (n3 : okI m.h0 = true) (n4 : okI m.h1 = true) (n5 : (m.own.ver == 0) = false) (n6 : ¬ m.least < 0) (n7 : ¬ 1073741824 < m.least) (n8 : ¬ m.gott < 0) (n9 : ¬ 6 < m.gott) (n10 : m.trials < 0) : Calls Tryd.prog 16 #[.agg m.cells] w fun e w' => e = .returned (.bool false) ∧ Below w.heap.size w w' := by
  have C0 : Hid (Below w.heap.size w (w.alloc (.cells m.cells 27))) := Lib.hid ((Below.refl _ _).alloc (Nat.le_refl _) _)
  have H0 := Lib.hid (has_new w 27 m.cells)
  have S0 := Lib.hid (seen_of H0.out hm)
  have q0 := S0.out.act
  obtain ⟨kk, hk, hk2⟩ : ∃ kk : Nat, m.act = (kk : Int) ∧ kk < 2 := ⟨m.act.toNat, by omega, by omega⟩
  have KA := Lib.hid hk
  have i0 : (0 : Int) ≤ (kk : Int) := by omega
  have i1 : (kk : Int) < 2 := by omega
  rw [hk] at n1 n2 q0
  clear hk
  have d1 : decide ((kk : Int) < 0) = false := decide_eq_false n1
  have d2 : decide (1 < (kk : Int)) = false := decide_eq_false n2
  have d6 : decide (m.least < 0) = false := decide_eq_false n6
  have d7 : decide (1073741824 < m.least) = false := decide_eq_false n7
  have d8 : decide (m.gott < 0) = false := decide_eq_false n8
  have d9 : decide (6 < m.gott) = false := decide_eq_false n9
  have d10 : decide (m.trials < 0) = true := decide_eq_true n10
  have HX3 : Hid (Calls Tryd.prog 34 #[.agg m.h0.cells, .bool false] (w.alloc (.cells m.cells 27)) _) := Lib.hid (image_one m.h0 _ hm.h0)
  rw [n3] at HX3
  have N4 := Lib.hid n4
  clear n3
  clear n4
  go_enter Tryd.func16, Tryd.ntmps16
  go_wp2_with (first
    | (refine wpList_ld 24 _ rfl _ _ S0.out.l0 rfl rfl ?_)
    | (go_at_call 34; (with_reducible refine HX3.out.mono ?_); rintro e w1 ⟨rfl, b1⟩; clear HX3; have C1 := Lib.hid (C0.out.trans (b1.mono C0.out.size)); have H1 := Lib.hid (H0.out.kept b1); clear b1; have S1 := Lib.hid (seen_of H1.out hm); have HX4 := Lib.hid (image_one m.h1 w1 hm.h1); rw [N4.out] at HX4)
    | (refine wpList_ld 24 _ rfl _ _ S1.out.l1 rfl rfl ?_)
    | (go_at_call 34; (with_reducible refine HX4.out.mono ?_); rintro e w2 ⟨rfl, b2⟩; clear HX4; have C2 := Lib.hid (C1.out.trans (b2.mono C1.out.size)); have H2 := Lib.hid (H1.out.kept b2); clear b2; have S2 := Lib.hid (seen_of H2.out hm); have p0 := S2.out.act; rw [KA.out] at p0; have p1 := own_at H2.out hm KA.out hk2; have p6 := S2.out.least; have p8 := S2.out.gott; have p10 := S2.out.trials))
  go_ret
  exact ⟨rfl, C2.out⟩
set_option maxRecDepth 100000 in
set_option maxHeartbeats 4000000 in
theorem doc_not11 (m : Mt) (w : World) (hm : m.Ok) (n1 : ¬ m.act < 0) (n2 : ¬ 1 < m.act) (n3 : okI m.h0 = true) (n4 : okI m.h1 = true) (n5 : (m.own.ver == 0) = false) (n6 : ¬ m.least < 0) (n7 : ¬ 1073741824 < m.least) (n8 : ¬ m.gott < 0) (n9 : ¬ 6 < m.gott) (n10 : ¬ m.trials < 0) (n11 : 2 < m.trials) : Calls Tryd.prog 16 #[.agg m.cells] w fun e w' => e = .returned (.bool false) ∧ Below w.heap.size w w' := by
  have C0 : Hid (Below w.heap.size w (w.alloc (.cells m.cells 27))) := Lib.hid ((Below.refl _ _).alloc (Nat.le_refl _) _)
  have H0 := Lib.hid (has_new w 27 m.cells)
  have S0 := Lib.hid (seen_of H0.out hm)
  have q0 := S0.out.act
  obtain ⟨kk, hk, hk2⟩ : ∃ kk : Nat, m.act = (kk : Int) ∧ kk < 2 := ⟨m.act.toNat, by omega, by omega⟩
  have KA := Lib.hid hk
  have i0 : (0 : Int) ≤ (kk : Int) := by omega
  have i1 : (kk : Int) < 2 := by omega
  rw [hk] at n1 n2 q0
  clear hk
  have d1 : decide ((kk : Int) < 0) = false := decide_eq_false n1
  have d2 : decide (1 < (kk : Int)) = false := decide_eq_false n2
  have d6 : decide (m.least < 0) = false := decide_eq_false n6
  have d7 : decide (1073741824 < m.least) = false := decide_eq_false n7
  have d8 : decide (m.gott < 0) = false := decide_eq_false n8
  have d9 : decide (6 < m.gott) = false := decide_eq_false n9
  have d10 : decide (m.trials < 0) = false := decide_eq_false n10
  have d11 : decide (2 < m.trials) = true := decide_eq_true n11
  have HX3 : Hid (Calls Tryd.prog 34 #[.agg m.h0.cells, .bool false] (w.alloc (.cells m.cells 27)) _) := Lib.hid (image_one m.h0 _ hm.h0)
  rw [n3] at HX3
  have N4 := Lib.hid n4
  clear n3
  clear n4
  go_enter Tryd.func16, Tryd.ntmps16
  go_wp2_with (first
    | (refine wpList_ld 24 _ rfl _ _ S0.out.l0 rfl rfl ?_)
    | (go_at_call 34; (with_reducible refine HX3.out.mono ?_); rintro e w1 ⟨rfl, b1⟩; clear HX3; have C1 := Lib.hid (C0.out.trans (b1.mono C0.out.size)); have H1 := Lib.hid (H0.out.kept b1); clear b1; have S1 := Lib.hid (seen_of H1.out hm); have HX4 := Lib.hid (image_one m.h1 w1 hm.h1); rw [N4.out] at HX4)
    | (refine wpList_ld 24 _ rfl _ _ S1.out.l1 rfl rfl ?_)
    | (go_at_call 34; (with_reducible refine HX4.out.mono ?_); rintro e w2 ⟨rfl, b2⟩; clear HX4; have C2 := Lib.hid (C1.out.trans (b2.mono C1.out.size)); have H2 := Lib.hid (H1.out.kept b2); clear b2; have S2 := Lib.hid (seen_of H2.out hm); have p0 := S2.out.act; rw [KA.out] at p0; have p1 := own_at H2.out hm KA.out hk2; have p6 := S2.out.least; have p8 := S2.out.gott; have p10 := S2.out.trials))
  go_ret
  exact ⟨rfl, C2.out⟩
end Go.Proofs.YtcokpdhhpaahgaaDoor
