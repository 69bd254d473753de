/-
  What the document says may be kept, the slot 1 being active; conditions: the digests are of 32 bytes, the tests ahead are passed.
-/
import Derived.Test.YtcokpdhhpaahgaaDoorMMt
import Derived.Deep.Cut
namespace Go.Proofs.YtcokpdhhpaahgaaDoor
open Go.RowKit
set_option linter.unusedVariables false
set_option linter.unusedSimpArgs false

set_option maxRecDepth 100000 in
set_option maxHeartbeats 8000000 in
theorem doc1_any (m : Mt) (w : World) (hm : m.Ok) (ha : m.act = 1) (n3 : okI m.h0 = true) (n4 : okI m.h1 = true) (n5 : (m.own.ver == 0) = false) (n6 : ¬ m.least < 0) (n7 : ¬ 1073741824 < m.least) (n8 : ¬ m.gott < 0) (n9 : ¬ 6 < m.gott) (n10 : ¬ m.trials < 0) (n11 : ¬ 2 < m.trials) : Calls Tryd.prog 16 #[.agg m.cells] w fun e w' => e = .returned (.bool (okI m.com && fitB m)) ∧ Below w.heap.size w w' := by
  have C0 : Hid (Below w.heap.size w (w.alloc (.cells m.cells 27))) := Lib.hid ((Below.refl _ _).alloc (Nat.le_refl _) _)
  have H0 := Lib.hid (has_new w 27 m.cells)
  have S0 := Lib.hid (seen_of H0.out hm)
  have q0 := S0.out.act
  rw [ha] at q0
  have KA := Lib.hid ha
  have eo : m.oth = m.h0 := by unfold Mt.oth; rw [if_neg (by omega)]
  have ew : m.own = m.h1 := by unfold Mt.own; rw [if_neg (by omega)]
  rw [ew] at n5
  have d6 : decide (m.least < 0) = false := decide_eq_false n6
  have d7 : decide (1073741824 < m.least) = false := decide_eq_false n7
  have d8 : decide (m.gott < 0) = false := decide_eq_false n8
  have d9 : decide (6 < m.gott) = false := decide_eq_false n9
  have d10 : decide (m.trials < 0) = false := decide_eq_false n10
  have d11 : decide (2 < m.trials) = false := decide_eq_false n11
  have HX3 : Hid (Calls Tryd.prog 34 #[.agg m.h0.cells, .bool false] (w.alloc (.cells m.cells 27)) _) := Lib.hid (image_one m.h0 _ hm.h0)
  rw [n3] at HX3
  have N4 := Lib.hid n4
  have HO := Lib.hid (okI_fit (i := m.h0) (by exact n3))
  have HFC := Lib.hid (fun h => (okI_fit (i := m.com) h))
  clear n3 n4 ha ew
  by_cases cv : 0 < m.com.ver
  · have dv : decide (0 < m.com.ver) = true := decide_eq_true cv
    cases ec : okI m.com with
    | false =>
      have EC := Lib.hid ec
      clear ec
      go_enter Tryd.func16, Tryd.ntmps16
      go_wp2_with (first
        | (refine wpList_ld 24 _ rfl _ _ S0.out.l0 rfl rfl ?_)
        | (go_at_call 34; (with_reducible refine HX3.out.mono ?_); rintro e w1 ⟨rfl, b1⟩; clear HX3; have C1 := Lib.hid (C0.out.trans (b1.mono C0.out.size)); have H1 := Lib.hid (H0.out.kept b1); clear b1; have S1 := Lib.hid (seen_of H1.out hm); have HX4 := Lib.hid (image_one m.h1 w1 hm.h1); rw [N4.out] at HX4)
        | (refine wpList_ld 24 _ rfl _ _ S1.out.l1 rfl rfl ?_)
        | (go_at_call 34; (with_reducible refine HX4.out.mono ?_); rintro e w2 ⟨rfl, b2⟩; clear HX4; have C2 := Lib.hid (C1.out.trans (b2.mono C1.out.size)); have H2 := Lib.hid (H1.out.kept b2); clear b2; have S2 := Lib.hid (seen_of H2.out hm); have p0 := S2.out.act; rw [KA.out] at p0; have p1 := S2.out.v1; have p2 := S2.out.v0; have p3 := S2.out.v2; have p4 := S2.out.s2; have p5 := S2.out.phase; have p6 := S2.out.least; have p8 := S2.out.gott; have p10 := S2.out.trials; have HX5 := Lib.hid (image_one m.com w2 hm.com); rw [EC.out] at HX5)
        | (refine wpList_ld 24 _ rfl _ _ S2.out.l2 rfl rfl ?_)
        | (go_at_call 34; (with_reducible refine HX5.out.mono ?_); rintro e w3 ⟨rfl, b3⟩; clear HX5; have C3 := Lib.hid (C2.out.trans (b3.mono C2.out.size)); have H3 := Lib.hid (H2.out.kept b3); clear b3; have S3 := Lib.hid (seen_of H3.out hm); clear p0 p1 p2 p3 p4 p5 p6 p8 p10))
      go_ret
      exact ⟨rfl, C3.out⟩
    | true =>
      have EC := Lib.hid ec
      have HB := Lib.hid (HFC.out ec).2
      have HV := Lib.hid (HFC.out ec).1
      clear ec
      go_enter Tryd.func16, Tryd.ntmps16
      go_upto_region 8 with (first
        | (refine wpList_ld 24 _ rfl _ _ S0.out.l0 rfl rfl ?_)
        | (go_at_call 34; (with_reducible refine HX3.out.mono ?_); rintro e w1 ⟨rfl, b1⟩; clear HX3; have C1 := Lib.hid (C0.out.trans (b1.mono C0.out.size)); have H1 := Lib.hid (H0.out.kept b1); clear b1; have S1 := Lib.hid (seen_of H1.out hm); have HX4 := Lib.hid (image_one m.h1 w1 hm.h1); rw [N4.out] at HX4)
        | (refine wpList_ld 24 _ rfl _ _ S1.out.l1 rfl rfl ?_)
        | (go_at_call 34; (with_reducible refine HX4.out.mono ?_); rintro e w2 ⟨rfl, b2⟩; clear HX4; have C2 := Lib.hid (C1.out.trans (b2.mono C1.out.size)); have H2 := Lib.hid (H1.out.kept b2); clear b2; have S2 := Lib.hid (seen_of H2.out hm); have p0 := S2.out.act; rw [KA.out] at p0; have p1 := S2.out.v1; have p2 := S2.out.v0; have p3 := S2.out.v2; have p4 := S2.out.s2; have p5 := S2.out.phase; have p6 := S2.out.least; have p8 := S2.out.gott; have p10 := S2.out.trials; have HX5 := Lib.hid (image_one m.com w2 hm.com); rw [EC.out] at HX5)
        | (refine wpList_ld 24 _ rfl _ _ S2.out.l2 rfl rfl ?_)
        | (go_at_call 34; (with_reducible refine HX5.out.mono ?_); rintro e w3 ⟨rfl, b3⟩; clear HX5; have C3 := Lib.hid (C2.out.trans (b3.mono C2.out.size)); have H3 := Lib.hid (H2.out.kept b3); clear b3; have S3 := Lib.hid (seen_of H3.out hm); clear p0 p1 p2 p3 p4 p5 p6 p8 p10; have r4 := S3.out.s2; have r5 := S3.out.phase; have r8 := S3.out.gott; have r10 := S3.out.trials; have HX6 := Lib.hid (rchunks_any m.com.size w3 HB.out))
        | (go_at_call 13; (with_reducible refine HX6.out.mono ?_); rintro e wx ⟨rfl, rfl⟩; clear HX6))
      clear S0 S1 S2 H0 H1 H2 C0 C1 C2 N4
      by_cases k0 : m.phase = 0
      · have KP := Lib.hid k0
        rw [k0] at r5
        have ef : fitB m = ((decide (m.com.ver = 0) && decide (m.gott = 0)) && decide (m.trials = 0)) := by unfold fitB; rw [if_pos k0]
        have EF0 := Lib.hid ef
        clear ef k0
        have EF : Hid (false = (true && fitB m)) := Lib.hid (by rw [EF0.out, decide_eq_false (show ¬ m.com.ver = 0 by omega)]; rfl)
        go_wp2
        go_ret
        exact ⟨ret_bool (EF.out), C3.out⟩
      by_cases k1 : m.phase = 1
      · have KP := Lib.hid k1
        rw [k1] at r5
        have ef : fitB m = (canB m m.h0 && decide (m.gott ≤ chunkN m.com.size)) := by unfold fitB; rw [if_neg k0, if_pos k1, eo]
        have EF0 := Lib.hid ef
        clear ef k0 k1
        have c0 : m.com.ver ≠ 0 := by omega
        by_cases o0 : 0 < m.h0.ver
        · have EF : Hid (false = (true && fitB m)) := Lib.hid (by rw [EF0.out]; unfold canB; rw [decide_eq_true c0, decide_eq_false (show ¬ ¬ m.h0.ver ≠ 0 from fun h => h (by omega))]; rfl)
          have o1 : decide (0 < m.h0.ver) = true := decide_eq_true o0
          clear c0
          go_wp2
          go_ret
          exact ⟨ret_bool (EF.out), C3.out⟩
        · have o2 : ¬ m.h0.ver ≠ 0 := fun h => h (by have := HO.out.1; omega)
          have o1 : decide (0 < m.h0.ver) = false := decide_eq_false o0
          by_cases t0 : m.trials = 0
          · have EF : Hid (decide (m.gott ≤ chunkN m.com.size) = (true && fitB m)) := Lib.hid (by rw [EF0.out]; unfold canB; rw [decide_eq_true c0, decide_eq_true o2, decide_eq_true t0]; rfl)
            rw [t0] at r10
            clear c0 o2 t0
            go_wp2
            go_ret
            exact ⟨ret_bool (EF.out), C3.out⟩
          · have EF : Hid (false = (true && fitB m)) := Lib.hid (by rw [EF0.out]; unfold canB; rw [decide_eq_true c0, decide_eq_true o2, decide_eq_false t0]; rfl)
            have t1 : (m.trials == 0) = false := by simp [t0]
            clear c0 o2 t0
            go_wp2
            go_ret
            exact ⟨ret_bool (EF.out), C3.out⟩
      by_cases k2 : m.phase = 2
      · have KP := Lib.hid k2
        rw [k2] at r5
        have ef : fitB m = (canB m m.h0 && decide (m.gott = chunkN m.com.size)) := by unfold fitB; rw [if_neg k0, if_neg k1, if_pos k2, eo]
        have EF0 := Lib.hid ef
        clear ef k0 k1 k2
        have c0 : m.com.ver ≠ 0 := by omega
        by_cases o0 : 0 < m.h0.ver
        · have EF : Hid (false = (true && fitB m)) := Lib.hid (by rw [EF0.out]; unfold canB; rw [decide_eq_true c0, decide_eq_false (show ¬ ¬ m.h0.ver ≠ 0 from fun h => h (by omega))]; rfl)
          have o1 : decide (0 < m.h0.ver) = true := decide_eq_true o0
          clear c0
          go_wp2
          go_ret
          exact ⟨ret_bool (EF.out), C3.out⟩
        · have o2 : ¬ m.h0.ver ≠ 0 := fun h => h (by have := HO.out.1; omega)
          have o1 : decide (0 < m.h0.ver) = false := decide_eq_false o0
          by_cases t0 : m.trials = 0
          · have EF : Hid (decide (m.gott = chunkN m.com.size) = (true && fitB m)) := Lib.hid (by rw [EF0.out]; unfold canB; rw [decide_eq_true c0, decide_eq_true o2, decide_eq_true t0]; rfl)
            rw [t0] at r10
            clear c0 o2 t0
            go_wp2
            go_ret
            exact ⟨ret_bool (Eq.trans (beq_dec _ _) EF.out), C3.out⟩
          · have EF : Hid (false = (true && fitB m)) := Lib.hid (by rw [EF0.out]; unfold canB; rw [decide_eq_true c0, decide_eq_true o2, decide_eq_false t0]; rfl)
            have t1 : (m.trials == 0) = false := by simp [t0]
            clear c0 o2 t0
            go_wp2
            go_ret
            exact ⟨ret_bool (EF.out), C3.out⟩
      by_cases k3 : m.phase = 3
      · have KP := Lib.hid k3
        rw [k3] at r5
        have ef : fitB m = ((decide (m.com.ver = 0) && decide (m.gott = 0)) && decide (m.h0.ver ≠ 0)) := by unfold fitB; rw [if_neg k0, if_neg k1, if_neg k2, if_pos k3, eo]
        have EF0 := Lib.hid ef
        clear ef k0 k1 k2 k3
        have EF : Hid (false = (true && fitB m)) := Lib.hid (by rw [EF0.out, decide_eq_false (show ¬ m.com.ver = 0 by omega)]; rfl)
        go_wp2
        go_ret
        exact ⟨ret_bool (EF.out), C3.out⟩
      have EF : Hid (false = (true && fitB m)) := Lib.hid (by unfold fitB; rw [if_neg k0, if_neg k1, if_neg k2, if_neg k3]; rfl)
      have e0 : (m.phase == 0) = false := by simp [k0]
      have e1 : (m.phase == 1) = false := by simp [k1]
      have e2 : (m.phase == 2) = false := by simp [k2]
      have e3 : (m.phase == 3) = false := by simp [k3]
      clear k0 k1 k2 k3
      go_wp2
      go_ret
      exact ⟨ret_bool (EF.out), C3.out⟩
  · have dv : decide (0 < m.com.ver) = false := decide_eq_false cv
    have CV := Lib.hid cv
    have dv2 : decide (m.com.ver ≤ 0) = true := decide_eq_true (by omega)
    cases ec : okI m.com with
    | false =>
      have EC := Lib.hid ec
      clear ec
      go_enter Tryd.func16, Tryd.ntmps16
      go_wp2_with (first
        | (refine wpList_ld 24 _ rfl _ _ S0.out.l0 rfl rfl ?_)
        | (go_at_call 34; (with_reducible refine HX3.out.mono ?_); rintro e w1 ⟨rfl, b1⟩; clear HX3; have C1 := Lib.hid (C0.out.trans (b1.mono C0.out.size)); have H1 := Lib.hid (H0.out.kept b1); clear b1; have S1 := Lib.hid (seen_of H1.out hm); have HX4 := Lib.hid (image_one m.h1 w1 hm.h1); rw [N4.out] at HX4)
        | (refine wpList_ld 24 _ rfl _ _ S1.out.l1 rfl rfl ?_)
        | (go_at_call 34; (with_reducible refine HX4.out.mono ?_); rintro e w2 ⟨rfl, b2⟩; clear HX4; have C2 := Lib.hid (C1.out.trans (b2.mono C1.out.size)); have H2 := Lib.hid (H1.out.kept b2); clear b2; have S2 := Lib.hid (seen_of H2.out hm); have p0 := S2.out.act; rw [KA.out] at p0; have p1 := S2.out.v1; have p2 := S2.out.v0; have p3 := S2.out.v2; have p4 := S2.out.s2; have p5 := S2.out.phase; have p6 := S2.out.least; have p8 := S2.out.gott; have p10 := S2.out.trials; have HX5 := Lib.hid (image_none m.com w2 hm.com (by have := CV.out; omega)); rw [EC.out] at HX5)
        | (refine wpList_ld 24 _ rfl _ _ S2.out.l2 rfl rfl ?_)
        | (go_at_call 34; (with_reducible refine HX5.out.mono ?_); rintro e w3 ⟨rfl, b3⟩; clear HX5; have C3 := Lib.hid (C2.out.trans (b3.mono C2.out.size)); have H3 := Lib.hid (H2.out.kept b3); clear b3; have S3 := Lib.hid (seen_of H3.out hm); clear p0 p1 p2 p3 p4 p5 p6 p8 p10))
      go_ret
      exact ⟨rfl, C3.out⟩
    | true =>
      have EC := Lib.hid ec
      have HB := Lib.hid (HFC.out ec).2
      have HV := Lib.hid (HFC.out ec).1
      clear ec
      go_enter Tryd.func16, Tryd.ntmps16
      go_upto_region 8 with (first
        | (refine wpList_ld 24 _ rfl _ _ S0.out.l0 rfl rfl ?_)
        | (go_at_call 34; (with_reducible refine HX3.out.mono ?_); rintro e w1 ⟨rfl, b1⟩; clear HX3; have C1 := Lib.hid (C0.out.trans (b1.mono C0.out.size)); have H1 := Lib.hid (H0.out.kept b1); clear b1; have S1 := Lib.hid (seen_of H1.out hm); have HX4 := Lib.hid (image_one m.h1 w1 hm.h1); rw [N4.out] at HX4)
        | (refine wpList_ld 24 _ rfl _ _ S1.out.l1 rfl rfl ?_)
        | (go_at_call 34; (with_reducible refine HX4.out.mono ?_); rintro e w2 ⟨rfl, b2⟩; clear HX4; have C2 := Lib.hid (C1.out.trans (b2.mono C1.out.size)); have H2 := Lib.hid (H1.out.kept b2); clear b2; have S2 := Lib.hid (seen_of H2.out hm); have p0 := S2.out.act; rw [KA.out] at p0; have p1 := S2.out.v1; have p2 := S2.out.v0; have p3 := S2.out.v2; have p4 := S2.out.s2; have p5 := S2.out.phase; have p6 := S2.out.least; have p8 := S2.out.gott; have p10 := S2.out.trials; have HX5 := Lib.hid (image_none m.com w2 hm.com (by have := CV.out; omega)); rw [EC.out] at HX5)
        | (refine wpList_ld 24 _ rfl _ _ S2.out.l2 rfl rfl ?_)
        | (go_at_call 34; (with_reducible refine HX5.out.mono ?_); rintro e w3 ⟨rfl, b3⟩; clear HX5; have C3 := Lib.hid (C2.out.trans (b3.mono C2.out.size)); have H3 := Lib.hid (H2.out.kept b3); clear b3; have S3 := Lib.hid (seen_of H3.out hm); clear p0 p1 p2 p3 p4 p5 p6 p8 p10; have r4 := S3.out.s2; have r5 := S3.out.phase; have r8 := S3.out.gott; have r10 := S3.out.trials; have HX6 := Lib.hid (rchunks_any m.com.size w3 HB.out))
        | (go_at_call 13; (with_reducible refine HX6.out.mono ?_); rintro e wx ⟨rfl, rfl⟩; clear HX6))
      clear S0 S1 S2 H0 H1 H2 C0 C1 C2 N4
      by_cases k0 : m.phase = 0
      · have KP := Lib.hid k0
        rw [k0] at r5
        have ef : fitB m = ((decide (m.com.ver = 0) && decide (m.gott = 0)) && decide (m.trials = 0)) := by unfold fitB; rw [if_pos k0]
        have EF0 := Lib.hid ef
        clear ef k0
        have c0 : m.com.ver = 0 := by have := HV.out; omega
        by_cases g0 : m.gott = 0
        · have EF : Hid (decide (m.trials = 0) = (true && fitB m)) := Lib.hid (by rw [EF0.out, decide_eq_true c0, decide_eq_true g0]; rfl)
          rw [g0] at r8
          clear g0 c0
          go_wp2
          go_ret
          exact ⟨ret_bool (Eq.trans (by by_cases e : m.trials = 0 <;> simp [e]) EF.out), C3.out⟩
        · have EF : Hid (false = (true && fitB m)) := Lib.hid (by rw [EF0.out, decide_eq_true c0, decide_eq_false g0]; rfl)
          have g1 : (m.gott == 0) = false := by simp [g0]
          clear g0 c0
          go_wp2
          go_ret
          exact ⟨ret_bool (EF.out), C3.out⟩
      by_cases k1 : m.phase = 1
      · have KP := Lib.hid k1
        rw [k1] at r5
        have ef : fitB m = (canB m m.h0 && decide (m.gott ≤ chunkN m.com.size)) := by unfold fitB; rw [if_neg k0, if_pos k1, eo]
        have EF0 := Lib.hid ef
        clear ef k0 k1
        have c0 : m.com.ver = 0 := by have := HV.out; omega
        have EF : Hid (false = (true && fitB m)) := Lib.hid (by rw [EF0.out]; unfold canB; rw [decide_eq_false (show ¬ m.com.ver ≠ 0 from fun h => h c0)]; rfl)
        clear c0
        go_wp2
        go_ret
        exact ⟨ret_bool (EF.out), C3.out⟩
      by_cases k2 : m.phase = 2
      · have KP := Lib.hid k2
        rw [k2] at r5
        have ef : fitB m = (canB m m.h0 && decide (m.gott = chunkN m.com.size)) := by unfold fitB; rw [if_neg k0, if_neg k1, if_pos k2, eo]
        have EF0 := Lib.hid ef
        clear ef k0 k1 k2
        have c0 : m.com.ver = 0 := by have := HV.out; omega
        have EF : Hid (false = (true && fitB m)) := Lib.hid (by rw [EF0.out]; unfold canB; rw [decide_eq_false (show ¬ m.com.ver ≠ 0 from fun h => h c0)]; rfl)
        clear c0
        go_wp2
        go_ret
        exact ⟨ret_bool (EF.out), C3.out⟩
      by_cases k3 : m.phase = 3
      · have KP := Lib.hid k3
        rw [k3] at r5
        have ef : fitB m = ((decide (m.com.ver = 0) && decide (m.gott = 0)) && decide (m.h0.ver ≠ 0)) := by unfold fitB; rw [if_neg k0, if_neg k1, if_neg k2, if_pos k3, eo]
        have EF0 := Lib.hid ef
        clear ef k0 k1 k2 k3
        have c0 : m.com.ver = 0 := by have := HV.out; omega
        by_cases g0 : m.gott = 0
        · have EF : Hid (decide (m.h0.ver ≠ 0) = (true && fitB m)) := Lib.hid (by rw [EF0.out, decide_eq_true c0, decide_eq_true g0]; rfl)
          rw [g0] at r8
          clear g0 c0
          go_wp2
          go_ret
          exact ⟨ret_bool (Eq.trans (by rw [decide_eq_decide]; have := HO.out.1; omega) EF.out), C3.out⟩
        · have EF : Hid (false = (true && fitB m)) := Lib.hid (by rw [EF0.out, decide_eq_true c0, decide_eq_false g0]; rfl)
          have g1 : (m.gott == 0) = false := by simp [g0]
          clear g0 c0
          go_wp2
          go_ret
          exact ⟨ret_bool (EF.out), C3.out⟩
      have EF : Hid (false = (true && fitB m)) := Lib.hid (by unfold fitB; rw [if_neg k0, if_neg k1, if_neg k2, if_neg k3]; rfl)
      have e0 : (m.phase == 0) = false := by simp [k0]
      have e1 : (m.phase == 1) = false := by simp [k1]
      have e2 : (m.phase == 2) = false := by simp [k2]
      have e3 : (m.phase == 3) = false := by simp [k3]
      clear k0 k1 k2 k3
      go_wp2
      go_ret
      exact ⟨ret_bool (EF.out), C3.out⟩
end Go.Proofs.YtcokpdhhpaahgaaDoor
