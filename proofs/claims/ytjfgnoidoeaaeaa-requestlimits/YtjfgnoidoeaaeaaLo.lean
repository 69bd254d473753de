/-
  The walk of the law RequestLimits: which of nine requests and of nine answers may be written; conditions: none.
-/
import Derived.Test.YtjfgnoidoeaaeaaLn
namespace Go.Proofs.Ytjfgnoidoeaaeaa
open Go.RowKit
theorem builtZ (p l : Nat) : Try.prog.built 24 [(0, .int .i64 1), (2, zerS p l)] = some (qc 1 0 (zerS p l)) := by kernel_rfl
theorem yields_bldZ {ops : Array Oper} {S : World → Prop} {o : Oper} {a : Act} (hw : Region.wanted o (yielded ops a.tmps) = true) (x : Operand) (ho : o.op = .build 24 #[(0, .const (.int .i64 1)), (2, x)]) (p l : Nat) (hx : a.eval x = zerS p l) : YieldsIf Try.prog ops S o (.agg (qc 1 0 (zerS p l))) a := by
  refine yields_bld hw 24 _ ho _ ?_
  simp only [List.map_toArray, List.map_cons, List.map_nil, hx]
  exact builtZ p l
end Go.Proofs.Ytjfgnoidoeaaeaa
namespace Go.Proofs.Ytjfgnoidoeaaeaa.requestLimits
open Go.RowKit
set_option linter.unusedVariables false
set_option linter.unusedSimpArgs false

set_option maxRecDepth 100000 in
set_option maxHeartbeats 8000000 in
theorem walk_none (n : Int) (w : World) (h : n < 0 ∨ 9 ≤ n) : Calls Try.prog 5 #[.int .i64 n] w fun e w' => e = .returned (.bool true) ∧ Below w.heap.size w w' := by
  have hz24 := zero24_run
  have hz27 := zero27_run
  have HLV := Lib.hid (live_any w)
  by_cases i0 : n < 0
  · have d0 := decide_eq_true i0
    clear h i0
    go_enter Try.func5, Try.ntmps5
    go_upto_region 2 with (go_at_call 6; (with_reducible refine HLV.out.mono ?_); rintro e w1 ⟨rfl, b1⟩; clear HLV; have C1 := Lib.hid b1; clear b1)
    obtain ⟨wd, hwd⟩ : ∃ wd, w1.drew = wd := ⟨_, rfl⟩
    have CD := Lib.hid (show Below w.heap.size w wd by rw [← hwd]; exact C1.out.drew)
    have HTR := Lib.hid (show (fun W : World => True) wd from trivial)
    clear C1
    refine wp_region_held_drew (S := fun W => True) (by kernel_rfl) trivial ?_
    intro _
    rw [hwd]
    clear hwd
    refine wpAnyH_take (i := 0) (v := .agg (qc 1 0 nilV)) rfl (by kernel_rfl) (by kernel_rfl) (by kernel_rfl) (fun _ _ _ h => h) (yields_bld (by rfl) 24 #[(0, .const (.int .i64 1))] rfl _ (by kernel_rfl)) HTR.out ?_
    simp only [List.getElem_toArray, List.getElem_cons_succ, List.getElem_cons_zero, Act.put, List.setIfInBounds_toArray, List.set_cons_zero, List.set_cons_succ]
    refine wpAnyH_take (i := 1) (v := .agg (qc 9 0 nilV)) rfl (by kernel_rfl) (by kernel_rfl) (by kernel_rfl) (fun _ _ _ h => h) (yields_bld (by rfl) 24 #[(0, .const (.int .i64 9))] rfl _ (by kernel_rfl)) HTR.out ?_
    simp only [List.getElem_toArray, List.getElem_cons_succ, List.getElem_cons_zero, Act.put, List.setIfInBounds_toArray, List.set_cons_zero, List.set_cons_succ]
    refine wpAnyH_take (i := 2) (v := .agg (qc 0 0 nilV)) rfl (by kernel_rfl) (by kernel_rfl) (by kernel_rfl) (fun _ _ _ h => h) (yields_bld (by rfl) 24 #[(0, .const (.int .i64 0))] rfl _ (by kernel_rfl)) HTR.out ?_
    simp only [List.getElem_toArray, List.getElem_cons_succ, List.getElem_cons_zero, Act.put, List.setIfInBounds_toArray, List.set_cons_zero, List.set_cons_succ]
    refine wpAnyH_take (i := 3) (v := .agg (qc 10 0 nilV)) rfl (by kernel_rfl) (by kernel_rfl) (by kernel_rfl) (fun _ _ _ h => h) (yields_bld (by rfl) 24 #[(0, .const (.int .i64 10))] rfl _ (by kernel_rfl)) HTR.out ?_
    simp only [List.getElem_toArray, List.getElem_cons_succ, List.getElem_cons_zero, Act.put, List.setIfInBounds_toArray, List.set_cons_zero, List.set_cons_succ]
    refine wpAnyH_take (i := 4) (v := .agg (qc 1 2147483647 nilV)) rfl (by kernel_rfl) (by kernel_rfl) (by kernel_rfl) (fun _ _ _ h => h) (yields_bld (by rfl) 24 #[(0, .const (.int .i64 1)), (1, .const (.int .i64 2147483647))] rfl _ (by kernel_rfl)) HTR.out ?_
    simp only [List.getElem_toArray, List.getElem_cons_succ, List.getElem_cons_zero, Act.put, List.setIfInBounds_toArray, List.set_cons_zero, List.set_cons_succ]
    refine wpAnyH_take (i := 5) (v := .agg (qc 1 2147483648 nilV)) rfl (by kernel_rfl) (by kernel_rfl) (by kernel_rfl) (fun _ _ _ h => h) (yields_bld (by rfl) 24 #[(0, .const (.int .i64 1)), (1, .const (.int .i64 2147483648))] rfl _ (by kernel_rfl)) HTR.out ?_
    simp only [List.getElem_toArray, List.getElem_cons_succ, List.getElem_cons_zero, Act.put, List.setIfInBounds_toArray, List.set_cons_zero, List.set_cons_succ]
    refine wpAnyH_take (i := 6) (v := .agg (qc 1 (-1) nilV)) rfl (by kernel_rfl) (by kernel_rfl) (by kernel_rfl) (fun _ _ _ h => h) (yields_bld (by rfl) 24 #[(0, .const (.int .i64 1)), (1, .const (.int .i64 (-1)))] rfl _ (by kernel_rfl)) HTR.out ?_
    simp only [List.getElem_toArray, List.getElem_cons_succ, List.getElem_cons_zero, Act.put, List.setIfInBounds_toArray, List.set_cons_zero, List.set_cons_succ]
    refine wpAnyH_ready (rs := [7, 9]) (by kernel_rfl) (by simp) ?_
    refine AllReadyH.cons rfl (fun K hK => ?_) (AllReadyH.cons rfl (fun K hK => ?_) AllReadyH.nil)
    · refine step_mk (by rfl) (.const (.int .i64 1000)) (.const (.int .i64 1000)) rfl 1000 rfl rfl (by omega) ?_
      refine hK.out _ _ HTR.out (fun _ => ?_)
      clear hK K
      simp only [List.getElem_toArray, List.getElem_cons_succ, List.getElem_cons_zero, Act.put, List.setIfInBounds_toArray, List.set_cons_zero, List.set_cons_succ]
      refine wpAnyH_take (i := 8) (v := .agg (qc 1 0 (zerS wd.heap.size 1000))) rfl (by kernel_rfl) (by kernel_rfl) (by kernel_rfl) (fun _ _ _ h => h) (yields_bldZ (by rfl) (.tmp 16) rfl _ 1000 rfl) HTR.out ?_
      simp only [List.getElem_toArray, List.getElem_cons_succ, List.getElem_cons_zero, Act.put, List.setIfInBounds_toArray, List.set_cons_zero, List.set_cons_succ]
      refine wpAnyH_ready (rs := [9]) (by kernel_rfl) (by simp) ?_
      refine AllReadyH.cons rfl (fun K hK => ?_) AllReadyH.nil
      refine step_mk (by rfl) (.const (.int .i64 1001)) (.const (.int .i64 1001)) rfl 1001 rfl rfl (by omega) ?_
      refine hK.out _ _ HTR.out (fun _ => ?_)
      clear hK K
      simp only [List.getElem_toArray, List.getElem_cons_succ, List.getElem_cons_zero, Act.put, List.setIfInBounds_toArray, List.set_cons_zero, List.set_cons_succ]
      refine wpAnyH_take (i := 10) (v := .agg (qc 1 0 (zerS (wd.alloc (.cells (zeroBytes 1000) 5)).heap.size 1001))) rfl (by kernel_rfl) (by kernel_rfl) (by kernel_rfl) (fun _ _ _ h => h) (yields_bldZ (by rfl) (.tmp 18) rfl _ 1001 rfl) HTR.out ?_
      simp only [List.getElem_toArray, List.getElem_cons_succ, List.getElem_cons_zero, Act.put, List.setIfInBounds_toArray, List.set_cons_zero, List.set_cons_succ]
      refine wpAnyH_ready (rs := [11]) (by kernel_rfl) (by simp) ?_
      refine AllReadyH.cons rfl (fun K hK => ?_) AllReadyH.nil
      refine step_nine (by rfl) wd.heap.size (wd.alloc (.cells (zeroBytes 1000) 5)).heap.size (.tmp 9) (.tmp 10) (.tmp 11) (.tmp 12) (.tmp 13) (.tmp 14) (.tmp 15) (.tmp 17) (.tmp 19) rfl rfl rfl rfl rfl rfl rfl rfl rfl rfl ?_
      refine hK.out _ _ HTR.out (fun _ => ?_)
      clear hK K
      simp only [List.getElem_toArray, List.getElem_cons_succ, List.getElem_cons_zero, Act.put, List.setIfInBounds_toArray, List.set_cons_zero, List.set_cons_succ]
      refine wpAnyH_take (i := 12) (v := .slice (some ⟨((wd.alloc (.cells (zeroBytes 1000) 5)).alloc (.cells (zeroBytes 1001) 5)).heap.size, 0, none⟩) 9 9) rfl (by kernel_rfl) (by kernel_rfl) (by kernel_rfl) (fun _ _ _ h => h) (Or.inl ⟨by rfl, (fun W _ => by go_simp)⟩) HTR.out ?_
      simp only [List.getElem_toArray, List.getElem_cons_succ, List.getElem_cons_zero, Act.put, List.setIfInBounds_toArray, List.set_cons_zero, List.set_cons_succ]
      refine wpAnyH_done (by kernel_rfl) ?_ _
      have BW : Below wd.heap.size wd (((wd.alloc (.cells (zeroBytes 1000) 5)).alloc (.cells (zeroBytes 1001) 5)).alloc (.cells (cellsQ (wd.heap.size) ((wd.alloc (.cells (zeroBytes 1000) 5)).heap.size)) 24)) := (((Below.refl _ _).alloc (Nat.le_refl _) _).alloc (by simp) _).alloc (by simp; omega) _
      have HTQ := has_new ((wd.alloc (.cells (zeroBytes 1000) 5)).alloc (.cells (zeroBytes 1001) 5)) 24 (cellsQ (wd.heap.size) ((wd.alloc (.cells (zeroBytes 1000) 5)).heap.size))
      have HZP : Has (((wd.alloc (.cells (zeroBytes 1000) 5)).alloc (.cells (zeroBytes 1001) 5)).alloc (.cells (cellsQ (wd.heap.size) ((wd.alloc (.cells (zeroBytes 1000) 5)).heap.size)) 24)) wd.heap.size 5 (zeroBytes 1000) := ((has_new wd 5 (zeroBytes 1000)).more _).more _
      have HZQ : Has (((wd.alloc (.cells (zeroBytes 1000) 5)).alloc (.cells (zeroBytes 1001) 5)).alloc (.cells (cellsQ (wd.heap.size) ((wd.alloc (.cells (zeroBytes 1000) 5)).heap.size)) 24)) (wd.alloc (.cells (zeroBytes 1000) 5)).heap.size 5 (zeroBytes 1001) := (has_new (wd.alloc (.cells (zeroBytes 1000) 5)) 5 (zeroBytes 1001)).more _
      obtain ⟨p, hp⟩ : ∃ p, wd.heap.size = p := ⟨_, rfl⟩
      obtain ⟨q, hq⟩ : ∃ q, (wd.alloc (.cells (zeroBytes 1000) 5)).heap.size = q := ⟨_, rfl⟩
      obtain ⟨g, hg⟩ : ∃ g, ((wd.alloc (.cells (zeroBytes 1000) 5)).alloc (.cells (zeroBytes 1001) 5)).heap.size = g := ⟨_, rfl⟩
      have CE := CD.out.trans (BW.mono CD.out.size)
      clear BW CD
      try rw [hp] at CE
      try rw [hq] at CE
      try rw [hp] at HTQ
      try rw [hq] at HTQ
      try rw [hg] at HTQ
      try rw [hp] at HZP
      try rw [hq] at HZP
      try rw [hp] at HZQ
      try rw [hq] at HZQ
      try rw [hp]
      try rw [hq]
      try rw [hg]
      generalize hWW : ((wd.alloc (.cells (zeroBytes 1000) 5)).alloc (.cells (zeroBytes 1001) 5)).alloc (.cells (cellsQ p q) 24) = W at *
      have C2 := Lib.hid CE
      have T2 := Lib.hid HTQ
      have P2 := Lib.hid HZP
      have Q2 := Lib.hid HZQ
      clear hWW hp hq hg CE HTQ HZP HZQ HTR
      go_wp2_with (first
        | (refine wpList_nineR rfl (.tmp 22) (.tmp 23) (.tmp 24) (.tmp 25) (.tmp 26) (.tmp 27) (.tmp 28) (.tmp 29) (.tmp 30) rfl rfl rfl rfl rfl rfl rfl rfl rfl rfl ?_))
      go_ret
      exact ⟨rfl, C2.out.trans ((((((Below.refl _ _).alloc (Nat.le_refl _) _).alloc (by simp) _).alloc (by simp; omega) _)).mono C2.out.size)⟩
    · refine step_mk (by rfl) (.const (.int .i64 1001)) (.const (.int .i64 1001)) rfl 1001 rfl rfl (by omega) ?_
      refine hK.out _ _ HTR.out (fun _ => ?_)
      clear hK K
      simp only [List.getElem_toArray, List.getElem_cons_succ, List.getElem_cons_zero, Act.put, List.setIfInBounds_toArray, List.set_cons_zero, List.set_cons_succ]
      refine wpAnyH_take (i := 10) (v := .agg (qc 1 0 (zerS wd.heap.size 1001))) rfl (by kernel_rfl) (by kernel_rfl) (by kernel_rfl) (fun _ _ _ h => h) (yields_bldZ (by rfl) (.tmp 18) rfl _ 1001 rfl) HTR.out ?_
      simp only [List.getElem_toArray, List.getElem_cons_succ, List.getElem_cons_zero, Act.put, List.setIfInBounds_toArray, List.set_cons_zero, List.set_cons_succ]
      refine wpAnyH_ready (rs := [7]) (by kernel_rfl) (by simp) ?_
      refine AllReadyH.cons rfl (fun K hK => ?_) AllReadyH.nil
      refine step_mk (by rfl) (.const (.int .i64 1000)) (.const (.int .i64 1000)) rfl 1000 rfl rfl (by omega) ?_
      refine hK.out _ _ HTR.out (fun _ => ?_)
      clear hK K
      simp only [List.getElem_toArray, List.getElem_cons_succ, List.getElem_cons_zero, Act.put, List.setIfInBounds_toArray, List.set_cons_zero, List.set_cons_succ]
      refine wpAnyH_take (i := 8) (v := .agg (qc 1 0 (zerS (wd.alloc (.cells (zeroBytes 1001) 5)).heap.size 1000))) rfl (by kernel_rfl) (by kernel_rfl) (by kernel_rfl) (fun _ _ _ h => h) (yields_bldZ (by rfl) (.tmp 16) rfl _ 1000 rfl) HTR.out ?_
      simp only [List.getElem_toArray, List.getElem_cons_succ, List.getElem_cons_zero, Act.put, List.setIfInBounds_toArray, List.set_cons_zero, List.set_cons_succ]
      refine wpAnyH_ready (rs := [11]) (by kernel_rfl) (by simp) ?_
      refine AllReadyH.cons rfl (fun K hK => ?_) AllReadyH.nil
      refine step_nine (by rfl) (wd.alloc (.cells (zeroBytes 1001) 5)).heap.size wd.heap.size (.tmp 9) (.tmp 10) (.tmp 11) (.tmp 12) (.tmp 13) (.tmp 14) (.tmp 15) (.tmp 17) (.tmp 19) rfl rfl rfl rfl rfl rfl rfl rfl rfl rfl ?_
      refine hK.out _ _ HTR.out (fun _ => ?_)
      clear hK K
      simp only [List.getElem_toArray, List.getElem_cons_succ, List.getElem_cons_zero, Act.put, List.setIfInBounds_toArray, List.set_cons_zero, List.set_cons_succ]
      refine wpAnyH_take (i := 12) (v := .slice (some ⟨((wd.alloc (.cells (zeroBytes 1001) 5)).alloc (.cells (zeroBytes 1000) 5)).heap.size, 0, none⟩) 9 9) rfl (by kernel_rfl) (by kernel_rfl) (by kernel_rfl) (fun _ _ _ h => h) (Or.inl ⟨by rfl, (fun W _ => by go_simp)⟩) HTR.out ?_
      simp only [List.getElem_toArray, List.getElem_cons_succ, List.getElem_cons_zero, Act.put, List.setIfInBounds_toArray, List.set_cons_zero, List.set_cons_succ]
      refine wpAnyH_done (by kernel_rfl) ?_ _
      have BW : Below wd.heap.size wd (((wd.alloc (.cells (zeroBytes 1001) 5)).alloc (.cells (zeroBytes 1000) 5)).alloc (.cells (cellsQ ((wd.alloc (.cells (zeroBytes 1001) 5)).heap.size) (wd.heap.size)) 24)) := (((Below.refl _ _).alloc (Nat.le_refl _) _).alloc (by simp) _).alloc (by simp; omega) _
      have HTQ := has_new ((wd.alloc (.cells (zeroBytes 1001) 5)).alloc (.cells (zeroBytes 1000) 5)) 24 (cellsQ ((wd.alloc (.cells (zeroBytes 1001) 5)).heap.size) (wd.heap.size))
      have HZP : Has (((wd.alloc (.cells (zeroBytes 1001) 5)).alloc (.cells (zeroBytes 1000) 5)).alloc (.cells (cellsQ ((wd.alloc (.cells (zeroBytes 1001) 5)).heap.size) (wd.heap.size)) 24)) (wd.alloc (.cells (zeroBytes 1001) 5)).heap.size 5 (zeroBytes 1000) := (has_new (wd.alloc (.cells (zeroBytes 1001) 5)) 5 (zeroBytes 1000)).more _
      have HZQ : Has (((wd.alloc (.cells (zeroBytes 1001) 5)).alloc (.cells (zeroBytes 1000) 5)).alloc (.cells (cellsQ ((wd.alloc (.cells (zeroBytes 1001) 5)).heap.size) (wd.heap.size)) 24)) wd.heap.size 5 (zeroBytes 1001) := ((has_new wd 5 (zeroBytes 1001)).more _).more _
      obtain ⟨p, hp⟩ : ∃ p, (wd.alloc (.cells (zeroBytes 1001) 5)).heap.size = p := ⟨_, rfl⟩
      obtain ⟨q, hq⟩ : ∃ q, wd.heap.size = q := ⟨_, rfl⟩
      obtain ⟨g, hg⟩ : ∃ g, ((wd.alloc (.cells (zeroBytes 1001) 5)).alloc (.cells (zeroBytes 1000) 5)).heap.size = g := ⟨_, rfl⟩
      have CE := CD.out.trans (BW.mono CD.out.size)
      clear BW CD
      try rw [hp] at CE
      try rw [hq] at CE
      try rw [hp] at HTQ
      try rw [hq] at HTQ
      try rw [hg] at HTQ
      try rw [hp] at HZP
      try rw [hq] at HZP
      try rw [hp] at HZQ
      try rw [hq] at HZQ
      try rw [hp]
      try rw [hq]
      try rw [hg]
      generalize hWW : ((wd.alloc (.cells (zeroBytes 1001) 5)).alloc (.cells (zeroBytes 1000) 5)).alloc (.cells (cellsQ p q) 24) = W at *
      have C2 := Lib.hid CE
      have T2 := Lib.hid HTQ
      have P2 := Lib.hid HZP
      have Q2 := Lib.hid HZQ
      clear hWW hp hq hg CE HTQ HZP HZQ HTR
      go_wp2_with (first
        | (refine wpList_nineR rfl (.tmp 22) (.tmp 23) (.tmp 24) (.tmp 25) (.tmp 26) (.tmp 27) (.tmp 28) (.tmp 29) (.tmp 30) rfl rfl rfl rfl rfl rfl rfl rfl rfl rfl ?_))
      go_ret
      exact ⟨rfl, C2.out.trans ((((((Below.refl _ _).alloc (Nat.le_refl _) _).alloc (by simp) _).alloc (by simp; omega) _)).mono C2.out.size)⟩
  · have d0 := decide_eq_false i0
    have d1 : decide (9 ≤ n) = true := decide_eq_true (by omega)
    clear h i0
    go_enter Try.func5, Try.ntmps5
    go_upto_region 2 with (go_at_call 6; (with_reducible refine HLV.out.mono ?_); rintro e w1 ⟨rfl, b1⟩; clear HLV; have C1 := Lib.hid b1; clear b1)
    obtain ⟨wd, hwd⟩ : ∃ wd, w1.drew = wd := ⟨_, rfl⟩
    have CD := Lib.hid (show Below w.heap.size w wd by rw [← hwd]; exact C1.out.drew)
    have HTR := Lib.hid (show (fun W : World => True) wd from trivial)
    clear C1
    refine wp_region_held_drew (S := fun W => True) (by kernel_rfl) trivial ?_
    intro _
    rw [hwd]
    clear hwd
    refine wpAnyH_take (i := 0) (v := .agg (qc 1 0 nilV)) rfl (by kernel_rfl) (by kernel_rfl) (by kernel_rfl) (fun _ _ _ h => h) (yields_bld (by rfl) 24 #[(0, .const (.int .i64 1))] rfl _ (by kernel_rfl)) HTR.out ?_
    simp only [List.getElem_toArray, List.getElem_cons_succ, List.getElem_cons_zero, Act.put, List.setIfInBounds_toArray, List.set_cons_zero, List.set_cons_succ]
    refine wpAnyH_take (i := 1) (v := .agg (qc 9 0 nilV)) rfl (by kernel_rfl) (by kernel_rfl) (by kernel_rfl) (fun _ _ _ h => h) (yields_bld (by rfl) 24 #[(0, .const (.int .i64 9))] rfl _ (by kernel_rfl)) HTR.out ?_
    simp only [List.getElem_toArray, List.getElem_cons_succ, List.getElem_cons_zero, Act.put, List.setIfInBounds_toArray, List.set_cons_zero, List.set_cons_succ]
    refine wpAnyH_take (i := 2) (v := .agg (qc 0 0 nilV)) rfl (by kernel_rfl) (by kernel_rfl) (by kernel_rfl) (fun _ _ _ h => h) (yields_bld (by rfl) 24 #[(0, .const (.int .i64 0))] rfl _ (by kernel_rfl)) HTR.out ?_
    simp only [List.getElem_toArray, List.getElem_cons_succ, List.getElem_cons_zero, Act.put, List.setIfInBounds_toArray, List.set_cons_zero, List.set_cons_succ]
    refine wpAnyH_take (i := 3) (v := .agg (qc 10 0 nilV)) rfl (by kernel_rfl) (by kernel_rfl) (by kernel_rfl) (fun _ _ _ h => h) (yields_bld (by rfl) 24 #[(0, .const (.int .i64 10))] rfl _ (by kernel_rfl)) HTR.out ?_
    simp only [List.getElem_toArray, List.getElem_cons_succ, List.getElem_cons_zero, Act.put, List.setIfInBounds_toArray, List.set_cons_zero, List.set_cons_succ]
    refine wpAnyH_take (i := 4) (v := .agg (qc 1 2147483647 nilV)) rfl (by kernel_rfl) (by kernel_rfl) (by kernel_rfl) (fun _ _ _ h => h) (yields_bld (by rfl) 24 #[(0, .const (.int .i64 1)), (1, .const (.int .i64 2147483647))] rfl _ (by kernel_rfl)) HTR.out ?_
    simp only [List.getElem_toArray, List.getElem_cons_succ, List.getElem_cons_zero, Act.put, List.setIfInBounds_toArray, List.set_cons_zero, List.set_cons_succ]
    refine wpAnyH_take (i := 5) (v := .agg (qc 1 2147483648 nilV)) rfl (by kernel_rfl) (by kernel_rfl) (by kernel_rfl) (fun _ _ _ h => h) (yields_bld (by rfl) 24 #[(0, .const (.int .i64 1)), (1, .const (.int .i64 2147483648))] rfl _ (by kernel_rfl)) HTR.out ?_
    simp only [List.getElem_toArray, List.getElem_cons_succ, List.getElem_cons_zero, Act.put, List.setIfInBounds_toArray, List.set_cons_zero, List.set_cons_succ]
    refine wpAnyH_take (i := 6) (v := .agg (qc 1 (-1) nilV)) rfl (by kernel_rfl) (by kernel_rfl) (by kernel_rfl) (fun _ _ _ h => h) (yields_bld (by rfl) 24 #[(0, .const (.int .i64 1)), (1, .const (.int .i64 (-1)))] rfl _ (by kernel_rfl)) HTR.out ?_
    simp only [List.getElem_toArray, List.getElem_cons_succ, List.getElem_cons_zero, Act.put, List.setIfInBounds_toArray, List.set_cons_zero, List.set_cons_succ]
    refine wpAnyH_ready (rs := [7, 9]) (by kernel_rfl) (by simp) ?_
    refine AllReadyH.cons rfl (fun K hK => ?_) (AllReadyH.cons rfl (fun K hK => ?_) AllReadyH.nil)
    · refine step_mk (by rfl) (.const (.int .i64 1000)) (.const (.int .i64 1000)) rfl 1000 rfl rfl (by omega) ?_
      refine hK.out _ _ HTR.out (fun _ => ?_)
      clear hK K
      simp only [List.getElem_toArray, List.getElem_cons_succ, List.getElem_cons_zero, Act.put, List.setIfInBounds_toArray, List.set_cons_zero, List.set_cons_succ]
      refine wpAnyH_take (i := 8) (v := .agg (qc 1 0 (zerS wd.heap.size 1000))) rfl (by kernel_rfl) (by kernel_rfl) (by kernel_rfl) (fun _ _ _ h => h) (yields_bldZ (by rfl) (.tmp 16) rfl _ 1000 rfl) HTR.out ?_
      simp only [List.getElem_toArray, List.getElem_cons_succ, List.getElem_cons_zero, Act.put, List.setIfInBounds_toArray, List.set_cons_zero, List.set_cons_succ]
      refine wpAnyH_ready (rs := [9]) (by kernel_rfl) (by simp) ?_
      refine AllReadyH.cons rfl (fun K hK => ?_) AllReadyH.nil
      refine step_mk (by rfl) (.const (.int .i64 1001)) (.const (.int .i64 1001)) rfl 1001 rfl rfl (by omega) ?_
      refine hK.out _ _ HTR.out (fun _ => ?_)
      clear hK K
      simp only [List.getElem_toArray, List.getElem_cons_succ, List.getElem_cons_zero, Act.put, List.setIfInBounds_toArray, List.set_cons_zero, List.set_cons_succ]
      refine wpAnyH_take (i := 10) (v := .agg (qc 1 0 (zerS (wd.alloc (.cells (zeroBytes 1000) 5)).heap.size 1001))) rfl (by kernel_rfl) (by kernel_rfl) (by kernel_rfl) (fun _ _ _ h => h) (yields_bldZ (by rfl) (.tmp 18) rfl _ 1001 rfl) HTR.out ?_
      simp only [List.getElem_toArray, List.getElem_cons_succ, List.getElem_cons_zero, Act.put, List.setIfInBounds_toArray, List.set_cons_zero, List.set_cons_succ]
      refine wpAnyH_ready (rs := [11]) (by kernel_rfl) (by simp) ?_
      refine AllReadyH.cons rfl (fun K hK => ?_) AllReadyH.nil
      refine step_nine (by rfl) wd.heap.size (wd.alloc (.cells (zeroBytes 1000) 5)).heap.size (.tmp 9) (.tmp 10) (.tmp 11) (.tmp 12) (.tmp 13) (.tmp 14) (.tmp 15) (.tmp 17) (.tmp 19) rfl rfl rfl rfl rfl rfl rfl rfl rfl rfl ?_
      refine hK.out _ _ HTR.out (fun _ => ?_)
      clear hK K
      simp only [List.getElem_toArray, List.getElem_cons_succ, List.getElem_cons_zero, Act.put, List.setIfInBounds_toArray, List.set_cons_zero, List.set_cons_succ]
      refine wpAnyH_take (i := 12) (v := .slice (some ⟨((wd.alloc (.cells (zeroBytes 1000) 5)).alloc (.cells (zeroBytes 1001) 5)).heap.size, 0, none⟩) 9 9) rfl (by kernel_rfl) (by kernel_rfl) (by kernel_rfl) (fun _ _ _ h => h) (Or.inl ⟨by rfl, (fun W _ => by go_simp)⟩) HTR.out ?_
      simp only [List.getElem_toArray, List.getElem_cons_succ, List.getElem_cons_zero, Act.put, List.setIfInBounds_toArray, List.set_cons_zero, List.set_cons_succ]
      refine wpAnyH_done (by kernel_rfl) ?_ _
      have BW : Below wd.heap.size wd (((wd.alloc (.cells (zeroBytes 1000) 5)).alloc (.cells (zeroBytes 1001) 5)).alloc (.cells (cellsQ (wd.heap.size) ((wd.alloc (.cells (zeroBytes 1000) 5)).heap.size)) 24)) := (((Below.refl _ _).alloc (Nat.le_refl _) _).alloc (by simp) _).alloc (by simp; omega) _
      have HTQ := has_new ((wd.alloc (.cells (zeroBytes 1000) 5)).alloc (.cells (zeroBytes 1001) 5)) 24 (cellsQ (wd.heap.size) ((wd.alloc (.cells (zeroBytes 1000) 5)).heap.size))
      have HZP : Has (((wd.alloc (.cells (zeroBytes 1000) 5)).alloc (.cells (zeroBytes 1001) 5)).alloc (.cells (cellsQ (wd.heap.size) ((wd.alloc (.cells (zeroBytes 1000) 5)).heap.size)) 24)) wd.heap.size 5 (zeroBytes 1000) := ((has_new wd 5 (zeroBytes 1000)).more _).more _
      have HZQ : Has (((wd.alloc (.cells (zeroBytes 1000) 5)).alloc (.cells (zeroBytes 1001) 5)).alloc (.cells (cellsQ (wd.heap.size) ((wd.alloc (.cells (zeroBytes 1000) 5)).heap.size)) 24)) (wd.alloc (.cells (zeroBytes 1000) 5)).heap.size 5 (zeroBytes 1001) := (has_new (wd.alloc (.cells (zeroBytes 1000) 5)) 5 (zeroBytes 1001)).more _
      obtain ⟨p, hp⟩ : ∃ p, wd.heap.size = p := ⟨_, rfl⟩
      obtain ⟨q, hq⟩ : ∃ q, (wd.alloc (.cells (zeroBytes 1000) 5)).heap.size = q := ⟨_, rfl⟩
      obtain ⟨g, hg⟩ : ∃ g, ((wd.alloc (.cells (zeroBytes 1000) 5)).alloc (.cells (zeroBytes 1001) 5)).heap.size = g := ⟨_, rfl⟩
      have CE := CD.out.trans (BW.mono CD.out.size)
      clear BW CD
      try rw [hp] at CE
      try rw [hq] at CE
      try rw [hp] at HTQ
      try rw [hq] at HTQ
      try rw [hg] at HTQ
      try rw [hp] at HZP
      try rw [hq] at HZP
      try rw [hp] at HZQ
      try rw [hq] at HZQ
      try rw [hp]
      try rw [hq]
      try rw [hg]
      generalize hWW : ((wd.alloc (.cells (zeroBytes 1000) 5)).alloc (.cells (zeroBytes 1001) 5)).alloc (.cells (cellsQ p q) 24) = W at *
      have C2 := Lib.hid CE
      have T2 := Lib.hid HTQ
      have P2 := Lib.hid HZP
      have Q2 := Lib.hid HZQ
      clear hWW hp hq hg CE HTQ HZP HZQ HTR
      go_wp2_with (first
        | (refine wpList_nineR rfl (.tmp 22) (.tmp 23) (.tmp 24) (.tmp 25) (.tmp 26) (.tmp 27) (.tmp 28) (.tmp 29) (.tmp 30) rfl rfl rfl rfl rfl rfl rfl rfl rfl rfl ?_))
      go_ret
      exact ⟨rfl, C2.out.trans ((((((Below.refl _ _).alloc (Nat.le_refl _) _).alloc (by simp) _).alloc (by simp; omega) _)).mono C2.out.size)⟩
    · refine step_mk (by rfl) (.const (.int .i64 1001)) (.const (.int .i64 1001)) rfl 1001 rfl rfl (by omega) ?_
      refine hK.out _ _ HTR.out (fun _ => ?_)
      clear hK K
      simp only [List.getElem_toArray, List.getElem_cons_succ, List.getElem_cons_zero, Act.put, List.setIfInBounds_toArray, List.set_cons_zero, List.set_cons_succ]
      refine wpAnyH_take (i := 10) (v := .agg (qc 1 0 (zerS wd.heap.size 1001))) rfl (by kernel_rfl) (by kernel_rfl) (by kernel_rfl) (fun _ _ _ h => h) (yields_bldZ (by rfl) (.tmp 18) rfl _ 1001 rfl) HTR.out ?_
      simp only [List.getElem_toArray, List.getElem_cons_succ, List.getElem_cons_zero, Act.put, List.setIfInBounds_toArray, List.set_cons_zero, List.set_cons_succ]
      refine wpAnyH_ready (rs := [7]) (by kernel_rfl) (by simp) ?_
      refine AllReadyH.cons rfl (fun K hK => ?_) AllReadyH.nil
      refine step_mk (by rfl) (.const (.int .i64 1000)) (.const (.int .i64 1000)) rfl 1000 rfl rfl (by omega) ?_
      refine hK.out _ _ HTR.out (fun _ => ?_)
      clear hK K
      simp only [List.getElem_toArray, List.getElem_cons_succ, List.getElem_cons_zero, Act.put, List.setIfInBounds_toArray, List.set_cons_zero, List.set_cons_succ]
      refine wpAnyH_take (i := 8) (v := .agg (qc 1 0 (zerS (wd.alloc (.cells (zeroBytes 1001) 5)).heap.size 1000))) rfl (by kernel_rfl) (by kernel_rfl) (by kernel_rfl) (fun _ _ _ h => h) (yields_bldZ (by rfl) (.tmp 16) rfl _ 1000 rfl) HTR.out ?_
      simp only [List.getElem_toArray, List.getElem_cons_succ, List.getElem_cons_zero, Act.put, List.setIfInBounds_toArray, List.set_cons_zero, List.set_cons_succ]
      refine wpAnyH_ready (rs := [11]) (by kernel_rfl) (by simp) ?_
      refine AllReadyH.cons rfl (fun K hK => ?_) AllReadyH.nil
      refine step_nine (by rfl) (wd.alloc (.cells (zeroBytes 1001) 5)).heap.size wd.heap.size (.tmp 9) (.tmp 10) (.tmp 11) (.tmp 12) (.tmp 13) (.tmp 14) (.tmp 15) (.tmp 17) (.tmp 19) rfl rfl rfl rfl rfl rfl rfl rfl rfl rfl ?_
      refine hK.out _ _ HTR.out (fun _ => ?_)
      clear hK K
      simp only [List.getElem_toArray, List.getElem_cons_succ, List.getElem_cons_zero, Act.put, List.setIfInBounds_toArray, List.set_cons_zero, List.set_cons_succ]
      refine wpAnyH_take (i := 12) (v := .slice (some ⟨((wd.alloc (.cells (zeroBytes 1001) 5)).alloc (.cells (zeroBytes 1000) 5)).heap.size, 0, none⟩) 9 9) rfl (by kernel_rfl) (by kernel_rfl) (by kernel_rfl) (fun _ _ _ h => h) (Or.inl ⟨by rfl, (fun W _ => by go_simp)⟩) HTR.out ?_
      simp only [List.getElem_toArray, List.getElem_cons_succ, List.getElem_cons_zero, Act.put, List.setIfInBounds_toArray, List.set_cons_zero, List.set_cons_succ]
      refine wpAnyH_done (by kernel_rfl) ?_ _
      have BW : Below wd.heap.size wd (((wd.alloc (.cells (zeroBytes 1001) 5)).alloc (.cells (zeroBytes 1000) 5)).alloc (.cells (cellsQ ((wd.alloc (.cells (zeroBytes 1001) 5)).heap.size) (wd.heap.size)) 24)) := (((Below.refl _ _).alloc (Nat.le_refl _) _).alloc (by simp) _).alloc (by simp; omega) _
      have HTQ := has_new ((wd.alloc (.cells (zeroBytes 1001) 5)).alloc (.cells (zeroBytes 1000) 5)) 24 (cellsQ ((wd.alloc (.cells (zeroBytes 1001) 5)).heap.size) (wd.heap.size))
      have HZP : Has (((wd.alloc (.cells (zeroBytes 1001) 5)).alloc (.cells (zeroBytes 1000) 5)).alloc (.cells (cellsQ ((wd.alloc (.cells (zeroBytes 1001) 5)).heap.size) (wd.heap.size)) 24)) (wd.alloc (.cells (zeroBytes 1001) 5)).heap.size 5 (zeroBytes 1000) := (has_new (wd.alloc (.cells (zeroBytes 1001) 5)) 5 (zeroBytes 1000)).more _
      have HZQ : Has (((wd.alloc (.cells (zeroBytes 1001) 5)).alloc (.cells (zeroBytes 1000) 5)).alloc (.cells (cellsQ ((wd.alloc (.cells (zeroBytes 1001) 5)).heap.size) (wd.heap.size)) 24)) wd.heap.size 5 (zeroBytes 1001) := ((has_new wd 5 (zeroBytes 1001)).more _).more _
      obtain ⟨p, hp⟩ : ∃ p, (wd.alloc (.cells (zeroBytes 1001) 5)).heap.size = p := ⟨_, rfl⟩
      obtain ⟨q, hq⟩ : ∃ q, wd.heap.size = q := ⟨_, rfl⟩
      obtain ⟨g, hg⟩ : ∃ g, ((wd.alloc (.cells (zeroBytes 1001) 5)).alloc (.cells (zeroBytes 1000) 5)).heap.size = g := ⟨_, rfl⟩
      have CE := CD.out.trans (BW.mono CD.out.size)
      clear BW CD
      try rw [hp] at CE
      try rw [hq] at CE
      try rw [hp] at HTQ
      try rw [hq] at HTQ
      try rw [hg] at HTQ
      try rw [hp] at HZP
      try rw [hq] at HZP
      try rw [hp] at HZQ
      try rw [hq] at HZQ
      try rw [hp]
      try rw [hq]
      try rw [hg]
      generalize hWW : ((wd.alloc (.cells (zeroBytes 1001) 5)).alloc (.cells (zeroBytes 1000) 5)).alloc (.cells (cellsQ p q) 24) = W at *
      have C2 := Lib.hid CE
      have T2 := Lib.hid HTQ
      have P2 := Lib.hid HZP
      have Q2 := Lib.hid HZQ
      clear hWW hp hq hg CE HTQ HZP HZQ HTR
      go_wp2_with (first
        | (refine wpList_nineR rfl (.tmp 22) (.tmp 23) (.tmp 24) (.tmp 25) (.tmp 26) (.tmp 27) (.tmp 28) (.tmp 29) (.tmp 30) rfl rfl rfl rfl rfl rfl rfl rfl rfl rfl ?_))
      go_ret
      exact ⟨rfl, C2.out.trans ((((((Below.refl _ _).alloc (Nat.le_refl _) _).alloc (by simp) _).alloc (by simp; omega) _)).mono C2.out.size)⟩
end Go.Proofs.Ytjfgnoidoeaaeaa.requestLimits
