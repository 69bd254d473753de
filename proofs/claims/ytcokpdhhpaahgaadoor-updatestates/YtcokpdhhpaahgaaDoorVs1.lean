/-
  Walks of the law UpdateStates, one for each phase, kind of request (and number of trials); conditions: none.
-/
import Derived.Test.YtcokpdhhpaahgaaDoorVg
namespace Go.Proofs.YtcokpdhhpaahgaaDoor.updateStates
open Go.RowKit
set_option linter.unusedVariables false
set_option linter.unusedSimpArgs false

set_option maxRecDepth 100000 in
set_option maxHeartbeats 40000000 in
theorem st_1_2 (t : Int) (w : World) (t0 : 0 ≤ t) (t2 : t ≤ 2) : Calls Tryd.prog 7 #[.int .i64 1, .int .i64 2, .int .i64 t] w fun e w' => e = .returned (.bool true) ∧ Below w.heap.size w w' := by
  have hz27 := zero27_run
  have hz36 := zero36_run
  have hz30 := zero30_run
  have dt0 : decide (t < 0) = false := decide_eq_false (by omega)
  have dt2 : decide (2 < t) = false := decide_eq_false (by omega)
  clear t0 t2
  have HLV := Lib.hid (alive_any w)
  obtain ⟨m, hm⟩ : ∃ m : Mt, m = ⟨0, imA, zeroI, 4, 1, imB, 0, 0⟩ := ⟨_, rfl⟩
  have hok : m.Ok := by rw [hm]; exact fin_ok_1
  have hri : rightB m = true := by rw [hm]; kernel_rfl
  have hxo : (stepM m 2 0 zs7 zeroF 1).1.Ok := step_ok hok zs7_byt
  have hxe : (stepM m 2 0 zs7 zeroF 1).2.err = 0 := by rw [hm]; kernel_rfl
  have hxf : Fine m 2 (stepM m 2 0 zs7 zeroF 1) := fine_step hri
  have HA0 : ∀ z B, Has B z 5 (zeroBytes 7) → Calls Tryd.prog 10 #[.agg m.cells, .agg (Rq.cells ⟨2, 0, some ⟨z, 0, none⟩, 7, 7, zs7⟩), .agg zeroF.cells, .int .i64 1] B (Does (stepM m 2 0 zs7 zeroF 1) B) := fun z B hz => do_any m ⟨2, 0, some ⟨z, 0, none⟩, 7, 7, zs7⟩ zeroF 1 B hok zeroF_ok i64_one (by show I64 2; unfold I64; omega) i64_zero (made_seven hz) (Nat.le_refl _) (by show 7 ≤ 1000000; omega)
  obtain ⟨x, hx⟩ : ∃ x, stepM m 2 0 zs7 zeroF 1 = x := ⟨_, rfl⟩
  rw [hx] at hxo hxe hxf
  simp only [hx] at HA0
  clear hx hri
  obtain ⟨xm, xe, xn, xg⟩ := x
  simp only at hxo hxe
  subst hxe
  have HR := Lib.hid (fun W => docRight_is (m := xm) W hxo true hxf.right)
  have HA := Lib.hid HA0
  have XO := Lib.hid hxo
  clear HA0 hxf hxo
  have EM := Lib.hid hm
  clear hm
  go_enter Tryd.func7, Tryd.ntmps7
  go_wp2_with (first
    | (go_at_call 9; (with_reducible refine HLV.out.mono ?_); rintro e w1 ⟨rfl, b1⟩; have G := Lib.hid (sq_new b1); have IA := Lib.hid (rfl : w1.heap.size = w1.heap.size); clear b1 HLV)
    | (refine wpList_bld 27 _ rfl (Mt.cells ⟨0, zeroI, zeroI, 4, 1, zeroI, 0, 0⟩) (by kernel_rfl) rfl ?_)
    | (refine wpList_bld 24 _ rfl imA.cells (by kernel_rfl) rfl ?_; clear IA)
    | (refine wpList_bld 24 _ rfl imB.cells (by kernel_rfl) rfl ?_)
    | (refine wpList_bld 30 _ rfl (Rq.cells ⟨2, 0, none, 0, 0, []⟩) (by kernel_rfl) rfl ?_)
    | (refine wpList_row rfl 27 _ _ rfl w1.heap.size _ rfl rfl 27 _ G.out.hm (size27 (started_ok (k := 1) (by unfold I64; omega))) (old27 G.out.ok (started_ok (k := 1) (by unfold I64; omega))) (mt_all _) ?_; intro wa hs on; replace G := Lib.hid (G.out.set (started_ok (by unfold I64; omega)) hs on); clear hs on)
    | (refine wpList_st24 rfl _ _ rfl w1.heap.size 1 imA rfl rfl _ _ G.out.ok imA_ok G.out.hm (mt_put0 _ G.out.ok imA_ok) (by omega) ?_; intro wx hs on; replace G := Lib.hid (G.out.set (ok_h0 G.out.ok imA_ok) hs on); clear hs on)
    | (refine wpList_st24 rfl _ _ rfl w1.heap.size 71 imB rfl rfl _ _ G.out.ok imB_ok G.out.hm (mt_put2 _ G.out.ok imB_ok) (by omega) ?_; intro wy hs on; replace G := Lib.hid (G.out.set (ok_com G.out.ok imB_ok) hs on); clear hs on)
    | (refine wpList_st3 rfl _ _ rfl w1.heap.size 105 0 rfl rfl _ _ G.out.hm (by omega) (mt_set105 _ G.out.ok) G.out.ok ?_; intro wq hs on; replace G := Lib.hid (G.out.set (ok_gott G.out.ok (by unfold I64; omega)) hs on); clear hs on; replace G := Lib.hid (show Sq w w1.heap.size m _ from EM.out ▸ G.out); replace G := Lib.hid G.out.req)
    | (refine wpList_row rfl 30 _ (.tmp 63) rfl wq.heap.size (Rq.cells ⟨2, 0, none, 0, 0, []⟩) rfl rfl 30 _ G.out.hq (size30 _) rfl (rq_all _) ?_; intro w3 hs on; replace G := Lib.hid (G.out.setq (k := ⟨2, 0, none, 0, 0, []⟩) hs on); clear hs on; have LZ := Lib.hid G.out.hq.size; have Z := Lib.hid (has_new w3 5 (zeroBytes 7)); replace G := Lib.hid (G.out.more (.cells (zeroBytes 7) 5)))
    | (refine wpList_mk rfl _ _ rfl 7 rfl rfl (by omega) ?_)
    | (refine wpList_st28 rfl _ _ rfl wq.heap.size (some ⟨w3.heap.size, 0, none⟩) 7 7 zs7 rfl rfl ⟨2, 0, none, 0, 0, []⟩ G.out.hq ?_; intro w4 hs on; replace G := Lib.hid (G.out.setq (k := ⟨2, 0, some ⟨w3.heap.size, 0, none⟩, 7, 7, zs7⟩) hs on); replace Z := Lib.hid (Has.only Z.out on (by have := LZ.out; omega)); clear hs on)
    | (refine wpList_bld 32 _ rfl zeroF.cells (by kernel_rfl) rfl ?_)
    | (refine wpList_ld 27 _ rfl _ _ (ld27 G.out.hm G.out.ok) rfl rfl ?_)
    | (refine wpList_ld 30 _ rfl _ _ (seen_q G.out.hq).all rfl rfl ?_)
    | (go_at_call 10; (with_reducible refine (HA.out _ _ Z.out).mono ?_); rintro e wc ⟨rfl, b1⟩; replace G := Lib.hid (G.out.kept b1); have LT := Lib.hid G.out.hq.size; have R := Lib.hid (nz_new wc); replace G := Lib.hid G.out.two; clear b1 HA)
    | (refine wpList_row rfl 27 _ _ rfl wc.heap.size _ rfl rfl 27 _ R.out.hm (size27 XO.out) (old27 R.out.ok XO.out) (mt_all _) ?_; intro w6 hs on; replace R := Lib.hid (R.out.setm XO.out hs on); replace G := Lib.hid (G.out.only on LT.out); clear hs on)
    | (refine wpList_row rfl 36 _ _ rfl (wc.heap.size + 1) _ rfl rfl 36 _ R.out.hr (size36 _) rfl (rp_all _) ?_; intro w7 hs on; replace R := Lib.hid (R.out.setr hs on); replace G := Lib.hid (G.out.only on (by have := LT.out; omega)); clear hs on)
    | (refine wpList_ld 34 _ rfl _ _ (ld34' (R.out.hr.at 0)) rfl rfl ?_)
    | (refine wpList_ld 27 _ rfl _ _ (ld27 R.out.hm R.out.ok) rfl rfl ?_)
    | (go_at_call 16; (with_reducible refine (HR.out _).mono ?_); rintro e w8 ⟨rfl, b1⟩; replace G := Lib.hid (G.out.kept b1); clear b1 HR))
  go_ret
  exact ⟨rfl, G.out.hb⟩
set_option maxRecDepth 100000 in
set_option maxHeartbeats 40000000 in
theorem st_1_3 (t : Int) (w : World) (t0 : 0 ≤ t) (t2 : t ≤ 2) : Calls Tryd.prog 7 #[.int .i64 1, .int .i64 3, .int .i64 t] w fun e w' => e = .returned (.bool true) ∧ Below w.heap.size w w' := by
  have hz27 := zero27_run
  have hz36 := zero36_run
  have hz30 := zero30_run
  have dt0 : decide (t < 0) = false := decide_eq_false (by omega)
  have dt2 : decide (2 < t) = false := decide_eq_false (by omega)
  clear t0 t2
  have HLV := Lib.hid (alive_any w)
  obtain ⟨m, hm⟩ : ∃ m : Mt, m = ⟨0, imA, zeroI, 4, 1, imB, 0, 0⟩ := ⟨_, rfl⟩
  have hok : m.Ok := by rw [hm]; exact fin_ok_1
  have hri : rightB m = true := by rw [hm]; kernel_rfl
  have hxo : (stepM m 3 0 [] zeroF 1).1.Ok := step_ok hok byt_nil
  have hxe : (stepM m 3 0 [] zeroF 1).2.err = 12 := by rw [hm]; kernel_rfl
  have hxf : Fine m 3 (stepM m 3 0 [] zeroF 1) := fine_step hri
  have HA0 : ∀ B, Calls Tryd.prog 10 #[.agg m.cells, .agg (Rq.cells ⟨3, 0, none, 0, 0, []⟩), .agg zeroF.cells, .int .i64 1] B (Does (stepM m 3 0 [] zeroF 1) B) := fun B => do_any m ⟨3, 0, none, 0, 0, []⟩ zeroF 1 B hok zeroF_ok i64_one (by show I64 3; unfold I64; omega) i64_zero (row_none0 B) (Nat.le_refl _) (Nat.zero_le _)
  obtain ⟨x, hx⟩ : ∃ x, stepM m 3 0 [] zeroF 1 = x := ⟨_, rfl⟩
  rw [hx] at hxo hxe hxf
  simp only [hx] at HA0
  clear hx hri
  obtain ⟨xm, xe, xn, xg⟩ := x
  simp only at hxo hxe
  subst hxe
  obtain rfl : xm = m := hxf.err (by show (12 : Int) ≠ 0; omega)
  have HR := Lib.hid (fun W => docRight_is (m := xm) W hxo true hxf.right)
  have HA := Lib.hid HA0
  have XO := Lib.hid hxo
  clear HA0 hxf hxo
  clear hok
  have EM := Lib.hid hm
  clear hm
  go_enter Tryd.func7, Tryd.ntmps7
  go_wp2_with (first
    | (go_at_call 9; (with_reducible refine HLV.out.mono ?_); rintro e w1 ⟨rfl, b1⟩; have G := Lib.hid (sq_new b1); have IA := Lib.hid (rfl : w1.heap.size = w1.heap.size); clear b1 HLV)
    | (refine wpList_bld 27 _ rfl (Mt.cells ⟨0, zeroI, zeroI, 4, 1, zeroI, 0, 0⟩) (by kernel_rfl) rfl ?_)
    | (refine wpList_bld 24 _ rfl imA.cells (by kernel_rfl) rfl ?_; clear IA)
    | (refine wpList_bld 24 _ rfl imB.cells (by kernel_rfl) rfl ?_)
    | (refine wpList_bld 30 _ rfl (Rq.cells ⟨3, 0, none, 0, 0, []⟩) (by kernel_rfl) rfl ?_)
    | (refine wpList_row rfl 27 _ _ rfl w1.heap.size _ rfl rfl 27 _ G.out.hm (size27 (started_ok (k := 1) (by unfold I64; omega))) (old27 G.out.ok (started_ok (k := 1) (by unfold I64; omega))) (mt_all _) ?_; intro wa hs on; replace G := Lib.hid (G.out.set (started_ok (by unfold I64; omega)) hs on); clear hs on)
    | (refine wpList_st24 rfl _ _ rfl w1.heap.size 1 imA rfl rfl _ _ G.out.ok imA_ok G.out.hm (mt_put0 _ G.out.ok imA_ok) (by omega) ?_; intro wx hs on; replace G := Lib.hid (G.out.set (ok_h0 G.out.ok imA_ok) hs on); clear hs on)
    | (refine wpList_st24 rfl _ _ rfl w1.heap.size 71 imB rfl rfl _ _ G.out.ok imB_ok G.out.hm (mt_put2 _ G.out.ok imB_ok) (by omega) ?_; intro wy hs on; replace G := Lib.hid (G.out.set (ok_com G.out.ok imB_ok) hs on); clear hs on)
    | (refine wpList_st3 rfl _ _ rfl w1.heap.size 105 0 rfl rfl _ _ G.out.hm (by omega) (mt_set105 _ G.out.ok) G.out.ok ?_; intro wq hs on; replace G := Lib.hid (G.out.set (ok_gott G.out.ok (by unfold I64; omega)) hs on); clear hs on; replace G := Lib.hid (show Sq w w1.heap.size xm _ from EM.out ▸ G.out); replace G := Lib.hid G.out.req)
    | (refine wpList_row rfl 30 _ (.tmp 63) rfl wq.heap.size (Rq.cells ⟨3, 0, none, 0, 0, []⟩) rfl rfl 30 _ G.out.hq (size30 _) rfl (rq_all _) ?_; intro w3 hs on; replace G := Lib.hid (G.out.setq (k := ⟨3, 0, none, 0, 0, []⟩) hs on); clear hs on)
    | (refine wpList_bld 32 _ rfl zeroF.cells (by kernel_rfl) rfl ?_)
    | (refine wpList_ld 27 _ rfl _ _ (ld27 G.out.hm G.out.ok) rfl rfl ?_)
    | (refine wpList_ld 30 _ rfl _ _ (seen_q G.out.hq).all rfl rfl ?_)
    | (go_at_call 10; (with_reducible refine (HA.out _).mono ?_); rintro e wc ⟨rfl, b1⟩; replace G := Lib.hid (G.out.kept b1); have LT := Lib.hid G.out.hq.size; have R := Lib.hid (nz_new wc); replace G := Lib.hid G.out.two; clear b1 HA)
    | (refine wpList_row rfl 27 _ _ rfl wc.heap.size _ rfl rfl 27 _ R.out.hm (size27 XO.out) (old27 R.out.ok XO.out) (mt_all _) ?_; intro w6 hs on; replace R := Lib.hid (R.out.setm XO.out hs on); replace G := Lib.hid (G.out.only on LT.out); clear hs on)
    | (refine wpList_row rfl 36 _ _ rfl (wc.heap.size + 1) _ rfl rfl 36 _ R.out.hr (size36 _) rfl (rp_all _) ?_; intro w7 hs on; replace R := Lib.hid (R.out.setr hs on); replace G := Lib.hid (G.out.only on (by have := LT.out; omega)); clear hs on)
    | (refine wpList_ld 34 _ rfl _ _ (ld34' (R.out.hr.at 0)) rfl rfl ?_)
    | (refine wpList_ld 27 _ rfl _ _ (ld27 R.out.hm R.out.ok) rfl rfl ?_)
    | (refine wpList_eqT _ _ rfl xm xm rfl rfl XO.out rfl rfl ?_)
    | (go_at_call 16; (with_reducible refine (HR.out _).mono ?_); rintro e w8 ⟨rfl, b1⟩; replace G := Lib.hid (G.out.kept b1); clear b1 HR))
  go_ret
  exact ⟨rfl, G.out.hb⟩
set_option maxRecDepth 100000 in
set_option maxHeartbeats 40000000 in
theorem st_1_4 (t : Int) (w : World) (t0 : 0 ≤ t) (t2 : t ≤ 2) : Calls Tryd.prog 7 #[.int .i64 1, .int .i64 4, .int .i64 t] w fun e w' => e = .returned (.bool true) ∧ Below w.heap.size w w' := by
  have hz27 := zero27_run
  have hz36 := zero36_run
  have hz30 := zero30_run
  have dt0 : decide (t < 0) = false := decide_eq_false (by omega)
  have dt2 : decide (2 < t) = false := decide_eq_false (by omega)
  clear t0 t2
  have HLV := Lib.hid (alive_any w)
  obtain ⟨m, hm⟩ : ∃ m : Mt, m = ⟨0, imA, zeroI, 4, 1, imB, 0, 0⟩ := ⟨_, rfl⟩
  have hok : m.Ok := by rw [hm]; exact fin_ok_1
  have hri : rightB m = true := by rw [hm]; kernel_rfl
  have hxo : (stepM m 4 0 [] zeroF 1).1.Ok := step_ok hok byt_nil
  have hxe : (stepM m 4 0 [] zeroF 1).2.err = 11 := by rw [hm]; kernel_rfl
  have hxf : Fine m 4 (stepM m 4 0 [] zeroF 1) := fine_step hri
  have HA0 : ∀ B, Calls Tryd.prog 10 #[.agg m.cells, .agg (Rq.cells ⟨4, 0, none, 0, 0, []⟩), .agg zeroF.cells, .int .i64 1] B (Does (stepM m 4 0 [] zeroF 1) B) := fun B => do_any m ⟨4, 0, none, 0, 0, []⟩ zeroF 1 B hok zeroF_ok i64_one (by show I64 4; unfold I64; omega) i64_zero (row_none0 B) (Nat.le_refl _) (Nat.zero_le _)
  obtain ⟨x, hx⟩ : ∃ x, stepM m 4 0 [] zeroF 1 = x := ⟨_, rfl⟩
  rw [hx] at hxo hxe hxf
  simp only [hx] at HA0
  clear hx hri
  obtain ⟨xm, xe, xn, xg⟩ := x
  simp only at hxo hxe
  subst hxe
  obtain rfl : xm = m := hxf.err (by show (11 : Int) ≠ 0; omega)
  have HR := Lib.hid (fun W => docRight_is (m := xm) W hxo true hxf.right)
  have HA := Lib.hid HA0
  have XO := Lib.hid hxo
  clear HA0 hxf hxo
  clear hok
  have EM := Lib.hid hm
  clear hm
  go_enter Tryd.func7, Tryd.ntmps7
  go_wp2_with (first
    | (go_at_call 9; (with_reducible refine HLV.out.mono ?_); rintro e w1 ⟨rfl, b1⟩; have G := Lib.hid (sq_new b1); have IA := Lib.hid (rfl : w1.heap.size = w1.heap.size); clear b1 HLV)
    | (refine wpList_bld 27 _ rfl (Mt.cells ⟨0, zeroI, zeroI, 4, 1, zeroI, 0, 0⟩) (by kernel_rfl) rfl ?_)
    | (refine wpList_bld 24 _ rfl imA.cells (by kernel_rfl) rfl ?_; clear IA)
    | (refine wpList_bld 24 _ rfl imB.cells (by kernel_rfl) rfl ?_)
    | (refine wpList_bld 30 _ rfl (Rq.cells ⟨4, 0, none, 0, 0, []⟩) (by kernel_rfl) rfl ?_)
    | (refine wpList_row rfl 27 _ _ rfl w1.heap.size _ rfl rfl 27 _ G.out.hm (size27 (started_ok (k := 1) (by unfold I64; omega))) (old27 G.out.ok (started_ok (k := 1) (by unfold I64; omega))) (mt_all _) ?_; intro wa hs on; replace G := Lib.hid (G.out.set (started_ok (by unfold I64; omega)) hs on); clear hs on)
    | (refine wpList_st24 rfl _ _ rfl w1.heap.size 1 imA rfl rfl _ _ G.out.ok imA_ok G.out.hm (mt_put0 _ G.out.ok imA_ok) (by omega) ?_; intro wx hs on; replace G := Lib.hid (G.out.set (ok_h0 G.out.ok imA_ok) hs on); clear hs on)
    | (refine wpList_st24 rfl _ _ rfl w1.heap.size 71 imB rfl rfl _ _ G.out.ok imB_ok G.out.hm (mt_put2 _ G.out.ok imB_ok) (by omega) ?_; intro wy hs on; replace G := Lib.hid (G.out.set (ok_com G.out.ok imB_ok) hs on); clear hs on)
    | (refine wpList_st3 rfl _ _ rfl w1.heap.size 105 0 rfl rfl _ _ G.out.hm (by omega) (mt_set105 _ G.out.ok) G.out.ok ?_; intro wq hs on; replace G := Lib.hid (G.out.set (ok_gott G.out.ok (by unfold I64; omega)) hs on); clear hs on; replace G := Lib.hid (show Sq w w1.heap.size xm _ from EM.out ▸ G.out); replace G := Lib.hid G.out.req)
    | (refine wpList_row rfl 30 _ (.tmp 63) rfl wq.heap.size (Rq.cells ⟨4, 0, none, 0, 0, []⟩) rfl rfl 30 _ G.out.hq (size30 _) rfl (rq_all _) ?_; intro w3 hs on; replace G := Lib.hid (G.out.setq (k := ⟨4, 0, none, 0, 0, []⟩) hs on); clear hs on)
    | (refine wpList_bld 32 _ rfl zeroF.cells (by kernel_rfl) rfl ?_)
    | (refine wpList_ld 27 _ rfl _ _ (ld27 G.out.hm G.out.ok) rfl rfl ?_)
    | (refine wpList_ld 30 _ rfl _ _ (seen_q G.out.hq).all rfl rfl ?_)
    | (go_at_call 10; (with_reducible refine (HA.out _).mono ?_); rintro e wc ⟨rfl, b1⟩; replace G := Lib.hid (G.out.kept b1); have LT := Lib.hid G.out.hq.size; have R := Lib.hid (nz_new wc); replace G := Lib.hid G.out.two; clear b1 HA)
    | (refine wpList_row rfl 27 _ _ rfl wc.heap.size _ rfl rfl 27 _ R.out.hm (size27 XO.out) (old27 R.out.ok XO.out) (mt_all _) ?_; intro w6 hs on; replace R := Lib.hid (R.out.setm XO.out hs on); replace G := Lib.hid (G.out.only on LT.out); clear hs on)
    | (refine wpList_row rfl 36 _ _ rfl (wc.heap.size + 1) _ rfl rfl 36 _ R.out.hr (size36 _) rfl (rp_all _) ?_; intro w7 hs on; replace R := Lib.hid (R.out.setr hs on); replace G := Lib.hid (G.out.only on (by have := LT.out; omega)); clear hs on)
    | (refine wpList_ld 34 _ rfl _ _ (ld34' (R.out.hr.at 0)) rfl rfl ?_)
    | (refine wpList_ld 27 _ rfl _ _ (ld27 R.out.hm R.out.ok) rfl rfl ?_)
    | (refine wpList_eqT _ _ rfl xm xm rfl rfl XO.out rfl rfl ?_)
    | (go_at_call 16; (with_reducible refine (HR.out _).mono ?_); rintro e w8 ⟨rfl, b1⟩; replace G := Lib.hid (G.out.kept b1); clear b1 HR))
  go_ret
  exact ⟨rfl, G.out.hb⟩
set_option maxRecDepth 100000 in
set_option maxHeartbeats 40000000 in
theorem st_1_5 (t : Int) (w : World) (t0 : 0 ≤ t) (t2 : t ≤ 2) : Calls Tryd.prog 7 #[.int .i64 1, .int .i64 5, .int .i64 t] w fun e w' => e = .returned (.bool true) ∧ Below w.heap.size w w' := by
  have hz27 := zero27_run
  have hz36 := zero36_run
  have hz30 := zero30_run
  have dt0 : decide (t < 0) = false := decide_eq_false (by omega)
  have dt2 : decide (2 < t) = false := decide_eq_false (by omega)
  clear t0 t2
  have HLV := Lib.hid (alive_any w)
  obtain ⟨m, hm⟩ : ∃ m : Mt, m = ⟨0, imA, zeroI, 4, 1, imB, 0, 0⟩ := ⟨_, rfl⟩
  have hok : m.Ok := by rw [hm]; exact fin_ok_1
  have hri : rightB m = true := by rw [hm]; kernel_rfl
  have hxo : (stepM m 5 0 [] zeroF 1).1.Ok := step_ok hok byt_nil
  have hxe : (stepM m 5 0 [] zeroF 1).2.err = 0 := by rw [hm]; kernel_rfl
  have hxf : Fine m 5 (stepM m 5 0 [] zeroF 1) := fine_step hri
  have HA0 : ∀ B, Calls Tryd.prog 10 #[.agg m.cells, .agg (Rq.cells ⟨5, 0, none, 0, 0, []⟩), .agg zeroF.cells, .int .i64 1] B (Does (stepM m 5 0 [] zeroF 1) B) := fun B => do_any m ⟨5, 0, none, 0, 0, []⟩ zeroF 1 B hok zeroF_ok i64_one (by show I64 5; unfold I64; omega) i64_zero (row_none0 B) (Nat.le_refl _) (Nat.zero_le _)
  obtain ⟨x, hx⟩ : ∃ x, stepM m 5 0 [] zeroF 1 = x := ⟨_, rfl⟩
  rw [hx] at hxo hxe hxf
  simp only [hx] at HA0
  clear hx hri
  obtain ⟨xm, xe, xn, xg⟩ := x
  simp only at hxo hxe
  subst hxe
  have HR := Lib.hid (fun W => docRight_is (m := xm) W hxo true hxf.right)
  have HA := Lib.hid HA0
  have XO := Lib.hid hxo
  clear HA0 hxf hxo
  have EM := Lib.hid hm
  clear hm
  go_enter Tryd.func7, Tryd.ntmps7
  go_wp2_with (first
    | (go_at_call 9; (with_reducible refine HLV.out.mono ?_); rintro e w1 ⟨rfl, b1⟩; have G := Lib.hid (sq_new b1); have IA := Lib.hid (rfl : w1.heap.size = w1.heap.size); clear b1 HLV)
    | (refine wpList_bld 27 _ rfl (Mt.cells ⟨0, zeroI, zeroI, 4, 1, zeroI, 0, 0⟩) (by kernel_rfl) rfl ?_)
    | (refine wpList_bld 24 _ rfl imA.cells (by kernel_rfl) rfl ?_; clear IA)
    | (refine wpList_bld 24 _ rfl imB.cells (by kernel_rfl) rfl ?_)
    | (refine wpList_bld 30 _ rfl (Rq.cells ⟨5, 0, none, 0, 0, []⟩) (by kernel_rfl) rfl ?_)
    | (refine wpList_row rfl 27 _ _ rfl w1.heap.size _ rfl rfl 27 _ G.out.hm (size27 (started_ok (k := 1) (by unfold I64; omega))) (old27 G.out.ok (started_ok (k := 1) (by unfold I64; omega))) (mt_all _) ?_; intro wa hs on; replace G := Lib.hid (G.out.set (started_ok (by unfold I64; omega)) hs on); clear hs on)
    | (refine wpList_st24 rfl _ _ rfl w1.heap.size 1 imA rfl rfl _ _ G.out.ok imA_ok G.out.hm (mt_put0 _ G.out.ok imA_ok) (by omega) ?_; intro wx hs on; replace G := Lib.hid (G.out.set (ok_h0 G.out.ok imA_ok) hs on); clear hs on)
    | (refine wpList_st24 rfl _ _ rfl w1.heap.size 71 imB rfl rfl _ _ G.out.ok imB_ok G.out.hm (mt_put2 _ G.out.ok imB_ok) (by omega) ?_; intro wy hs on; replace G := Lib.hid (G.out.set (ok_com G.out.ok imB_ok) hs on); clear hs on)
    | (refine wpList_st3 rfl _ _ rfl w1.heap.size 105 0 rfl rfl _ _ G.out.hm (by omega) (mt_set105 _ G.out.ok) G.out.ok ?_; intro wq hs on; replace G := Lib.hid (G.out.set (ok_gott G.out.ok (by unfold I64; omega)) hs on); clear hs on; replace G := Lib.hid (show Sq w w1.heap.size m _ from EM.out ▸ G.out); replace G := Lib.hid G.out.req)
    | (refine wpList_row rfl 30 _ (.tmp 63) rfl wq.heap.size (Rq.cells ⟨5, 0, none, 0, 0, []⟩) rfl rfl 30 _ G.out.hq (size30 _) rfl (rq_all _) ?_; intro w3 hs on; replace G := Lib.hid (G.out.setq (k := ⟨5, 0, none, 0, 0, []⟩) hs on); clear hs on)
    | (refine wpList_bld 32 _ rfl zeroF.cells (by kernel_rfl) rfl ?_)
    | (refine wpList_ld 27 _ rfl _ _ (ld27 G.out.hm G.out.ok) rfl rfl ?_)
    | (refine wpList_ld 30 _ rfl _ _ (seen_q G.out.hq).all rfl rfl ?_)
    | (go_at_call 10; (with_reducible refine (HA.out _).mono ?_); rintro e wc ⟨rfl, b1⟩; replace G := Lib.hid (G.out.kept b1); have LT := Lib.hid G.out.hq.size; have R := Lib.hid (nz_new wc); replace G := Lib.hid G.out.two; clear b1 HA)
    | (refine wpList_row rfl 27 _ _ rfl wc.heap.size _ rfl rfl 27 _ R.out.hm (size27 XO.out) (old27 R.out.ok XO.out) (mt_all _) ?_; intro w6 hs on; replace R := Lib.hid (R.out.setm XO.out hs on); replace G := Lib.hid (G.out.only on LT.out); clear hs on)
    | (refine wpList_row rfl 36 _ _ rfl (wc.heap.size + 1) _ rfl rfl 36 _ R.out.hr (size36 _) rfl (rp_all _) ?_; intro w7 hs on; replace R := Lib.hid (R.out.setr hs on); replace G := Lib.hid (G.out.only on (by have := LT.out; omega)); clear hs on)
    | (refine wpList_ld 34 _ rfl _ _ (ld34' (R.out.hr.at 0)) rfl rfl ?_)
    | (refine wpList_ld 27 _ rfl _ _ (ld27 R.out.hm R.out.ok) rfl rfl ?_)
    | (go_at_call 16; (with_reducible refine (HR.out _).mono ?_); rintro e w8 ⟨rfl, b1⟩; replace G := Lib.hid (G.out.kept b1); clear b1 HR))
  go_ret
  exact ⟨rfl, G.out.hb⟩
set_option maxRecDepth 100000 in
set_option maxHeartbeats 40000000 in
theorem st_1_6 (t : Int) (w : World) (t0 : 0 ≤ t) (t2 : t ≤ 2) : Calls Tryd.prog 7 #[.int .i64 1, .int .i64 6, .int .i64 t] w fun e w' => e = .returned (.bool true) ∧ Below w.heap.size w w' := by
  have hz27 := zero27_run
  have hz36 := zero36_run
  have hz30 := zero30_run
  have dt0 : decide (t < 0) = false := decide_eq_false (by omega)
  have dt2 : decide (2 < t) = false := decide_eq_false (by omega)
  clear t0 t2
  have HLV := Lib.hid (alive_any w)
  obtain ⟨m, hm⟩ : ∃ m : Mt, m = ⟨0, imA, zeroI, 4, 1, imB, 0, 0⟩ := ⟨_, rfl⟩
  have hok : m.Ok := by rw [hm]; exact fin_ok_1
  have hri : rightB m = true := by rw [hm]; kernel_rfl
  have hxo : (stepM m 6 0 [] zeroF 1).1.Ok := step_ok hok byt_nil
  have hxe : (stepM m 6 0 [] zeroF 1).2.err = 11 := by rw [hm]; kernel_rfl
  have hxf : Fine m 6 (stepM m 6 0 [] zeroF 1) := fine_step hri
  have HA0 : ∀ B, Calls Tryd.prog 10 #[.agg m.cells, .agg (Rq.cells ⟨6, 0, none, 0, 0, []⟩), .agg zeroF.cells, .int .i64 1] B (Does (stepM m 6 0 [] zeroF 1) B) := fun B => do_any m ⟨6, 0, none, 0, 0, []⟩ zeroF 1 B hok zeroF_ok i64_one (by show I64 6; unfold I64; omega) i64_zero (row_none0 B) (Nat.le_refl _) (Nat.zero_le _)
  obtain ⟨x, hx⟩ : ∃ x, stepM m 6 0 [] zeroF 1 = x := ⟨_, rfl⟩
  rw [hx] at hxo hxe hxf
  simp only [hx] at HA0
  clear hx hri
  obtain ⟨xm, xe, xn, xg⟩ := x
  simp only at hxo hxe
  subst hxe
  obtain rfl : xm = m := hxf.err (by show (11 : Int) ≠ 0; omega)
  have HR := Lib.hid (fun W => docRight_is (m := xm) W hxo true hxf.right)
  have HA := Lib.hid HA0
  have XO := Lib.hid hxo
  clear HA0 hxf hxo
  clear hok
  have EM := Lib.hid hm
  clear hm
  go_enter Tryd.func7, Tryd.ntmps7
  go_wp2_with (first
    | (go_at_call 9; (with_reducible refine HLV.out.mono ?_); rintro e w1 ⟨rfl, b1⟩; have G := Lib.hid (sq_new b1); have IA := Lib.hid (rfl : w1.heap.size = w1.heap.size); clear b1 HLV)
    | (refine wpList_bld 27 _ rfl (Mt.cells ⟨0, zeroI, zeroI, 4, 1, zeroI, 0, 0⟩) (by kernel_rfl) rfl ?_)
    | (refine wpList_bld 24 _ rfl imA.cells (by kernel_rfl) rfl ?_; clear IA)
    | (refine wpList_bld 24 _ rfl imB.cells (by kernel_rfl) rfl ?_)
    | (refine wpList_bld 30 _ rfl (Rq.cells ⟨6, 0, none, 0, 0, []⟩) (by kernel_rfl) rfl ?_)
    | (refine wpList_row rfl 27 _ _ rfl w1.heap.size _ rfl rfl 27 _ G.out.hm (size27 (started_ok (k := 1) (by unfold I64; omega))) (old27 G.out.ok (started_ok (k := 1) (by unfold I64; omega))) (mt_all _) ?_; intro wa hs on; replace G := Lib.hid (G.out.set (started_ok (by unfold I64; omega)) hs on); clear hs on)
    | (refine wpList_st24 rfl _ _ rfl w1.heap.size 1 imA rfl rfl _ _ G.out.ok imA_ok G.out.hm (mt_put0 _ G.out.ok imA_ok) (by omega) ?_; intro wx hs on; replace G := Lib.hid (G.out.set (ok_h0 G.out.ok imA_ok) hs on); clear hs on)
    | (refine wpList_st24 rfl _ _ rfl w1.heap.size 71 imB rfl rfl _ _ G.out.ok imB_ok G.out.hm (mt_put2 _ G.out.ok imB_ok) (by omega) ?_; intro wy hs on; replace G := Lib.hid (G.out.set (ok_com G.out.ok imB_ok) hs on); clear hs on)
    | (refine wpList_st3 rfl _ _ rfl w1.heap.size 105 0 rfl rfl _ _ G.out.hm (by omega) (mt_set105 _ G.out.ok) G.out.ok ?_; intro wq hs on; replace G := Lib.hid (G.out.set (ok_gott G.out.ok (by unfold I64; omega)) hs on); clear hs on; replace G := Lib.hid (show Sq w w1.heap.size xm _ from EM.out ▸ G.out); replace G := Lib.hid G.out.req)
    | (refine wpList_row rfl 30 _ (.tmp 63) rfl wq.heap.size (Rq.cells ⟨6, 0, none, 0, 0, []⟩) rfl rfl 30 _ G.out.hq (size30 _) rfl (rq_all _) ?_; intro w3 hs on; replace G := Lib.hid (G.out.setq (k := ⟨6, 0, none, 0, 0, []⟩) hs on); clear hs on)
    | (refine wpList_bld 32 _ rfl zeroF.cells (by kernel_rfl) rfl ?_)
    | (refine wpList_ld 27 _ rfl _ _ (ld27 G.out.hm G.out.ok) rfl rfl ?_)
    | (refine wpList_ld 30 _ rfl _ _ (seen_q G.out.hq).all rfl rfl ?_)
    | (go_at_call 10; (with_reducible refine (HA.out _).mono ?_); rintro e wc ⟨rfl, b1⟩; replace G := Lib.hid (G.out.kept b1); have LT := Lib.hid G.out.hq.size; have R := Lib.hid (nz_new wc); replace G := Lib.hid G.out.two; clear b1 HA)
    | (refine wpList_row rfl 27 _ _ rfl wc.heap.size _ rfl rfl 27 _ R.out.hm (size27 XO.out) (old27 R.out.ok XO.out) (mt_all _) ?_; intro w6 hs on; replace R := Lib.hid (R.out.setm XO.out hs on); replace G := Lib.hid (G.out.only on LT.out); clear hs on)
    | (refine wpList_row rfl 36 _ _ rfl (wc.heap.size + 1) _ rfl rfl 36 _ R.out.hr (size36 _) rfl (rp_all _) ?_; intro w7 hs on; replace R := Lib.hid (R.out.setr hs on); replace G := Lib.hid (G.out.only on (by have := LT.out; omega)); clear hs on)
    | (refine wpList_ld 34 _ rfl _ _ (ld34' (R.out.hr.at 0)) rfl rfl ?_)
    | (refine wpList_ld 27 _ rfl _ _ (ld27 R.out.hm R.out.ok) rfl rfl ?_)
    | (refine wpList_eqT _ _ rfl xm xm rfl rfl XO.out rfl rfl ?_)
    | (go_at_call 16; (with_reducible refine (HR.out _).mono ?_); rintro e w8 ⟨rfl, b1⟩; replace G := Lib.hid (G.out.kept b1); clear b1 HR))
  go_ret
  exact ⟨rfl, G.out.hb⟩
set_option maxRecDepth 100000 in
set_option maxHeartbeats 40000000 in
theorem st_1_7 (t : Int) (w : World) (t0 : 0 ≤ t) (t2 : t ≤ 2) : Calls Tryd.prog 7 #[.int .i64 1, .int .i64 7, .int .i64 t] w fun e w' => e = .returned (.bool true) ∧ Below w.heap.size w w' := by
  have hz27 := zero27_run
  have hz36 := zero36_run
  have hz30 := zero30_run
  have dt0 : decide (t < 0) = false := decide_eq_false (by omega)
  have dt2 : decide (2 < t) = false := decide_eq_false (by omega)
  clear t0 t2
  have HLV := Lib.hid (alive_any w)
  obtain ⟨m, hm⟩ : ∃ m : Mt, m = ⟨0, imA, zeroI, 4, 1, imB, 0, 0⟩ := ⟨_, rfl⟩
  have hok : m.Ok := by rw [hm]; exact fin_ok_1
  have hri : rightB m = true := by rw [hm]; kernel_rfl
  have hxo : (stepM m 7 0 [] zeroF 1).1.Ok := step_ok hok byt_nil
  have hxe : (stepM m 7 0 [] zeroF 1).2.err = 11 := by rw [hm]; kernel_rfl
  have hxf : Fine m 7 (stepM m 7 0 [] zeroF 1) := fine_step hri
  have HA0 : ∀ B, Calls Tryd.prog 10 #[.agg m.cells, .agg (Rq.cells ⟨7, 0, none, 0, 0, []⟩), .agg zeroF.cells, .int .i64 1] B (Does (stepM m 7 0 [] zeroF 1) B) := fun B => do_any m ⟨7, 0, none, 0, 0, []⟩ zeroF 1 B hok zeroF_ok i64_one (by show I64 7; unfold I64; omega) i64_zero (row_none0 B) (Nat.le_refl _) (Nat.zero_le _)
  obtain ⟨x, hx⟩ : ∃ x, stepM m 7 0 [] zeroF 1 = x := ⟨_, rfl⟩
  rw [hx] at hxo hxe hxf
  simp only [hx] at HA0
  clear hx hri
  obtain ⟨xm, xe, xn, xg⟩ := x
  simp only at hxo hxe
  subst hxe
  obtain rfl : xm = m := hxf.err (by show (11 : Int) ≠ 0; omega)
  have HR := Lib.hid (fun W => docRight_is (m := xm) W hxo true hxf.right)
  have HA := Lib.hid HA0
  have XO := Lib.hid hxo
  clear HA0 hxf hxo
  clear hok
  have EM := Lib.hid hm
  clear hm
  go_enter Tryd.func7, Tryd.ntmps7
  go_wp2_with (first
    | (go_at_call 9; (with_reducible refine HLV.out.mono ?_); rintro e w1 ⟨rfl, b1⟩; have G := Lib.hid (sq_new b1); have IA := Lib.hid (rfl : w1.heap.size = w1.heap.size); clear b1 HLV)
    | (refine wpList_bld 27 _ rfl (Mt.cells ⟨0, zeroI, zeroI, 4, 1, zeroI, 0, 0⟩) (by kernel_rfl) rfl ?_)
    | (refine wpList_bld 24 _ rfl imA.cells (by kernel_rfl) rfl ?_; clear IA)
    | (refine wpList_bld 24 _ rfl imB.cells (by kernel_rfl) rfl ?_)
    | (refine wpList_bld 30 _ rfl (Rq.cells ⟨7, 0, none, 0, 0, []⟩) (by kernel_rfl) rfl ?_)
    | (refine wpList_row rfl 27 _ _ rfl w1.heap.size _ rfl rfl 27 _ G.out.hm (size27 (started_ok (k := 1) (by unfold I64; omega))) (old27 G.out.ok (started_ok (k := 1) (by unfold I64; omega))) (mt_all _) ?_; intro wa hs on; replace G := Lib.hid (G.out.set (started_ok (by unfold I64; omega)) hs on); clear hs on)
    | (refine wpList_st24 rfl _ _ rfl w1.heap.size 1 imA rfl rfl _ _ G.out.ok imA_ok G.out.hm (mt_put0 _ G.out.ok imA_ok) (by omega) ?_; intro wx hs on; replace G := Lib.hid (G.out.set (ok_h0 G.out.ok imA_ok) hs on); clear hs on)
    | (refine wpList_st24 rfl _ _ rfl w1.heap.size 71 imB rfl rfl _ _ G.out.ok imB_ok G.out.hm (mt_put2 _ G.out.ok imB_ok) (by omega) ?_; intro wy hs on; replace G := Lib.hid (G.out.set (ok_com G.out.ok imB_ok) hs on); clear hs on)
    | (refine wpList_st3 rfl _ _ rfl w1.heap.size 105 0 rfl rfl _ _ G.out.hm (by omega) (mt_set105 _ G.out.ok) G.out.ok ?_; intro wq hs on; replace G := Lib.hid (G.out.set (ok_gott G.out.ok (by unfold I64; omega)) hs on); clear hs on; replace G := Lib.hid (show Sq w w1.heap.size xm _ from EM.out ▸ G.out); replace G := Lib.hid G.out.req)
    | (refine wpList_row rfl 30 _ (.tmp 63) rfl wq.heap.size (Rq.cells ⟨7, 0, none, 0, 0, []⟩) rfl rfl 30 _ G.out.hq (size30 _) rfl (rq_all _) ?_; intro w3 hs on; replace G := Lib.hid (G.out.setq (k := ⟨7, 0, none, 0, 0, []⟩) hs on); clear hs on)
    | (refine wpList_bld 32 _ rfl zeroF.cells (by kernel_rfl) rfl ?_)
    | (refine wpList_ld 27 _ rfl _ _ (ld27 G.out.hm G.out.ok) rfl rfl ?_)
    | (refine wpList_ld 30 _ rfl _ _ (seen_q G.out.hq).all rfl rfl ?_)
    | (go_at_call 10; (with_reducible refine (HA.out _).mono ?_); rintro e wc ⟨rfl, b1⟩; replace G := Lib.hid (G.out.kept b1); have LT := Lib.hid G.out.hq.size; have R := Lib.hid (nz_new wc); replace G := Lib.hid G.out.two; clear b1 HA)
    | (refine wpList_row rfl 27 _ _ rfl wc.heap.size _ rfl rfl 27 _ R.out.hm (size27 XO.out) (old27 R.out.ok XO.out) (mt_all _) ?_; intro w6 hs on; replace R := Lib.hid (R.out.setm XO.out hs on); replace G := Lib.hid (G.out.only on LT.out); clear hs on)
    | (refine wpList_row rfl 36 _ _ rfl (wc.heap.size + 1) _ rfl rfl 36 _ R.out.hr (size36 _) rfl (rp_all _) ?_; intro w7 hs on; replace R := Lib.hid (R.out.setr hs on); replace G := Lib.hid (G.out.only on (by have := LT.out; omega)); clear hs on)
    | (refine wpList_ld 34 _ rfl _ _ (ld34' (R.out.hr.at 0)) rfl rfl ?_)
    | (refine wpList_ld 27 _ rfl _ _ (ld27 R.out.hm R.out.ok) rfl rfl ?_)
    | (refine wpList_eqT _ _ rfl xm xm rfl rfl XO.out rfl rfl ?_)
    | (go_at_call 16; (with_reducible refine (HR.out _).mono ?_); rintro e w8 ⟨rfl, b1⟩; replace G := Lib.hid (G.out.kept b1); clear b1 HR))
  go_ret
  exact ⟨rfl, G.out.hb⟩
set_option maxRecDepth 100000 in
set_option maxHeartbeats 40000000 in
theorem st_1_8 (t : Int) (w : World) (t0 : 0 ≤ t) (t2 : t ≤ 2) : Calls Tryd.prog 7 #[.int .i64 1, .int .i64 8, .int .i64 t] w fun e w' => e = .returned (.bool true) ∧ Below w.heap.size w w' := by
  have hz27 := zero27_run
  have hz36 := zero36_run
  have hz30 := zero30_run
  have dt0 : decide (t < 0) = false := decide_eq_false (by omega)
  have dt2 : decide (2 < t) = false := decide_eq_false (by omega)
  clear t0 t2
  have HLV := Lib.hid (alive_any w)
  obtain ⟨m, hm⟩ : ∃ m : Mt, m = ⟨0, imA, zeroI, 4, 1, imB, 0, 0⟩ := ⟨_, rfl⟩
  have hok : m.Ok := by rw [hm]; exact fin_ok_1
  have hri : rightB m = true := by rw [hm]; kernel_rfl
  have hxo : (stepM m 8 0 [] zeroF 1).1.Ok := step_ok hok byt_nil
  have hxe : (stepM m 8 0 [] zeroF 1).2.err = 0 := by rw [hm]; kernel_rfl
  have hxf : Fine m 8 (stepM m 8 0 [] zeroF 1) := fine_step hri
  have HA0 : ∀ B, Calls Tryd.prog 10 #[.agg m.cells, .agg (Rq.cells ⟨8, 0, none, 0, 0, []⟩), .agg zeroF.cells, .int .i64 1] B (Does (stepM m 8 0 [] zeroF 1) B) := fun B => do_any m ⟨8, 0, none, 0, 0, []⟩ zeroF 1 B hok zeroF_ok i64_one (by show I64 8; unfold I64; omega) i64_zero (row_none0 B) (Nat.le_refl _) (Nat.zero_le _)
  obtain ⟨x, hx⟩ : ∃ x, stepM m 8 0 [] zeroF 1 = x := ⟨_, rfl⟩
  rw [hx] at hxo hxe hxf
  simp only [hx] at HA0
  clear hx hri
  obtain ⟨xm, xe, xn, xg⟩ := x
  simp only at hxo hxe
  subst hxe
  have HR := Lib.hid (fun W => docRight_is (m := xm) W hxo true hxf.right)
  have HA := Lib.hid HA0
  have XO := Lib.hid hxo
  clear HA0 hxf hxo
  have EM := Lib.hid hm
  clear hm
  go_enter Tryd.func7, Tryd.ntmps7
  go_wp2_with (first
    | (go_at_call 9; (with_reducible refine HLV.out.mono ?_); rintro e w1 ⟨rfl, b1⟩; have G := Lib.hid (sq_new b1); have IA := Lib.hid (rfl : w1.heap.size = w1.heap.size); clear b1 HLV)
    | (refine wpList_bld 27 _ rfl (Mt.cells ⟨0, zeroI, zeroI, 4, 1, zeroI, 0, 0⟩) (by kernel_rfl) rfl ?_)
    | (refine wpList_bld 24 _ rfl imA.cells (by kernel_rfl) rfl ?_; clear IA)
    | (refine wpList_bld 24 _ rfl imB.cells (by kernel_rfl) rfl ?_)
    | (refine wpList_bld 30 _ rfl (Rq.cells ⟨8, 0, none, 0, 0, []⟩) (by kernel_rfl) rfl ?_)
    | (refine wpList_row rfl 27 _ _ rfl w1.heap.size _ rfl rfl 27 _ G.out.hm (size27 (started_ok (k := 1) (by unfold I64; omega))) (old27 G.out.ok (started_ok (k := 1) (by unfold I64; omega))) (mt_all _) ?_; intro wa hs on; replace G := Lib.hid (G.out.set (started_ok (by unfold I64; omega)) hs on); clear hs on)
    | (refine wpList_st24 rfl _ _ rfl w1.heap.size 1 imA rfl rfl _ _ G.out.ok imA_ok G.out.hm (mt_put0 _ G.out.ok imA_ok) (by omega) ?_; intro wx hs on; replace G := Lib.hid (G.out.set (ok_h0 G.out.ok imA_ok) hs on); clear hs on)
    | (refine wpList_st24 rfl _ _ rfl w1.heap.size 71 imB rfl rfl _ _ G.out.ok imB_ok G.out.hm (mt_put2 _ G.out.ok imB_ok) (by omega) ?_; intro wy hs on; replace G := Lib.hid (G.out.set (ok_com G.out.ok imB_ok) hs on); clear hs on)
    | (refine wpList_st3 rfl _ _ rfl w1.heap.size 105 0 rfl rfl _ _ G.out.hm (by omega) (mt_set105 _ G.out.ok) G.out.ok ?_; intro wq hs on; replace G := Lib.hid (G.out.set (ok_gott G.out.ok (by unfold I64; omega)) hs on); clear hs on; replace G := Lib.hid (show Sq w w1.heap.size m _ from EM.out ▸ G.out); replace G := Lib.hid G.out.req)
    | (refine wpList_row rfl 30 _ (.tmp 63) rfl wq.heap.size (Rq.cells ⟨8, 0, none, 0, 0, []⟩) rfl rfl 30 _ G.out.hq (size30 _) rfl (rq_all _) ?_; intro w3 hs on; replace G := Lib.hid (G.out.setq (k := ⟨8, 0, none, 0, 0, []⟩) hs on); clear hs on)
    | (refine wpList_bld 32 _ rfl zeroF.cells (by kernel_rfl) rfl ?_)
    | (refine wpList_ld 27 _ rfl _ _ (ld27 G.out.hm G.out.ok) rfl rfl ?_)
    | (refine wpList_ld 30 _ rfl _ _ (seen_q G.out.hq).all rfl rfl ?_)
    | (go_at_call 10; (with_reducible refine (HA.out _).mono ?_); rintro e wc ⟨rfl, b1⟩; replace G := Lib.hid (G.out.kept b1); have LT := Lib.hid G.out.hq.size; have R := Lib.hid (nz_new wc); replace G := Lib.hid G.out.two; clear b1 HA)
    | (refine wpList_row rfl 27 _ _ rfl wc.heap.size _ rfl rfl 27 _ R.out.hm (size27 XO.out) (old27 R.out.ok XO.out) (mt_all _) ?_; intro w6 hs on; replace R := Lib.hid (R.out.setm XO.out hs on); replace G := Lib.hid (G.out.only on LT.out); clear hs on)
    | (refine wpList_row rfl 36 _ _ rfl (wc.heap.size + 1) _ rfl rfl 36 _ R.out.hr (size36 _) rfl (rp_all _) ?_; intro w7 hs on; replace R := Lib.hid (R.out.setr hs on); replace G := Lib.hid (G.out.only on (by have := LT.out; omega)); clear hs on)
    | (refine wpList_ld 34 _ rfl _ _ (ld34' (R.out.hr.at 0)) rfl rfl ?_)
    | (refine wpList_ld 27 _ rfl _ _ (ld27 R.out.hm R.out.ok) rfl rfl ?_)
    | (go_at_call 16; (with_reducible refine (HR.out _).mono ?_); rintro e w8 ⟨rfl, b1⟩; replace G := Lib.hid (G.out.kept b1); clear b1 HR))
  go_ret
  exact ⟨rfl, G.out.hb⟩
set_option maxRecDepth 100000 in
set_option maxHeartbeats 40000000 in
theorem st_1_9 (t : Int) (w : World) (t0 : 0 ≤ t) (t2 : t ≤ 2) : Calls Tryd.prog 7 #[.int .i64 1, .int .i64 9, .int .i64 t] w fun e w' => e = .returned (.bool true) ∧ Below w.heap.size w w' := by
  have hz27 := zero27_run
  have hz36 := zero36_run
  have hz30 := zero30_run
  have dt0 : decide (t < 0) = false := decide_eq_false (by omega)
  have dt2 : decide (2 < t) = false := decide_eq_false (by omega)
  clear t0 t2
  have HLV := Lib.hid (alive_any w)
  obtain ⟨m, hm⟩ : ∃ m : Mt, m = ⟨0, imA, zeroI, 4, 1, imB, 0, 0⟩ := ⟨_, rfl⟩
  have hok : m.Ok := by rw [hm]; exact fin_ok_1
  have hri : rightB m = true := by rw [hm]; kernel_rfl
  have hxo : (stepM m 9 0 [] zeroF 1).1.Ok := step_ok hok byt_nil
  have hxe : (stepM m 9 0 [] zeroF 1).2.err = 0 := by rw [hm]; kernel_rfl
  have hxf : Fine m 9 (stepM m 9 0 [] zeroF 1) := fine_step hri
  have HA0 : ∀ B, Calls Tryd.prog 10 #[.agg m.cells, .agg (Rq.cells ⟨9, 0, none, 0, 0, []⟩), .agg zeroF.cells, .int .i64 1] B (Does (stepM m 9 0 [] zeroF 1) B) := fun B => do_any m ⟨9, 0, none, 0, 0, []⟩ zeroF 1 B hok zeroF_ok i64_one (by show I64 9; unfold I64; omega) i64_zero (row_none0 B) (Nat.le_refl _) (Nat.zero_le _)
  obtain ⟨x, hx⟩ : ∃ x, stepM m 9 0 [] zeroF 1 = x := ⟨_, rfl⟩
  rw [hx] at hxo hxe hxf
  simp only [hx] at HA0
  clear hx hri
  obtain ⟨xm, xe, xn, xg⟩ := x
  simp only at hxo hxe
  subst hxe
  have HR := Lib.hid (fun W => docRight_is (m := xm) W hxo true hxf.right)
  have HA := Lib.hid HA0
  have XO := Lib.hid hxo
  clear HA0 hxf hxo
  have EM := Lib.hid hm
  clear hm
  go_enter Tryd.func7, Tryd.ntmps7
  go_wp2_with (first
    | (go_at_call 9; (with_reducible refine HLV.out.mono ?_); rintro e w1 ⟨rfl, b1⟩; have G := Lib.hid (sq_new b1); have IA := Lib.hid (rfl : w1.heap.size = w1.heap.size); clear b1 HLV)
    | (refine wpList_bld 27 _ rfl (Mt.cells ⟨0, zeroI, zeroI, 4, 1, zeroI, 0, 0⟩) (by kernel_rfl) rfl ?_)
    | (refine wpList_bld 24 _ rfl imA.cells (by kernel_rfl) rfl ?_; clear IA)
    | (refine wpList_bld 24 _ rfl imB.cells (by kernel_rfl) rfl ?_)
    | (refine wpList_bld 30 _ rfl (Rq.cells ⟨9, 0, none, 0, 0, []⟩) (by kernel_rfl) rfl ?_)
    | (refine wpList_row rfl 27 _ _ rfl w1.heap.size _ rfl rfl 27 _ G.out.hm (size27 (started_ok (k := 1) (by unfold I64; omega))) (old27 G.out.ok (started_ok (k := 1) (by unfold I64; omega))) (mt_all _) ?_; intro wa hs on; replace G := Lib.hid (G.out.set (started_ok (by unfold I64; omega)) hs on); clear hs on)
    | (refine wpList_st24 rfl _ _ rfl w1.heap.size 1 imA rfl rfl _ _ G.out.ok imA_ok G.out.hm (mt_put0 _ G.out.ok imA_ok) (by omega) ?_; intro wx hs on; replace G := Lib.hid (G.out.set (ok_h0 G.out.ok imA_ok) hs on); clear hs on)
    | (refine wpList_st24 rfl _ _ rfl w1.heap.size 71 imB rfl rfl _ _ G.out.ok imB_ok G.out.hm (mt_put2 _ G.out.ok imB_ok) (by omega) ?_; intro wy hs on; replace G := Lib.hid (G.out.set (ok_com G.out.ok imB_ok) hs on); clear hs on)
    | (refine wpList_st3 rfl _ _ rfl w1.heap.size 105 0 rfl rfl _ _ G.out.hm (by omega) (mt_set105 _ G.out.ok) G.out.ok ?_; intro wq hs on; replace G := Lib.hid (G.out.set (ok_gott G.out.ok (by unfold I64; omega)) hs on); clear hs on; replace G := Lib.hid (show Sq w w1.heap.size m _ from EM.out ▸ G.out); replace G := Lib.hid G.out.req)
    | (refine wpList_row rfl 30 _ (.tmp 63) rfl wq.heap.size (Rq.cells ⟨9, 0, none, 0, 0, []⟩) rfl rfl 30 _ G.out.hq (size30 _) rfl (rq_all _) ?_; intro w3 hs on; replace G := Lib.hid (G.out.setq (k := ⟨9, 0, none, 0, 0, []⟩) hs on); clear hs on)
    | (refine wpList_bld 32 _ rfl zeroF.cells (by kernel_rfl) rfl ?_)
    | (refine wpList_ld 27 _ rfl _ _ (ld27 G.out.hm G.out.ok) rfl rfl ?_)
    | (refine wpList_ld 30 _ rfl _ _ (seen_q G.out.hq).all rfl rfl ?_)
    | (go_at_call 10; (with_reducible refine (HA.out _).mono ?_); rintro e wc ⟨rfl, b1⟩; replace G := Lib.hid (G.out.kept b1); have LT := Lib.hid G.out.hq.size; have R := Lib.hid (nz_new wc); replace G := Lib.hid G.out.two; clear b1 HA)
    | (refine wpList_row rfl 27 _ _ rfl wc.heap.size _ rfl rfl 27 _ R.out.hm (size27 XO.out) (old27 R.out.ok XO.out) (mt_all _) ?_; intro w6 hs on; replace R := Lib.hid (R.out.setm XO.out hs on); replace G := Lib.hid (G.out.only on LT.out); clear hs on)
    | (refine wpList_row rfl 36 _ _ rfl (wc.heap.size + 1) _ rfl rfl 36 _ R.out.hr (size36 _) rfl (rp_all _) ?_; intro w7 hs on; replace R := Lib.hid (R.out.setr hs on); replace G := Lib.hid (G.out.only on (by have := LT.out; omega)); clear hs on)
    | (refine wpList_ld 34 _ rfl _ _ (ld34' (R.out.hr.at 0)) rfl rfl ?_)
    | (refine wpList_ld 27 _ rfl _ _ (ld27 R.out.hm R.out.ok) rfl rfl ?_)
    | (go_at_call 16; (with_reducible refine (HR.out _).mono ?_); rintro e w8 ⟨rfl, b1⟩; replace G := Lib.hid (G.out.kept b1); clear b1 HR))
  go_ret
  exact ⟨rfl, G.out.hb⟩
set_option maxRecDepth 100000 in
set_option maxHeartbeats 40000000 in
theorem st_1_10 (t : Int) (w : World) (t0 : 0 ≤ t) (t2 : t ≤ 2) : Calls Tryd.prog 7 #[.int .i64 1, .int .i64 10, .int .i64 t] w fun e w' => e = .returned (.bool true) ∧ Below w.heap.size w w' := by
  have hz27 := zero27_run
  have hz36 := zero36_run
  have hz30 := zero30_run
  have dt0 : decide (t < 0) = false := decide_eq_false (by omega)
  have dt2 : decide (2 < t) = false := decide_eq_false (by omega)
  clear t0 t2
  have HLV := Lib.hid (alive_any w)
  obtain ⟨m, hm⟩ : ∃ m : Mt, m = ⟨0, imA, zeroI, 4, 1, imB, 0, 0⟩ := ⟨_, rfl⟩
  have hok : m.Ok := by rw [hm]; exact fin_ok_1
  have hri : rightB m = true := by rw [hm]; kernel_rfl
  have hxo : (stepM m 10 0 [] zeroF 1).1.Ok := step_ok hok byt_nil
  have hxe : (stepM m 10 0 [] zeroF 1).2.err = 1 := by rw [hm]; kernel_rfl
  have hxf : Fine m 10 (stepM m 10 0 [] zeroF 1) := fine_step hri
  have HA0 : ∀ B, Calls Tryd.prog 10 #[.agg m.cells, .agg (Rq.cells ⟨10, 0, none, 0, 0, []⟩), .agg zeroF.cells, .int .i64 1] B (Does (stepM m 10 0 [] zeroF 1) B) := fun B => do_any m ⟨10, 0, none, 0, 0, []⟩ zeroF 1 B hok zeroF_ok i64_one (by show I64 10; unfold I64; omega) i64_zero (row_none0 B) (Nat.le_refl _) (Nat.zero_le _)
  obtain ⟨x, hx⟩ : ∃ x, stepM m 10 0 [] zeroF 1 = x := ⟨_, rfl⟩
  rw [hx] at hxo hxe hxf
  simp only [hx] at HA0
  clear hx hri
  obtain ⟨xm, xe, xn, xg⟩ := x
  simp only at hxo hxe
  subst hxe
  obtain rfl : xm = m := hxf.err (by show (1 : Int) ≠ 0; omega)
  have HR := Lib.hid (fun W => docRight_is (m := xm) W hxo true hxf.right)
  have HA := Lib.hid HA0
  have XO := Lib.hid hxo
  clear HA0 hxf hxo
  clear hok
  have EM := Lib.hid hm
  clear hm
  go_enter Tryd.func7, Tryd.ntmps7
  go_wp2_with (first
    | (go_at_call 9; (with_reducible refine HLV.out.mono ?_); rintro e w1 ⟨rfl, b1⟩; have G := Lib.hid (sq_new b1); have IA := Lib.hid (rfl : w1.heap.size = w1.heap.size); clear b1 HLV)
    | (refine wpList_bld 27 _ rfl (Mt.cells ⟨0, zeroI, zeroI, 4, 1, zeroI, 0, 0⟩) (by kernel_rfl) rfl ?_)
    | (refine wpList_bld 24 _ rfl imA.cells (by kernel_rfl) rfl ?_; clear IA)
    | (refine wpList_bld 24 _ rfl imB.cells (by kernel_rfl) rfl ?_)
    | (refine wpList_bld 30 _ rfl (Rq.cells ⟨10, 0, none, 0, 0, []⟩) (by kernel_rfl) rfl ?_)
    | (refine wpList_row rfl 27 _ _ rfl w1.heap.size _ rfl rfl 27 _ G.out.hm (size27 (started_ok (k := 1) (by unfold I64; omega))) (old27 G.out.ok (started_ok (k := 1) (by unfold I64; omega))) (mt_all _) ?_; intro wa hs on; replace G := Lib.hid (G.out.set (started_ok (by unfold I64; omega)) hs on); clear hs on)
    | (refine wpList_st24 rfl _ _ rfl w1.heap.size 1 imA rfl rfl _ _ G.out.ok imA_ok G.out.hm (mt_put0 _ G.out.ok imA_ok) (by omega) ?_; intro wx hs on; replace G := Lib.hid (G.out.set (ok_h0 G.out.ok imA_ok) hs on); clear hs on)
    | (refine wpList_st24 rfl _ _ rfl w1.heap.size 71 imB rfl rfl _ _ G.out.ok imB_ok G.out.hm (mt_put2 _ G.out.ok imB_ok) (by omega) ?_; intro wy hs on; replace G := Lib.hid (G.out.set (ok_com G.out.ok imB_ok) hs on); clear hs on)
    | (refine wpList_st3 rfl _ _ rfl w1.heap.size 105 0 rfl rfl _ _ G.out.hm (by omega) (mt_set105 _ G.out.ok) G.out.ok ?_; intro wq hs on; replace G := Lib.hid (G.out.set (ok_gott G.out.ok (by unfold I64; omega)) hs on); clear hs on; replace G := Lib.hid (show Sq w w1.heap.size xm _ from EM.out ▸ G.out); replace G := Lib.hid G.out.req)
    | (refine wpList_row rfl 30 _ (.tmp 63) rfl wq.heap.size (Rq.cells ⟨10, 0, none, 0, 0, []⟩) rfl rfl 30 _ G.out.hq (size30 _) rfl (rq_all _) ?_; intro w3 hs on; replace G := Lib.hid (G.out.setq (k := ⟨10, 0, none, 0, 0, []⟩) hs on); clear hs on)
    | (refine wpList_bld 32 _ rfl zeroF.cells (by kernel_rfl) rfl ?_)
    | (refine wpList_ld 27 _ rfl _ _ (ld27 G.out.hm G.out.ok) rfl rfl ?_)
    | (refine wpList_ld 30 _ rfl _ _ (seen_q G.out.hq).all rfl rfl ?_)
    | (go_at_call 10; (with_reducible refine (HA.out _).mono ?_); rintro e wc ⟨rfl, b1⟩; replace G := Lib.hid (G.out.kept b1); have LT := Lib.hid G.out.hq.size; have R := Lib.hid (nz_new wc); replace G := Lib.hid G.out.two; clear b1 HA)
    | (refine wpList_row rfl 27 _ _ rfl wc.heap.size _ rfl rfl 27 _ R.out.hm (size27 XO.out) (old27 R.out.ok XO.out) (mt_all _) ?_; intro w6 hs on; replace R := Lib.hid (R.out.setm XO.out hs on); replace G := Lib.hid (G.out.only on LT.out); clear hs on)
    | (refine wpList_row rfl 36 _ _ rfl (wc.heap.size + 1) _ rfl rfl 36 _ R.out.hr (size36 _) rfl (rp_all _) ?_; intro w7 hs on; replace R := Lib.hid (R.out.setr hs on); replace G := Lib.hid (G.out.only on (by have := LT.out; omega)); clear hs on)
    | (refine wpList_ld 34 _ rfl _ _ (ld34' (R.out.hr.at 0)) rfl rfl ?_)
    | (refine wpList_ld 27 _ rfl _ _ (ld27 R.out.hm R.out.ok) rfl rfl ?_)
    | (refine wpList_eqT _ _ rfl xm xm rfl rfl XO.out rfl rfl ?_)
    | (go_at_call 16; (with_reducible refine (HR.out _).mono ?_); rintro e w8 ⟨rfl, b1⟩; replace G := Lib.hid (G.out.kept b1); clear b1 HR))
  go_ret
  exact ⟨rfl, G.out.hb⟩
end Go.Proofs.YtcokpdhhpaahgaaDoor.updateStates
