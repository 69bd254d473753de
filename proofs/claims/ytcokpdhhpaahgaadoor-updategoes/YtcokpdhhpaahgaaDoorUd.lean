/-
  What a request does, as the program does it; conditions: what is kept is of 64 bits, the digest is of 32 bytes, the bytes are read as a row.
-/
import Derived.Test.YtcokpdhhpaahgaaDoorUv
import Derived.Test.YtcokpdhhpaahgaaDoorUj
import Derived.Test.YtcokpdhhpaahgaaDoorUk
import Derived.Test.YtcokpdhhpaahgaaDoorUl
import Derived.Test.YtcokpdhhpaahgaaDoorUm
import Derived.Test.YtcokpdhhpaahgaaDoorUq
import Derived.Test.YtcokpdhhpaahgaaDoorRg
import Derived.Deep.RegionHeld3
import Derived.Deep.Cut
namespace Go.Proofs.YtcokpdhhpaahgaaDoor
open Go.RowKit
set_option linter.unusedVariables false
set_option linter.unusedSimpArgs false

theorem right_is_b {m : Mt} (w : World) (hm : m.Ok) (b : Bool) (h : rightB m = b) : Calls Tryd.prog 19 #[.agg m.cells] w fun e w' => e = .returned (.bool b) ∧ Below w.heap.size w w' := by rw [← h]; exact right_any m w hm
theorem right_act {m : Mt} (h : rightB m = true) : m.act = 0 ∨ m.act = 1 := (right_in h).act
set_option maxRecDepth 100000 in
set_option maxHeartbeats 4000000 in
theorem do_any (m : Mt) (q : Rq) (f : Fc) (quota : Int) (w : World) (hm : m.Ok) (hf : f.Ok) (hqu : I64 quota) (hk : I64 q.kind) (hnm : I64 q.num) (hr : Row w q.A q.len q.bs) (hc : q.len ≤ q.cap) (hn : q.len ≤ 1000000) : Calls Tryd.prog 10 #[.agg m.cells, .agg q.cells, .agg f.cells, .int .i64 quota] w (Does (stepM m q.kind q.num q.bs f quota) w) := by
  have hz27 := zero27_run
  have hz36 := zero36_run
  have G := Lib.hid (gq_new q w hm hf)
  have HR0 := fun b h W => right_is_b (m := m) W hm b h
  have hln : q.bs.length = q.len := hr.1
  cases hb : rightB m with
  | false =>
    have HR := Lib.hid (HR0 false hb)
    have HB := Lib.hid hb
    clear HR0 hb hm hf hqu hk hnm hr hc hn hln
    go_enter Tryd.func10, Tryd.ntmps10
    go_wp2_with (first
      | (refine wpList_ld 27 _ rfl _ _ (ld27 G.out.hm G.out.ok) rfl rfl ?_)
      | (refine wpList_ld 30 _ rfl _ _ (seen_q G.out.hq).all rfl rfl ?_)
      | (refine wpList_ld 32 _ rfl _ _ (seen_f G.out.hf G.out.okf).all rfl rfl ?_)
      | (refine wpList_ld 3 _ rfl _ _ (ld3 (seen_q G.out.hq).kind) rfl rfl ?_)
      | (go_at_call 19; (with_reducible refine (HR.out _).mono ?_); rintro e w1 ⟨rfl, b1⟩; replace G := Lib.hid (G.out.kept b1); clear b1 HR)
      | (go_at_call 20; (with_reducible refine (refuse_any _ _ _ G.out.ok).mono ?_); rintro e w1 ⟨rfl, b1⟩; replace G := Lib.hid (G.out.kept b1); clear b1)
      | (refine wpList_row rfl 27 _ _ rfl (w.heap.size + 1 + 1 + 1) _ rfl rfl 27 _ G.out.ho (size27 G.out.ok) (old27 G.out.oko G.out.ok) (mt_all _) ?_; intro w1 hs on; replace G := Lib.hid (G.out.seto G.out.ok hs on); clear hs on)
      | (refine wpList_row rfl 36 _ _ rfl (w.heap.size + 1 + 1 + 1 + 1) _ rfl rfl 36 _ G.out.hr (size36 _) rfl (rp_all _) ?_; intro w1 hs on; replace G := Lib.hid (G.out.setr hs on); clear hs on))
    exact out_ret (p := 8) (u := 9) rfl _ _ _ _ _ _ _ _ (by unfold stepM; rw [if_pos HB.out]; rfl) rfl rfl rfl (Out.mk G.out.ho G.out.hr G.out.hb) G.out.oko
  | true =>
  have HR := Lib.hid (HR0 true hb)
  have ha := right_act hb
  have hgt := (right_in hb).gott
  have HB := Lib.hid (show ¬ rightB m = false by rw [hb]; decide)
  clear HR0 hb
  by_cases k1 : q.kind = 1
  · have HD : Hid (∀ W, Below w.heap.size w W → Calls Tryd.prog 21 #[.agg m.cells, .agg q.cells, .agg f.cells, .int .i64 quota] W (Does (beginM m q.bs f quota) W)) := Lib.hid (fun W hW => begin_any m q f quota W hm hf hqu ha (row_lt hr (Nat.le_refl _) hW) hc hn)
    have HO := Lib.hid (show ((beginM m q.bs f quota).1).Ok from begin_ok hm hr.2.1 (m := m) (f := f) (quota := quota))
    obtain ⟨x, hx⟩ : ∃ x, beginM m q.bs f quota = x := ⟨_, rfl⟩
    rw [hx] at HO HD
    have HE : Hid (stepM m q.kind q.num q.bs f quota = x) := Lib.hid (by unfold stepM; rw [if_neg HB.out, if_pos k1]; exact hx)
    rw [HE.out]
    clear HE hx HB hm hf hqu hnm hr hc hn hln ha hgt hk
    obtain ⟨xm, xr⟩ := x
    simp only at HO
    obtain ⟨kind, num, A, len, cap, bs⟩ := q
    simp only at k1
    subst k1
    go_enter Tryd.func10, Tryd.ntmps10
    go_wp2_with (first
      | (refine wpList_ld 27 _ rfl _ _ (ld27 G.out.hm G.out.ok) rfl rfl ?_)
      | (refine wpList_ld 30 _ rfl _ _ (seen_q G.out.hq).all rfl rfl ?_)
      | (refine wpList_ld 32 _ rfl _ _ (seen_f G.out.hf G.out.okf).all rfl rfl ?_)
      | (refine wpList_ld 3 _ rfl _ _ (ld3 (seen_q G.out.hq).kind) rfl rfl ?_)
      | (go_at_call 19; (with_reducible refine (HR.out _).mono ?_); rintro e w1 ⟨rfl, b1⟩; replace G := Lib.hid (G.out.kept b1); clear b1 HR)
      | (go_at_call 21; (with_reducible refine (HD.out _ G.out.hb).mono ?_); rintro e w1 ⟨rfl, b1⟩; replace G := Lib.hid (G.out.kept b1); clear b1 HD)
      | (refine wpList_row rfl 27 _ _ rfl (w.heap.size + 1 + 1 + 1) _ rfl rfl 27 _ G.out.ho (size27 HO.out) (old27 G.out.oko HO.out) (mt_all _) ?_; intro w1 hs on; replace G := Lib.hid (G.out.seto HO.out hs on); clear hs on)
      | (refine wpList_row rfl 36 _ _ rfl (w.heap.size + 1 + 1 + 1 + 1) _ rfl rfl 36 _ G.out.hr (size36 _) rfl (rp_all _) ?_; intro w1 hs on; replace G := Lib.hid (G.out.setr hs on); clear hs on))
    exact out_ret (p := 8) (u := 9) rfl _ _ _ _ _ _ _ _ (rfl) rfl rfl rfl (Out.mk G.out.ho G.out.hr G.out.hb) G.out.oko
  by_cases k2 : q.kind = 2
  · have HD := Lib.hid (fun W => write_any m q f W hm hf hnm hgt)
    have HO := Lib.hid (show ((writeM m q.num q.len f).1).Ok from write_ok hm hgt)
    obtain ⟨x, hx⟩ : ∃ x, writeM m q.num q.len f = x := ⟨_, rfl⟩
    rw [hx] at HO HD
    have HE : Hid (stepM m q.kind q.num q.bs f quota = x) := Lib.hid (by unfold stepM; rw [if_neg HB.out, if_neg k1, if_pos k2]; rw [hln]; exact hx)
    rw [HE.out]
    clear HE hx HB hm hf hqu hnm hr hc hn hln ha hgt hk
    obtain ⟨xm, xr⟩ := x
    simp only at HO
    obtain ⟨kind, num, A, len, cap, bs⟩ := q
    simp only at k1 k2
    subst k2
    go_enter Tryd.func10, Tryd.ntmps10
    go_wp2_with (first
      | (refine wpList_ld 27 _ rfl _ _ (ld27 G.out.hm G.out.ok) rfl rfl ?_)
      | (refine wpList_ld 30 _ rfl _ _ (seen_q G.out.hq).all rfl rfl ?_)
      | (refine wpList_ld 32 _ rfl _ _ (seen_f G.out.hf G.out.okf).all rfl rfl ?_)
      | (refine wpList_ld 3 _ rfl _ _ (ld3 (seen_q G.out.hq).kind) rfl rfl ?_)
      | (go_at_call 19; (with_reducible refine (HR.out _).mono ?_); rintro e w1 ⟨rfl, b1⟩; replace G := Lib.hid (G.out.kept b1); clear b1 HR)
      | (go_at_call 22; (with_reducible refine (HD.out _).mono ?_); rintro e w1 ⟨rfl, b1⟩; replace G := Lib.hid (G.out.kept b1); clear b1 HD)
      | (refine wpList_row rfl 27 _ _ rfl (w.heap.size + 1 + 1 + 1) _ rfl rfl 27 _ G.out.ho (size27 HO.out) (old27 G.out.oko HO.out) (mt_all _) ?_; intro w1 hs on; replace G := Lib.hid (G.out.seto HO.out hs on); clear hs on)
      | (refine wpList_row rfl 36 _ _ rfl (w.heap.size + 1 + 1 + 1 + 1) _ rfl rfl 36 _ G.out.hr (size36 _) rfl (rp_all _) ?_; intro w1 hs on; replace G := Lib.hid (G.out.setr hs on); clear hs on))
    exact out_ret (p := 8) (u := 9) rfl _ _ _ _ _ _ _ _ (rfl) rfl rfl rfl (Out.mk G.out.ho G.out.hr G.out.hb) G.out.oko
  by_cases k3 : q.kind = 3
  · have HD := Lib.hid (fun W => verify_any m f W hm hf)
    have HO := Lib.hid (show ((verifyM m f).1).Ok from verify_ok hm)
    obtain ⟨x, hx⟩ : ∃ x, verifyM m f = x := ⟨_, rfl⟩
    rw [hx] at HO HD
    have HE : Hid (stepM m q.kind q.num q.bs f quota = x) := Lib.hid (by unfold stepM; rw [if_neg HB.out, if_neg k1, if_neg k2, if_pos k3]; exact hx)
    rw [HE.out]
    clear HE hx HB hm hf hqu hnm hr hc hn hln ha hgt hk
    obtain ⟨xm, xr⟩ := x
    simp only at HO
    obtain ⟨kind, num, A, len, cap, bs⟩ := q
    simp only at k1 k2 k3
    subst k3
    go_enter Tryd.func10, Tryd.ntmps10
    go_wp2_with (first
      | (refine wpList_ld 27 _ rfl _ _ (ld27 G.out.hm G.out.ok) rfl rfl ?_)
      | (refine wpList_ld 30 _ rfl _ _ (seen_q G.out.hq).all rfl rfl ?_)
      | (refine wpList_ld 32 _ rfl _ _ (seen_f G.out.hf G.out.okf).all rfl rfl ?_)
      | (refine wpList_ld 3 _ rfl _ _ (ld3 (seen_q G.out.hq).kind) rfl rfl ?_)
      | (go_at_call 19; (with_reducible refine (HR.out _).mono ?_); rintro e w1 ⟨rfl, b1⟩; replace G := Lib.hid (G.out.kept b1); clear b1 HR)
      | (go_at_call 23; (with_reducible refine (HD.out _).mono ?_); rintro e w1 ⟨rfl, b1⟩; replace G := Lib.hid (G.out.kept b1); clear b1 HD)
      | (refine wpList_row rfl 27 _ _ rfl (w.heap.size + 1 + 1 + 1) _ rfl rfl 27 _ G.out.ho (size27 HO.out) (old27 G.out.oko HO.out) (mt_all _) ?_; intro w1 hs on; replace G := Lib.hid (G.out.seto HO.out hs on); clear hs on)
      | (refine wpList_row rfl 36 _ _ rfl (w.heap.size + 1 + 1 + 1 + 1) _ rfl rfl 36 _ G.out.hr (size36 _) rfl (rp_all _) ?_; intro w1 hs on; replace G := Lib.hid (G.out.setr hs on); clear hs on))
    exact out_ret (p := 8) (u := 9) rfl _ _ _ _ _ _ _ _ (rfl) rfl rfl rfl (Out.mk G.out.ho G.out.hr G.out.hb) G.out.oko
  by_cases k4 : q.kind = 4
  · have HD := Lib.hid (fun W => commit_any m f W hm hf ha)
    have HO := Lib.hid (show ((commitM m f).1).Ok from commit_ok hm)
    obtain ⟨x, hx⟩ : ∃ x, commitM m f = x := ⟨_, rfl⟩
    rw [hx] at HO HD
    have HE : Hid (stepM m q.kind q.num q.bs f quota = x) := Lib.hid (by unfold stepM; rw [if_neg HB.out, if_neg k1, if_neg k2, if_neg k3, if_pos k4]; exact hx)
    rw [HE.out]
    clear HE hx HB hm hf hqu hnm hr hc hn hln ha hgt hk
    obtain ⟨xm, xr⟩ := x
    simp only at HO
    obtain ⟨kind, num, A, len, cap, bs⟩ := q
    simp only at k1 k2 k3 k4
    subst k4
    go_enter Tryd.func10, Tryd.ntmps10
    go_wp2_with (first
      | (refine wpList_ld 27 _ rfl _ _ (ld27 G.out.hm G.out.ok) rfl rfl ?_)
      | (refine wpList_ld 30 _ rfl _ _ (seen_q G.out.hq).all rfl rfl ?_)
      | (refine wpList_ld 32 _ rfl _ _ (seen_f G.out.hf G.out.okf).all rfl rfl ?_)
      | (refine wpList_ld 3 _ rfl _ _ (ld3 (seen_q G.out.hq).kind) rfl rfl ?_)
      | (go_at_call 19; (with_reducible refine (HR.out _).mono ?_); rintro e w1 ⟨rfl, b1⟩; replace G := Lib.hid (G.out.kept b1); clear b1 HR)
      | (go_at_call 24; (with_reducible refine (HD.out _).mono ?_); rintro e w1 ⟨rfl, b1⟩; replace G := Lib.hid (G.out.kept b1); clear b1 HD)
      | (refine wpList_row rfl 27 _ _ rfl (w.heap.size + 1 + 1 + 1) _ rfl rfl 27 _ G.out.ho (size27 HO.out) (old27 G.out.oko HO.out) (mt_all _) ?_; intro w1 hs on; replace G := Lib.hid (G.out.seto HO.out hs on); clear hs on)
      | (refine wpList_row rfl 36 _ _ rfl (w.heap.size + 1 + 1 + 1 + 1) _ rfl rfl 36 _ G.out.hr (size36 _) rfl (rp_all _) ?_; intro w1 hs on; replace G := Lib.hid (G.out.setr hs on); clear hs on))
    exact out_ret (p := 8) (u := 9) rfl _ _ _ _ _ _ _ _ (rfl) rfl rfl rfl (Out.mk G.out.ho G.out.hr G.out.hb) G.out.oko
  by_cases k5 : q.kind = 5
  · have HD := Lib.hid (fun W => boot_any m f W hm hf ha)
    have HO := Lib.hid (show ((bootM m f).1).Ok from boot_ok hm)
    obtain ⟨x, hx⟩ : ∃ x, bootM m f = x := ⟨_, rfl⟩
    rw [hx] at HO HD
    have HE : Hid (stepM m q.kind q.num q.bs f quota = x) := Lib.hid (by unfold stepM; rw [if_neg HB.out, if_neg k1, if_neg k2, if_neg k3, if_neg k4, if_pos k5]; exact hx)
    rw [HE.out]
    clear HE hx HB hm hf hqu hnm hr hc hn hln ha hgt hk
    obtain ⟨xm, xr⟩ := x
    simp only at HO
    obtain ⟨kind, num, A, len, cap, bs⟩ := q
    simp only at k1 k2 k3 k4 k5
    subst k5
    go_enter Tryd.func10, Tryd.ntmps10
    go_wp2_with (first
      | (refine wpList_ld 27 _ rfl _ _ (ld27 G.out.hm G.out.ok) rfl rfl ?_)
      | (refine wpList_ld 30 _ rfl _ _ (seen_q G.out.hq).all rfl rfl ?_)
      | (refine wpList_ld 32 _ rfl _ _ (seen_f G.out.hf G.out.okf).all rfl rfl ?_)
      | (refine wpList_ld 3 _ rfl _ _ (ld3 (seen_q G.out.hq).kind) rfl rfl ?_)
      | (go_at_call 19; (with_reducible refine (HR.out _).mono ?_); rintro e w1 ⟨rfl, b1⟩; replace G := Lib.hid (G.out.kept b1); clear b1 HR)
      | (go_at_call 25; (with_reducible refine (HD.out _).mono ?_); rintro e w1 ⟨rfl, b1⟩; replace G := Lib.hid (G.out.kept b1); clear b1 HD)
      | (refine wpList_row rfl 27 _ _ rfl (w.heap.size + 1 + 1 + 1) _ rfl rfl 27 _ G.out.ho (size27 HO.out) (old27 G.out.oko HO.out) (mt_all _) ?_; intro w1 hs on; replace G := Lib.hid (G.out.seto HO.out hs on); clear hs on)
      | (refine wpList_row rfl 36 _ _ rfl (w.heap.size + 1 + 1 + 1 + 1) _ rfl rfl 36 _ G.out.hr (size36 _) rfl (rp_all _) ?_; intro w1 hs on; replace G := Lib.hid (G.out.setr hs on); clear hs on))
    exact out_ret (p := 8) (u := 9) rfl _ _ _ _ _ _ _ _ (rfl) rfl rfl rfl (Out.mk G.out.ho G.out.hr G.out.hb) G.out.oko
  by_cases k6 : q.kind = 6
  · have HD := Lib.hid (fun W => confirmR_any m f W hm hf ha)
    have HO := Lib.hid (show ((confirmM m f).1).Ok from confirm_ok hm ha)
    obtain ⟨x, hx⟩ : ∃ x, confirmM m f = x := ⟨_, rfl⟩
    rw [hx] at HO HD
    have HE : Hid (stepM m q.kind q.num q.bs f quota = x) := Lib.hid (by unfold stepM; rw [if_neg HB.out, if_neg k1, if_neg k2, if_neg k3, if_neg k4, if_neg k5, if_pos k6]; exact hx)
    rw [HE.out]
    clear HE hx HB hm hf hqu hnm hr hc hn hln ha hgt hk
    obtain ⟨xm, xr⟩ := x
    simp only at HO
    obtain ⟨kind, num, A, len, cap, bs⟩ := q
    simp only at k1 k2 k3 k4 k5 k6
    subst k6
    go_enter Tryd.func10, Tryd.ntmps10
    go_wp2_with (first
      | (refine wpList_ld 27 _ rfl _ _ (ld27 G.out.hm G.out.ok) rfl rfl ?_)
      | (refine wpList_ld 30 _ rfl _ _ (seen_q G.out.hq).all rfl rfl ?_)
      | (refine wpList_ld 32 _ rfl _ _ (seen_f G.out.hf G.out.okf).all rfl rfl ?_)
      | (refine wpList_ld 3 _ rfl _ _ (ld3 (seen_q G.out.hq).kind) rfl rfl ?_)
      | (go_at_call 19; (with_reducible refine (HR.out _).mono ?_); rintro e w1 ⟨rfl, b1⟩; replace G := Lib.hid (G.out.kept b1); clear b1 HR)
      | (go_at_call 26; (with_reducible refine (HD.out _).mono ?_); rintro e w1 ⟨rfl, b1⟩; replace G := Lib.hid (G.out.kept b1); clear b1 HD)
      | (refine wpList_row rfl 27 _ _ rfl (w.heap.size + 1 + 1 + 1) _ rfl rfl 27 _ G.out.ho (size27 HO.out) (old27 G.out.oko HO.out) (mt_all _) ?_; intro w1 hs on; replace G := Lib.hid (G.out.seto HO.out hs on); clear hs on)
      | (refine wpList_row rfl 36 _ _ rfl (w.heap.size + 1 + 1 + 1 + 1) _ rfl rfl 36 _ G.out.hr (size36 _) rfl (rp_all _) ?_; intro w1 hs on; replace G := Lib.hid (G.out.setr hs on); clear hs on))
    exact out_ret (p := 8) (u := 9) rfl _ _ _ _ _ _ _ _ (rfl) rfl rfl rfl (Out.mk G.out.ho G.out.hr G.out.hb) G.out.oko
  by_cases k7 : q.kind = 7
  · have HD := Lib.hid (fun W => roll_any m f W hm hf ha)
    have HO := Lib.hid (show ((rollM m f).1).Ok from roll_ok hm)
    obtain ⟨x, hx⟩ : ∃ x, rollM m f = x := ⟨_, rfl⟩
    rw [hx] at HO HD
    have HE : Hid (stepM m q.kind q.num q.bs f quota = x) := Lib.hid (by unfold stepM; rw [if_neg HB.out, if_neg k1, if_neg k2, if_neg k3, if_neg k4, if_neg k5, if_neg k6, if_pos k7]; exact hx)
    rw [HE.out]
    clear HE hx HB hm hf hqu hnm hr hc hn hln ha hgt hk
    obtain ⟨xm, xr⟩ := x
    simp only at HO
    obtain ⟨kind, num, A, len, cap, bs⟩ := q
    simp only at k1 k2 k3 k4 k5 k6 k7
    subst k7
    go_enter Tryd.func10, Tryd.ntmps10
    go_wp2_with (first
      | (refine wpList_ld 27 _ rfl _ _ (ld27 G.out.hm G.out.ok) rfl rfl ?_)
      | (refine wpList_ld 30 _ rfl _ _ (seen_q G.out.hq).all rfl rfl ?_)
      | (refine wpList_ld 32 _ rfl _ _ (seen_f G.out.hf G.out.okf).all rfl rfl ?_)
      | (refine wpList_ld 3 _ rfl _ _ (ld3 (seen_q G.out.hq).kind) rfl rfl ?_)
      | (go_at_call 19; (with_reducible refine (HR.out _).mono ?_); rintro e w1 ⟨rfl, b1⟩; replace G := Lib.hid (G.out.kept b1); clear b1 HR)
      | (go_at_call 27; (with_reducible refine (HD.out _).mono ?_); rintro e w1 ⟨rfl, b1⟩; replace G := Lib.hid (G.out.kept b1); clear b1 HD)
      | (refine wpList_row rfl 27 _ _ rfl (w.heap.size + 1 + 1 + 1) _ rfl rfl 27 _ G.out.ho (size27 HO.out) (old27 G.out.oko HO.out) (mt_all _) ?_; intro w1 hs on; replace G := Lib.hid (G.out.seto HO.out hs on); clear hs on)
      | (refine wpList_row rfl 36 _ _ rfl (w.heap.size + 1 + 1 + 1 + 1) _ rfl rfl 36 _ G.out.hr (size36 _) rfl (rp_all _) ?_; intro w1 hs on; replace G := Lib.hid (G.out.setr hs on); clear hs on))
    exact out_ret (p := 8) (u := 9) rfl _ _ _ _ _ _ _ _ (rfl) rfl rfl rfl (Out.mk G.out.ho G.out.hr G.out.hb) G.out.oko
  by_cases k8 : q.kind = 8
  · have HD := Lib.hid (fun W => abort_any m f W hm hf)
    have HO := Lib.hid (show ((abortM m f).1).Ok from abort_ok hm)
    obtain ⟨x, hx⟩ : ∃ x, abortM m f = x := ⟨_, rfl⟩
    rw [hx] at HO HD
    have HE : Hid (stepM m q.kind q.num q.bs f quota = x) := Lib.hid (by unfold stepM; rw [if_neg HB.out, if_neg k1, if_neg k2, if_neg k3, if_neg k4, if_neg k5, if_neg k6, if_neg k7, if_pos k8]; exact hx)
    rw [HE.out]
    clear HE hx HB hm hf hqu hnm hr hc hn hln ha hgt hk
    obtain ⟨xm, xr⟩ := x
    simp only at HO
    obtain ⟨kind, num, A, len, cap, bs⟩ := q
    simp only at k1 k2 k3 k4 k5 k6 k7 k8
    subst k8
    go_enter Tryd.func10, Tryd.ntmps10
    go_wp2_with (first
      | (refine wpList_ld 27 _ rfl _ _ (ld27 G.out.hm G.out.ok) rfl rfl ?_)
      | (refine wpList_ld 30 _ rfl _ _ (seen_q G.out.hq).all rfl rfl ?_)
      | (refine wpList_ld 32 _ rfl _ _ (seen_f G.out.hf G.out.okf).all rfl rfl ?_)
      | (refine wpList_ld 3 _ rfl _ _ (ld3 (seen_q G.out.hq).kind) rfl rfl ?_)
      | (go_at_call 19; (with_reducible refine (HR.out _).mono ?_); rintro e w1 ⟨rfl, b1⟩; replace G := Lib.hid (G.out.kept b1); clear b1 HR)
      | (go_at_call 28; (with_reducible refine (HD.out _).mono ?_); rintro e w1 ⟨rfl, b1⟩; replace G := Lib.hid (G.out.kept b1); clear b1 HD)
      | (refine wpList_row rfl 27 _ _ rfl (w.heap.size + 1 + 1 + 1) _ rfl rfl 27 _ G.out.ho (size27 HO.out) (old27 G.out.oko HO.out) (mt_all _) ?_; intro w1 hs on; replace G := Lib.hid (G.out.seto HO.out hs on); clear hs on)
      | (refine wpList_row rfl 36 _ _ rfl (w.heap.size + 1 + 1 + 1 + 1) _ rfl rfl 36 _ G.out.hr (size36 _) rfl (rp_all _) ?_; intro w1 hs on; replace G := Lib.hid (G.out.setr hs on); clear hs on))
    exact out_ret (p := 8) (u := 9) rfl _ _ _ _ _ _ _ _ (rfl) rfl rfl rfl (Out.mk G.out.ho G.out.hr G.out.hb) G.out.oko
  by_cases k9 : q.kind = 9
  · have HM := Lib.hid hm
    have HE : Hid (stepM m q.kind q.num q.bs f quota = (m, ⟨0, m.phase, m.gott⟩)) := Lib.hid (by unfold stepM; rw [if_neg HB.out, if_neg k1, if_neg k2, if_neg k3, if_neg k4, if_neg k5, if_neg k6, if_neg k7, if_neg k8, if_pos k9])
    rw [HE.out]
    clear HE HB hm hf hqu hnm hr hc hn hln ha hgt hk
    obtain ⟨kind, num, A, len, cap, bs⟩ := q
    simp only at k1 k2 k3 k4 k5 k6 k7 k8 k9
    subst k9
    clear k1 k2 k3 k4 k5 k6 k7 k8
    go_enter Tryd.func10, Tryd.ntmps10
    go_upto_region 21 with (first
      | (refine wpList_ld 27 _ rfl _ _ (ld27 G.out.hm G.out.ok) rfl rfl ?_)
      | (refine wpList_ld 30 _ rfl _ _ (seen_q G.out.hq).all rfl rfl ?_)
      | (refine wpList_ld 32 _ rfl _ _ (seen_f G.out.hf G.out.okf).all rfl rfl ?_)
      | (refine wpList_ld 3 _ rfl _ _ (ld3 (seen_q G.out.hq).kind) rfl rfl ?_)
      | (go_at_call 19; (with_reducible refine (HR.out _).mono ?_); rintro e w1 ⟨rfl, b1⟩; replace G := Lib.hid (G.out.kept b1); clear b1 HR))
    refine wp_region_held_drew (S := fun W => Has W w.heap.size 27 m.cells) (by kernel_rfl) G.out.drew.hm ?_
    intro _
    replace G := Lib.hid G.out.drew
    refine wpAnyH_take (i := 0) (v := .agg m.cells) rfl (by kernel_rfl) (by kernel_rfl) (by kernel_rfl) (fun _ _ _ h => h) (yields_ld (by rfl) 27 (.tmp 4) rfl _ _ (fun W hW => ld27 hW HM.out) rfl) G.out.hm ?_
    simp only [List.getElem_toArray, List.getElem_cons_succ, List.getElem_cons_zero, Act.put, List.setIfInBounds_toArray, List.set_cons_zero, List.set_cons_succ]
    refine wpAnyH_take (i := 1) (v := .pointer (some ⟨w.heap.size, 70, none⟩)) rfl (by kernel_rfl) (by kernel_rfl) (by kernel_rfl) (fun _ _ _ h => h) (Or.inl ⟨by rfl, (fun W _ => by go_simp)⟩) G.out.hm ?_
    simp only [List.getElem_toArray, List.getElem_cons_succ, List.getElem_cons_zero, Act.put, List.setIfInBounds_toArray, List.set_cons_zero, List.set_cons_succ]
    refine wpAnyH_take (i := 2) (v := .int .i64 m.phase) rfl (by kernel_rfl) (by kernel_rfl) (by kernel_rfl) (fun _ _ _ h => h) (yields_ld (by rfl) 3 (.tmp 81) rfl _ _ (fun W hW => ld3 (seen_of hW HM.out).phase) rfl) G.out.hm ?_
    simp only [List.getElem_toArray, List.getElem_cons_succ, List.getElem_cons_zero, Act.put, List.setIfInBounds_toArray, List.set_cons_zero, List.set_cons_succ]
    refine wpAnyH_take (i := 3) (v := .pointer (some ⟨w.heap.size, 105, none⟩)) rfl (by kernel_rfl) (by kernel_rfl) (by kernel_rfl) (fun _ _ _ h => h) (Or.inl ⟨by rfl, (fun W _ => by go_simp)⟩) G.out.hm ?_
    simp only [List.getElem_toArray, List.getElem_cons_succ, List.getElem_cons_zero, Act.put, List.setIfInBounds_toArray, List.set_cons_zero, List.set_cons_succ]
    refine wpAnyH_take (i := 4) (v := .int .i64 m.gott) rfl (by kernel_rfl) (by kernel_rfl) (by kernel_rfl) (fun _ _ _ h => h) (yields_ld (by rfl) 3 (.tmp 83) rfl _ _ (fun W hW => ld3 (seen_of hW HM.out).gott) rfl) G.out.hm ?_
    simp only [List.getElem_toArray, List.getElem_cons_succ, List.getElem_cons_zero, Act.put, List.setIfInBounds_toArray, List.set_cons_zero, List.set_cons_succ]
    refine wpAnyH_take (i := 5) (v := .agg (Rp.cells ⟨0, m.phase, m.gott⟩)) rfl (by kernel_rfl) (by kernel_rfl) (by kernel_rfl) (fun _ _ _ h => h) (yields_build (by rfl) 36 #[(1, .tmp 82), (2, .tmp 84)] rfl _ (by kernel_rfl)) G.out.hm ?_
    simp only [List.getElem_toArray, List.getElem_cons_succ, List.getElem_cons_zero, Act.put, List.setIfInBounds_toArray, List.set_cons_zero, List.set_cons_succ]
    refine wpAnyH_ready (rs := [6]) (by kernel_rfl) (by simp) ?_
    refine AllReadyH.cons rfl (fun K hK => ?_) AllReadyH.nil
    refine step_row rfl 27 _ _ rfl (w.heap.size + 1 + 1 + 1) _ rfl rfl 27 _ G.out.ho (size27 G.out.ok) (old27 G.out.oko G.out.ok) (mt_all _) ?_
    intro w1 hs on; replace G := Lib.hid (G.out.seto G.out.ok hs on); clear hs on
    refine hK.out _ _ G.out.hm (fun _ => ?_)
    clear hK K
    refine wpAnyH_ready (rs := [7]) (by kernel_rfl) (by simp) ?_
    refine AllReadyH.cons rfl (fun K hK => ?_) AllReadyH.nil
    refine step_row rfl 36 _ _ rfl (w.heap.size + 1 + 1 + 1 + 1) _ rfl rfl 36 _ G.out.hr (size36 _) rfl (rp_all _) ?_
    intro w1 hs on; replace G := Lib.hid (G.out.setr hs on); clear hs on
    refine hK.out _ _ G.out.hm (fun _ => ?_)
    clear hK K
    refine wpAnyH_done (by kernel_rfl) ?_ _
    go_wp2
    exact out_ret (p := 8) (u := 9) rfl _ _ _ _ _ _ _ _ (rfl) rfl rfl rfl (Out.mk G.out.ho G.out.hr G.out.hb) G.out.oko
  have HE : Hid (stepM m q.kind q.num q.bs f quota = bad m 1) := Lib.hid (by unfold stepM; rw [if_neg HB.out, if_neg k1, if_neg k2, if_neg k3, if_neg k4, if_neg k5, if_neg k6, if_neg k7, if_neg k8, if_neg k9])
  rw [HE.out]
  clear HE HB hm hf hqu hnm hr hc hn hln ha hgt hk
  obtain ⟨kind, num, A, len, cap, bs⟩ := q
  simp only at k1 k2 k3 k4 k5 k6 k7 k8 k9
  have d1 : (kind == 1) = false := by simp [k1]
  have d2 : (kind == 2) = false := by simp [k2]
  have d3 : (kind == 3) = false := by simp [k3]
  have d4 : (kind == 4) = false := by simp [k4]
  have d5 : (kind == 5) = false := by simp [k5]
  have d6 : (kind == 6) = false := by simp [k6]
  have d7 : (kind == 7) = false := by simp [k7]
  have d8 : (kind == 8) = false := by simp [k8]
  have d9 : (kind == 9) = false := by simp [k9]
  go_enter Tryd.func10, Tryd.ntmps10
  go_wp2_with (first
    | (refine wpList_ld 27 _ rfl _ _ (ld27 G.out.hm G.out.ok) rfl rfl ?_)
    | (refine wpList_ld 30 _ rfl _ _ (seen_q G.out.hq).all rfl rfl ?_)
    | (refine wpList_ld 32 _ rfl _ _ (seen_f G.out.hf G.out.okf).all rfl rfl ?_)
    | (refine wpList_ld 3 _ rfl _ _ (ld3 (seen_q G.out.hq).kind) rfl rfl ?_)
    | (go_at_call 19; (with_reducible refine (HR.out _).mono ?_); rintro e w1 ⟨rfl, b1⟩; replace G := Lib.hid (G.out.kept b1); clear b1 HR)
    | (go_at_call 20; (with_reducible refine (refuse_any _ _ _ G.out.ok).mono ?_); rintro e w1 ⟨rfl, b1⟩; replace G := Lib.hid (G.out.kept b1); clear b1)
    | (refine wpList_row rfl 27 _ _ rfl (w.heap.size + 1 + 1 + 1) _ rfl rfl 27 _ G.out.ho (size27 G.out.ok) (old27 G.out.oko G.out.ok) (mt_all _) ?_; intro w1 hs on; replace G := Lib.hid (G.out.seto G.out.ok hs on); clear hs on)
    | (refine wpList_row rfl 36 _ _ rfl (w.heap.size + 1 + 1 + 1 + 1) _ rfl rfl 36 _ G.out.hr (size36 _) rfl (rp_all _) ?_; intro w1 hs on; replace G := Lib.hid (G.out.setr hs on); clear hs on))
  exact out_ret (p := 8) (u := 9) rfl _ _ _ _ _ _ _ _ (rfl) rfl rfl rfl (Out.mk G.out.ho G.out.hr G.out.hb) G.out.oko
end Go.Proofs.YtcokpdhhpaahgaaDoor
