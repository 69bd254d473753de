/-
  Requests to confirm, to roll back and to abort, as the document does them; conditions: what is kept may be kept.
-/
import Derived.Test.YtcokpdhhpaahgaaDoorUq
import Derived.Deep.RegionHeld3
import Derived.Deep.Cut
namespace Go.Proofs.YtcokpdhhpaahgaaDoor
open Go.RowKit
set_option linter.unusedVariables false
set_option linter.unusedSimpArgs false

/-- What holds of what is kept in each phase. -/
theorem in_trial {m : Mt} (h : rightB m = true) (hp : m.phase = 3) : m.com = zeroI ∧ m.gott = 0 := by
  have hi := right_in h
  unfold rightB at h
  rw [Bool.and_eq_true] at h
  have h2 := h.2
  unfold fitB at h2
  rw [if_neg (by omega), if_neg (by omega), if_neg (by omega), if_pos hp] at h2
  simp only [Bool.and_eq_true, decide_eq_true_eq] at h2
  exact ⟨okI_ver hi.com h2.1.1, h2.1.2⟩
theorem in_coming {m : Mt} (h : rightB m = true) (hp : m.phase = 1 ∨ m.phase = 2) : m.trials = 0 := by
  unfold rightB at h
  rw [Bool.and_eq_true] at h
  have h2 := h.2
  unfold fitB at h2
  rcases hp with hp | hp
  · rw [if_neg (by omega), if_pos hp] at h2
    unfold canB at h2
    simp only [Bool.and_eq_true, decide_eq_true_eq] at h2
    exact h2.1.2
  · rw [if_neg (by omega), if_neg (by omega), if_pos hp] at h2
    unfold canB at h2
    simp only [Bool.and_eq_true, decide_eq_true_eq] at h2
    exact h2.1.2
set_option maxRecDepth 100000 in
set_option maxHeartbeats 40000000 in
theorem rconf_any (m : Mt) (q : Rq) (f : Fc) (w : World) (hm : m.Ok) (hf : f.Ok) (hb : rightB m = true) (hk : q.kind = 6) : Calls Tryd.prog 33 #[.agg m.cells, .agg q.cells, .agg f.cells] w (Does (confirmM m f) w) := by
  have hz27 := zero27_run
  have hz36 := zero36_run
  have ha := (right_in hb).act
  have hph := right_phase hb
  have hit := in_trial hb
  have hic := in_coming hb
  have G := Lib.hid (gq_new q w hm hf)
  have HM := Lib.hid hm
  have HCN := Lib.hid (fun W => rconfirm_any m W hm)
  have HI := Lib.hid (conf_i64 hm)
  have q0 := (seen_q G.out.hq).kind
  have c70 := (seen_of G.out.hm G.out.ok).phase
  have c106 := (seen_of G.out.hm G.out.ok).trials
  have f34 := (seen_f G.out.hf G.out.okf).worn
  clear hf hb hm
  obtain ⟨kind, num, A, len, cap, bs⟩ := q
  obtain ⟨act, h0, h1, least, phase, com, gott, trials⟩ := m
  obtain ⟨nm, tg, dg, wn⟩ := f
  simp only at ha hph hit hic hk q0 c70 c106 f34
  subst hk
  by_cases hp : phase = 3
  rotate_left
  · have HP := Lib.hid (show ¬ phase = 3 ∨ trials = 2 from .inl hp)
    clear ha hph hit hic HCN HI
    have d3 : (phase == 3) = false := by simp [hp]
    go_enter Tryd.func33, Tryd.ntmps33
    go_upto_region 3 with (fail)
    refine wp_region_held_drew (S := fun W => Has W w.heap.size 27 (Mt.cells ⟨act, h0, h1, least, phase, com, gott, trials⟩)) (by kernel_rfl) G.out.drew.hm ?_
    intro _
    replace G := Lib.hid G.out.drew
    refine wpAnyH_take (i := 0) (v := .agg (Mt.cells ⟨act, h0, h1, least, phase, com, gott, trials⟩)) rfl (by kernel_rfl) (by kernel_rfl) (by kernel_rfl) (fun _ _ _ h => h) (yields_ld (by rfl) 27 (.tmp 3) rfl _ _ (fun W hW => ld27 hW HM.out) rfl) G.out.hm ?_
    simp only [List.getElem_toArray, List.getElem_cons_succ, List.getElem_cons_zero, Act.put, List.setIfInBounds_toArray, List.set_cons_zero, List.set_cons_succ]
    refine wpAnyH_ready (rs := [1]) (by kernel_rfl) (by simp) ?_
    refine AllReadyH.cons rfl (fun K hK => ?_) AllReadyH.nil
    go_simp
    refine (err_any 11 _).mono ?_
    rintro e w1 ⟨rfl, b1⟩; replace G := Lib.hid (G.out.kept b1); clear b1
    refine hK.out _ _ G.out.hm (fun _ => ?_)
    clear hK K
    refine wpAnyH_ready (rs := [2]) (by kernel_rfl) (by simp) ?_
    refine AllReadyH.cons rfl (fun K hK => ?_) AllReadyH.nil
    refine step_row rfl 27 _ _ rfl (w.heap.size + 1 + 1 + 1) _ rfl rfl 27 _ G.out.ho (size27 G.out.ok) (old27 G.out.oko G.out.ok) (mt_all _) ?_
    intro w1 hs on; replace G := Lib.hid (G.out.seto G.out.ok hs on); clear hs on
    refine hK.out _ _ G.out.hm (fun _ => ?_)
    clear hK K
    refine wpAnyH_ready (rs := [3]) (by kernel_rfl) (by simp) ?_
    refine AllReadyH.cons rfl (fun K hK => ?_) AllReadyH.nil
    refine step_row rfl 36 _ _ rfl (w.heap.size + 1 + 1 + 1 + 1) _ rfl rfl 36 _ G.out.hr (size36 _) rfl (rp_all _) ?_
    intro w1 hs on; replace G := Lib.hid (G.out.setr hs on); clear hs on
    refine hK.out _ _ G.out.hm (fun _ => ?_)
    clear hK K
    refine wpAnyH_done (by kernel_rfl) ?_ _
    go_wp2
    exact out_ret (p := 6) (u := 7) rfl _ _ _ _ _ _ _ _ (by unfold confirmM; rw [if_pos HP.out]; rfl) rfl rfl rfl (Out.mk G.out.ho G.out.hr G.out.hb) G.out.oko
  subst hp
  by_cases ht : trials = 2
  · subst ht
    clear ha hph hit hic HCN HI
    go_enter Tryd.func33, Tryd.ntmps33
    go_upto_region 3 with (fail)
    refine wp_region_held_drew (S := fun W => Has W w.heap.size 27 (Mt.cells ⟨act, h0, h1, least, 3, com, gott, 2⟩)) (by kernel_rfl) G.out.drew.hm ?_
    intro _
    replace G := Lib.hid G.out.drew
    refine wpAnyH_take (i := 0) (v := .agg (Mt.cells ⟨act, h0, h1, least, 3, com, gott, 2⟩)) rfl (by kernel_rfl) (by kernel_rfl) (by kernel_rfl) (fun _ _ _ h => h) (yields_ld (by rfl) 27 (.tmp 3) rfl _ _ (fun W hW => ld27 hW HM.out) rfl) G.out.hm ?_
    simp only [List.getElem_toArray, List.getElem_cons_succ, List.getElem_cons_zero, Act.put, List.setIfInBounds_toArray, List.set_cons_zero, List.set_cons_succ]
    refine wpAnyH_ready (rs := [1]) (by kernel_rfl) (by simp) ?_
    refine AllReadyH.cons rfl (fun K hK => ?_) AllReadyH.nil
    go_simp
    refine (err_any 11 _).mono ?_
    rintro e w1 ⟨rfl, b1⟩; replace G := Lib.hid (G.out.kept b1); clear b1
    refine hK.out _ _ G.out.hm (fun _ => ?_)
    clear hK K
    refine wpAnyH_ready (rs := [2]) (by kernel_rfl) (by simp) ?_
    refine AllReadyH.cons rfl (fun K hK => ?_) AllReadyH.nil
    refine step_row rfl 27 _ _ rfl (w.heap.size + 1 + 1 + 1) _ rfl rfl 27 _ G.out.ho (size27 G.out.ok) (old27 G.out.oko G.out.ok) (mt_all _) ?_
    intro w1 hs on; replace G := Lib.hid (G.out.seto G.out.ok hs on); clear hs on
    refine hK.out _ _ G.out.hm (fun _ => ?_)
    clear hK K
    refine wpAnyH_ready (rs := [3]) (by kernel_rfl) (by simp) ?_
    refine AllReadyH.cons rfl (fun K hK => ?_) AllReadyH.nil
    refine step_row rfl 36 _ _ rfl (w.heap.size + 1 + 1 + 1 + 1) _ rfl rfl 36 _ G.out.hr (size36 _) rfl (rp_all _) ?_
    intro w1 hs on; replace G := Lib.hid (G.out.setr hs on); clear hs on
    refine hK.out _ _ G.out.hm (fun _ => ?_)
    clear hK K
    refine wpAnyH_done (by kernel_rfl) ?_ _
    go_wp2
    exact out_ret (p := 6) (u := 7) rfl _ _ _ _ _ _ _ _ (by unfold confirmM; rw [if_pos (.inr rfl)]; rfl) rfl rfl rfl (Out.mk G.out.ho G.out.hr G.out.hb) G.out.oko
  have HT := Lib.hid ht
  have d2 : (trials == 2) = false := by simp [ht]
  obtain ⟨rfl, rfl⟩ := hit rfl
  cases wn with
  | true =>
    clear ha hph hic HCN HI
    go_enter Tryd.func33, Tryd.ntmps33
    go_upto_region 5 with (fail)
    refine wp_region_held_drew (S := fun W => Has W w.heap.size 27 (Mt.cells ⟨act, h0, h1, least, 3, zeroI, 0, trials⟩)) (by kernel_rfl) G.out.drew.hm ?_
    intro _
    replace G := Lib.hid G.out.drew
    refine wpAnyH_take (i := 0) (v := .agg (Mt.cells ⟨act, h0, h1, least, 3, zeroI, 0, trials⟩)) rfl (by kernel_rfl) (by kernel_rfl) (by kernel_rfl) (fun _ _ _ h => h) (yields_ld (by rfl) 27 (.tmp 3) rfl _ _ (fun W hW => ld27 hW HM.out) rfl) G.out.hm ?_
    simp only [List.getElem_toArray, List.getElem_cons_succ, List.getElem_cons_zero, Act.put, List.setIfInBounds_toArray, List.set_cons_zero, List.set_cons_succ]
    refine wpAnyH_ready (rs := [1]) (by kernel_rfl) (by simp) ?_
    refine AllReadyH.cons rfl (fun K hK => ?_) AllReadyH.nil
    go_simp
    refine (err_any 5 _).mono ?_
    rintro e w1 ⟨rfl, b1⟩; replace G := Lib.hid (G.out.kept b1); clear b1
    refine hK.out _ _ G.out.hm (fun _ => ?_)
    clear hK K
    refine wpAnyH_ready (rs := [2]) (by kernel_rfl) (by simp) ?_
    refine AllReadyH.cons rfl (fun K hK => ?_) AllReadyH.nil
    refine step_row rfl 27 _ _ rfl (w.heap.size + 1 + 1 + 1) _ rfl rfl 27 _ G.out.ho (size27 G.out.ok) (old27 G.out.oko G.out.ok) (mt_all _) ?_
    intro w1 hs on; replace G := Lib.hid (G.out.seto G.out.ok hs on); clear hs on
    refine hK.out _ _ G.out.hm (fun _ => ?_)
    clear hK K
    refine wpAnyH_ready (rs := [3]) (by kernel_rfl) (by simp) ?_
    refine AllReadyH.cons rfl (fun K hK => ?_) AllReadyH.nil
    refine step_row rfl 36 _ _ rfl (w.heap.size + 1 + 1 + 1 + 1) _ rfl rfl 36 _ G.out.hr (size36 _) rfl (rp_all _) ?_
    intro w1 hs on; replace G := Lib.hid (G.out.setr hs on); clear hs on
    refine hK.out _ _ G.out.hm (fun _ => ?_)
    clear hK K
    refine wpAnyH_done (by kernel_rfl) ?_ _
    go_wp2
    exact out_ret (p := 6) (u := 7) rfl _ _ _ _ _ _ _ _ (by unfold confirmM; rw [if_neg (fun h => h.elim (fun h => h rfl) HT.out), if_pos rfl]; rfl) rfl rfl rfl (Out.mk G.out.ho G.out.hr G.out.hb) G.out.oko
  | false =>
    clear hph hic
    obtain ⟨cn, hcn⟩ : ∃ x, confN ⟨act, h0, h1, least, 3, zeroI, 0, trials⟩ = x := ⟨_, rfl⟩
    rw [hcn] at HCN HI
    have HCC := Lib.hid hcn
    clear hcn
    rcases ha with rfl | rfl
    · skip
      go_enter Tryd.func33, Tryd.ntmps33
      go_wp2_with (first
        | (refine wpList_ld 27 _ rfl _ _ (ld27 G.out.hm G.out.ok) rfl rfl ?_)
        | (go_at_call 48; (with_reducible refine (HCN.out _).mono ?_); rintro e w1 ⟨rfl, b1⟩; replace G := Lib.hid (G.out.kept b1); clear b1)
        | (refine wpList_st3 rfl _ _ rfl w.heap.size 69 _ rfl rfl _ _ G.out.hm (by omega) (mt_set69 _ G.out.ok) G.out.ok ?_; intro w1 hs on; replace G := Lib.hid (G.out.set (ok_least G.out.ok HI.out) hs on); clear hs on)
        | (refine wpList_ld 3 _ rfl _ _ (ld3 (seen_of G.out.hm G.out.ok).act) rfl rfl ?_)
        | (refine wpList_st3 rfl _ _ rfl w.heap.size 0 _ rfl rfl _ _ G.out.hm (by omega) (mt_set0 _ _) G.out.ok ?_; intro w1 hs on; replace G := Lib.hid (G.out.set (ok_act G.out.ok (by unfold I64; omega)) hs on); clear hs on)
        | (refine wpList_build_to rfl 24 _ rfl _ built24 ?_)
        | (refine wpList_build_to rfl 36 _ rfl _ built36 ?_)
        | (refine wpList_st3 rfl _ _ rfl w.heap.size 70 _ rfl rfl _ _ G.out.hm (by omega) (mt_set70 _ G.out.ok) G.out.ok ?_; intro w1 hs on; replace G := Lib.hid (G.out.set (ok_phase G.out.ok i64_zero) hs on); clear hs on)
        | (refine wpList_st24 rfl _ _ rfl w.heap.size 71 _ rfl rfl _ _ G.out.ok zeroI_ok G.out.hm (mt_put2 _ G.out.ok zeroI_ok) (by omega) ?_; intro w1 hs on; replace G := Lib.hid (G.out.set (ok_com G.out.ok zeroI_ok) hs on); clear hs on)
        | (refine wpList_st3 rfl _ _ rfl w.heap.size 105 _ rfl rfl _ _ G.out.hm (by omega) (mt_set105 _ G.out.ok) G.out.ok ?_; intro w1 hs on; replace G := Lib.hid (G.out.set (ok_gott G.out.ok i64_zero) hs on); clear hs on)
        | (refine wpList_st3 rfl _ _ rfl w.heap.size 106 _ rfl rfl _ _ G.out.hm (by omega) (mt_set106 _ G.out.ok) G.out.ok ?_; intro w1 hs on; replace G := Lib.hid (G.out.set (ok_trials G.out.ok i64_zero) hs on); clear hs on)
        | (refine wpList_row rfl 27 _ _ rfl (w.heap.size + 1 + 1 + 1) _ rfl rfl 27 _ G.out.ho (size27 G.out.ok) (old27 G.out.oko G.out.ok) (mt_all _) ?_; intro w1 hs on; replace G := Lib.hid (G.out.seto G.out.ok hs on); clear hs on)
        | (refine wpList_row rfl 36 _ _ rfl (w.heap.size + 1 + 1 + 1 + 1) _ rfl rfl 36 _ G.out.hr (size36 _) rfl (rp_all _) ?_; intro w1 hs on; replace G := Lib.hid (G.out.setr hs on); clear hs on))
      exact out_ret (p := 6) (u := 7) rfl _ _ _ _ _ _ _ _ (by unfold confirmM; rw [if_neg (fun h => h.elim (fun h => h rfl) HT.out), if_neg Bool.false_ne_true, HCC.out]; rfl) rfl rfl rfl (Out.mk G.out.ho G.out.hr G.out.hb) G.out.oko
    · skip
      go_enter Tryd.func33, Tryd.ntmps33
      go_wp2_with (first
        | (refine wpList_ld 27 _ rfl _ _ (ld27 G.out.hm G.out.ok) rfl rfl ?_)
        | (go_at_call 48; (with_reducible refine (HCN.out _).mono ?_); rintro e w1 ⟨rfl, b1⟩; replace G := Lib.hid (G.out.kept b1); clear b1)
        | (refine wpList_st3 rfl _ _ rfl w.heap.size 69 _ rfl rfl _ _ G.out.hm (by omega) (mt_set69 _ G.out.ok) G.out.ok ?_; intro w1 hs on; replace G := Lib.hid (G.out.set (ok_least G.out.ok HI.out) hs on); clear hs on)
        | (refine wpList_ld 3 _ rfl _ _ (ld3 (seen_of G.out.hm G.out.ok).act) rfl rfl ?_)
        | (refine wpList_st3 rfl _ _ rfl w.heap.size 0 _ rfl rfl _ _ G.out.hm (by omega) (mt_set0 _ _) G.out.ok ?_; intro w1 hs on; replace G := Lib.hid (G.out.set (ok_act G.out.ok (by unfold I64; omega)) hs on); clear hs on)
        | (refine wpList_build_to rfl 24 _ rfl _ built24 ?_)
        | (refine wpList_build_to rfl 36 _ rfl _ built36 ?_)
        | (refine wpList_st3 rfl _ _ rfl w.heap.size 70 _ rfl rfl _ _ G.out.hm (by omega) (mt_set70 _ G.out.ok) G.out.ok ?_; intro w1 hs on; replace G := Lib.hid (G.out.set (ok_phase G.out.ok i64_zero) hs on); clear hs on)
        | (refine wpList_st24 rfl _ _ rfl w.heap.size 71 _ rfl rfl _ _ G.out.ok zeroI_ok G.out.hm (mt_put2 _ G.out.ok zeroI_ok) (by omega) ?_; intro w1 hs on; replace G := Lib.hid (G.out.set (ok_com G.out.ok zeroI_ok) hs on); clear hs on)
        | (refine wpList_st3 rfl _ _ rfl w.heap.size 105 _ rfl rfl _ _ G.out.hm (by omega) (mt_set105 _ G.out.ok) G.out.ok ?_; intro w1 hs on; replace G := Lib.hid (G.out.set (ok_gott G.out.ok i64_zero) hs on); clear hs on)
        | (refine wpList_st3 rfl _ _ rfl w.heap.size 106 _ rfl rfl _ _ G.out.hm (by omega) (mt_set106 _ G.out.ok) G.out.ok ?_; intro w1 hs on; replace G := Lib.hid (G.out.set (ok_trials G.out.ok i64_zero) hs on); clear hs on)
        | (refine wpList_row rfl 27 _ _ rfl (w.heap.size + 1 + 1 + 1) _ rfl rfl 27 _ G.out.ho (size27 G.out.ok) (old27 G.out.oko G.out.ok) (mt_all _) ?_; intro w1 hs on; replace G := Lib.hid (G.out.seto G.out.ok hs on); clear hs on)
        | (refine wpList_row rfl 36 _ _ rfl (w.heap.size + 1 + 1 + 1 + 1) _ rfl rfl 36 _ G.out.hr (size36 _) rfl (rp_all _) ?_; intro w1 hs on; replace G := Lib.hid (G.out.setr hs on); clear hs on))
      exact out_ret (p := 6) (u := 7) rfl _ _ _ _ _ _ _ _ (by unfold confirmM; rw [if_neg (fun h => h.elim (fun h => h rfl) HT.out), if_neg Bool.false_ne_true, HCC.out]; rfl) rfl rfl rfl (Out.mk G.out.ho G.out.hr G.out.hb) G.out.oko
set_option maxRecDepth 100000 in
set_option maxHeartbeats 40000000 in
theorem rroll_any (m : Mt) (q : Rq) (f : Fc) (w : World) (hm : m.Ok) (hf : f.Ok) (hb : rightB m = true) (hk : q.kind = 7) : Calls Tryd.prog 33 #[.agg m.cells, .agg q.cells, .agg f.cells] w (Does (rollM m f) w) := by
  have hz27 := zero27_run
  have hz36 := zero36_run
  have ha := (right_in hb).act
  have hph := right_phase hb
  have hit := in_trial hb
  have hic := in_coming hb
  have G := Lib.hid (gq_new q w hm hf)
  have HM := Lib.hid hm
  have HCN := Lib.hid (fun W => rconfirm_any m W hm)
  have HI := Lib.hid (conf_i64 hm)
  have q0 := (seen_q G.out.hq).kind
  have c70 := (seen_of G.out.hm G.out.ok).phase
  have c106 := (seen_of G.out.hm G.out.ok).trials
  have f34 := (seen_f G.out.hf G.out.okf).worn
  clear hf hb hm
  obtain ⟨kind, num, A, len, cap, bs⟩ := q
  obtain ⟨act, h0, h1, least, phase, com, gott, trials⟩ := m
  obtain ⟨nm, tg, dg, wn⟩ := f
  simp only at ha hph hit hic hk q0 c70 c106 f34
  subst hk
  clear HCN HI
  by_cases hp : phase = 3
  rotate_left
  · have HP := Lib.hid hp
    clear ha hph hit hic
    have d3 : (phase == 3) = false := by simp [hp]
    go_enter Tryd.func33, Tryd.ntmps33
    go_upto_region 3 with (fail)
    refine wp_region_held_drew (S := fun W => Has W w.heap.size 27 (Mt.cells ⟨act, h0, h1, least, phase, com, gott, trials⟩)) (by kernel_rfl) G.out.drew.hm ?_
    intro _
    replace G := Lib.hid G.out.drew
    refine wpAnyH_take (i := 0) (v := .agg (Mt.cells ⟨act, h0, h1, least, phase, com, gott, trials⟩)) rfl (by kernel_rfl) (by kernel_rfl) (by kernel_rfl) (fun _ _ _ h => h) (yields_ld (by rfl) 27 (.tmp 3) rfl _ _ (fun W hW => ld27 hW HM.out) rfl) G.out.hm ?_
    simp only [List.getElem_toArray, List.getElem_cons_succ, List.getElem_cons_zero, Act.put, List.setIfInBounds_toArray, List.set_cons_zero, List.set_cons_succ]
    refine wpAnyH_ready (rs := [1]) (by kernel_rfl) (by simp) ?_
    refine AllReadyH.cons rfl (fun K hK => ?_) AllReadyH.nil
    go_simp
    refine (err_any 11 _).mono ?_
    rintro e w1 ⟨rfl, b1⟩; replace G := Lib.hid (G.out.kept b1); clear b1
    refine hK.out _ _ G.out.hm (fun _ => ?_)
    clear hK K
    refine wpAnyH_ready (rs := [2]) (by kernel_rfl) (by simp) ?_
    refine AllReadyH.cons rfl (fun K hK => ?_) AllReadyH.nil
    refine step_row rfl 27 _ _ rfl (w.heap.size + 1 + 1 + 1) _ rfl rfl 27 _ G.out.ho (size27 G.out.ok) (old27 G.out.oko G.out.ok) (mt_all _) ?_
    intro w1 hs on; replace G := Lib.hid (G.out.seto G.out.ok hs on); clear hs on
    refine hK.out _ _ G.out.hm (fun _ => ?_)
    clear hK K
    refine wpAnyH_ready (rs := [3]) (by kernel_rfl) (by simp) ?_
    refine AllReadyH.cons rfl (fun K hK => ?_) AllReadyH.nil
    refine step_row rfl 36 _ _ rfl (w.heap.size + 1 + 1 + 1 + 1) _ rfl rfl 36 _ G.out.hr (size36 _) rfl (rp_all _) ?_
    intro w1 hs on; replace G := Lib.hid (G.out.setr hs on); clear hs on
    refine hK.out _ _ G.out.hm (fun _ => ?_)
    clear hK K
    refine wpAnyH_done (by kernel_rfl) ?_ _
    go_wp2
    exact out_ret (p := 6) (u := 7) rfl _ _ _ _ _ _ _ _ (by unfold rollM; rw [if_pos HP.out]; rfl) rfl rfl rfl (Out.mk G.out.ho G.out.hr G.out.hb) G.out.oko
  subst hp
  obtain ⟨rfl, rfl⟩ := hit rfl
  cases wn with
  | true =>
    clear ha hph hic
    go_enter Tryd.func33, Tryd.ntmps33
    go_upto_region 5 with (fail)
    refine wp_region_held_drew (S := fun W => Has W w.heap.size 27 (Mt.cells ⟨act, h0, h1, least, 3, zeroI, 0, trials⟩)) (by kernel_rfl) G.out.drew.hm ?_
    intro _
    replace G := Lib.hid G.out.drew
    refine wpAnyH_take (i := 0) (v := .agg (Mt.cells ⟨act, h0, h1, least, 3, zeroI, 0, trials⟩)) rfl (by kernel_rfl) (by kernel_rfl) (by kernel_rfl) (fun _ _ _ h => h) (yields_ld (by rfl) 27 (.tmp 3) rfl _ _ (fun W hW => ld27 hW HM.out) rfl) G.out.hm ?_
    simp only [List.getElem_toArray, List.getElem_cons_succ, List.getElem_cons_zero, Act.put, List.setIfInBounds_toArray, List.set_cons_zero, List.set_cons_succ]
    refine wpAnyH_ready (rs := [1]) (by kernel_rfl) (by simp) ?_
    refine AllReadyH.cons rfl (fun K hK => ?_) AllReadyH.nil
    go_simp
    refine (err_any 5 _).mono ?_
    rintro e w1 ⟨rfl, b1⟩; replace G := Lib.hid (G.out.kept b1); clear b1
    refine hK.out _ _ G.out.hm (fun _ => ?_)
    clear hK K
    refine wpAnyH_ready (rs := [2]) (by kernel_rfl) (by simp) ?_
    refine AllReadyH.cons rfl (fun K hK => ?_) AllReadyH.nil
    refine step_row rfl 27 _ _ rfl (w.heap.size + 1 + 1 + 1) _ rfl rfl 27 _ G.out.ho (size27 G.out.ok) (old27 G.out.oko G.out.ok) (mt_all _) ?_
    intro w1 hs on; replace G := Lib.hid (G.out.seto G.out.ok hs on); clear hs on
    refine hK.out _ _ G.out.hm (fun _ => ?_)
    clear hK K
    refine wpAnyH_ready (rs := [3]) (by kernel_rfl) (by simp) ?_
    refine AllReadyH.cons rfl (fun K hK => ?_) AllReadyH.nil
    refine step_row rfl 36 _ _ rfl (w.heap.size + 1 + 1 + 1 + 1) _ rfl rfl 36 _ G.out.hr (size36 _) rfl (rp_all _) ?_
    intro w1 hs on; replace G := Lib.hid (G.out.setr hs on); clear hs on
    refine hK.out _ _ G.out.hm (fun _ => ?_)
    clear hK K
    refine wpAnyH_done (by kernel_rfl) ?_ _
    go_wp2
    exact out_ret (p := 6) (u := 7) rfl _ _ _ _ _ _ _ _ (by unfold rollM; rw [if_neg (not_not_intro rfl), if_pos rfl]; rfl) rfl rfl rfl (Out.mk G.out.ho G.out.hr G.out.hb) G.out.oko
  | false =>
    clear hph hic
    rcases ha with rfl | rfl
    · skip
      go_enter Tryd.func33, Tryd.ntmps33
      go_wp2_with (first
        | (refine wpList_ld 27 _ rfl _ _ (ld27 G.out.hm G.out.ok) rfl rfl ?_)
        | (refine wpList_ld 3 _ rfl _ _ (ld3 (seen_of G.out.hm G.out.ok).act) rfl rfl ?_)
        | (refine wpList_st24 rfl _ _ rfl w.heap.size 35 _ rfl rfl _ _ G.out.ok zeroI_ok G.out.hm (mt_put1 _ G.out.ok zeroI_ok) (by omega) ?_; intro w1 hs on; replace G := Lib.hid (G.out.set (ok_h1 G.out.ok zeroI_ok) hs on); clear hs on)
        | (refine wpList_build_to rfl 24 _ rfl _ built24 ?_)
        | (refine wpList_build_to rfl 36 _ rfl _ built36 ?_)
        | (refine wpList_st3 rfl _ _ rfl w.heap.size 70 _ rfl rfl _ _ G.out.hm (by omega) (mt_set70 _ G.out.ok) G.out.ok ?_; intro w1 hs on; replace G := Lib.hid (G.out.set (ok_phase G.out.ok i64_zero) hs on); clear hs on)
        | (refine wpList_st24 rfl _ _ rfl w.heap.size 71 _ rfl rfl _ _ G.out.ok zeroI_ok G.out.hm (mt_put2 _ G.out.ok zeroI_ok) (by omega) ?_; intro w1 hs on; replace G := Lib.hid (G.out.set (ok_com G.out.ok zeroI_ok) hs on); clear hs on)
        | (refine wpList_st3 rfl _ _ rfl w.heap.size 105 _ rfl rfl _ _ G.out.hm (by omega) (mt_set105 _ G.out.ok) G.out.ok ?_; intro w1 hs on; replace G := Lib.hid (G.out.set (ok_gott G.out.ok i64_zero) hs on); clear hs on)
        | (refine wpList_st3 rfl _ _ rfl w.heap.size 106 _ rfl rfl _ _ G.out.hm (by omega) (mt_set106 _ G.out.ok) G.out.ok ?_; intro w1 hs on; replace G := Lib.hid (G.out.set (ok_trials G.out.ok i64_zero) hs on); clear hs on)
        | (refine wpList_row rfl 27 _ _ rfl (w.heap.size + 1 + 1 + 1) _ rfl rfl 27 _ G.out.ho (size27 G.out.ok) (old27 G.out.oko G.out.ok) (mt_all _) ?_; intro w1 hs on; replace G := Lib.hid (G.out.seto G.out.ok hs on); clear hs on)
        | (refine wpList_row rfl 36 _ _ rfl (w.heap.size + 1 + 1 + 1 + 1) _ rfl rfl 36 _ G.out.hr (size36 _) rfl (rp_all _) ?_; intro w1 hs on; replace G := Lib.hid (G.out.setr hs on); clear hs on))
      exact out_ret (p := 6) (u := 7) rfl _ _ _ _ _ _ _ _ (by unfold rollM; rw [if_neg (not_not_intro rfl), if_neg Bool.false_ne_true]; rfl) rfl rfl rfl (Out.mk G.out.ho G.out.hr G.out.hb) G.out.oko
    · skip
      go_enter Tryd.func33, Tryd.ntmps33
      go_wp2_with (first
        | (refine wpList_ld 27 _ rfl _ _ (ld27 G.out.hm G.out.ok) rfl rfl ?_)
        | (refine wpList_ld 3 _ rfl _ _ (ld3 (seen_of G.out.hm G.out.ok).act) rfl rfl ?_)
        | (refine wpList_st24 rfl _ _ rfl w.heap.size 1 _ rfl rfl _ _ G.out.ok zeroI_ok G.out.hm (mt_put0 _ G.out.ok zeroI_ok) (by omega) ?_; intro w1 hs on; replace G := Lib.hid (G.out.set (ok_h0 G.out.ok zeroI_ok) hs on); clear hs on)
        | (refine wpList_build_to rfl 24 _ rfl _ built24 ?_)
        | (refine wpList_build_to rfl 36 _ rfl _ built36 ?_)
        | (refine wpList_st3 rfl _ _ rfl w.heap.size 70 _ rfl rfl _ _ G.out.hm (by omega) (mt_set70 _ G.out.ok) G.out.ok ?_; intro w1 hs on; replace G := Lib.hid (G.out.set (ok_phase G.out.ok i64_zero) hs on); clear hs on)
        | (refine wpList_st24 rfl _ _ rfl w.heap.size 71 _ rfl rfl _ _ G.out.ok zeroI_ok G.out.hm (mt_put2 _ G.out.ok zeroI_ok) (by omega) ?_; intro w1 hs on; replace G := Lib.hid (G.out.set (ok_com G.out.ok zeroI_ok) hs on); clear hs on)
        | (refine wpList_st3 rfl _ _ rfl w.heap.size 105 _ rfl rfl _ _ G.out.hm (by omega) (mt_set105 _ G.out.ok) G.out.ok ?_; intro w1 hs on; replace G := Lib.hid (G.out.set (ok_gott G.out.ok i64_zero) hs on); clear hs on)
        | (refine wpList_st3 rfl _ _ rfl w.heap.size 106 _ rfl rfl _ _ G.out.hm (by omega) (mt_set106 _ G.out.ok) G.out.ok ?_; intro w1 hs on; replace G := Lib.hid (G.out.set (ok_trials G.out.ok i64_zero) hs on); clear hs on)
        | (refine wpList_row rfl 27 _ _ rfl (w.heap.size + 1 + 1 + 1) _ rfl rfl 27 _ G.out.ho (size27 G.out.ok) (old27 G.out.oko G.out.ok) (mt_all _) ?_; intro w1 hs on; replace G := Lib.hid (G.out.seto G.out.ok hs on); clear hs on)
        | (refine wpList_row rfl 36 _ _ rfl (w.heap.size + 1 + 1 + 1 + 1) _ rfl rfl 36 _ G.out.hr (size36 _) rfl (rp_all _) ?_; intro w1 hs on; replace G := Lib.hid (G.out.setr hs on); clear hs on))
      exact out_ret (p := 6) (u := 7) rfl _ _ _ _ _ _ _ _ (by unfold rollM; rw [if_neg (not_not_intro rfl), if_neg Bool.false_ne_true]; rfl) rfl rfl rfl (Out.mk G.out.ho G.out.hr G.out.hb) G.out.oko
set_option maxRecDepth 100000 in
set_option maxHeartbeats 40000000 in
theorem rabort_any (m : Mt) (q : Rq) (f : Fc) (w : World) (hm : m.Ok) (hf : f.Ok) (hb : rightB m = true) (hk : q.kind = 8) : Calls Tryd.prog 33 #[.agg m.cells, .agg q.cells, .agg f.cells] w (Does (abortM m f) w) := by
  have hz27 := zero27_run
  have hz36 := zero36_run
  have ha := (right_in hb).act
  have hph := right_phase hb
  have hit := in_trial hb
  have hic := in_coming hb
  have G := Lib.hid (gq_new q w hm hf)
  have HM := Lib.hid hm
  have HCN := Lib.hid (fun W => rconfirm_any m W hm)
  have HI := Lib.hid (conf_i64 hm)
  have q0 := (seen_q G.out.hq).kind
  have c70 := (seen_of G.out.hm G.out.ok).phase
  have c106 := (seen_of G.out.hm G.out.ok).trials
  have f34 := (seen_f G.out.hf G.out.okf).worn
  clear hf hb hm
  obtain ⟨kind, num, A, len, cap, bs⟩ := q
  obtain ⟨act, h0, h1, least, phase, com, gott, trials⟩ := m
  obtain ⟨nm, tg, dg, wn⟩ := f
  simp only at ha hph hit hic hk q0 c70 c106 f34
  subst hk
  clear HCN HI ha
  by_cases hz0 : phase = 0
  · subst hz0
    clear hph hit hic
    go_enter Tryd.func33, Tryd.ntmps33
    go_upto_region 3 with (fail)
    refine wp_region_held_drew (S := fun W => Has W w.heap.size 27 (Mt.cells ⟨act, h0, h1, least, 0, com, gott, trials⟩)) (by kernel_rfl) G.out.drew.hm ?_
    intro _
    replace G := Lib.hid G.out.drew
    refine wpAnyH_take (i := 0) (v := .agg (Mt.cells ⟨act, h0, h1, least, 0, com, gott, trials⟩)) rfl (by kernel_rfl) (by kernel_rfl) (by kernel_rfl) (fun _ _ _ h => h) (yields_ld (by rfl) 27 (.tmp 3) rfl _ _ (fun W hW => ld27 hW HM.out) rfl) G.out.hm ?_
    simp only [List.getElem_toArray, List.getElem_cons_succ, List.getElem_cons_zero, Act.put, List.setIfInBounds_toArray, List.set_cons_zero, List.set_cons_succ]
    refine wpAnyH_ready (rs := [1]) (by kernel_rfl) (by simp) ?_
    refine AllReadyH.cons rfl (fun K hK => ?_) AllReadyH.nil
    go_simp
    refine (err_any 11 _).mono ?_
    rintro e w1 ⟨rfl, b1⟩; replace G := Lib.hid (G.out.kept b1); clear b1
    refine hK.out _ _ G.out.hm (fun _ => ?_)
    clear hK K
    refine wpAnyH_ready (rs := [2]) (by kernel_rfl) (by simp) ?_
    refine AllReadyH.cons rfl (fun K hK => ?_) AllReadyH.nil
    refine step_row rfl 27 _ _ rfl (w.heap.size + 1 + 1 + 1) _ rfl rfl 27 _ G.out.ho (size27 G.out.ok) (old27 G.out.oko G.out.ok) (mt_all _) ?_
    intro w1 hs on; replace G := Lib.hid (G.out.seto G.out.ok hs on); clear hs on
    refine hK.out _ _ G.out.hm (fun _ => ?_)
    clear hK K
    refine wpAnyH_ready (rs := [3]) (by kernel_rfl) (by simp) ?_
    refine AllReadyH.cons rfl (fun K hK => ?_) AllReadyH.nil
    refine step_row rfl 36 _ _ rfl (w.heap.size + 1 + 1 + 1 + 1) _ rfl rfl 36 _ G.out.hr (size36 _) rfl (rp_all _) ?_
    intro w1 hs on; replace G := Lib.hid (G.out.setr hs on); clear hs on
    refine hK.out _ _ G.out.hm (fun _ => ?_)
    clear hK K
    refine wpAnyH_done (by kernel_rfl) ?_ _
    go_wp2
    exact out_ret (p := 6) (u := 7) rfl _ _ _ _ _ _ _ _ (by unfold abortM; rw [if_pos (.inl rfl)]; rfl) rfl rfl rfl (Out.mk G.out.ho G.out.hr G.out.hb) G.out.oko
  by_cases hz3 : phase = 3
  · subst hz3
    clear hph hit hic
    go_enter Tryd.func33, Tryd.ntmps33
    go_upto_region 3 with (fail)
    refine wp_region_held_drew (S := fun W => Has W w.heap.size 27 (Mt.cells ⟨act, h0, h1, least, 3, com, gott, trials⟩)) (by kernel_rfl) G.out.drew.hm ?_
    intro _
    replace G := Lib.hid G.out.drew
    refine wpAnyH_take (i := 0) (v := .agg (Mt.cells ⟨act, h0, h1, least, 3, com, gott, trials⟩)) rfl (by kernel_rfl) (by kernel_rfl) (by kernel_rfl) (fun _ _ _ h => h) (yields_ld (by rfl) 27 (.tmp 3) rfl _ _ (fun W hW => ld27 hW HM.out) rfl) G.out.hm ?_
    simp only [List.getElem_toArray, List.getElem_cons_succ, List.getElem_cons_zero, Act.put, List.setIfInBounds_toArray, List.set_cons_zero, List.set_cons_succ]
    refine wpAnyH_ready (rs := [1]) (by kernel_rfl) (by simp) ?_
    refine AllReadyH.cons rfl (fun K hK => ?_) AllReadyH.nil
    go_simp
    refine (err_any 11 _).mono ?_
    rintro e w1 ⟨rfl, b1⟩; replace G := Lib.hid (G.out.kept b1); clear b1
    refine hK.out _ _ G.out.hm (fun _ => ?_)
    clear hK K
    refine wpAnyH_ready (rs := [2]) (by kernel_rfl) (by simp) ?_
    refine AllReadyH.cons rfl (fun K hK => ?_) AllReadyH.nil
    refine step_row rfl 27 _ _ rfl (w.heap.size + 1 + 1 + 1) _ rfl rfl 27 _ G.out.ho (size27 G.out.ok) (old27 G.out.oko G.out.ok) (mt_all _) ?_
    intro w1 hs on; replace G := Lib.hid (G.out.seto G.out.ok hs on); clear hs on
    refine hK.out _ _ G.out.hm (fun _ => ?_)
    clear hK K
    refine wpAnyH_ready (rs := [3]) (by kernel_rfl) (by simp) ?_
    refine AllReadyH.cons rfl (fun K hK => ?_) AllReadyH.nil
    refine step_row rfl 36 _ _ rfl (w.heap.size + 1 + 1 + 1 + 1) _ rfl rfl 36 _ G.out.hr (size36 _) rfl (rp_all _) ?_
    intro w1 hs on; replace G := Lib.hid (G.out.setr hs on); clear hs on
    refine hK.out _ _ G.out.hm (fun _ => ?_)
    clear hK K
    refine wpAnyH_done (by kernel_rfl) ?_ _
    go_wp2
    exact out_ret (p := 6) (u := 7) rfl _ _ _ _ _ _ _ _ (by unfold abortM; rw [if_pos (.inr rfl)]; rfl) rfl rfl rfl (Out.mk G.out.ho G.out.hr G.out.hb) G.out.oko
  have ht : trials = 0 := hic (by omega)
  subst ht
  have HN := Lib.hid (show ¬ (phase = 0 ∨ phase = 3) from fun h => h.elim hz0 hz3)
  have d0 : (phase == 0) = false := by simp [hz0]
  have d3 : (phase == 3) = false := by simp [hz3]
  clear hit hic hph
  cases wn with
  | true =>
    go_enter Tryd.func33, Tryd.ntmps33
    go_upto_region 5 with (fail)
    refine wp_region_held_drew (S := fun W => Has W w.heap.size 27 (Mt.cells ⟨act, h0, h1, least, phase, com, gott, 0⟩)) (by kernel_rfl) G.out.drew.hm ?_
    intro _
    replace G := Lib.hid G.out.drew
    refine wpAnyH_take (i := 0) (v := .agg (Mt.cells ⟨act, h0, h1, least, phase, com, gott, 0⟩)) rfl (by kernel_rfl) (by kernel_rfl) (by kernel_rfl) (fun _ _ _ h => h) (yields_ld (by rfl) 27 (.tmp 3) rfl _ _ (fun W hW => ld27 hW HM.out) rfl) G.out.hm ?_
    simp only [List.getElem_toArray, List.getElem_cons_succ, List.getElem_cons_zero, Act.put, List.setIfInBounds_toArray, List.set_cons_zero, List.set_cons_succ]
    refine wpAnyH_ready (rs := [1]) (by kernel_rfl) (by simp) ?_
    refine AllReadyH.cons rfl (fun K hK => ?_) AllReadyH.nil
    go_simp
    refine (err_any 5 _).mono ?_
    rintro e w1 ⟨rfl, b1⟩; replace G := Lib.hid (G.out.kept b1); clear b1
    refine hK.out _ _ G.out.hm (fun _ => ?_)
    clear hK K
    refine wpAnyH_ready (rs := [2]) (by kernel_rfl) (by simp) ?_
    refine AllReadyH.cons rfl (fun K hK => ?_) AllReadyH.nil
    refine step_row rfl 27 _ _ rfl (w.heap.size + 1 + 1 + 1) _ rfl rfl 27 _ G.out.ho (size27 G.out.ok) (old27 G.out.oko G.out.ok) (mt_all _) ?_
    intro w1 hs on; replace G := Lib.hid (G.out.seto G.out.ok hs on); clear hs on
    refine hK.out _ _ G.out.hm (fun _ => ?_)
    clear hK K
    refine wpAnyH_ready (rs := [3]) (by kernel_rfl) (by simp) ?_
    refine AllReadyH.cons rfl (fun K hK => ?_) AllReadyH.nil
    refine step_row rfl 36 _ _ rfl (w.heap.size + 1 + 1 + 1 + 1) _ rfl rfl 36 _ G.out.hr (size36 _) rfl (rp_all _) ?_
    intro w1 hs on; replace G := Lib.hid (G.out.setr hs on); clear hs on
    refine hK.out _ _ G.out.hm (fun _ => ?_)
    clear hK K
    refine wpAnyH_done (by kernel_rfl) ?_ _
    go_wp2
    exact out_ret (p := 6) (u := 7) rfl _ _ _ _ _ _ _ _ (by unfold abortM; rw [if_neg HN.out, if_pos rfl]; rfl) rfl rfl rfl (Out.mk G.out.ho G.out.hr G.out.hb) G.out.oko
  | false =>
    go_enter Tryd.func33, Tryd.ntmps33
    go_wp2_with (first
      | (refine wpList_ld 27 _ rfl _ _ (ld27 G.out.hm G.out.ok) rfl rfl ?_)
      | (refine wpList_build_to rfl 24 _ rfl _ built24 ?_)
      | (refine wpList_build_to rfl 36 _ rfl _ built36 ?_)
      | (refine wpList_st3 rfl _ _ rfl w.heap.size 70 _ rfl rfl _ _ G.out.hm (by omega) (mt_set70 _ G.out.ok) G.out.ok ?_; intro w1 hs on; replace G := Lib.hid (G.out.set (ok_phase G.out.ok i64_zero) hs on); clear hs on)
      | (refine wpList_st24 rfl _ _ rfl w.heap.size 71 _ rfl rfl _ _ G.out.ok zeroI_ok G.out.hm (mt_put2 _ G.out.ok zeroI_ok) (by omega) ?_; intro w1 hs on; replace G := Lib.hid (G.out.set (ok_com G.out.ok zeroI_ok) hs on); clear hs on)
      | (refine wpList_st3 rfl _ _ rfl w.heap.size 105 _ rfl rfl _ _ G.out.hm (by omega) (mt_set105 _ G.out.ok) G.out.ok ?_; intro w1 hs on; replace G := Lib.hid (G.out.set (ok_gott G.out.ok i64_zero) hs on); clear hs on)
      | (refine wpList_st3 rfl _ _ rfl w.heap.size 106 _ rfl rfl _ _ G.out.hm (by omega) (mt_set106 _ G.out.ok) G.out.ok ?_; intro w1 hs on; replace G := Lib.hid (G.out.set (ok_trials G.out.ok i64_zero) hs on); clear hs on)
      | (refine wpList_row rfl 27 _ _ rfl (w.heap.size + 1 + 1 + 1) _ rfl rfl 27 _ G.out.ho (size27 G.out.ok) (old27 G.out.oko G.out.ok) (mt_all _) ?_; intro w1 hs on; replace G := Lib.hid (G.out.seto G.out.ok hs on); clear hs on)
      | (refine wpList_row rfl 36 _ _ rfl (w.heap.size + 1 + 1 + 1 + 1) _ rfl rfl 36 _ G.out.hr (size36 _) rfl (rp_all _) ?_; intro w1 hs on; replace G := Lib.hid (G.out.setr hs on); clear hs on))
    exact out_ret (p := 6) (u := 7) rfl _ _ _ _ _ _ _ _ (by unfold abortM; rw [if_neg HN.out, if_neg Bool.false_ne_true]; rfl) rfl rfl rfl (Out.mk G.out.ho G.out.hr G.out.hb) G.out.oko
end Go.Proofs.YtcokpdhhpaahgaaDoor
