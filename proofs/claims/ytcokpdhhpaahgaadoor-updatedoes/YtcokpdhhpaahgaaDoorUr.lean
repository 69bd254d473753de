/-
  A request to boot, as the document does it; conditions: what is kept is of 64 bits, of two slots, its trials are not below 0; the digest is of 32 bytes.
-/
import Derived.Test.YtcokpdhhpaahgaaDoorMUp
import Derived.Deep.RegionHeld3
import Derived.Deep.Cut
namespace Go.Proofs.YtcokpdhhpaahgaaDoor
open Go.RowKit
set_option linter.unusedVariables false
set_option linter.unusedSimpArgs false

set_option maxRecDepth 100000 in
set_option maxHeartbeats 4000000 in
theorem rboot_any (m : Mt) (f : Fc) (w : World) (hm : m.Ok) (hf : f.Ok) (ha : m.act = 0 ∨ m.act = 1) (ht0 : 0 ≤ m.trials) : Calls Tryd.prog 32 #[.agg m.cells, .agg f.cells] w (Does (bootM m f) w) := by
  have hz27 := zero27_run
  have hz36 := zero36_run
  obtain ⟨act, h0, h1, least, phase, com, gott, trials⟩ := m
  obtain ⟨nm, tg, dg, wn⟩ := f
  simp only at ha ht0
  have G := Lib.hid (fq_new w hm hf)
  have HM := Lib.hid hm
  have hit := hm.trials
  unfold I64 at hit
  simp only at hit
  clear hf
  by_cases hp : phase = 3
  rotate_left
  · have d3 : (phase != 3) = true := by simp [hp]
    have HP := Lib.hid (show ¬ phase = 3 ∨ wn = true from .inl hp)
    clear hm ha ht0 hit
    go_enter Tryd.func32, Tryd.ntmps32
    go_upto_region 2 with (first
      | (refine wpList_ld 27 _ rfl _ _ (ld27 G.out.hm G.out.ok) rfl rfl ?_)
      | (refine wpList_ld 3 _ rfl _ _ (ld3 (seen_of G.out.hm G.out.ok).phase) rfl rfl ?_)
      | (refine wpList_ld 3 _ rfl _ _ (ld3 (seen_of G.out.hm G.out.ok).trials) rfl rfl ?_)
      | (refine wpList_ld 3 _ rfl _ _ (ld3 (seen_of G.out.hm G.out.ok).act) rfl rfl ?_)
      | (refine wpList_ld 4 _ rfl _ _ (ld4 (seen_f G.out.hf G.out.okf).worn) rfl rfl ?_))
    refine wp_region_held_drew (S := fun W => Has W w.heap.size 27 (Mt.cells ⟨act, h0, h1, least, phase, com, gott, trials⟩)) (by kernel_rfl) G.out.drew.hm ?_
    intro _
    replace G := Lib.hid G.out.drew
    refine wpAnyH_take (i := 0) (v := .agg (Mt.cells ⟨act, h0, h1, least, phase, com, gott, trials⟩)) rfl (by kernel_rfl) (by kernel_rfl) (by kernel_rfl) (fun _ _ _ h => h) (yields_ld (by rfl) 27 (.tmp 2) rfl _ _ (fun W hW => ld27 hW HM.out) rfl) G.out.hm ?_
    simp only [List.getElem_toArray, List.getElem_cons_succ, List.getElem_cons_zero, Act.put, List.setIfInBounds_toArray, List.set_cons_zero, List.set_cons_succ]
    refine wpAnyH_take (i := 1) (v := .pointer (some ⟨w.heap.size, 0, none⟩)) rfl (by kernel_rfl) (by kernel_rfl) (by kernel_rfl) (fun _ _ _ h => h) (Or.inl ⟨by rfl, (fun W _ => by go_simp)⟩) G.out.hm ?_
    simp only [List.getElem_toArray, List.getElem_cons_succ, List.getElem_cons_zero, Act.put, List.setIfInBounds_toArray, List.set_cons_zero, List.set_cons_succ]
    refine wpAnyH_take (i := 2) (v := .int .i64 (act)) rfl (by kernel_rfl) (by kernel_rfl) (by kernel_rfl) (fun _ _ _ h => h) (yields_ld (by rfl) 3 (.tmp 15) rfl _ _ (fun W hW => ld3 (seen_of hW HM.out).act) rfl) G.out.hm ?_
    simp only [List.getElem_toArray, List.getElem_cons_succ, List.getElem_cons_zero, Act.put, List.setIfInBounds_toArray, List.set_cons_zero, List.set_cons_succ]
    refine wpAnyH_take (i := 3) (v := .agg (Rp.cells ⟨0, act, 0⟩)) rfl (by kernel_rfl) (by kernel_rfl) (by kernel_rfl) (fun _ _ _ h => h) (yields_build (by rfl) 36 #[(1, .tmp 16)] rfl _ (by kernel_rfl)) G.out.hm ?_
    simp only [List.getElem_toArray, List.getElem_cons_succ, List.getElem_cons_zero, Act.put, List.setIfInBounds_toArray, List.set_cons_zero, List.set_cons_succ]
    refine wpAnyH_ready (rs := [4]) (by kernel_rfl) (by simp) ?_
    refine AllReadyH.cons rfl (fun K hK => ?_) AllReadyH.nil
    refine step_row rfl 27 _ _ rfl (w.heap.size + 1 + 1) _ rfl rfl 27 _ G.out.ho (size27 G.out.ok) (old27 G.out.oko G.out.ok) (mt_all _) ?_
    intro w1 hs on; replace G := Lib.hid (G.out.seto G.out.ok hs on); clear hs on
    refine hK.out _ _ G.out.hm (fun _ => ?_)
    clear hK K
    refine wpAnyH_ready (rs := [5]) (by kernel_rfl) (by simp) ?_
    refine AllReadyH.cons rfl (fun K hK => ?_) AllReadyH.nil
    refine step_row rfl 36 _ _ rfl (w.heap.size + 1 + 1 + 1) _ rfl rfl 36 _ G.out.hr (size36 _) rfl (rp_all _) ?_
    intro w1 hs on; replace G := Lib.hid (G.out.setr hs on); clear hs on
    refine hK.out _ _ G.out.hm (fun _ => ?_)
    clear hK K
    refine wpAnyH_done (by kernel_rfl) ?_ _
    go_wp2
    exact out_ret (p := 4) (u := 5) rfl _ _ _ _ _ _ _ _ (by unfold bootM; rw [if_pos HP.out]) rfl rfl rfl (Out.mk G.out.ho G.out.hr G.out.hb) G.out.oko
  subst hp
  cases wn with
  | true =>
    clear hm ha ht0 hit
    go_enter Tryd.func32, Tryd.ntmps32
    go_upto_region 2 with (first
      | (refine wpList_ld 27 _ rfl _ _ (ld27 G.out.hm G.out.ok) rfl rfl ?_)
      | (refine wpList_ld 3 _ rfl _ _ (ld3 (seen_of G.out.hm G.out.ok).phase) rfl rfl ?_)
      | (refine wpList_ld 3 _ rfl _ _ (ld3 (seen_of G.out.hm G.out.ok).trials) rfl rfl ?_)
      | (refine wpList_ld 3 _ rfl _ _ (ld3 (seen_of G.out.hm G.out.ok).act) rfl rfl ?_)
      | (refine wpList_ld 4 _ rfl _ _ (ld4 (seen_f G.out.hf G.out.okf).worn) rfl rfl ?_))
    refine wp_region_held_drew (S := fun W => Has W w.heap.size 27 (Mt.cells ⟨act, h0, h1, least, 3, com, gott, trials⟩)) (by kernel_rfl) G.out.drew.hm ?_
    intro _
    replace G := Lib.hid G.out.drew
    refine wpAnyH_take (i := 0) (v := .agg (Mt.cells ⟨act, h0, h1, least, 3, com, gott, trials⟩)) rfl (by kernel_rfl) (by kernel_rfl) (by kernel_rfl) (fun _ _ _ h => h) (yields_ld (by rfl) 27 (.tmp 2) rfl _ _ (fun W hW => ld27 hW HM.out) rfl) G.out.hm ?_
    simp only [List.getElem_toArray, List.getElem_cons_succ, List.getElem_cons_zero, Act.put, List.setIfInBounds_toArray, List.set_cons_zero, List.set_cons_succ]
    refine wpAnyH_take (i := 1) (v := .pointer (some ⟨w.heap.size, 0, none⟩)) rfl (by kernel_rfl) (by kernel_rfl) (by kernel_rfl) (fun _ _ _ h => h) (Or.inl ⟨by rfl, (fun W _ => by go_simp)⟩) G.out.hm ?_
    simp only [List.getElem_toArray, List.getElem_cons_succ, List.getElem_cons_zero, Act.put, List.setIfInBounds_toArray, List.set_cons_zero, List.set_cons_succ]
    refine wpAnyH_take (i := 2) (v := .int .i64 (act)) rfl (by kernel_rfl) (by kernel_rfl) (by kernel_rfl) (fun _ _ _ h => h) (yields_ld (by rfl) 3 (.tmp 15) rfl _ _ (fun W hW => ld3 (seen_of hW HM.out).act) rfl) G.out.hm ?_
    simp only [List.getElem_toArray, List.getElem_cons_succ, List.getElem_cons_zero, Act.put, List.setIfInBounds_toArray, List.set_cons_zero, List.set_cons_succ]
    refine wpAnyH_take (i := 3) (v := .agg (Rp.cells ⟨0, act, 0⟩)) rfl (by kernel_rfl) (by kernel_rfl) (by kernel_rfl) (fun _ _ _ h => h) (yields_build (by rfl) 36 #[(1, .tmp 16)] rfl _ (by kernel_rfl)) G.out.hm ?_
    simp only [List.getElem_toArray, List.getElem_cons_succ, List.getElem_cons_zero, Act.put, List.setIfInBounds_toArray, List.set_cons_zero, List.set_cons_succ]
    refine wpAnyH_ready (rs := [4]) (by kernel_rfl) (by simp) ?_
    refine AllReadyH.cons rfl (fun K hK => ?_) AllReadyH.nil
    refine step_row rfl 27 _ _ rfl (w.heap.size + 1 + 1) _ rfl rfl 27 _ G.out.ho (size27 G.out.ok) (old27 G.out.oko G.out.ok) (mt_all _) ?_
    intro w1 hs on; replace G := Lib.hid (G.out.seto G.out.ok hs on); clear hs on
    refine hK.out _ _ G.out.hm (fun _ => ?_)
    clear hK K
    refine wpAnyH_ready (rs := [5]) (by kernel_rfl) (by simp) ?_
    refine AllReadyH.cons rfl (fun K hK => ?_) AllReadyH.nil
    refine step_row rfl 36 _ _ rfl (w.heap.size + 1 + 1 + 1) _ rfl rfl 36 _ G.out.hr (size36 _) rfl (rp_all _) ?_
    intro w1 hs on; replace G := Lib.hid (G.out.setr hs on); clear hs on
    refine hK.out _ _ G.out.hm (fun _ => ?_)
    clear hK K
    refine wpAnyH_done (by kernel_rfl) ?_ _
    go_wp2
    exact out_ret (p := 4) (u := 5) rfl _ _ _ _ _ _ _ _ (by unfold bootM; rw [if_pos (.inr rfl)]) rfl rfl rfl (Out.mk G.out.ho G.out.hr G.out.hb) G.out.oko
  | false =>
  by_cases ht : 0 < trials
  · have d0 : decide (0 < trials) = true := decide_eq_true ht
    have HTT := Lib.hid ht
    have HJ := Lib.hid (show I64 (trials - 1) by unfold I64; omega)
    rcases ha with rfl | rfl
    · replace HM := Lib.hid (ok_trials (z := trials - 1) hm HJ.out)
      clear hm
      go_enter Tryd.func32, Tryd.ntmps32
      go_upto_region 5 with (first
        | (refine wpList_ld 27 _ rfl _ _ (ld27 G.out.hm G.out.ok) rfl rfl ?_)
        | (refine wpList_ld 3 _ rfl _ _ (ld3 (seen_of G.out.hm G.out.ok).phase) rfl rfl ?_)
        | (refine wpList_ld 3 _ rfl _ _ (ld3 (seen_of G.out.hm G.out.ok).trials) rfl rfl ?_)
        | (refine wpList_ld 3 _ rfl _ _ (ld3 (seen_of G.out.hm G.out.ok).act) rfl rfl ?_)
        | (refine wpList_ld 4 _ rfl _ _ (ld4 (seen_f G.out.hf G.out.okf).worn) rfl rfl ?_)
        | (refine wpList_st3 rfl _ _ rfl w.heap.size 106 (trials - 1) rfl rfl _ _ G.out.hm (by omega) (mt_set106 _ G.out.ok) G.out.ok ?_; intro w1 hs on; replace G := Lib.hid (G.out.set (ok_trials G.out.ok HJ.out) hs on); clear hs on))
      refine wp_region_held_drew (S := fun W => Has W w.heap.size 27 (Mt.cells ⟨0, h0, h1, least, 3, com, gott, trials - 1⟩)) (by kernel_rfl) G.out.drew.hm ?_
      intro _
      replace G := Lib.hid G.out.drew
      refine wpAnyH_take (i := 0) (v := .agg (Mt.cells ⟨0, h0, h1, least, 3, com, gott, trials - 1⟩)) rfl (by kernel_rfl) (by kernel_rfl) (by kernel_rfl) (fun _ _ _ h => h) (yields_ld (by rfl) 27 (.tmp 2) rfl _ _ (fun W hW => ld27 hW HM.out) rfl) G.out.hm ?_
      simp only [List.getElem_toArray, List.getElem_cons_succ, List.getElem_cons_zero, Act.put, List.setIfInBounds_toArray, List.set_cons_zero, List.set_cons_succ]
      refine wpAnyH_take (i := 1) (v := .pointer (some ⟨w.heap.size, 0, none⟩)) rfl (by kernel_rfl) (by kernel_rfl) (by kernel_rfl) (fun _ _ _ h => h) (Or.inl ⟨by rfl, (fun W _ => by go_simp)⟩) G.out.hm ?_
      simp only [List.getElem_toArray, List.getElem_cons_succ, List.getElem_cons_zero, Act.put, List.setIfInBounds_toArray, List.set_cons_zero, List.set_cons_succ]
      refine wpAnyH_take (i := 2) (v := .int .i64 (0)) rfl (by kernel_rfl) (by kernel_rfl) (by kernel_rfl) (fun _ _ _ h => h) (yields_ld (by rfl) 3 (.tmp 27) rfl _ _ (fun W hW => ld3 (seen_of hW HM.out).act) rfl) G.out.hm ?_
      simp only [List.getElem_toArray, List.getElem_cons_succ, List.getElem_cons_zero, Act.put, List.setIfInBounds_toArray, List.set_cons_zero, List.set_cons_succ]
      refine wpAnyH_take (i := 3) (v := .int .i64 (1)) rfl (by kernel_rfl) (by kernel_rfl) (by kernel_rfl) (fun _ _ _ h => h) (Or.inl ⟨by rfl, (fun W _ => by go_simp; rfl)⟩) G.out.hm ?_
      simp only [List.getElem_toArray, List.getElem_cons_succ, List.getElem_cons_zero, Act.put, List.setIfInBounds_toArray, List.set_cons_zero, List.set_cons_succ]
      refine wpAnyH_take (i := 4) (v := .agg (Rp.cells ⟨0, 1, 0⟩)) rfl (by kernel_rfl) (by kernel_rfl) (by kernel_rfl) (fun _ _ _ h => h) (yields_build (by rfl) 36 #[(1, .tmp 29)] rfl _ (by kernel_rfl)) G.out.hm ?_
      simp only [List.getElem_toArray, List.getElem_cons_succ, List.getElem_cons_zero, Act.put, List.setIfInBounds_toArray, List.set_cons_zero, List.set_cons_succ]
      refine wpAnyH_ready (rs := [5]) (by kernel_rfl) (by simp) ?_
      refine AllReadyH.cons rfl (fun K hK => ?_) AllReadyH.nil
      refine step_row rfl 27 _ _ rfl (w.heap.size + 1 + 1) _ rfl rfl 27 _ G.out.ho (size27 G.out.ok) (old27 G.out.oko G.out.ok) (mt_all _) ?_
      intro w1 hs on; replace G := Lib.hid (G.out.seto G.out.ok hs on); clear hs on
      refine hK.out _ _ G.out.hm (fun _ => ?_)
      clear hK K
      refine wpAnyH_ready (rs := [6]) (by kernel_rfl) (by simp) ?_
      refine AllReadyH.cons rfl (fun K hK => ?_) AllReadyH.nil
      refine step_row rfl 36 _ _ rfl (w.heap.size + 1 + 1 + 1) _ rfl rfl 36 _ G.out.hr (size36 _) rfl (rp_all _) ?_
      intro w1 hs on; replace G := Lib.hid (G.out.setr hs on); clear hs on
      refine hK.out _ _ G.out.hm (fun _ => ?_)
      clear hK K
      refine wpAnyH_done (by kernel_rfl) ?_ _
      go_wp2
      exact out_ret (p := 4) (u := 5) rfl _ _ _ _ _ _ _ _ (by unfold bootM; rw [if_neg (fun h => h.elim (fun h => h rfl) Bool.false_ne_true), if_pos HTT.out]; rfl) rfl rfl rfl (Out.mk G.out.ho G.out.hr G.out.hb) G.out.oko
    · replace HM := Lib.hid (ok_trials (z := trials - 1) hm HJ.out)
      clear hm
      go_enter Tryd.func32, Tryd.ntmps32
      go_upto_region 5 with (first
        | (refine wpList_ld 27 _ rfl _ _ (ld27 G.out.hm G.out.ok) rfl rfl ?_)
        | (refine wpList_ld 3 _ rfl _ _ (ld3 (seen_of G.out.hm G.out.ok).phase) rfl rfl ?_)
        | (refine wpList_ld 3 _ rfl _ _ (ld3 (seen_of G.out.hm G.out.ok).trials) rfl rfl ?_)
        | (refine wpList_ld 3 _ rfl _ _ (ld3 (seen_of G.out.hm G.out.ok).act) rfl rfl ?_)
        | (refine wpList_ld 4 _ rfl _ _ (ld4 (seen_f G.out.hf G.out.okf).worn) rfl rfl ?_)
        | (refine wpList_st3 rfl _ _ rfl w.heap.size 106 (trials - 1) rfl rfl _ _ G.out.hm (by omega) (mt_set106 _ G.out.ok) G.out.ok ?_; intro w1 hs on; replace G := Lib.hid (G.out.set (ok_trials G.out.ok HJ.out) hs on); clear hs on))
      refine wp_region_held_drew (S := fun W => Has W w.heap.size 27 (Mt.cells ⟨1, h0, h1, least, 3, com, gott, trials - 1⟩)) (by kernel_rfl) G.out.drew.hm ?_
      intro _
      replace G := Lib.hid G.out.drew
      refine wpAnyH_take (i := 0) (v := .agg (Mt.cells ⟨1, h0, h1, least, 3, com, gott, trials - 1⟩)) rfl (by kernel_rfl) (by kernel_rfl) (by kernel_rfl) (fun _ _ _ h => h) (yields_ld (by rfl) 27 (.tmp 2) rfl _ _ (fun W hW => ld27 hW HM.out) rfl) G.out.hm ?_
      simp only [List.getElem_toArray, List.getElem_cons_succ, List.getElem_cons_zero, Act.put, List.setIfInBounds_toArray, List.set_cons_zero, List.set_cons_succ]
      refine wpAnyH_take (i := 1) (v := .pointer (some ⟨w.heap.size, 0, none⟩)) rfl (by kernel_rfl) (by kernel_rfl) (by kernel_rfl) (fun _ _ _ h => h) (Or.inl ⟨by rfl, (fun W _ => by go_simp)⟩) G.out.hm ?_
      simp only [List.getElem_toArray, List.getElem_cons_succ, List.getElem_cons_zero, Act.put, List.setIfInBounds_toArray, List.set_cons_zero, List.set_cons_succ]
      refine wpAnyH_take (i := 2) (v := .int .i64 (1)) rfl (by kernel_rfl) (by kernel_rfl) (by kernel_rfl) (fun _ _ _ h => h) (yields_ld (by rfl) 3 (.tmp 27) rfl _ _ (fun W hW => ld3 (seen_of hW HM.out).act) rfl) G.out.hm ?_
      simp only [List.getElem_toArray, List.getElem_cons_succ, List.getElem_cons_zero, Act.put, List.setIfInBounds_toArray, List.set_cons_zero, List.set_cons_succ]
      refine wpAnyH_take (i := 3) (v := .int .i64 (0)) rfl (by kernel_rfl) (by kernel_rfl) (by kernel_rfl) (fun _ _ _ h => h) (Or.inl ⟨by rfl, (fun W _ => by go_simp; rfl)⟩) G.out.hm ?_
      simp only [List.getElem_toArray, List.getElem_cons_succ, List.getElem_cons_zero, Act.put, List.setIfInBounds_toArray, List.set_cons_zero, List.set_cons_succ]
      refine wpAnyH_take (i := 4) (v := .agg (Rp.cells ⟨0, 0, 0⟩)) rfl (by kernel_rfl) (by kernel_rfl) (by kernel_rfl) (fun _ _ _ h => h) (yields_build (by rfl) 36 #[(1, .tmp 29)] rfl _ (by kernel_rfl)) G.out.hm ?_
      simp only [List.getElem_toArray, List.getElem_cons_succ, List.getElem_cons_zero, Act.put, List.setIfInBounds_toArray, List.set_cons_zero, List.set_cons_succ]
      refine wpAnyH_ready (rs := [5]) (by kernel_rfl) (by simp) ?_
      refine AllReadyH.cons rfl (fun K hK => ?_) AllReadyH.nil
      refine step_row rfl 27 _ _ rfl (w.heap.size + 1 + 1) _ rfl rfl 27 _ G.out.ho (size27 G.out.ok) (old27 G.out.oko G.out.ok) (mt_all _) ?_
      intro w1 hs on; replace G := Lib.hid (G.out.seto G.out.ok hs on); clear hs on
      refine hK.out _ _ G.out.hm (fun _ => ?_)
      clear hK K
      refine wpAnyH_ready (rs := [6]) (by kernel_rfl) (by simp) ?_
      refine AllReadyH.cons rfl (fun K hK => ?_) AllReadyH.nil
      refine step_row rfl 36 _ _ rfl (w.heap.size + 1 + 1 + 1) _ rfl rfl 36 _ G.out.hr (size36 _) rfl (rp_all _) ?_
      intro w1 hs on; replace G := Lib.hid (G.out.setr hs on); clear hs on
      refine hK.out _ _ G.out.hm (fun _ => ?_)
      clear hK K
      refine wpAnyH_done (by kernel_rfl) ?_ _
      go_wp2
      exact out_ret (p := 4) (u := 5) rfl _ _ _ _ _ _ _ _ (by unfold bootM; rw [if_neg (fun h => h.elim (fun h => h rfl) Bool.false_ne_true), if_pos HTT.out]; rfl) rfl rfl rfl (Out.mk G.out.ho G.out.hr G.out.hb) G.out.oko
  have e0 : trials = 0 := by omega
  subst e0
  clear ht ht0 hit
  rcases ha with rfl | rfl
  · replace HM := Lib.hid (show Mt.Ok ⟨0, h0, zeroI, least, 0, com, gott, 0⟩ from ok_h1 (ok_phase hm i64_zero) zeroI_ok)
    clear hm
    go_enter Tryd.func32, Tryd.ntmps32
    go_upto_region 8 with (first
      | (refine wpList_ld 27 _ rfl _ _ (ld27 G.out.hm G.out.ok) rfl rfl ?_)
      | (refine wpList_ld 3 _ rfl _ _ (ld3 (seen_of G.out.hm G.out.ok).phase) rfl rfl ?_)
      | (refine wpList_ld 3 _ rfl _ _ (ld3 (seen_of G.out.hm G.out.ok).trials) rfl rfl ?_)
      | (refine wpList_ld 3 _ rfl _ _ (ld3 (seen_of G.out.hm G.out.ok).act) rfl rfl ?_)
      | (refine wpList_ld 4 _ rfl _ _ (ld4 (seen_f G.out.hf G.out.okf).worn) rfl rfl ?_)
      | (refine wpList_build_to rfl 24 _ rfl _ built24 ?_)
      | (refine wpList_st3 rfl _ _ rfl w.heap.size 70 _ rfl rfl _ _ G.out.hm (by omega) (mt_set70 _ G.out.ok) G.out.ok ?_; intro w1 hs on; replace G := Lib.hid (G.out.set (ok_phase G.out.ok i64_zero) hs on); clear hs on)
      | (refine wpList_st24 rfl _ _ rfl w.heap.size 35 _ rfl rfl _ _ G.out.ok zeroI_ok G.out.hm (mt_put1 _ G.out.ok zeroI_ok) (by omega) ?_; intro w1 hs on; replace G := Lib.hid (G.out.set (ok_h1 G.out.ok zeroI_ok) hs on); clear hs on))
    refine wp_region_held_drew (S := fun W => Has W w.heap.size 27 (Mt.cells ⟨0, h0, zeroI, least, 0, com, gott, 0⟩)) (by kernel_rfl) G.out.drew.hm ?_
    intro _
    replace G := Lib.hid G.out.drew
    refine wpAnyH_take (i := 0) (v := .agg (Mt.cells ⟨0, h0, zeroI, least, 0, com, gott, 0⟩)) rfl (by kernel_rfl) (by kernel_rfl) (by kernel_rfl) (fun _ _ _ h => h) (yields_ld (by rfl) 27 (.tmp 2) rfl _ _ (fun W hW => ld27 hW HM.out) rfl) G.out.hm ?_
    simp only [List.getElem_toArray, List.getElem_cons_succ, List.getElem_cons_zero, Act.put, List.setIfInBounds_toArray, List.set_cons_zero, List.set_cons_succ]
    refine wpAnyH_take (i := 1) (v := .pointer (some ⟨w.heap.size, 0, none⟩)) rfl (by kernel_rfl) (by kernel_rfl) (by kernel_rfl) (fun _ _ _ h => h) (Or.inl ⟨by rfl, (fun W _ => by go_simp)⟩) G.out.hm ?_
    simp only [List.getElem_toArray, List.getElem_cons_succ, List.getElem_cons_zero, Act.put, List.setIfInBounds_toArray, List.set_cons_zero, List.set_cons_succ]
    refine wpAnyH_take (i := 2) (v := .int .i64 (0)) rfl (by kernel_rfl) (by kernel_rfl) (by kernel_rfl) (fun _ _ _ h => h) (yields_ld (by rfl) 3 (.tmp 39) rfl _ _ (fun W hW => ld3 (seen_of hW HM.out).act) rfl) G.out.hm ?_
    simp only [List.getElem_toArray, List.getElem_cons_succ, List.getElem_cons_zero, Act.put, List.setIfInBounds_toArray, List.set_cons_zero, List.set_cons_succ]
    refine wpAnyH_take (i := 3) (v := .agg (Rp.cells ⟨0, 0, 0⟩)) rfl (by kernel_rfl) (by kernel_rfl) (by kernel_rfl) (fun _ _ _ h => h) (yields_build (by rfl) 36 #[(1, .tmp 40)] rfl _ (by kernel_rfl)) G.out.hm ?_
    simp only [List.getElem_toArray, List.getElem_cons_succ, List.getElem_cons_zero, Act.put, List.setIfInBounds_toArray, List.set_cons_zero, List.set_cons_succ]
    refine wpAnyH_ready (rs := [4]) (by kernel_rfl) (by simp) ?_
    refine AllReadyH.cons rfl (fun K hK => ?_) AllReadyH.nil
    refine step_row rfl 27 _ _ rfl (w.heap.size + 1 + 1) _ rfl rfl 27 _ G.out.ho (size27 G.out.ok) (old27 G.out.oko G.out.ok) (mt_all _) ?_
    intro w1 hs on; replace G := Lib.hid (G.out.seto G.out.ok hs on); clear hs on
    refine hK.out _ _ G.out.hm (fun _ => ?_)
    clear hK K
    refine wpAnyH_ready (rs := [5]) (by kernel_rfl) (by simp) ?_
    refine AllReadyH.cons rfl (fun K hK => ?_) AllReadyH.nil
    refine step_row rfl 36 _ _ rfl (w.heap.size + 1 + 1 + 1) _ rfl rfl 36 _ G.out.hr (size36 _) rfl (rp_all _) ?_
    intro w1 hs on; replace G := Lib.hid (G.out.setr hs on); clear hs on
    refine hK.out _ _ G.out.hm (fun _ => ?_)
    clear hK K
    refine wpAnyH_done (by kernel_rfl) ?_ _
    go_wp2
    exact out_ret (p := 4) (u := 5) rfl _ _ _ _ _ _ _ _ (by unfold bootM; rw [if_neg (fun h => h.elim (fun h => h rfl) Bool.false_ne_true), if_neg (Int.lt_irrefl 0)]; rfl) rfl rfl rfl (Out.mk G.out.ho G.out.hr G.out.hb) G.out.oko
  · replace HM := Lib.hid (show Mt.Ok ⟨1, zeroI, h1, least, 0, com, gott, 0⟩ from ok_h0 (ok_phase hm i64_zero) zeroI_ok)
    clear hm
    go_enter Tryd.func32, Tryd.ntmps32
    go_upto_region 8 with (first
      | (refine wpList_ld 27 _ rfl _ _ (ld27 G.out.hm G.out.ok) rfl rfl ?_)
      | (refine wpList_ld 3 _ rfl _ _ (ld3 (seen_of G.out.hm G.out.ok).phase) rfl rfl ?_)
      | (refine wpList_ld 3 _ rfl _ _ (ld3 (seen_of G.out.hm G.out.ok).trials) rfl rfl ?_)
      | (refine wpList_ld 3 _ rfl _ _ (ld3 (seen_of G.out.hm G.out.ok).act) rfl rfl ?_)
      | (refine wpList_ld 4 _ rfl _ _ (ld4 (seen_f G.out.hf G.out.okf).worn) rfl rfl ?_)
      | (refine wpList_build_to rfl 24 _ rfl _ built24 ?_)
      | (refine wpList_st3 rfl _ _ rfl w.heap.size 70 _ rfl rfl _ _ G.out.hm (by omega) (mt_set70 _ G.out.ok) G.out.ok ?_; intro w1 hs on; replace G := Lib.hid (G.out.set (ok_phase G.out.ok i64_zero) hs on); clear hs on)
      | (refine wpList_st24 rfl _ _ rfl w.heap.size 1 _ rfl rfl _ _ G.out.ok zeroI_ok G.out.hm (mt_put0 _ G.out.ok zeroI_ok) (by omega) ?_; intro w1 hs on; replace G := Lib.hid (G.out.set (ok_h0 G.out.ok zeroI_ok) hs on); clear hs on))
    refine wp_region_held_drew (S := fun W => Has W w.heap.size 27 (Mt.cells ⟨1, zeroI, h1, least, 0, com, gott, 0⟩)) (by kernel_rfl) G.out.drew.hm ?_
    intro _
    replace G := Lib.hid G.out.drew
    refine wpAnyH_take (i := 0) (v := .agg (Mt.cells ⟨1, zeroI, h1, least, 0, com, gott, 0⟩)) rfl (by kernel_rfl) (by kernel_rfl) (by kernel_rfl) (fun _ _ _ h => h) (yields_ld (by rfl) 27 (.tmp 2) rfl _ _ (fun W hW => ld27 hW HM.out) rfl) G.out.hm ?_
    simp only [List.getElem_toArray, List.getElem_cons_succ, List.getElem_cons_zero, Act.put, List.setIfInBounds_toArray, List.set_cons_zero, List.set_cons_succ]
    refine wpAnyH_take (i := 1) (v := .pointer (some ⟨w.heap.size, 0, none⟩)) rfl (by kernel_rfl) (by kernel_rfl) (by kernel_rfl) (fun _ _ _ h => h) (Or.inl ⟨by rfl, (fun W _ => by go_simp)⟩) G.out.hm ?_
    simp only [List.getElem_toArray, List.getElem_cons_succ, List.getElem_cons_zero, Act.put, List.setIfInBounds_toArray, List.set_cons_zero, List.set_cons_succ]
    refine wpAnyH_take (i := 2) (v := .int .i64 (1)) rfl (by kernel_rfl) (by kernel_rfl) (by kernel_rfl) (fun _ _ _ h => h) (yields_ld (by rfl) 3 (.tmp 39) rfl _ _ (fun W hW => ld3 (seen_of hW HM.out).act) rfl) G.out.hm ?_
    simp only [List.getElem_toArray, List.getElem_cons_succ, List.getElem_cons_zero, Act.put, List.setIfInBounds_toArray, List.set_cons_zero, List.set_cons_succ]
    refine wpAnyH_take (i := 3) (v := .agg (Rp.cells ⟨0, 1, 0⟩)) rfl (by kernel_rfl) (by kernel_rfl) (by kernel_rfl) (fun _ _ _ h => h) (yields_build (by rfl) 36 #[(1, .tmp 40)] rfl _ (by kernel_rfl)) G.out.hm ?_
    simp only [List.getElem_toArray, List.getElem_cons_succ, List.getElem_cons_zero, Act.put, List.setIfInBounds_toArray, List.set_cons_zero, List.set_cons_succ]
    refine wpAnyH_ready (rs := [4]) (by kernel_rfl) (by simp) ?_
    refine AllReadyH.cons rfl (fun K hK => ?_) AllReadyH.nil
    refine step_row rfl 27 _ _ rfl (w.heap.size + 1 + 1) _ rfl rfl 27 _ G.out.ho (size27 G.out.ok) (old27 G.out.oko G.out.ok) (mt_all _) ?_
    intro w1 hs on; replace G := Lib.hid (G.out.seto G.out.ok hs on); clear hs on
    refine hK.out _ _ G.out.hm (fun _ => ?_)
    clear hK K
    refine wpAnyH_ready (rs := [5]) (by kernel_rfl) (by simp) ?_
    refine AllReadyH.cons rfl (fun K hK => ?_) AllReadyH.nil
    refine step_row rfl 36 _ _ rfl (w.heap.size + 1 + 1 + 1) _ rfl rfl 36 _ G.out.hr (size36 _) rfl (rp_all _) ?_
    intro w1 hs on; replace G := Lib.hid (G.out.setr hs on); clear hs on
    refine hK.out _ _ G.out.hm (fun _ => ?_)
    clear hK K
    refine wpAnyH_done (by kernel_rfl) ?_ _
    go_wp2
    exact out_ret (p := 4) (u := 5) rfl _ _ _ _ _ _ _ _ (by unfold bootM; rw [if_neg (fun h => h.elim (fun h => h rfl) Bool.false_ne_true), if_neg (Int.lt_irrefl 0)]; rfl) rfl rfl rfl (Out.mk G.out.ho G.out.hr G.out.hb) G.out.oko
end Go.Proofs.YtcokpdhhpaahgaaDoor
