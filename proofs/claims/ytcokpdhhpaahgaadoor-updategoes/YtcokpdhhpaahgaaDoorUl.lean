/-
  A request to boot, as the program does it; conditions: what is kept is of 64 bits, of two slots; the digest is of 32 bytes.
-/
import Derived.Test.YtcokpdhhpaahgaaDoorMUp
import Derived.Deep.RegionHeld3
import Derived.Deep.Cut
namespace Go.Proofs.YtcokpdhhpaahgaaDoor
open Go.RowKit
set_option linter.unusedVariables false
set_option linter.unusedSimpArgs false

set_option maxRecDepth 100000 in
set_option maxHeartbeats 4000000 in
theorem boot_any (m : Mt) (f : Fc) (w : World) (hm : m.Ok) (hf : f.Ok) (ha : m.act = 0 ∨ m.act = 1) : Calls Tryd.prog 25 #[.agg m.cells, .agg f.cells] w (Does (bootM m f) w) := by
  have hz27 := zero27_run
  have hz36 := zero36_run
  have HO := Lib.hid (fun W => over_any m W hm ha)
  have HV := Lib.hid (over_ok hm)
  obtain ⟨act, h0, h1, least, phase, com, gott, trials⟩ := m
  obtain ⟨nm, tg, dg, wn⟩ := f
  simp only at ha
  have G := Lib.hid (fq_new w hm hf)
  by_cases hp : phase = 3
  · subst hp
    cases wn with
    | true =>
      have HM := Lib.hid hm
      clear hm hf ha
      go_enter Tryd.func25, Tryd.ntmps25
      go_upto_region 2 with (first
        | (refine wpList_ld 27 _ rfl _ _ (ld27 G.out.hm G.out.ok) rfl rfl ?_)
        | (refine wpList_ld 3 _ rfl _ _ (ld3 (seen_of G.out.hm G.out.ok).phase) rfl rfl ?_)
        | (refine wpList_ld 3 _ rfl _ _ (ld3 (seen_of G.out.hm G.out.ok).trials) rfl rfl ?_)
        | (refine wpList_ld 4 _ rfl _ _ (ld4 (seen_f G.out.hf G.out.okf).worn) rfl rfl ?_))
      refine wp_region_held_drew (S := fun W => Has W w.heap.size 27 (Mt.cells ⟨act, h0, h1, least, 3, com, gott, trials⟩)) (by kernel_rfl) G.out.drew.hm ?_
      intro _
      replace G := Lib.hid G.out.drew
      refine wpAnyH_take (i := 0) (v := .agg (Mt.cells ⟨act, h0, h1, least, 3, com, gott, trials⟩)) rfl (by kernel_rfl) (by kernel_rfl) (by kernel_rfl) (fun _ _ _ h => h) (yields_ld (by rfl) 27 (.tmp 2) rfl _ _ (fun W hW => ld27 hW HM.out) rfl) G.out.hm ?_
      simp only [List.getElem_toArray, List.getElem_cons_succ, List.getElem_cons_zero, Act.put, List.setIfInBounds_toArray, List.set_cons_zero, List.set_cons_succ]
      refine wpAnyH_take (i := 1) (v := .pointer (some ⟨w.heap.size, 0, none⟩)) rfl (by kernel_rfl) (by kernel_rfl) (by kernel_rfl) (fun _ _ _ h => h) (Or.inl ⟨by rfl, (fun W _ => by go_simp)⟩) G.out.hm ?_
      simp only [List.getElem_toArray, List.getElem_cons_succ, List.getElem_cons_zero, Act.put, List.setIfInBounds_toArray, List.set_cons_zero, List.set_cons_succ]
      refine wpAnyH_take (i := 2) (v := .int .i64 act) rfl (by kernel_rfl) (by kernel_rfl) (by kernel_rfl) (fun _ _ _ h => h) (yields_ld (by rfl) 3 (.tmp 15) rfl _ _ (fun W hW => ld3 (seen_of hW HM.out).act) rfl) G.out.hm ?_
      simp only [List.getElem_toArray, List.getElem_cons_succ, List.getElem_cons_zero, Act.put, List.setIfInBounds_toArray, List.set_cons_zero, List.set_cons_succ]
      refine wpAnyH_take (i := 3) (v := .agg (Rp.cells ⟨0, act, 0⟩)) rfl (by kernel_rfl) (by kernel_rfl) (by kernel_rfl) (fun _ _ _ h => h) (yields_build (by rfl) 36 #[(1, .tmp 16)] rfl _ (by kernel_rfl)) G.out.hm ?_
      simp only [List.getElem_toArray, List.getElem_cons_succ, List.getElem_cons_zero, Act.put, List.setIfInBounds_toArray, List.set_cons_zero, List.set_cons_succ]
      refine wpAnyH_ready (rs := [4]) (by kernel_rfl) (by simp) ?_
      refine AllReadyH.cons rfl (fun K hK => ?_) AllReadyH.nil
      refine step_row rfl 27 _ _ rfl (w.heap.size + 1 + 1) _ rfl rfl 27 _ G.out.ho (size27 G.out.ok) (old27 G.out.oko G.out.ok) (mt_all _) ?_
      intro w1 hs on; replace G := Lib.hid (G.out.seto G.out.ok hs on); clear hs on
      refine hK.out _ _ G.out.hm (fun _ => ?_)
      clear hK K
      refine wpAnyH_ready (rs := [5]) (by kernel_rfl) (by simp) ?_
      refine AllReadyH.cons rfl (fun K hK => ?_) AllReadyH.nil
      refine step_row rfl 36 _ _ rfl (w.heap.size + 1 + 1 + 1) _ rfl rfl 36 _ G.out.hr (size36 _) rfl (rp_all _) ?_
      intro w1 hs on; replace G := Lib.hid (G.out.setr hs on); clear hs on
      refine hK.out _ _ G.out.hm (fun _ => ?_)
      clear hK K
      refine wpAnyH_done (by kernel_rfl) ?_ _
      go_wp2
      exact out_ret (p := 4) (u := 5) rfl _ _ _ _ _ _ _ _ (by unfold bootM; rw [if_pos (.inr rfl)]) rfl rfl rfl (Out.mk G.out.ho G.out.hr G.out.hb) G.out.oko
    | false =>
      by_cases ht : 0 < trials
      · have d0 : decide (0 < trials) = true := decide_eq_true ht
        have HTT := Lib.hid ht
        have hi := hm.trials
        unfold I64 at hi
        simp only at hi
        rcases ha with rfl | rfl
        · skip
          have OK2 := Lib.hid (show Mt.Ok ⟨0, h0, h1, least, 3, com, gott, trials - 1⟩ from ok_trials (z := trials - 1) hm (by unfold I64; omega))
          clear hm hf
          go_enter Tryd.func25, Tryd.ntmps25
          go_upto_region 5 with (first
            | (refine wpList_ld 27 _ rfl _ _ (ld27 G.out.hm G.out.ok) rfl rfl ?_)
            | (refine wpList_ld 3 _ rfl _ _ (ld3 (seen_of G.out.hm G.out.ok).phase) rfl rfl ?_)
            | (refine wpList_ld 3 _ rfl _ _ (ld3 (seen_of G.out.hm G.out.ok).trials) rfl rfl ?_)
            | (refine wpList_ld 4 _ rfl _ _ (ld4 (seen_f G.out.hf G.out.okf).worn) rfl rfl ?_)
            | (refine wpList_st3 rfl _ _ rfl w.heap.size 106 (trials - 1) rfl rfl _ _ G.out.hm (by omega) (mt_set106 _ G.out.ok) G.out.ok ?_; intro w1 hs on; replace G := Lib.hid (G.out.set (ok_trials G.out.ok (by unfold I64; omega)) hs on); clear hs on))
          refine wp_region_held_drew (S := fun W => Has W w.heap.size 27 (Mt.cells ⟨0, h0, h1, least, 3, com, gott, trials - 1⟩)) (by kernel_rfl) G.out.drew.hm ?_
          intro _
          replace G := Lib.hid G.out.drew
          refine wpAnyH_take (i := 0) (v := .agg (Mt.cells ⟨0, h0, h1, least, 3, com, gott, trials - 1⟩)) rfl (by kernel_rfl) (by kernel_rfl) (by kernel_rfl) (fun _ _ _ h => h) (yields_ld (by rfl) 27 (.tmp 2) rfl _ _ (fun W hW => ld27 hW OK2.out) rfl) G.out.hm ?_
          simp only [List.getElem_toArray, List.getElem_cons_succ, List.getElem_cons_zero, Act.put, List.setIfInBounds_toArray, List.set_cons_zero, List.set_cons_succ]
          refine wpAnyH_take (i := 1) (v := .agg (Mt.cells ⟨0, h0, h1, least, 3, com, gott, trials - 1⟩)) rfl (by kernel_rfl) (by kernel_rfl) (by kernel_rfl) (fun _ _ _ h => h) (yields_ld (by rfl) 27 (.tmp 2) rfl _ _ (fun W hW => ld27 hW OK2.out) rfl) G.out.hm ?_
          simp only [List.getElem_toArray, List.getElem_cons_succ, List.getElem_cons_zero, Act.put, List.setIfInBounds_toArray, List.set_cons_zero, List.set_cons_succ]
          refine wpAnyH_ready (rs := [2]) (by kernel_rfl) (by simp) ?_
          refine AllReadyH.cons rfl (fun K hK => ?_) AllReadyH.nil
          go_simp
          refine (other_any _ 1 _ G.out.ok rfl (.inl rfl)).mono ?_
          rintro e w1 ⟨rfl, b1⟩; replace G := Lib.hid (G.out.kept b1); clear b1
          refine hK.out _ _ G.out.hm (fun _ => ?_)
          clear hK K
          refine wpAnyH_take (i := 3) (v := .agg (Rp.cells ⟨0, 1, 0⟩)) rfl (by kernel_rfl) (by kernel_rfl) (by kernel_rfl) (fun _ _ _ h => h) (yields_build (by rfl) 36 #[(1, .tmp 28)] rfl _ (by kernel_rfl)) G.out.hm ?_
          simp only [List.getElem_toArray, List.getElem_cons_succ, List.getElem_cons_zero, Act.put, List.setIfInBounds_toArray, List.set_cons_zero, List.set_cons_succ]
          refine wpAnyH_ready (rs := [4]) (by kernel_rfl) (by simp) ?_
          refine AllReadyH.cons rfl (fun K hK => ?_) AllReadyH.nil
          refine step_row rfl 27 _ _ rfl (w.heap.size + 1 + 1) _ rfl rfl 27 _ G.out.ho (size27 G.out.ok) (old27 G.out.oko G.out.ok) (mt_all _) ?_
          intro w1 hs on; replace G := Lib.hid (G.out.seto G.out.ok hs on); clear hs on
          refine hK.out _ _ G.out.hm (fun _ => ?_)
          clear hK K
          refine wpAnyH_ready (rs := [5]) (by kernel_rfl) (by simp) ?_
          refine AllReadyH.cons rfl (fun K hK => ?_) AllReadyH.nil
          refine step_row rfl 36 _ _ rfl (w.heap.size + 1 + 1 + 1) _ rfl rfl 36 _ G.out.hr (size36 _) rfl (rp_all _) ?_
          intro w1 hs on; replace G := Lib.hid (G.out.setr hs on); clear hs on
          refine hK.out _ _ G.out.hm (fun _ => ?_)
          clear hK K
          refine wpAnyH_done (by kernel_rfl) ?_ _
          go_wp2
          exact out_ret (p := 4) (u := 5) rfl _ _ _ _ _ _ _ _ (by unfold bootM; rw [if_neg (fun h => h.elim (fun h => h rfl) Bool.false_ne_true), if_pos HTT.out]; rfl) rfl rfl rfl (Out.mk G.out.ho G.out.hr G.out.hb) G.out.oko
        · skip
          have OK2 := Lib.hid (show Mt.Ok ⟨1, h0, h1, least, 3, com, gott, trials - 1⟩ from ok_trials (z := trials - 1) hm (by unfold I64; omega))
          clear hm hf
          go_enter Tryd.func25, Tryd.ntmps25
          go_upto_region 5 with (first
            | (refine wpList_ld 27 _ rfl _ _ (ld27 G.out.hm G.out.ok) rfl rfl ?_)
            | (refine wpList_ld 3 _ rfl _ _ (ld3 (seen_of G.out.hm G.out.ok).phase) rfl rfl ?_)
            | (refine wpList_ld 3 _ rfl _ _ (ld3 (seen_of G.out.hm G.out.ok).trials) rfl rfl ?_)
            | (refine wpList_ld 4 _ rfl _ _ (ld4 (seen_f G.out.hf G.out.okf).worn) rfl rfl ?_)
            | (refine wpList_st3 rfl _ _ rfl w.heap.size 106 (trials - 1) rfl rfl _ _ G.out.hm (by omega) (mt_set106 _ G.out.ok) G.out.ok ?_; intro w1 hs on; replace G := Lib.hid (G.out.set (ok_trials G.out.ok (by unfold I64; omega)) hs on); clear hs on))
          refine wp_region_held_drew (S := fun W => Has W w.heap.size 27 (Mt.cells ⟨1, h0, h1, least, 3, com, gott, trials - 1⟩)) (by kernel_rfl) G.out.drew.hm ?_
          intro _
          replace G := Lib.hid G.out.drew
          refine wpAnyH_take (i := 0) (v := .agg (Mt.cells ⟨1, h0, h1, least, 3, com, gott, trials - 1⟩)) rfl (by kernel_rfl) (by kernel_rfl) (by kernel_rfl) (fun _ _ _ h => h) (yields_ld (by rfl) 27 (.tmp 2) rfl _ _ (fun W hW => ld27 hW OK2.out) rfl) G.out.hm ?_
          simp only [List.getElem_toArray, List.getElem_cons_succ, List.getElem_cons_zero, Act.put, List.setIfInBounds_toArray, List.set_cons_zero, List.set_cons_succ]
          refine wpAnyH_take (i := 1) (v := .agg (Mt.cells ⟨1, h0, h1, least, 3, com, gott, trials - 1⟩)) rfl (by kernel_rfl) (by kernel_rfl) (by kernel_rfl) (fun _ _ _ h => h) (yields_ld (by rfl) 27 (.tmp 2) rfl _ _ (fun W hW => ld27 hW OK2.out) rfl) G.out.hm ?_
          simp only [List.getElem_toArray, List.getElem_cons_succ, List.getElem_cons_zero, Act.put, List.setIfInBounds_toArray, List.set_cons_zero, List.set_cons_succ]
          refine wpAnyH_ready (rs := [2]) (by kernel_rfl) (by simp) ?_
          refine AllReadyH.cons rfl (fun K hK => ?_) AllReadyH.nil
          go_simp
          refine (other_any _ 0 _ G.out.ok rfl (.inr rfl)).mono ?_
          rintro e w1 ⟨rfl, b1⟩; replace G := Lib.hid (G.out.kept b1); clear b1
          refine hK.out _ _ G.out.hm (fun _ => ?_)
          clear hK K
          refine wpAnyH_take (i := 3) (v := .agg (Rp.cells ⟨0, 0, 0⟩)) rfl (by kernel_rfl) (by kernel_rfl) (by kernel_rfl) (fun _ _ _ h => h) (yields_build (by rfl) 36 #[(1, .tmp 28)] rfl _ (by kernel_rfl)) G.out.hm ?_
          simp only [List.getElem_toArray, List.getElem_cons_succ, List.getElem_cons_zero, Act.put, List.setIfInBounds_toArray, List.set_cons_zero, List.set_cons_succ]
          refine wpAnyH_ready (rs := [4]) (by kernel_rfl) (by simp) ?_
          refine AllReadyH.cons rfl (fun K hK => ?_) AllReadyH.nil
          refine step_row rfl 27 _ _ rfl (w.heap.size + 1 + 1) _ rfl rfl 27 _ G.out.ho (size27 G.out.ok) (old27 G.out.oko G.out.ok) (mt_all _) ?_
          intro w1 hs on; replace G := Lib.hid (G.out.seto G.out.ok hs on); clear hs on
          refine hK.out _ _ G.out.hm (fun _ => ?_)
          clear hK K
          refine wpAnyH_ready (rs := [5]) (by kernel_rfl) (by simp) ?_
          refine AllReadyH.cons rfl (fun K hK => ?_) AllReadyH.nil
          refine step_row rfl 36 _ _ rfl (w.heap.size + 1 + 1 + 1) _ rfl rfl 36 _ G.out.hr (size36 _) rfl (rp_all _) ?_
          intro w1 hs on; replace G := Lib.hid (G.out.setr hs on); clear hs on
          refine hK.out _ _ G.out.hm (fun _ => ?_)
          clear hK K
          refine wpAnyH_done (by kernel_rfl) ?_ _
          go_wp2
          exact out_ret (p := 4) (u := 5) rfl _ _ _ _ _ _ _ _ (by unfold bootM; rw [if_neg (fun h => h.elim (fun h => h rfl) Bool.false_ne_true), if_pos HTT.out]; rfl) rfl rfl rfl (Out.mk G.out.ho G.out.hr G.out.hb) G.out.oko
      · have d0 : decide (0 < trials) = false := decide_eq_false ht
        have HTT := Lib.hid ht
        have HM := Lib.hid hm
        clear hm hf ha ht
        go_enter Tryd.func25, Tryd.ntmps25
        go_upto_region 6 with (first
          | (refine wpList_ld 27 _ rfl _ _ (ld27 G.out.hm G.out.ok) rfl rfl ?_)
          | (refine wpList_ld 3 _ rfl _ _ (ld3 (seen_of G.out.hm G.out.ok).phase) rfl rfl ?_)
          | (refine wpList_ld 3 _ rfl _ _ (ld3 (seen_of G.out.hm G.out.ok).trials) rfl rfl ?_)
          | (refine wpList_ld 4 _ rfl _ _ (ld4 (seen_f G.out.hf G.out.okf).worn) rfl rfl ?_))
        refine wp_region_held_drew (S := fun W => Has W w.heap.size 27 (Mt.cells ⟨act, h0, h1, least, 3, com, gott, trials⟩)) (by kernel_rfl) G.out.drew.hm ?_
        intro _
        replace G := Lib.hid G.out.drew
        refine wpAnyH_take (i := 0) (v := .agg (Mt.cells ⟨act, h0, h1, least, 3, com, gott, trials⟩)) rfl (by kernel_rfl) (by kernel_rfl) (by kernel_rfl) (fun _ _ _ h => h) (yields_ld (by rfl) 27 (.tmp 2) rfl _ _ (fun W hW => ld27 hW HM.out) rfl) G.out.hm ?_
        simp only [List.getElem_toArray, List.getElem_cons_succ, List.getElem_cons_zero, Act.put, List.setIfInBounds_toArray, List.set_cons_zero, List.set_cons_succ]
        refine wpAnyH_take (i := 2) (v := .pointer (some ⟨w.heap.size, 0, none⟩)) rfl (by kernel_rfl) (by kernel_rfl) (by kernel_rfl) (fun _ _ _ h => h) (Or.inl ⟨by rfl, (fun W _ => by go_simp)⟩) G.out.hm ?_
        simp only [List.getElem_toArray, List.getElem_cons_succ, List.getElem_cons_zero, Act.put, List.setIfInBounds_toArray, List.set_cons_zero, List.set_cons_succ]
        refine wpAnyH_take (i := 3) (v := .int .i64 act) rfl (by kernel_rfl) (by kernel_rfl) (by kernel_rfl) (fun _ _ _ h => h) (yields_ld (by rfl) 3 (.tmp 32) rfl _ _ (fun W hW => ld3 (seen_of hW HM.out).act) rfl) G.out.hm ?_
        simp only [List.getElem_toArray, List.getElem_cons_succ, List.getElem_cons_zero, Act.put, List.setIfInBounds_toArray, List.set_cons_zero, List.set_cons_succ]
        refine wpAnyH_take (i := 4) (v := .agg (Rp.cells ⟨0, act, 0⟩)) rfl (by kernel_rfl) (by kernel_rfl) (by kernel_rfl) (fun _ _ _ h => h) (yields_build (by rfl) 36 #[(1, .tmp 33)] rfl _ (by kernel_rfl)) G.out.hm ?_
        simp only [List.getElem_toArray, List.getElem_cons_succ, List.getElem_cons_zero, Act.put, List.setIfInBounds_toArray, List.set_cons_zero, List.set_cons_succ]
        refine wpAnyH_ready (rs := [1]) (by kernel_rfl) (by simp) ?_
        refine AllReadyH.cons rfl (fun K hK => ?_) AllReadyH.nil
        go_simp
        refine (HO.out _).mono ?_
        rintro e w1 ⟨rfl, b1⟩; replace G := Lib.hid (G.out.kept b1); clear b1
        refine hK.out _ _ G.out.hm (fun _ => ?_)
        clear hK K
        refine wpAnyH_ready (rs := [5]) (by kernel_rfl) (by simp) ?_
        refine AllReadyH.cons rfl (fun K hK => ?_) AllReadyH.nil
        refine step_row rfl 27 _ _ rfl (w.heap.size + 1 + 1) _ rfl rfl 27 _ G.out.ho (size27 HV.out) (old27 G.out.oko HV.out) (mt_all _) ?_
        intro w1 hs on; replace G := Lib.hid (G.out.seto HV.out hs on); clear hs on
        refine hK.out _ _ G.out.hm (fun _ => ?_)
        clear hK K
        refine wpAnyH_ready (rs := [6]) (by kernel_rfl) (by simp) ?_
        refine AllReadyH.cons rfl (fun K hK => ?_) AllReadyH.nil
        refine step_row rfl 36 _ _ rfl (w.heap.size + 1 + 1 + 1) _ rfl rfl 36 _ G.out.hr (size36 _) rfl (rp_all _) ?_
        intro w1 hs on; replace G := Lib.hid (G.out.setr hs on); clear hs on
        refine hK.out _ _ G.out.hm (fun _ => ?_)
        clear hK K
        refine wpAnyH_done (by kernel_rfl) ?_ _
        go_wp2
        exact out_ret (p := 4) (u := 5) rfl _ _ _ _ _ _ _ _ (by unfold bootM; rw [if_neg (fun h => h.elim (fun h => h rfl) Bool.false_ne_true), if_neg (Int.not_lt.2 HTT.out)]) rfl rfl rfl (Out.mk G.out.ho G.out.hr G.out.hb) G.out.oko
  · have d3 : (phase != 3) = true := by simp [hp]
    have HP := Lib.hid (show ¬ phase = 3 ∨ wn = true from .inl hp)
    have HM := Lib.hid hm
    clear hm hf ha
    go_enter Tryd.func25, Tryd.ntmps25
    go_upto_region 2 with (first
      | (refine wpList_ld 27 _ rfl _ _ (ld27 G.out.hm G.out.ok) rfl rfl ?_)
      | (refine wpList_ld 3 _ rfl _ _ (ld3 (seen_of G.out.hm G.out.ok).phase) rfl rfl ?_)
      | (refine wpList_ld 3 _ rfl _ _ (ld3 (seen_of G.out.hm G.out.ok).trials) rfl rfl ?_)
      | (refine wpList_ld 4 _ rfl _ _ (ld4 (seen_f G.out.hf G.out.okf).worn) rfl rfl ?_))
    refine wp_region_held_drew (S := fun W => Has W w.heap.size 27 (Mt.cells ⟨act, h0, h1, least, phase, com, gott, trials⟩)) (by kernel_rfl) G.out.drew.hm ?_
    intro _
    replace G := Lib.hid G.out.drew
    refine wpAnyH_take (i := 0) (v := .agg (Mt.cells ⟨act, h0, h1, least, phase, com, gott, trials⟩)) rfl (by kernel_rfl) (by kernel_rfl) (by kernel_rfl) (fun _ _ _ h => h) (yields_ld (by rfl) 27 (.tmp 2) rfl _ _ (fun W hW => ld27 hW HM.out) rfl) G.out.hm ?_
    simp only [List.getElem_toArray, List.getElem_cons_succ, List.getElem_cons_zero, Act.put, List.setIfInBounds_toArray, List.set_cons_zero, List.set_cons_succ]
    refine wpAnyH_take (i := 1) (v := .pointer (some ⟨w.heap.size, 0, none⟩)) rfl (by kernel_rfl) (by kernel_rfl) (by kernel_rfl) (fun _ _ _ h => h) (Or.inl ⟨by rfl, (fun W _ => by go_simp)⟩) G.out.hm ?_
    simp only [List.getElem_toArray, List.getElem_cons_succ, List.getElem_cons_zero, Act.put, List.setIfInBounds_toArray, List.set_cons_zero, List.set_cons_succ]
    refine wpAnyH_take (i := 2) (v := .int .i64 act) rfl (by kernel_rfl) (by kernel_rfl) (by kernel_rfl) (fun _ _ _ h => h) (yields_ld (by rfl) 3 (.tmp 15) rfl _ _ (fun W hW => ld3 (seen_of hW HM.out).act) rfl) G.out.hm ?_
    simp only [List.getElem_toArray, List.getElem_cons_succ, List.getElem_cons_zero, Act.put, List.setIfInBounds_toArray, List.set_cons_zero, List.set_cons_succ]
    refine wpAnyH_take (i := 3) (v := .agg (Rp.cells ⟨0, act, 0⟩)) rfl (by kernel_rfl) (by kernel_rfl) (by kernel_rfl) (fun _ _ _ h => h) (yields_build (by rfl) 36 #[(1, .tmp 16)] rfl _ (by kernel_rfl)) G.out.hm ?_
    simp only [List.getElem_toArray, List.getElem_cons_succ, List.getElem_cons_zero, Act.put, List.setIfInBounds_toArray, List.set_cons_zero, List.set_cons_succ]
    refine wpAnyH_ready (rs := [4]) (by kernel_rfl) (by simp) ?_
    refine AllReadyH.cons rfl (fun K hK => ?_) AllReadyH.nil
    refine step_row rfl 27 _ _ rfl (w.heap.size + 1 + 1) _ rfl rfl 27 _ G.out.ho (size27 G.out.ok) (old27 G.out.oko G.out.ok) (mt_all _) ?_
    intro w1 hs on; replace G := Lib.hid (G.out.seto G.out.ok hs on); clear hs on
    refine hK.out _ _ G.out.hm (fun _ => ?_)
    clear hK K
    refine wpAnyH_ready (rs := [5]) (by kernel_rfl) (by simp) ?_
    refine AllReadyH.cons rfl (fun K hK => ?_) AllReadyH.nil
    refine step_row rfl 36 _ _ rfl (w.heap.size + 1 + 1 + 1) _ rfl rfl 36 _ G.out.hr (size36 _) rfl (rp_all _) ?_
    intro w1 hs on; replace G := Lib.hid (G.out.setr hs on); clear hs on
    refine hK.out _ _ G.out.hm (fun _ => ?_)
    clear hK K
    refine wpAnyH_done (by kernel_rfl) ?_ _
    go_wp2
    exact out_ret (p := 4) (u := 5) rfl _ _ _ _ _ _ _ _ (by unfold bootM; rw [if_pos HP.out]) rfl rfl rfl (Out.mk G.out.ho G.out.hr G.out.hb) G.out.oko
end Go.Proofs.YtcokpdhhpaahgaaDoor
