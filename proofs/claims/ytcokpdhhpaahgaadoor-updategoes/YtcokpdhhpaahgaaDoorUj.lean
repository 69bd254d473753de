/-
  A request to commit, as the program does it; conditions: what is kept is of 64 bits, of two slots; the digest is of 32 bytes.
-/
import Derived.Test.YtcokpdhhpaahgaaDoorMUp
import Derived.Deep.RegionHeld3
import Derived.Deep.Cut
namespace Go.Proofs.YtcokpdhhpaahgaaDoor
open Go.RowKit
set_option linter.unusedVariables false
set_option linter.unusedSimpArgs false

set_option maxRecDepth 100000 in
set_option maxHeartbeats 4000000 in
theorem commit_any (m : Mt) (f : Fc) (w : World) (hm : m.Ok) (hf : f.Ok) (ha : m.act = 0 ∨ m.act = 1) : Calls Tryd.prog 24 #[.agg m.cells, .agg f.cells] w (Does (commitM m f) w) := by
  have hz27 := zero27_run
  have hz36 := zero36_run
  obtain ⟨act, h0, h1, least, phase, com, gott, trials⟩ := m
  obtain ⟨nm, tg, dg, wn⟩ := f
  simp only at ha
  have G := Lib.hid (fq_new w hm hf)
  clear hm hf
  by_cases hp : phase = 2
  · subst hp
    cases wn with
    | true =>
      clear ha
      go_enter Tryd.func24, Tryd.ntmps24
      go_wp2_with (first
        | (refine wpList_ld 27 _ rfl _ _ (ld27 G.out.hm G.out.ok) rfl rfl ?_)
        | (refine wpList_ld 3 _ rfl _ _ (ld3 (seen_of G.out.hm G.out.ok).phase) rfl rfl ?_)
        | (refine wpList_ld 4 _ rfl _ _ (ld4 (seen_f G.out.hf G.out.okf).worn) rfl rfl ?_)
        | (go_at_call 20; (with_reducible refine (refuse_any _ _ _ G.out.ok).mono ?_); rintro e w1 ⟨rfl, b1⟩; replace G := Lib.hid (G.out.kept b1); clear b1)
        | (refine wpList_row rfl 27 _ _ rfl (w.heap.size + 1 + 1) _ rfl rfl 27 _ G.out.ho (size27 G.out.ok) (old27 G.out.oko G.out.ok) (mt_all _) ?_; intro w1 hs on; replace G := Lib.hid (G.out.seto G.out.ok hs on); clear hs on)
        | (refine wpList_row rfl 36 _ _ rfl (w.heap.size + 1 + 1 + 1) _ rfl rfl 36 _ G.out.hr (size36 _) rfl (rp_all _) ?_; intro w1 hs on; replace G := Lib.hid (G.out.setr hs on); clear hs on))
      exact out_ret (p := 4) (u := 5) rfl _ _ _ _ _ _ _ _ (by unfold commitM; rw [if_neg (not_not_intro rfl), if_pos rfl]; rfl) rfl rfl rfl (Out.mk G.out.ho G.out.hr G.out.hb) G.out.oko
    | false =>
      rcases ha with rfl | rfl
      · skip
        go_enter Tryd.func24, Tryd.ntmps24
        go_upto_region 5 with (first
          | (refine wpList_ld 27 _ rfl _ _ (ld27 G.out.hm G.out.ok) rfl rfl ?_)
          | (refine wpList_ld 3 _ rfl _ _ (ld3 (seen_of G.out.hm G.out.ok).phase) rfl rfl ?_)
          | (refine wpList_ld 4 _ rfl _ _ (ld4 (seen_f G.out.hf G.out.okf).worn) rfl rfl ?_)
          | (go_at_call 20; (with_reducible refine (refuse_any _ _ _ G.out.ok).mono ?_); rintro e w1 ⟨rfl, b1⟩; replace G := Lib.hid (G.out.kept b1); clear b1)
          | (refine wpList_row rfl 27 _ _ rfl (w.heap.size + 1 + 1) _ rfl rfl 27 _ G.out.ho (size27 G.out.ok) (old27 G.out.oko G.out.ok) (mt_all _) ?_; intro w1 hs on; replace G := Lib.hid (G.out.seto G.out.ok hs on); clear hs on)
          | (refine wpList_row rfl 36 _ _ rfl (w.heap.size + 1 + 1 + 1) _ rfl rfl 36 _ G.out.hr (size36 _) rfl (rp_all _) ?_; intro w1 hs on; replace G := Lib.hid (G.out.setr hs on); clear hs on))
        refine wp_region_held_drew (S := fun W => ∃ x : Mt, x.Ok ∧ x.com = com ∧ Has W w.heap.size 27 x.cells) (by kernel_rfl) ⟨_, G.out.ok, rfl, G.out.drew.hm⟩ ?_
        intro _
        replace G := Lib.hid G.out.drew
        refine wpAnyH_take (i := 2) (v := .pointer (some ⟨w.heap.size, 71, none⟩)) rfl (by kernel_rfl) (by kernel_rfl) (by kernel_rfl) (fun _ _ _ h => h) (Or.inl ⟨by rfl, (fun W _ => by go_simp)⟩) ⟨_, G.out.ok, rfl, G.out.hm⟩ ?_
        simp only [List.getElem_toArray, List.getElem_cons_succ, List.getElem_cons_zero, Act.put, List.setIfInBounds_toArray, List.set_cons_zero, List.set_cons_succ]
        refine wpAnyH_take (i := 3) (v := .agg com.cells) rfl (by kernel_rfl) (by kernel_rfl) (by kernel_rfl) (fun _ _ _ h => h) (yields_ld (by rfl) 24 (.tmp 23) rfl _ _ (fun W hW => by obtain ⟨x, ox, rfl, hx⟩ := hW; exact (seen_of hx ox).l2) rfl) ⟨_, G.out.ok, rfl, G.out.hm⟩ ?_
        simp only [List.getElem_toArray, List.getElem_cons_succ, List.getElem_cons_zero, Act.put, List.setIfInBounds_toArray, List.set_cons_zero, List.set_cons_succ]
        refine wpAnyH_take (i := 4) (v := .pointer (some ⟨w.heap.size, 1, none⟩)) rfl (by kernel_rfl) (by kernel_rfl) (by kernel_rfl) (fun _ _ _ h => h) (Or.inl ⟨by rfl, (fun W _ => by go_simp)⟩) ⟨_, G.out.ok, rfl, G.out.hm⟩ ?_
        simp only [List.getElem_toArray, List.getElem_cons_succ, List.getElem_cons_zero, Act.put, List.setIfInBounds_toArray, List.set_cons_zero, List.set_cons_succ]
        refine wpAnyH_ready (rs := [0]) (by kernel_rfl) (by simp) ?_
        refine AllReadyH.cons rfl (fun K hK => ?_) AllReadyH.nil
        refine step_ld 27 _ rfl _ _ (ld27 G.out.hm G.out.ok) rfl rfl ?_
        refine hK.out _ _ ⟨_, G.out.ok, rfl, G.out.hm⟩ (fun _ => ?_)
        clear hK K
        refine wpAnyH_ready (rs := [1]) (by kernel_rfl) (by simp) ?_
        refine AllReadyH.cons rfl (fun K hK => ?_) AllReadyH.nil
        go_simp
        refine (other_any _ 1 _ G.out.ok rfl (.inl rfl)).mono ?_
        rintro e w1 ⟨rfl, b1⟩; replace G := Lib.hid (G.out.kept b1); clear b1
        refine hK.out _ _ ⟨_, G.out.ok, rfl, G.out.hm⟩ (fun _ => ?_)
        clear hK K
        refine wpAnyH_take (i := 5) (v := .pointer (some ⟨w.heap.size, 35, none⟩)) rfl (by kernel_rfl) (by kernel_rfl) (by kernel_rfl) (fun _ _ _ h => h) (Or.inl ⟨by rfl, (fun W _ => by go_simp)⟩) ⟨_, G.out.ok, rfl, G.out.hm⟩ ?_
        simp only [List.getElem_toArray, List.getElem_cons_succ, List.getElem_cons_zero, Act.put, List.setIfInBounds_toArray, List.set_cons_zero, List.set_cons_succ]
        refine wpAnyH_ready (rs := [6]) (by kernel_rfl) (by simp) ?_
        refine AllReadyH.cons rfl (fun K hK => ?_) AllReadyH.nil
        refine step_st24 rfl _ _ rfl w.heap.size 35 _ rfl rfl _ _ G.out.ok G.out.ok.com G.out.hm (mt_put1 _ G.out.ok G.out.ok.com) (by omega) ?_
        intro w1 hs on; replace G := Lib.hid (G.out.set (ok_h1 G.out.ok G.out.ok.com) hs on); clear hs on
        refine hK.out _ _ ⟨_, G.out.ok, rfl, G.out.hm⟩ (fun _ => ?_)
        clear hK K
        refine wpAnyH_done (by kernel_rfl) ?_ _
        go_wp2_with (first
          | (refine wpList_ld 27 _ rfl _ _ (ld27 G.out.hm G.out.ok) rfl rfl ?_)
          | (refine wpList_build_to rfl 24 _ rfl _ built24 ?_)
          | (refine wpList_build_to rfl 36 _ rfl _ built36 ?_)
          | (refine wpList_st3 rfl _ _ rfl w.heap.size 70 _ rfl rfl _ _ G.out.hm (by omega) (mt_set70 _ G.out.ok) G.out.ok ?_; intro w1 hs on; replace G := Lib.hid (G.out.set (ok_phase G.out.ok (by unfold I64; omega)) hs on); clear hs on)
          | (refine wpList_st24 rfl _ _ rfl w.heap.size 71 _ rfl rfl _ _ G.out.ok zeroI_ok G.out.hm (mt_put2 _ G.out.ok zeroI_ok) (by omega) ?_; intro w1 hs on; replace G := Lib.hid (G.out.set (ok_com G.out.ok zeroI_ok) hs on); clear hs on)
          | (refine wpList_st3 rfl _ _ rfl w.heap.size 105 _ rfl rfl _ _ G.out.hm (by omega) (mt_set105 _ G.out.ok) G.out.ok ?_; intro w1 hs on; replace G := Lib.hid (G.out.set (ok_gott G.out.ok i64_zero) hs on); clear hs on)
          | (refine wpList_st3 rfl _ _ rfl w.heap.size 106 _ rfl rfl _ _ G.out.hm (by omega) (mt_set106 _ G.out.ok) G.out.ok ?_; intro w1 hs on; replace G := Lib.hid (G.out.set (ok_trials G.out.ok (by unfold I64; omega)) hs on); clear hs on)
          | (refine wpList_row rfl 27 _ _ rfl (w.heap.size + 1 + 1) _ rfl rfl 27 _ G.out.ho (size27 G.out.ok) (old27 G.out.oko G.out.ok) (mt_all _) ?_; intro w1 hs on; replace G := Lib.hid (G.out.seto G.out.ok hs on); clear hs on)
          | (refine wpList_row rfl 36 _ _ rfl (w.heap.size + 1 + 1 + 1) _ rfl rfl 36 _ G.out.hr (size36 _) rfl (rp_all _) ?_; intro w1 hs on; replace G := Lib.hid (G.out.setr hs on); clear hs on))
        exact out_ret (p := 4) (u := 5) rfl _ _ _ _ _ _ _ _ (by unfold commitM; rw [if_neg (not_not_intro rfl), if_neg Bool.false_ne_true]; rfl) rfl rfl rfl (Out.mk G.out.ho G.out.hr G.out.hb) G.out.oko
      · skip
        go_enter Tryd.func24, Tryd.ntmps24
        go_upto_region 5 with (first
          | (refine wpList_ld 27 _ rfl _ _ (ld27 G.out.hm G.out.ok) rfl rfl ?_)
          | (refine wpList_ld 3 _ rfl _ _ (ld3 (seen_of G.out.hm G.out.ok).phase) rfl rfl ?_)
          | (refine wpList_ld 4 _ rfl _ _ (ld4 (seen_f G.out.hf G.out.okf).worn) rfl rfl ?_)
          | (go_at_call 20; (with_reducible refine (refuse_any _ _ _ G.out.ok).mono ?_); rintro e w1 ⟨rfl, b1⟩; replace G := Lib.hid (G.out.kept b1); clear b1)
          | (refine wpList_row rfl 27 _ _ rfl (w.heap.size + 1 + 1) _ rfl rfl 27 _ G.out.ho (size27 G.out.ok) (old27 G.out.oko G.out.ok) (mt_all _) ?_; intro w1 hs on; replace G := Lib.hid (G.out.seto G.out.ok hs on); clear hs on)
          | (refine wpList_row rfl 36 _ _ rfl (w.heap.size + 1 + 1 + 1) _ rfl rfl 36 _ G.out.hr (size36 _) rfl (rp_all _) ?_; intro w1 hs on; replace G := Lib.hid (G.out.setr hs on); clear hs on))
        refine wp_region_held_drew (S := fun W => ∃ x : Mt, x.Ok ∧ x.com = com ∧ Has W w.heap.size 27 x.cells) (by kernel_rfl) ⟨_, G.out.ok, rfl, G.out.drew.hm⟩ ?_
        intro _
        replace G := Lib.hid G.out.drew
        refine wpAnyH_take (i := 2) (v := .pointer (some ⟨w.heap.size, 71, none⟩)) rfl (by kernel_rfl) (by kernel_rfl) (by kernel_rfl) (fun _ _ _ h => h) (Or.inl ⟨by rfl, (fun W _ => by go_simp)⟩) ⟨_, G.out.ok, rfl, G.out.hm⟩ ?_
        simp only [List.getElem_toArray, List.getElem_cons_succ, List.getElem_cons_zero, Act.put, List.setIfInBounds_toArray, List.set_cons_zero, List.set_cons_succ]
        refine wpAnyH_take (i := 3) (v := .agg com.cells) rfl (by kernel_rfl) (by kernel_rfl) (by kernel_rfl) (fun _ _ _ h => h) (yields_ld (by rfl) 24 (.tmp 23) rfl _ _ (fun W hW => by obtain ⟨x, ox, rfl, hx⟩ := hW; exact (seen_of hx ox).l2) rfl) ⟨_, G.out.ok, rfl, G.out.hm⟩ ?_
        simp only [List.getElem_toArray, List.getElem_cons_succ, List.getElem_cons_zero, Act.put, List.setIfInBounds_toArray, List.set_cons_zero, List.set_cons_succ]
        refine wpAnyH_take (i := 4) (v := .pointer (some ⟨w.heap.size, 1, none⟩)) rfl (by kernel_rfl) (by kernel_rfl) (by kernel_rfl) (fun _ _ _ h => h) (Or.inl ⟨by rfl, (fun W _ => by go_simp)⟩) ⟨_, G.out.ok, rfl, G.out.hm⟩ ?_
        simp only [List.getElem_toArray, List.getElem_cons_succ, List.getElem_cons_zero, Act.put, List.setIfInBounds_toArray, List.set_cons_zero, List.set_cons_succ]
        refine wpAnyH_ready (rs := [0]) (by kernel_rfl) (by simp) ?_
        refine AllReadyH.cons rfl (fun K hK => ?_) AllReadyH.nil
        refine step_ld 27 _ rfl _ _ (ld27 G.out.hm G.out.ok) rfl rfl ?_
        refine hK.out _ _ ⟨_, G.out.ok, rfl, G.out.hm⟩ (fun _ => ?_)
        clear hK K
        refine wpAnyH_ready (rs := [1]) (by kernel_rfl) (by simp) ?_
        refine AllReadyH.cons rfl (fun K hK => ?_) AllReadyH.nil
        go_simp
        refine (other_any _ 0 _ G.out.ok rfl (.inr rfl)).mono ?_
        rintro e w1 ⟨rfl, b1⟩; replace G := Lib.hid (G.out.kept b1); clear b1
        refine hK.out _ _ ⟨_, G.out.ok, rfl, G.out.hm⟩ (fun _ => ?_)
        clear hK K
        refine wpAnyH_take (i := 5) (v := .pointer (some ⟨w.heap.size, 1, none⟩)) rfl (by kernel_rfl) (by kernel_rfl) (by kernel_rfl) (fun _ _ _ h => h) (Or.inl ⟨by rfl, (fun W _ => by go_simp)⟩) ⟨_, G.out.ok, rfl, G.out.hm⟩ ?_
        simp only [List.getElem_toArray, List.getElem_cons_succ, List.getElem_cons_zero, Act.put, List.setIfInBounds_toArray, List.set_cons_zero, List.set_cons_succ]
        refine wpAnyH_ready (rs := [6]) (by kernel_rfl) (by simp) ?_
        refine AllReadyH.cons rfl (fun K hK => ?_) AllReadyH.nil
        refine step_st24 rfl _ _ rfl w.heap.size 1 _ rfl rfl _ _ G.out.ok G.out.ok.com G.out.hm (mt_put0 _ G.out.ok G.out.ok.com) (by omega) ?_
        intro w1 hs on; replace G := Lib.hid (G.out.set (ok_h0 G.out.ok G.out.ok.com) hs on); clear hs on
        refine hK.out _ _ ⟨_, G.out.ok, rfl, G.out.hm⟩ (fun _ => ?_)
        clear hK K
        refine wpAnyH_done (by kernel_rfl) ?_ _
        go_wp2_with (first
          | (refine wpList_ld 27 _ rfl _ _ (ld27 G.out.hm G.out.ok) rfl rfl ?_)
          | (refine wpList_build_to rfl 24 _ rfl _ built24 ?_)
          | (refine wpList_build_to rfl 36 _ rfl _ built36 ?_)
          | (refine wpList_st3 rfl _ _ rfl w.heap.size 70 _ rfl rfl _ _ G.out.hm (by omega) (mt_set70 _ G.out.ok) G.out.ok ?_; intro w1 hs on; replace G := Lib.hid (G.out.set (ok_phase G.out.ok (by unfold I64; omega)) hs on); clear hs on)
          | (refine wpList_st24 rfl _ _ rfl w.heap.size 71 _ rfl rfl _ _ G.out.ok zeroI_ok G.out.hm (mt_put2 _ G.out.ok zeroI_ok) (by omega) ?_; intro w1 hs on; replace G := Lib.hid (G.out.set (ok_com G.out.ok zeroI_ok) hs on); clear hs on)
          | (refine wpList_st3 rfl _ _ rfl w.heap.size 105 _ rfl rfl _ _ G.out.hm (by omega) (mt_set105 _ G.out.ok) G.out.ok ?_; intro w1 hs on; replace G := Lib.hid (G.out.set (ok_gott G.out.ok i64_zero) hs on); clear hs on)
          | (refine wpList_st3 rfl _ _ rfl w.heap.size 106 _ rfl rfl _ _ G.out.hm (by omega) (mt_set106 _ G.out.ok) G.out.ok ?_; intro w1 hs on; replace G := Lib.hid (G.out.set (ok_trials G.out.ok (by unfold I64; omega)) hs on); clear hs on)
          | (refine wpList_row rfl 27 _ _ rfl (w.heap.size + 1 + 1) _ rfl rfl 27 _ G.out.ho (size27 G.out.ok) (old27 G.out.oko G.out.ok) (mt_all _) ?_; intro w1 hs on; replace G := Lib.hid (G.out.seto G.out.ok hs on); clear hs on)
          | (refine wpList_row rfl 36 _ _ rfl (w.heap.size + 1 + 1 + 1) _ rfl rfl 36 _ G.out.hr (size36 _) rfl (rp_all _) ?_; intro w1 hs on; replace G := Lib.hid (G.out.setr hs on); clear hs on))
        exact out_ret (p := 4) (u := 5) rfl _ _ _ _ _ _ _ _ (by unfold commitM; rw [if_neg (not_not_intro rfl), if_neg Bool.false_ne_true]; rfl) rfl rfl rfl (Out.mk G.out.ho G.out.hr G.out.hb) G.out.oko
  · have HP := Lib.hid hp
    clear ha
    go_enter Tryd.func24, Tryd.ntmps24
    go_wp2_with (first
      | (refine wpList_ld 27 _ rfl _ _ (ld27 G.out.hm G.out.ok) rfl rfl ?_)
      | (refine wpList_ld 3 _ rfl _ _ (ld3 (seen_of G.out.hm G.out.ok).phase) rfl rfl ?_)
      | (refine wpList_ld 4 _ rfl _ _ (ld4 (seen_f G.out.hf G.out.okf).worn) rfl rfl ?_)
      | (go_at_call 20; (with_reducible refine (refuse_any _ _ _ G.out.ok).mono ?_); rintro e w1 ⟨rfl, b1⟩; replace G := Lib.hid (G.out.kept b1); clear b1)
      | (refine wpList_row rfl 27 _ _ rfl (w.heap.size + 1 + 1) _ rfl rfl 27 _ G.out.ho (size27 G.out.ok) (old27 G.out.oko G.out.ok) (mt_all _) ?_; intro w1 hs on; replace G := Lib.hid (G.out.seto G.out.ok hs on); clear hs on)
      | (refine wpList_row rfl 36 _ _ rfl (w.heap.size + 1 + 1 + 1) _ rfl rfl 36 _ G.out.hr (size36 _) rfl (rp_all _) ?_; intro w1 hs on; replace G := Lib.hid (G.out.setr hs on); clear hs on))
    exact out_ret (p := 4) (u := 5) rfl _ _ _ _ _ _ _ _ (by unfold commitM; rw [if_pos HP.out]; rfl) rfl rfl rfl (Out.mk G.out.ho G.out.hr G.out.hb) G.out.oko
end Go.Proofs.YtcokpdhhpaahgaaDoor
