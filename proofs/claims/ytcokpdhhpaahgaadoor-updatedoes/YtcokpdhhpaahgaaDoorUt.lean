/-
  Requests to write, to verify and to commit, as the document does them; conditions: what is kept is of 64 bits, of two slots, its chunks are few; the digest is of 32 bytes.
-/
import Derived.Test.YtcokpdhhpaahgaaDoorUq
import Derived.Deep.RegionHeld3
import Derived.Deep.Cut
import Derived.BigQuiet
namespace Go.Proofs.YtcokpdhhpaahgaaDoor
open Go.RowKit
set_option linter.unusedVariables false
set_option linter.unusedSimpArgs false

set_option maxRecDepth 100000 in
set_option maxHeartbeats 40000000 in
theorem rwrite_any (m : Mt) (q : Rq) (f : Fc) (w : World) (hm : m.Ok) (hf : f.Ok) (hqn : I64 q.num) (hi : In m) (hk : q.kind = 2) : Calls Tryd.prog 31 #[.agg m.cells, .agg q.cells, .agg f.cells] w (Does (writeM m q.num q.len f) w) := by
  have hz27 := zero27_run
  have hz36 := zero36_run
  have ha := hi.act
  have hg := hi.gott
  have HC0 : ∀ W, Calls Tryd.prog 13 #[.int .i64 m.com.size] W fun e w' => e = .returned (.int .i64 (chunkI m.com.size)) ∧ W = w' := fun W => rchunksI_any m.com.size W hm.com.2.2.2
  have HL0 : ∀ W, Calls Tryd.prog 15 #[.int .i64 m.com.size, .int .i64 q.num] W fun e w' => e = .returned (.int .i64 (lenI m.com.size q.num)) ∧ w' = W := fun W => (rlenI_any m.com.size q.num W hm.com.2.2.2 hqn).mono fun e w' h => ⟨h.1, h.2.symm⟩
  have G := Lib.hid (gq_new q w hm hf)
  have HM := Lib.hid hm
  have q0 := (seen_q G.out.hq).kind
  have q1 := (seen_q G.out.hq).num
  have q2 := (seen_q G.out.hq).bytes
  have c70 := (seen_of G.out.hm G.out.ok).phase
  have c105 := (seen_of G.out.hm G.out.ok).gott
  have c72 := (seen_of G.out.hm G.out.ok).s2
  have f34 := (seen_f G.out.hf G.out.okf).worn
  clear hf hi hm hqn
  obtain ⟨kind, num, A, len, cap, bs⟩ := q
  obtain ⟨act, h0, h1, least, phase, com, gott, trials⟩ := m
  obtain ⟨nm, tg, dg, wn⟩ := f
  simp only at ha hg HC0 HL0 hk q0 q1 q2 c70 c105 c72 f34 ⊢
  subst hk
  obtain ⟨C, hC⟩ : ∃ C, chunkI com.size = C := ⟨_, rfl⟩
  obtain ⟨L, hL⟩ : ∃ L, lenI com.size num = L := ⟨_, rfl⟩
  rw [hC] at HC0
  rw [hL] at HL0
  have HC := Lib.hid HC0
  have HL := Lib.hid HL0
  have HCE := Lib.hid hC
  have HLE := Lib.hid hL
  clear hC hL HC0 HL0
  by_cases hp : phase = 1
  rotate_left
  · have HP := Lib.hid hp
    have d1 : (phase == 1) = false := by simp [hp]
    clear ha hg
    go_enter Tryd.func31, Tryd.ntmps31
    go_upto_region 3 with (first
      | (go_at_call 13; (with_reducible refine (HC.out _).mono ?_); rintro e w1 ⟨rfl, rfl⟩))
    refine wp_region_held_drew (S := fun W => Has W w.heap.size 27 (Mt.cells ⟨act, h0, h1, least, phase, com, gott, trials⟩)) (by kernel_rfl) G.out.drew.hm ?_
    intro _
    replace G := Lib.hid G.out.drew
    refine wpAnyH_take (i := 0) (v := .agg (Mt.cells ⟨act, h0, h1, least, phase, com, gott, trials⟩)) rfl (by kernel_rfl) (by kernel_rfl) (by kernel_rfl) (fun _ _ _ h => h) (yields_ld (by rfl) 27 (.tmp 3) rfl _ _ (fun W hW => ld27 hW HM.out) rfl) G.out.hm ?_
    simp only [List.getElem_toArray, List.getElem_cons_succ, List.getElem_cons_zero, Act.put, List.setIfInBounds_toArray, List.set_cons_zero, List.set_cons_succ]
    refine wpAnyH_ready (rs := [1]) (by kernel_rfl) (by simp) ?_
    refine AllReadyH.cons rfl (fun K hK => ?_) AllReadyH.nil
    go_simp
    refine (err_any 11 _).mono ?_
    rintro e w1 ⟨rfl, b1⟩; replace G := Lib.hid (G.out.kept b1); clear b1
    refine hK.out _ _ G.out.hm (fun _ => ?_)
    clear hK K
    refine wpAnyH_ready (rs := [2]) (by kernel_rfl) (by simp) ?_
    refine AllReadyH.cons rfl (fun K hK => ?_) AllReadyH.nil
    refine step_row rfl 27 _ _ rfl (w.heap.size + 1 + 1 + 1) _ rfl rfl 27 _ G.out.ho (size27 G.out.ok) (old27 G.out.oko G.out.ok) (mt_all _) ?_
    intro w1 hs on; replace G := Lib.hid (G.out.seto G.out.ok hs on); clear hs on
    refine hK.out _ _ G.out.hm (fun _ => ?_)
    clear hK K
    refine wpAnyH_ready (rs := [3]) (by kernel_rfl) (by simp) ?_
    refine AllReadyH.cons rfl (fun K hK => ?_) AllReadyH.nil
    refine step_row rfl 36 _ _ rfl (w.heap.size + 1 + 1 + 1 + 1) _ rfl rfl 36 _ G.out.hr (size36 _) rfl (rp_all _) ?_
    intro w1 hs on; replace G := Lib.hid (G.out.setr hs on); clear hs on
    refine hK.out _ _ G.out.hm (fun _ => ?_)
    clear hK K
    refine wpAnyH_done (by kernel_rfl) ?_ _
    go_wp2
    exact out_ret (p := 6) (u := 7) rfl _ _ _ _ _ _ _ _ (by unfold writeM; rw [if_pos HP.out]; rfl) rfl rfl rfl (Out.mk G.out.ho G.out.hr G.out.hb) G.out.oko
  subst hp
  by_cases hn : num = gott
  rotate_left
  · have HN := Lib.hid hn
    have dn : (num != gott) = true := by simp [hn]
    clear ha hg
    go_enter Tryd.func31, Tryd.ntmps31
    go_upto_region 5 with (first
      | (go_at_call 13; (with_reducible refine (HC.out _).mono ?_); rintro e w1 ⟨rfl, rfl⟩))
    refine wp_region_held_drew (S := fun W => Has W w.heap.size 27 (Mt.cells ⟨act, h0, h1, least, 1, com, gott, trials⟩)) (by kernel_rfl) G.out.drew.hm ?_
    intro _
    replace G := Lib.hid G.out.drew
    refine wpAnyH_take (i := 0) (v := .agg (Mt.cells ⟨act, h0, h1, least, 1, com, gott, trials⟩)) rfl (by kernel_rfl) (by kernel_rfl) (by kernel_rfl) (fun _ _ _ h => h) (yields_ld (by rfl) 27 (.tmp 3) rfl _ _ (fun W hW => ld27 hW HM.out) rfl) G.out.hm ?_
    simp only [List.getElem_toArray, List.getElem_cons_succ, List.getElem_cons_zero, Act.put, List.setIfInBounds_toArray, List.set_cons_zero, List.set_cons_succ]
    refine wpAnyH_ready (rs := [1]) (by kernel_rfl) (by simp) ?_
    refine AllReadyH.cons rfl (fun K hK => ?_) AllReadyH.nil
    go_simp
    refine (err_any 12 _).mono ?_
    rintro e w1 ⟨rfl, b1⟩; replace G := Lib.hid (G.out.kept b1); clear b1
    refine hK.out _ _ G.out.hm (fun _ => ?_)
    clear hK K
    refine wpAnyH_ready (rs := [2]) (by kernel_rfl) (by simp) ?_
    refine AllReadyH.cons rfl (fun K hK => ?_) AllReadyH.nil
    refine step_row rfl 27 _ _ rfl (w.heap.size + 1 + 1 + 1) _ rfl rfl 27 _ G.out.ho (size27 G.out.ok) (old27 G.out.oko G.out.ok) (mt_all _) ?_
    intro w1 hs on; replace G := Lib.hid (G.out.seto G.out.ok hs on); clear hs on
    refine hK.out _ _ G.out.hm (fun _ => ?_)
    clear hK K
    refine wpAnyH_ready (rs := [3]) (by kernel_rfl) (by simp) ?_
    refine AllReadyH.cons rfl (fun K hK => ?_) AllReadyH.nil
    refine step_row rfl 36 _ _ rfl (w.heap.size + 1 + 1 + 1 + 1) _ rfl rfl 36 _ G.out.hr (size36 _) rfl (rp_all _) ?_
    intro w1 hs on; replace G := Lib.hid (G.out.setr hs on); clear hs on
    refine hK.out _ _ G.out.hm (fun _ => ?_)
    clear hK K
    refine wpAnyH_done (by kernel_rfl) ?_ _
    go_wp2
    exact out_ret (p := 6) (u := 7) rfl _ _ _ _ _ _ _ _ (by unfold writeM; rw [if_neg (not_not_intro rfl), if_pos (.inl HN.out)]; rfl) rfl rfl rfl (Out.mk G.out.ho G.out.hr G.out.hb) G.out.oko
  subst hn
  by_cases ht : num = C
  · subst ht
    clear ha hg
    go_enter Tryd.func31, Tryd.ntmps31
    go_upto_region 5 with (first
      | (go_at_call 13; (with_reducible refine (HC.out _).mono ?_); rintro e w1 ⟨rfl, rfl⟩))
    refine wp_region_held_drew (S := fun W => Has W w.heap.size 27 (Mt.cells ⟨act, h0, h1, least, 1, com, num, trials⟩)) (by kernel_rfl) G.out.drew.hm ?_
    intro _
    replace G := Lib.hid G.out.drew
    refine wpAnyH_take (i := 0) (v := .agg (Mt.cells ⟨act, h0, h1, least, 1, com, num, trials⟩)) rfl (by kernel_rfl) (by kernel_rfl) (by kernel_rfl) (fun _ _ _ h => h) (yields_ld (by rfl) 27 (.tmp 3) rfl _ _ (fun W hW => ld27 hW HM.out) rfl) G.out.hm ?_
    simp only [List.getElem_toArray, List.getElem_cons_succ, List.getElem_cons_zero, Act.put, List.setIfInBounds_toArray, List.set_cons_zero, List.set_cons_succ]
    refine wpAnyH_ready (rs := [1]) (by kernel_rfl) (by simp) ?_
    refine AllReadyH.cons rfl (fun K hK => ?_) AllReadyH.nil
    go_simp
    refine (err_any 12 _).mono ?_
    rintro e w1 ⟨rfl, b1⟩; replace G := Lib.hid (G.out.kept b1); clear b1
    refine hK.out _ _ G.out.hm (fun _ => ?_)
    clear hK K
    refine wpAnyH_ready (rs := [2]) (by kernel_rfl) (by simp) ?_
    refine AllReadyH.cons rfl (fun K hK => ?_) AllReadyH.nil
    refine step_row rfl 27 _ _ rfl (w.heap.size + 1 + 1 + 1) _ rfl rfl 27 _ G.out.ho (size27 G.out.ok) (old27 G.out.oko G.out.ok) (mt_all _) ?_
    intro w1 hs on; replace G := Lib.hid (G.out.seto G.out.ok hs on); clear hs on
    refine hK.out _ _ G.out.hm (fun _ => ?_)
    clear hK K
    refine wpAnyH_ready (rs := [3]) (by kernel_rfl) (by simp) ?_
    refine AllReadyH.cons rfl (fun K hK => ?_) AllReadyH.nil
    refine step_row rfl 36 _ _ rfl (w.heap.size + 1 + 1 + 1 + 1) _ rfl rfl 36 _ G.out.hr (size36 _) rfl (rp_all _) ?_
    intro w1 hs on; replace G := Lib.hid (G.out.setr hs on); clear hs on
    refine hK.out _ _ G.out.hm (fun _ => ?_)
    clear hK K
    refine wpAnyH_done (by kernel_rfl) ?_ _
    go_wp2
    exact out_ret (p := 6) (u := 7) rfl _ _ _ _ _ _ _ _ (by unfold writeM; rw [if_neg (not_not_intro rfl), if_pos (.inr HCE.out.symm)]; rfl) rfl rfl rfl (Out.mk G.out.ho G.out.hr G.out.hb) G.out.oko
  have HT := Lib.hid ht
  have dt : (num == C) = false := by simp [ht]
  by_cases hl : (len : Int) = L
  rotate_left
  · have HN := Lib.hid hl
    have dl : ((len : Int) != L) = true := by simp [hl]
    clear ha hg
    go_enter Tryd.func31, Tryd.ntmps31
    go_upto_region 7 with (first
      | (go_at_call 13; (with_reducible refine (HC.out _).mono ?_); rintro e w1 ⟨rfl, rfl⟩)
      | (go_quiet ((go_at_call 15; exact Calls.quiet_of_same (HL.out _)))))
    replace G := Lib.hid (G.out.drewN nq)
    refine wp_region_held_drew (S := fun W => Has W w.heap.size 27 (Mt.cells ⟨act, h0, h1, least, 1, com, num, trials⟩)) (by kernel_rfl) G.out.drew.hm ?_
    intro _
    replace G := Lib.hid G.out.drew
    refine wpAnyH_take (i := 0) (v := .agg (Mt.cells ⟨act, h0, h1, least, 1, com, num, trials⟩)) rfl (by kernel_rfl) (by kernel_rfl) (by kernel_rfl) (fun _ _ _ h => h) (yields_ld (by rfl) 27 (.tmp 3) rfl _ _ (fun W hW => ld27 hW HM.out) rfl) G.out.hm ?_
    simp only [List.getElem_toArray, List.getElem_cons_succ, List.getElem_cons_zero, Act.put, List.setIfInBounds_toArray, List.set_cons_zero, List.set_cons_succ]
    refine wpAnyH_ready (rs := [1]) (by kernel_rfl) (by simp) ?_
    refine AllReadyH.cons rfl (fun K hK => ?_) AllReadyH.nil
    go_simp
    refine (err_any 6 _).mono ?_
    rintro e w1 ⟨rfl, b1⟩; replace G := Lib.hid (G.out.kept b1); clear b1
    refine hK.out _ _ G.out.hm (fun _ => ?_)
    clear hK K
    refine wpAnyH_ready (rs := [2]) (by kernel_rfl) (by simp) ?_
    refine AllReadyH.cons rfl (fun K hK => ?_) AllReadyH.nil
    refine step_row rfl 27 _ _ rfl (w.heap.size + 1 + 1 + 1) _ rfl rfl 27 _ G.out.ho (size27 G.out.ok) (old27 G.out.oko G.out.ok) (mt_all _) ?_
    intro w1 hs on; replace G := Lib.hid (G.out.seto G.out.ok hs on); clear hs on
    refine hK.out _ _ G.out.hm (fun _ => ?_)
    clear hK K
    refine wpAnyH_ready (rs := [3]) (by kernel_rfl) (by simp) ?_
    refine AllReadyH.cons rfl (fun K hK => ?_) AllReadyH.nil
    refine step_row rfl 36 _ _ rfl (w.heap.size + 1 + 1 + 1 + 1) _ rfl rfl 36 _ G.out.hr (size36 _) rfl (rp_all _) ?_
    intro w1 hs on; replace G := Lib.hid (G.out.setr hs on); clear hs on
    refine hK.out _ _ G.out.hm (fun _ => ?_)
    clear hK K
    refine wpAnyH_done (by kernel_rfl) ?_ _
    go_wp2
    exact out_ret (p := 6) (u := 7) rfl _ _ _ _ _ _ _ _ (by unfold writeM; rw [if_neg (not_not_intro rfl), if_neg (fun h => h.elim (fun h => h rfl) (fun h => HT.out (h.trans HCE.out))), if_pos (fun h => HN.out (h.trans HLE.out))]; rfl) rfl rfl rfl (Out.mk G.out.ho G.out.hr G.out.hb) G.out.oko
  subst hl
  cases wn with
  | true =>
    clear ha hg
    go_enter Tryd.func31, Tryd.ntmps31
    go_upto_region 11 with (first
      | (go_at_call 13; (with_reducible refine (HC.out _).mono ?_); rintro e w1 ⟨rfl, rfl⟩)
      | (go_quiet ((go_at_call 15; exact Calls.quiet_of_same (HL.out _)))))
    replace G := Lib.hid (G.out.drewN nq)
    refine wp_region_held_drew (S := fun W => Has W w.heap.size 27 (Mt.cells ⟨act, h0, h1, least, 1, com, num, trials⟩)) (by kernel_rfl) G.out.drew.hm ?_
    intro _
    replace G := Lib.hid G.out.drew
    refine wpAnyH_take (i := 0) (v := .agg (Mt.cells ⟨act, h0, h1, least, 1, com, num, trials⟩)) rfl (by kernel_rfl) (by kernel_rfl) (by kernel_rfl) (fun _ _ _ h => h) (yields_ld (by rfl) 27 (.tmp 3) rfl _ _ (fun W hW => ld27 hW HM.out) rfl) G.out.hm ?_
    simp only [List.getElem_toArray, List.getElem_cons_succ, List.getElem_cons_zero, Act.put, List.setIfInBounds_toArray, List.set_cons_zero, List.set_cons_succ]
    refine wpAnyH_ready (rs := [1]) (by kernel_rfl) (by simp) ?_
    refine AllReadyH.cons rfl (fun K hK => ?_) AllReadyH.nil
    go_simp
    refine (err_any 5 _).mono ?_
    rintro e w1 ⟨rfl, b1⟩; replace G := Lib.hid (G.out.kept b1); clear b1
    refine hK.out _ _ G.out.hm (fun _ => ?_)
    clear hK K
    refine wpAnyH_ready (rs := [2]) (by kernel_rfl) (by simp) ?_
    refine AllReadyH.cons rfl (fun K hK => ?_) AllReadyH.nil
    refine step_row rfl 27 _ _ rfl (w.heap.size + 1 + 1 + 1) _ rfl rfl 27 _ G.out.ho (size27 G.out.ok) (old27 G.out.oko G.out.ok) (mt_all _) ?_
    intro w1 hs on; replace G := Lib.hid (G.out.seto G.out.ok hs on); clear hs on
    refine hK.out _ _ G.out.hm (fun _ => ?_)
    clear hK K
    refine wpAnyH_ready (rs := [3]) (by kernel_rfl) (by simp) ?_
    refine AllReadyH.cons rfl (fun K hK => ?_) AllReadyH.nil
    refine step_row rfl 36 _ _ rfl (w.heap.size + 1 + 1 + 1 + 1) _ rfl rfl 36 _ G.out.hr (size36 _) rfl (rp_all _) ?_
    intro w1 hs on; replace G := Lib.hid (G.out.setr hs on); clear hs on
    refine hK.out _ _ G.out.hm (fun _ => ?_)
    clear hK K
    refine wpAnyH_done (by kernel_rfl) ?_ _
    go_wp2
    exact out_ret (p := 6) (u := 7) rfl _ _ _ _ _ _ _ _ (by unfold writeM; rw [if_neg (not_not_intro rfl), if_neg (fun h => h.elim (fun h => h rfl) (fun h => HT.out (h.trans HCE.out))), if_neg (not_not_intro HLE.out.symm), if_pos rfl]; rfl) rfl rfl rfl (Out.mk G.out.ho G.out.hr G.out.hb) G.out.oko
  | false =>
    have hg2 : -9223372036854775808 ≤ num + 1 ∧ num + 1 ≤ 9223372036854775807 := by omega
    have HG := Lib.hid (show I64 (num + 1) from hg2)
    clear hg2 ha
    go_enter Tryd.func31, Tryd.ntmps31
    go_wp2_with (first
      | (go_at_call 13; (with_reducible refine (HC.out _).mono ?_); rintro e w1 ⟨rfl, rfl⟩)
      | (go_quiet ((go_at_call 15; exact Calls.quiet_of_same (HL.out _))))
      | (refine wpList_ld 27 _ rfl _ _ (ld27 G.out.hm G.out.ok) rfl rfl ?_)
      | (refine wpList_st3 rfl _ _ rfl w.heap.size 105 (num + 1) rfl rfl _ _ G.out.hm (by omega) (mt_set105 _ G.out.ok) G.out.ok ?_; intro w1 hs on; replace G := Lib.hid (G.out.set (ok_gott G.out.ok HG.out) hs on); clear hs on)
      | (refine wpList_row rfl 27 _ _ rfl (w.heap.size + 1 + 1 + 1) _ rfl rfl 27 _ G.out.ho (size27 G.out.ok) (old27 G.out.oko G.out.ok) (mt_all _) ?_; intro w1 hs on; replace G := Lib.hid (G.out.seto G.out.ok hs on); clear hs on)
      | (refine wpList_row rfl 36 _ _ rfl (w.heap.size + 1 + 1 + 1 + 1) _ rfl rfl 36 _ G.out.hr (size36 _) rfl (rp_all _) ?_; intro w1 hs on; replace G := Lib.hid (G.out.setr hs on); clear hs on)
      | (refine wpList_ld 27 _ rfl _ _ (ld27 (G.out.drewN _).hm G.out.ok) rfl rfl ?_)
      | (refine wpList_st3 rfl _ _ rfl w.heap.size 105 (num + 1) rfl rfl _ _ (G.out.drewN _).hm (by omega) (mt_set105 _ G.out.ok) G.out.ok ?_; intro w1 hs on; replace G := Lib.hid ((G.out.drewN _).set (ok_gott G.out.ok HG.out) hs on); clear hs on)
      | (refine wpList_row rfl 27 _ _ rfl (w.heap.size + 1 + 1 + 1) _ rfl rfl 27 _ (G.out.drewN _).ho (size27 G.out.ok) (old27 G.out.oko G.out.ok) (mt_all _) ?_; intro w1 hs on; replace G := Lib.hid ((G.out.drewN _).seto G.out.ok hs on); clear hs on)
      | (refine wpList_row rfl 36 _ _ rfl (w.heap.size + 1 + 1 + 1 + 1) _ rfl rfl 36 _ (G.out.drewN _).hr (size36 _) rfl (rp_all _) ?_; intro w1 hs on; replace G := Lib.hid ((G.out.drewN _).setr hs on); clear hs on)
      | (refine wpList_build_to rfl 24 _ rfl _ built24 ?_)
      | (refine wpList_build_to rfl 36 _ rfl _ built36 ?_))
    exact out_ret (p := 6) (u := 7) rfl _ _ _ _ _ _ _ _ (by unfold writeM; rw [if_neg (not_not_intro rfl), if_neg (fun h => h.elim (fun h => h rfl) (fun h => HT.out (h.trans HCE.out))), if_neg (not_not_intro HLE.out.symm), if_neg Bool.false_ne_true]; rfl) rfl rfl rfl (Out.mk G.out.ho G.out.hr G.out.hb) G.out.oko
end Go.Proofs.YtcokpdhhpaahgaaDoor
