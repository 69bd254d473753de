/-
  A request to begin, as the document does it; conditions: what is kept is of 64 bits, of two slots; the digest is of 32 bytes, the bytes are read as a row.
-/
import Derived.Test.YtcokpdhhpaahgaaDoorUq
import Derived.Test.YtcokpdhhpaahgaaDoorMMb
import Derived.Deep.RegionHeld3
import Derived.Deep.Cut
namespace Go.Proofs.YtcokpdhhpaahgaaDoor
open Go.RowKit
set_option linter.unusedVariables false
set_option linter.unusedSimpArgs false

theorem mayE7 {m : Mt} {i : Im} {f : Fc} {quota : Int} (h : f.name = false) : mayE m i f quota = 7 := if_pos h
theorem mayE8 {m : Mt} {i : Im} {f : Fc} {quota : Int} (h0 : f.name = true) (h : f.tag = false) : mayE m i f quota = 8 := by
  unfold mayE; rw [if_neg (by rw [h0]; decide), if_pos h]
theorem mayE9 {m : Mt} {i : Im} {f : Fc} {quota : Int} (h0 : f.name = true) (h1 : f.tag = true) (h : mayV m i.ver = false) : mayE m i f quota = 9 := by
  unfold mayE; rw [if_neg (by rw [h0]; decide), if_neg (by rw [h1]; decide), if_pos h]
theorem mayE10 {m : Mt} {i : Im} {f : Fc} {quota : Int} (h0 : f.name = true) (h1 : f.tag = true) (h2 : mayV m i.ver = true) (h : quota < chunkI i.size ∨ 6 < chunkI i.size) : mayE m i f quota = 10 := by
  unfold mayE; rw [if_neg (by rw [h0]; decide), if_neg (by rw [h1]; decide), if_neg (by rw [h2]; decide), if_pos h]
theorem mayE5 {m : Mt} {i : Im} {f : Fc} {quota : Int} (h0 : f.name = true) (h1 : f.tag = true) (h2 : mayV m i.ver = true) (h3 : ¬ (quota < chunkI i.size ∨ 6 < chunkI i.size)) (h : f.worn = true) : mayE m i f quota = 5 := by
  unfold mayE; rw [if_neg (by rw [h0]; decide), if_neg (by rw [h1]; decide), if_neg (by rw [h2]; decide), if_neg h3, if_pos h]
theorem mayE0 {m : Mt} {i : Im} {f : Fc} {quota : Int} (h0 : f.name = true) (h1 : f.tag = true) (h2 : mayV m i.ver = true) (h3 : ¬ (quota < chunkI i.size ∨ 6 < chunkI i.size)) (h : f.worn = false) : mayE m i f quota = 0 := by
  unfold mayE; rw [if_neg (by rw [h0]; decide), if_neg (by rw [h1]; decide), if_neg (by rw [h2]; decide), if_neg h3, if_neg (by rw [h]; decide)]
theorem begin_bad {m : Mt} {bs : List Int} {f : Fc} {quota e : Int} (hp : m.phase = 0) (hg : Man.Good bs) (he : mayE m (imOf (Man.told bs)) f quota = e) (h : ¬ e = 0) : beginM m bs f quota = bad m e := by
  unfold beginM; rw [if_neg (not_not_intro hp), if_neg (not_not_intro hg), he, if_pos h]
theorem rmay_is {m : Mt} (v : Int) (w : World) (hm : m.Ok) (b : Bool) (h : mayV m v = b) : Calls Tryd.prog 47 #[.agg m.cells, .int .i64 v] w fun e w' => e = .returned (.bool b) ∧ Below w.heap.size w w' := by rw [← h]; exact rmay_any m v w hm
set_option maxRecDepth 100000 in
set_option maxHeartbeats 40000000 in
theorem rbegin_any (m : Mt) (q : Rq) (f : Fc) (quota : Int) (w : World) (hm : m.Ok) (hf : f.Ok) (hqu : I64 quota) (ha : m.act = 0 ∨ m.act = 1) (hr : Row w q.A q.len q.bs) (hc : q.len ≤ q.cap) (hn : q.len ≤ 1000000) : Calls Tryd.prog 30 #[.agg m.cells, .agg q.cells, .agg f.cells, .int .i64 quota] w (Does (beginM m q.bs f quota) w) := by
  have hz27 := zero27_run
  have hz36 := zero36_run
  have hz52 := Man.zero27_run
  have G := Lib.hid (gq_new q w hm hf)
  have HBT := Lib.hid hr.2.1
  have HR0 := Lib.hid (Man.rread_any q.A q.len q.cap q.bs _ (row_lt hr (Nat.le_refl _) G.out.hb) hc hn)
  have HMV := fun b h W => rmay_is (m := m) (Man.told q.bs).ver W hm b h
  have HM := Lib.hid hm
  obtain ⟨kind, num, A, len, cap, bs⟩ := q
  simp only at HBT HR0 HMV ⊢
  clear hr hc hn
  obtain ⟨act, h0, h1, least, phase, com, gott, trials⟩ := m
  simp only at ha
  clear hm hf
  by_cases hg : Man.Good bs
  rotate_left
  · have HG := Lib.hid hg
    have HR1 := Lib.hid (HR0.out.mono (fun e w' h => show ∃ v, e = .returned (.tuple #[.agg Man.zeroM.cells, v, .int .i64 6]) ∧ Below _ _ w' from by obtain ⟨v, h1, _, h3⟩ := h; exact ⟨v, by rw [h1, Man.readM_no hg, Man.readE_no hg], h3⟩))
    clear ha hg HR0 HMV hqu
    by_cases hp : phase = 0
    rotate_left
    · have HP := Lib.hid hp
      go_enter Tryd.func30, Tryd.ntmps30
      go_upto_region 3 with (first
        | (refine wpList_ld 27 _ rfl _ _ (ld27 G.out.hm G.out.ok) rfl rfl ?_)
        | (refine wpList_ld 28 _ rfl _ _ (ld28 (seen_q G.out.hq).bytes) rfl rfl ?_)
        | (refine wpList_ld 3 _ rfl _ _ (ld3 (seen_of G.out.hm G.out.ok).phase) rfl rfl ?_)
        | (go_at_call 46; (with_reducible refine HR1.out.mono ?_); rintro e w1 ⟨v, rfl, b1⟩; replace G := Lib.hid (G.out.kept b1); clear b1 HR1)
        | (refine wpList_man rfl _ _ rfl w1.heap.size Man.zeroM rfl rfl w1 rfl rfl Man.zero_len ?_; intro w2 hP b2 hlt; have P := Lib.hid hP; have HPB := Lib.hid (show w.heap.size < w1.heap.size from Nat.lt_of_le_of_lt (by omega) G.out.hr.size); replace G := Lib.hid (G.out.kept b2); clear b2 hlt hP; generalize w1.heap.size = p at P HPB ⊢))
      refine wp_region_held_drew (S := fun W => Has W w.heap.size 27 (Mt.cells ⟨act, h0, h1, least, phase, com, gott, trials⟩)) (by kernel_rfl) G.out.drew.hm ?_
      intro _
      replace G := Lib.hid G.out.drew
      refine wpAnyH_take (i := 0) (v := .agg (Mt.cells ⟨act, h0, h1, least, phase, com, gott, trials⟩)) rfl (by kernel_rfl) (by kernel_rfl) (by kernel_rfl) (fun _ _ _ h => h) (yields_ld (by rfl) 27 (.tmp 4) rfl _ _ (fun W hW => ld27 hW HM.out) rfl) G.out.hm ?_
      simp only [List.getElem_toArray, List.getElem_cons_succ, List.getElem_cons_zero, Act.put, List.setIfInBounds_toArray, List.set_cons_zero, List.set_cons_succ]
      refine wpAnyH_ready (rs := [1]) (by kernel_rfl) (by simp) ?_
      refine AllReadyH.cons rfl (fun K hK => ?_) AllReadyH.nil
      go_simp
      refine (err_any 11 _).mono ?_
      rintro e w1 ⟨rfl, b1⟩; replace G := Lib.hid (G.out.kept b1); clear b1
      refine hK.out _ _ G.out.hm (fun _ => ?_)
      clear hK K
      refine wpAnyH_ready (rs := [2]) (by kernel_rfl) (by simp) ?_
      refine AllReadyH.cons rfl (fun K hK => ?_) AllReadyH.nil
      refine step_row rfl 27 _ _ rfl (w.heap.size + 1 + 1 + 1) _ rfl rfl 27 _ G.out.ho (size27 G.out.ok) (old27 G.out.oko G.out.ok) (mt_all _) ?_
      intro w1 hs on; replace G := Lib.hid (G.out.seto G.out.ok hs on); clear hs on
      refine hK.out _ _ G.out.hm (fun _ => ?_)
      clear hK K
      refine wpAnyH_ready (rs := [3]) (by kernel_rfl) (by simp) ?_
      refine AllReadyH.cons rfl (fun K hK => ?_) AllReadyH.nil
      refine step_row rfl 36 _ _ rfl (w.heap.size + 1 + 1 + 1 + 1) _ rfl rfl 36 _ G.out.hr (size36 _) rfl (rp_all _) ?_
      intro w1 hs on; replace G := Lib.hid (G.out.setr hs on); clear hs on
      refine hK.out _ _ G.out.hm (fun _ => ?_)
      clear hK K
      refine wpAnyH_done (by kernel_rfl) ?_ _
      go_wp2
      exact out_ret (p := 8) (u := 9) rfl _ _ _ _ _ _ _ _ (by unfold beginM; rw [if_pos HP.out]; rfl) rfl rfl rfl (Out.mk G.out.ho G.out.hr G.out.hb) G.out.oko
    · subst hp
      go_enter Tryd.func30, Tryd.ntmps30
      go_upto_region 5 with (first
        | (refine wpList_ld 27 _ rfl _ _ (ld27 G.out.hm G.out.ok) rfl rfl ?_)
        | (refine wpList_ld 28 _ rfl _ _ (ld28 (seen_q G.out.hq).bytes) rfl rfl ?_)
        | (refine wpList_ld 3 _ rfl _ _ (ld3 (seen_of G.out.hm G.out.ok).phase) rfl rfl ?_)
        | (go_at_call 46; (with_reducible refine HR1.out.mono ?_); rintro e w1 ⟨v, rfl, b1⟩; replace G := Lib.hid (G.out.kept b1); clear b1 HR1)
        | (refine wpList_man rfl _ _ rfl w1.heap.size Man.zeroM rfl rfl w1 rfl rfl Man.zero_len ?_; intro w2 hP b2 hlt; have P := Lib.hid hP; have HPB := Lib.hid (show w.heap.size < w1.heap.size from Nat.lt_of_le_of_lt (by omega) G.out.hr.size); replace G := Lib.hid (G.out.kept b2); clear b2 hlt hP; generalize w1.heap.size = p at P HPB ⊢))
      refine wp_region_held_drew (S := fun W => Has W w.heap.size 27 (Mt.cells ⟨act, h0, h1, least, 0, com, gott, trials⟩)) (by kernel_rfl) G.out.drew.hm ?_
      intro _
      replace G := Lib.hid G.out.drew
      refine wpAnyH_take (i := 0) (v := .agg (Mt.cells ⟨act, h0, h1, least, 0, com, gott, trials⟩)) rfl (by kernel_rfl) (by kernel_rfl) (by kernel_rfl) (fun _ _ _ h => h) (yields_ld (by rfl) 27 (.tmp 4) rfl _ _ (fun W hW => ld27 hW HM.out) rfl) G.out.hm ?_
      simp only [List.getElem_toArray, List.getElem_cons_succ, List.getElem_cons_zero, Act.put, List.setIfInBounds_toArray, List.set_cons_zero, List.set_cons_succ]
      refine wpAnyH_take (i := 1) (v := .int .i64 (6)) rfl (by kernel_rfl) (by kernel_rfl) (by kernel_rfl) (fun _ _ _ h => h) (Or.inl ⟨by rfl, (fun W _ => by go_simp)⟩) G.out.hm ?_
      simp only [List.getElem_toArray, List.getElem_cons_succ, List.getElem_cons_zero, Act.put, List.setIfInBounds_toArray, List.set_cons_zero, List.set_cons_succ]
      refine wpAnyH_ready (rs := [2]) (by kernel_rfl) (by simp) ?_
      refine AllReadyH.cons rfl (fun K hK => ?_) AllReadyH.nil
      go_simp
      refine (err_any 6 _).mono ?_
      rintro e w1 ⟨rfl, b1⟩; replace G := Lib.hid (G.out.kept b1); clear b1
      refine hK.out _ _ G.out.hm (fun _ => ?_)
      clear hK K
      refine wpAnyH_ready (rs := [3]) (by kernel_rfl) (by simp) ?_
      refine AllReadyH.cons rfl (fun K hK => ?_) AllReadyH.nil
      refine step_row rfl 27 _ _ rfl (w.heap.size + 1 + 1 + 1) _ rfl rfl 27 _ G.out.ho (size27 G.out.ok) (old27 G.out.oko G.out.ok) (mt_all _) ?_
      intro w1 hs on; replace G := Lib.hid (G.out.seto G.out.ok hs on); clear hs on
      refine hK.out _ _ G.out.hm (fun _ => ?_)
      clear hK K
      refine wpAnyH_ready (rs := [4]) (by kernel_rfl) (by simp) ?_
      refine AllReadyH.cons rfl (fun K hK => ?_) AllReadyH.nil
      refine step_row rfl 36 _ _ rfl (w.heap.size + 1 + 1 + 1 + 1) _ rfl rfl 36 _ G.out.hr (size36 _) rfl (rp_all _) ?_
      intro w1 hs on; replace G := Lib.hid (G.out.setr hs on); clear hs on
      refine hK.out _ _ G.out.hm (fun _ => ?_)
      clear hK K
      refine wpAnyH_done (by kernel_rfl) ?_ _
      go_wp2
      exact out_ret (p := 8) (u := 9) rfl _ _ _ _ _ _ _ _ (by unfold beginM; rw [if_neg (not_not_intro rfl), if_pos HG.out]; rfl) rfl rfl rfl (Out.mk G.out.ho G.out.hr G.out.hb) G.out.oko
  have HG := Lib.hid hg
  have HR1 := Lib.hid (HR0.out.mono (fun e w' h => show ∃ v, e = .returned (.tuple #[.agg (Man.told bs).cells, v, .int .i64 0]) ∧ Below _ _ w' from by obtain ⟨v, h1, _, h3⟩ := h; exact ⟨v, by rw [h1, Man.readM_yes hg, Man.readE_yes hg], h3⟩))
  have HTL := Lib.hid (show (Man.told bs).dig.length = 32 from Man.dig_len hg.1)
  have HTO := Lib.hid (told_is HBT.out hg)
  have HC0 : ∀ W, Calls Tryd.prog 13 #[.int .i64 (Man.told bs).size] W fun e w' => e = .returned (.int .i64 (chunkI (Man.told bs).size)) ∧ W = w' := fun W => rchunksI_any (Man.told bs).size W HTO.out.2.2.2
  clear hg HR0
  by_cases hp : phase = 0
  rotate_left
  · have HP := Lib.hid hp
    clear ha HMV HC0 hqu
    go_enter Tryd.func30, Tryd.ntmps30
    go_upto_region 3 with (first
      | (refine wpList_ld 27 _ rfl _ _ (ld27 G.out.hm G.out.ok) rfl rfl ?_)
      | (refine wpList_ld 28 _ rfl _ _ (ld28 (seen_q G.out.hq).bytes) rfl rfl ?_)
      | (refine wpList_ld 3 _ rfl _ _ (ld3 (seen_of G.out.hm G.out.ok).phase) rfl rfl ?_)
      | (go_at_call 46; (with_reducible refine HR1.out.mono ?_); rintro e w1 ⟨v, rfl, b1⟩; replace G := Lib.hid (G.out.kept b1); clear b1 HR1)
      | (refine wpList_man rfl _ _ rfl w1.heap.size (Man.told bs) rfl rfl w1 rfl rfl HTL.out ?_; intro w2 hP b2 hlt; have P := Lib.hid hP; have HPB := Lib.hid (show w.heap.size < w1.heap.size from Nat.lt_of_le_of_lt (by omega) G.out.hr.size); replace G := Lib.hid (G.out.kept b2); clear b2 hlt hP; generalize w1.heap.size = p at P HPB ⊢)
      | (refine wpList_ld 4 _ rfl _ _ (ld4 (seen_f G.out.hf G.out.okf).name) rfl rfl ?_)
      | (refine wpList_ld 4 _ rfl _ _ (ld4 (seen_f G.out.hf G.out.okf).tag) rfl rfl ?_)
      | (refine wpList_ld 4 _ rfl _ _ (ld4 (seen_f G.out.hf G.out.okf).worn) rfl rfl ?_))
    refine wp_region_held_drew (S := fun W => Has W w.heap.size 27 (Mt.cells ⟨act, h0, h1, least, phase, com, gott, trials⟩)) (by kernel_rfl) G.out.drew.hm ?_
    intro _
    replace G := Lib.hid G.out.drew
    refine wpAnyH_take (i := 0) (v := .agg (Mt.cells ⟨act, h0, h1, least, phase, com, gott, trials⟩)) rfl (by kernel_rfl) (by kernel_rfl) (by kernel_rfl) (fun _ _ _ h => h) (yields_ld (by rfl) 27 (.tmp 4) rfl _ _ (fun W hW => ld27 hW HM.out) rfl) G.out.hm ?_
    simp only [List.getElem_toArray, List.getElem_cons_succ, List.getElem_cons_zero, Act.put, List.setIfInBounds_toArray, List.set_cons_zero, List.set_cons_succ]
    refine wpAnyH_ready (rs := [1]) (by kernel_rfl) (by simp) ?_
    refine AllReadyH.cons rfl (fun K hK => ?_) AllReadyH.nil
    go_simp
    refine (err_any 11 _).mono ?_
    rintro e w1 ⟨rfl, b1⟩; replace G := Lib.hid (G.out.kept b1); clear b1
    refine hK.out _ _ G.out.hm (fun _ => ?_)
    clear hK K
    refine wpAnyH_ready (rs := [2]) (by kernel_rfl) (by simp) ?_
    refine AllReadyH.cons rfl (fun K hK => ?_) AllReadyH.nil
    refine step_row rfl 27 _ _ rfl (w.heap.size + 1 + 1 + 1) _ rfl rfl 27 _ G.out.ho (size27 G.out.ok) (old27 G.out.oko G.out.ok) (mt_all _) ?_
    intro w1 hs on; replace G := Lib.hid (G.out.seto G.out.ok hs on); clear hs on
    refine hK.out _ _ G.out.hm (fun _ => ?_)
    clear hK K
    refine wpAnyH_ready (rs := [3]) (by kernel_rfl) (by simp) ?_
    refine AllReadyH.cons rfl (fun K hK => ?_) AllReadyH.nil
    refine step_row rfl 36 _ _ rfl (w.heap.size + 1 + 1 + 1 + 1) _ rfl rfl 36 _ G.out.hr (size36 _) rfl (rp_all _) ?_
    intro w1 hs on; replace G := Lib.hid (G.out.setr hs on); clear hs on
    refine hK.out _ _ G.out.hm (fun _ => ?_)
    clear hK K
    refine wpAnyH_done (by kernel_rfl) ?_ _
    go_wp2
    exact out_ret (p := 8) (u := 9) rfl _ _ _ _ _ _ _ _ (by unfold beginM; rw [if_pos HP.out]; rfl) rfl rfl rfl (Out.mk G.out.ho G.out.hr G.out.hb) G.out.oko
  subst hp
  obtain ⟨nm, tg, dg, wn⟩ := f
  cases nm with
  | false =>
    clear ha HMV HC0 hqu
    go_enter Tryd.func30, Tryd.ntmps30
    go_upto_region 7 with (first
      | (refine wpList_ld 27 _ rfl _ _ (ld27 G.out.hm G.out.ok) rfl rfl ?_)
      | (refine wpList_ld 28 _ rfl _ _ (ld28 (seen_q G.out.hq).bytes) rfl rfl ?_)
      | (refine wpList_ld 3 _ rfl _ _ (ld3 (seen_of G.out.hm G.out.ok).phase) rfl rfl ?_)
      | (go_at_call 46; (with_reducible refine HR1.out.mono ?_); rintro e w1 ⟨v, rfl, b1⟩; replace G := Lib.hid (G.out.kept b1); clear b1 HR1)
      | (refine wpList_man rfl _ _ rfl w1.heap.size (Man.told bs) rfl rfl w1 rfl rfl HTL.out ?_; intro w2 hP b2 hlt; have P := Lib.hid hP; have HPB := Lib.hid (show w.heap.size < w1.heap.size from Nat.lt_of_le_of_lt (by omega) G.out.hr.size); replace G := Lib.hid (G.out.kept b2); clear b2 hlt hP; generalize w1.heap.size = p at P HPB ⊢)
      | (refine wpList_ld 4 _ rfl _ _ (ld4 (seen_f G.out.hf G.out.okf).name) rfl rfl ?_)
      | (refine wpList_ld 4 _ rfl _ _ (ld4 (seen_f G.out.hf G.out.okf).tag) rfl rfl ?_)
      | (refine wpList_ld 4 _ rfl _ _ (ld4 (seen_f G.out.hf G.out.okf).worn) rfl rfl ?_))
    refine wp_region_held_drew (S := fun W => Has W w.heap.size 27 (Mt.cells ⟨act, h0, h1, least, 0, com, gott, trials⟩)) (by kernel_rfl) G.out.drew.hm ?_
    intro _
    replace G := Lib.hid G.out.drew
    refine wpAnyH_take (i := 0) (v := .agg (Mt.cells ⟨act, h0, h1, least, 0, com, gott, trials⟩)) rfl (by kernel_rfl) (by kernel_rfl) (by kernel_rfl) (fun _ _ _ h => h) (yields_ld (by rfl) 27 (.tmp 4) rfl _ _ (fun W hW => ld27 hW HM.out) rfl) G.out.hm ?_
    simp only [List.getElem_toArray, List.getElem_cons_succ, List.getElem_cons_zero, Act.put, List.setIfInBounds_toArray, List.set_cons_zero, List.set_cons_succ]
    refine wpAnyH_ready (rs := [1]) (by kernel_rfl) (by simp) ?_
    refine AllReadyH.cons rfl (fun K hK => ?_) AllReadyH.nil
    go_simp
    refine (err_any 7 _).mono ?_
    rintro e w1 ⟨rfl, b1⟩; replace G := Lib.hid (G.out.kept b1); clear b1
    refine hK.out _ _ G.out.hm (fun _ => ?_)
    clear hK K
    refine wpAnyH_ready (rs := [2]) (by kernel_rfl) (by simp) ?_
    refine AllReadyH.cons rfl (fun K hK => ?_) AllReadyH.nil
    refine step_row rfl 27 _ _ rfl (w.heap.size + 1 + 1 + 1) _ rfl rfl 27 _ G.out.ho (size27 G.out.ok) (old27 G.out.oko G.out.ok) (mt_all _) ?_
    intro w1 hs on; replace G := Lib.hid (G.out.seto G.out.ok hs on); clear hs on
    refine hK.out _ _ G.out.hm (fun _ => ?_)
    clear hK K
    refine wpAnyH_ready (rs := [3]) (by kernel_rfl) (by simp) ?_
    refine AllReadyH.cons rfl (fun K hK => ?_) AllReadyH.nil
    refine step_row rfl 36 _ _ rfl (w.heap.size + 1 + 1 + 1 + 1) _ rfl rfl 36 _ G.out.hr (size36 _) rfl (rp_all _) ?_
    intro w1 hs on; replace G := Lib.hid (G.out.setr hs on); clear hs on
    refine hK.out _ _ G.out.hm (fun _ => ?_)
    clear hK K
    refine wpAnyH_done (by kernel_rfl) ?_ _
    go_wp2
    exact out_ret (p := 8) (u := 9) rfl _ _ _ _ _ _ _ _ (begin_bad rfl HG.out (mayE7 rfl) (by decide)) rfl rfl rfl (Out.mk G.out.ho G.out.hr G.out.hb) G.out.oko
  | true =>
  cases tg with
  | false =>
    clear ha HMV HC0 hqu
    go_enter Tryd.func30, Tryd.ntmps30
    go_upto_region 9 with (first
      | (refine wpList_ld 27 _ rfl _ _ (ld27 G.out.hm G.out.ok) rfl rfl ?_)
      | (refine wpList_ld 28 _ rfl _ _ (ld28 (seen_q G.out.hq).bytes) rfl rfl ?_)
      | (refine wpList_ld 3 _ rfl _ _ (ld3 (seen_of G.out.hm G.out.ok).phase) rfl rfl ?_)
      | (go_at_call 46; (with_reducible refine HR1.out.mono ?_); rintro e w1 ⟨v, rfl, b1⟩; replace G := Lib.hid (G.out.kept b1); clear b1 HR1)
      | (refine wpList_man rfl _ _ rfl w1.heap.size (Man.told bs) rfl rfl w1 rfl rfl HTL.out ?_; intro w2 hP b2 hlt; have P := Lib.hid hP; have HPB := Lib.hid (show w.heap.size < w1.heap.size from Nat.lt_of_le_of_lt (by omega) G.out.hr.size); replace G := Lib.hid (G.out.kept b2); clear b2 hlt hP; generalize w1.heap.size = p at P HPB ⊢)
      | (refine wpList_ld 4 _ rfl _ _ (ld4 (seen_f G.out.hf G.out.okf).name) rfl rfl ?_)
      | (refine wpList_ld 4 _ rfl _ _ (ld4 (seen_f G.out.hf G.out.okf).tag) rfl rfl ?_)
      | (refine wpList_ld 4 _ rfl _ _ (ld4 (seen_f G.out.hf G.out.okf).worn) rfl rfl ?_))
    refine wp_region_held_drew (S := fun W => Has W w.heap.size 27 (Mt.cells ⟨act, h0, h1, least, 0, com, gott, trials⟩)) (by kernel_rfl) G.out.drew.hm ?_
    intro _
    replace G := Lib.hid G.out.drew
    refine wpAnyH_take (i := 0) (v := .agg (Mt.cells ⟨act, h0, h1, least, 0, com, gott, trials⟩)) rfl (by kernel_rfl) (by kernel_rfl) (by kernel_rfl) (fun _ _ _ h => h) (yields_ld (by rfl) 27 (.tmp 4) rfl _ _ (fun W hW => ld27 hW HM.out) rfl) G.out.hm ?_
    simp only [List.getElem_toArray, List.getElem_cons_succ, List.getElem_cons_zero, Act.put, List.setIfInBounds_toArray, List.set_cons_zero, List.set_cons_succ]
    refine wpAnyH_ready (rs := [1]) (by kernel_rfl) (by simp) ?_
    refine AllReadyH.cons rfl (fun K hK => ?_) AllReadyH.nil
    go_simp
    refine (err_any 8 _).mono ?_
    rintro e w1 ⟨rfl, b1⟩; replace G := Lib.hid (G.out.kept b1); clear b1
    refine hK.out _ _ G.out.hm (fun _ => ?_)
    clear hK K
    refine wpAnyH_ready (rs := [2]) (by kernel_rfl) (by simp) ?_
    refine AllReadyH.cons rfl (fun K hK => ?_) AllReadyH.nil
    refine step_row rfl 27 _ _ rfl (w.heap.size + 1 + 1 + 1) _ rfl rfl 27 _ G.out.ho (size27 G.out.ok) (old27 G.out.oko G.out.ok) (mt_all _) ?_
    intro w1 hs on; replace G := Lib.hid (G.out.seto G.out.ok hs on); clear hs on
    refine hK.out _ _ G.out.hm (fun _ => ?_)
    clear hK K
    refine wpAnyH_ready (rs := [3]) (by kernel_rfl) (by simp) ?_
    refine AllReadyH.cons rfl (fun K hK => ?_) AllReadyH.nil
    refine step_row rfl 36 _ _ rfl (w.heap.size + 1 + 1 + 1 + 1) _ rfl rfl 36 _ G.out.hr (size36 _) rfl (rp_all _) ?_
    intro w1 hs on; replace G := Lib.hid (G.out.setr hs on); clear hs on
    refine hK.out _ _ G.out.hm (fun _ => ?_)
    clear hK K
    refine wpAnyH_done (by kernel_rfl) ?_ _
    go_wp2
    exact out_ret (p := 8) (u := 9) rfl _ _ _ _ _ _ _ _ (begin_bad rfl HG.out (mayE8 rfl rfl) (by decide)) rfl rfl rfl (Out.mk G.out.ho G.out.hr G.out.hb) G.out.oko
  | true =>
  cases hv : mayV ⟨act, h0, h1, least, 0, com, gott, trials⟩ (Man.told bs).ver with
  | false =>
    have HMW := Lib.hid (HMV false hv)
    have HV := Lib.hid hv
    clear ha HMV HC0 hv hqu
    go_enter Tryd.func30, Tryd.ntmps30
    go_upto_region 11 with (first
      | (refine wpList_ld 27 _ rfl _ _ (ld27 G.out.hm G.out.ok) rfl rfl ?_)
      | (refine wpList_ld 28 _ rfl _ _ (ld28 (seen_q G.out.hq).bytes) rfl rfl ?_)
      | (refine wpList_ld 3 _ rfl _ _ (ld3 (seen_of G.out.hm G.out.ok).phase) rfl rfl ?_)
      | (go_at_call 46; (with_reducible refine HR1.out.mono ?_); rintro e w1 ⟨v, rfl, b1⟩; replace G := Lib.hid (G.out.kept b1); clear b1 HR1)
      | (refine wpList_man rfl _ _ rfl w1.heap.size (Man.told bs) rfl rfl w1 rfl rfl HTL.out ?_; intro w2 hP b2 hlt; have P := Lib.hid hP; have HPB := Lib.hid (show w.heap.size < w1.heap.size from Nat.lt_of_le_of_lt (by omega) G.out.hr.size); replace G := Lib.hid (G.out.kept b2); clear b2 hlt hP; generalize w1.heap.size = p at P HPB ⊢)
      | (refine wpList_ld 4 _ rfl _ _ (ld4 (seen_f G.out.hf G.out.okf).name) rfl rfl ?_)
      | (refine wpList_ld 4 _ rfl _ _ (ld4 (seen_f G.out.hf G.out.okf).tag) rfl rfl ?_)
      | (refine wpList_ld 4 _ rfl _ _ (ld4 (seen_f G.out.hf G.out.okf).worn) rfl rfl ?_)
      | (refine wpList_ld 3 _ rfl _ _ (ld3 ((P.out.at 1).trans (Man.mn_ver _))) rfl rfl ?_)
      | (go_at_call 47; (with_reducible refine (HMW.out _).mono ?_); rintro e w1 ⟨rfl, b1⟩; replace G := Lib.hid (G.out.kept b1); replace P := Lib.hid (P.out.kept b1); clear b1 HMW))
    refine wp_region_held_drew (S := fun W => Has W w.heap.size 27 (Mt.cells ⟨act, h0, h1, least, 0, com, gott, trials⟩)) (by kernel_rfl) G.out.drew.hm ?_
    intro _
    replace G := Lib.hid G.out.drew
    refine wpAnyH_take (i := 0) (v := .agg (Mt.cells ⟨act, h0, h1, least, 0, com, gott, trials⟩)) rfl (by kernel_rfl) (by kernel_rfl) (by kernel_rfl) (fun _ _ _ h => h) (yields_ld (by rfl) 27 (.tmp 4) rfl _ _ (fun W hW => ld27 hW HM.out) rfl) G.out.hm ?_
    simp only [List.getElem_toArray, List.getElem_cons_succ, List.getElem_cons_zero, Act.put, List.setIfInBounds_toArray, List.set_cons_zero, List.set_cons_succ]
    refine wpAnyH_ready (rs := [1]) (by kernel_rfl) (by simp) ?_
    refine AllReadyH.cons rfl (fun K hK => ?_) AllReadyH.nil
    go_simp
    refine (err_any 9 _).mono ?_
    rintro e w1 ⟨rfl, b1⟩; replace G := Lib.hid (G.out.kept b1); clear b1
    refine hK.out _ _ G.out.hm (fun _ => ?_)
    clear hK K
    refine wpAnyH_ready (rs := [2]) (by kernel_rfl) (by simp) ?_
    refine AllReadyH.cons rfl (fun K hK => ?_) AllReadyH.nil
    refine step_row rfl 27 _ _ rfl (w.heap.size + 1 + 1 + 1) _ rfl rfl 27 _ G.out.ho (size27 G.out.ok) (old27 G.out.oko G.out.ok) (mt_all _) ?_
    intro w1 hs on; replace G := Lib.hid (G.out.seto G.out.ok hs on); clear hs on
    refine hK.out _ _ G.out.hm (fun _ => ?_)
    clear hK K
    refine wpAnyH_ready (rs := [3]) (by kernel_rfl) (by simp) ?_
    refine AllReadyH.cons rfl (fun K hK => ?_) AllReadyH.nil
    refine step_row rfl 36 _ _ rfl (w.heap.size + 1 + 1 + 1 + 1) _ rfl rfl 36 _ G.out.hr (size36 _) rfl (rp_all _) ?_
    intro w1 hs on; replace G := Lib.hid (G.out.setr hs on); clear hs on
    refine hK.out _ _ G.out.hm (fun _ => ?_)
    clear hK K
    refine wpAnyH_done (by kernel_rfl) ?_ _
    go_wp2
    exact out_ret (p := 8) (u := 9) rfl _ _ _ _ _ _ _ _ (begin_bad rfl HG.out (mayE9 rfl rfl HV.out) (by decide)) rfl rfl rfl (Out.mk G.out.ho G.out.hr G.out.hb) G.out.oko
  | true =>
  have HMW := Lib.hid (HMV true hv)
  have HV := Lib.hid hv
  clear HMV hv
  obtain ⟨x, hx⟩ : ∃ x, chunkI (Man.told bs).size = x := ⟨_, rfl⟩
  rw [hx] at HC0
  have HC := Lib.hid HC0
  have HX := Lib.hid (show chunkI (imOf (Man.told bs)).size = x from hx)
  clear hx HC0
  unfold I64 at hqu
  by_cases hq : quota < x
  · have dq : decide (quota < x) = true := decide_eq_true hq
    have HQ := Lib.hid hq
    clear ha hqu
    go_enter Tryd.func30, Tryd.ntmps30
    go_upto_region 13 with (first
      | (refine wpList_ld 27 _ rfl _ _ (ld27 G.out.hm G.out.ok) rfl rfl ?_)
      | (refine wpList_ld 28 _ rfl _ _ (ld28 (seen_q G.out.hq).bytes) rfl rfl ?_)
      | (refine wpList_ld 3 _ rfl _ _ (ld3 (seen_of G.out.hm G.out.ok).phase) rfl rfl ?_)
      | (go_at_call 46; (with_reducible refine HR1.out.mono ?_); rintro e w1 ⟨v, rfl, b1⟩; replace G := Lib.hid (G.out.kept b1); clear b1 HR1)
      | (refine wpList_man rfl _ _ rfl w1.heap.size (Man.told bs) rfl rfl w1 rfl rfl HTL.out ?_; intro w2 hP b2 hlt; have P := Lib.hid hP; have HPB := Lib.hid (show w.heap.size < w1.heap.size from Nat.lt_of_le_of_lt (by omega) G.out.hr.size); replace G := Lib.hid (G.out.kept b2); clear b2 hlt hP; generalize w1.heap.size = p at P HPB ⊢)
      | (refine wpList_ld 4 _ rfl _ _ (ld4 (seen_f G.out.hf G.out.okf).name) rfl rfl ?_)
      | (refine wpList_ld 4 _ rfl _ _ (ld4 (seen_f G.out.hf G.out.okf).tag) rfl rfl ?_)
      | (refine wpList_ld 4 _ rfl _ _ (ld4 (seen_f G.out.hf G.out.okf).worn) rfl rfl ?_)
      | (refine wpList_ld 3 _ rfl _ _ (ld3 ((P.out.at 1).trans (Man.mn_ver _))) rfl rfl ?_)
      | (go_at_call 47; (with_reducible refine (HMW.out _).mono ?_); rintro e w1 ⟨rfl, b1⟩; replace G := Lib.hid (G.out.kept b1); replace P := Lib.hid (P.out.kept b1); clear b1 HMW)
      | (refine wpList_ld 3 _ rfl _ _ (ld3 ((P.out.at 2).trans (Man.mn_siz _))) rfl rfl ?_)
      | (go_at_call 13; (with_reducible refine (HC.out _).mono ?_); rintro e w1 ⟨rfl, rfl⟩))
    refine wp_region_held_drew (S := fun W => Has W w.heap.size 27 (Mt.cells ⟨act, h0, h1, least, 0, com, gott, trials⟩)) (by kernel_rfl) G.out.drew.hm ?_
    intro _
    replace G := Lib.hid G.out.drew
    refine wpAnyH_take (i := 0) (v := .agg (Mt.cells ⟨act, h0, h1, least, 0, com, gott, trials⟩)) rfl (by kernel_rfl) (by kernel_rfl) (by kernel_rfl) (fun _ _ _ h => h) (yields_ld (by rfl) 27 (.tmp 4) rfl _ _ (fun W hW => ld27 hW HM.out) rfl) G.out.hm ?_
    simp only [List.getElem_toArray, List.getElem_cons_succ, List.getElem_cons_zero, Act.put, List.setIfInBounds_toArray, List.set_cons_zero, List.set_cons_succ]
    refine wpAnyH_ready (rs := [1]) (by kernel_rfl) (by simp) ?_
    refine AllReadyH.cons rfl (fun K hK => ?_) AllReadyH.nil
    go_simp
    refine (err_any 10 _).mono ?_
    rintro e w1 ⟨rfl, b1⟩; replace G := Lib.hid (G.out.kept b1); clear b1
    refine hK.out _ _ G.out.hm (fun _ => ?_)
    clear hK K
    refine wpAnyH_ready (rs := [2]) (by kernel_rfl) (by simp) ?_
    refine AllReadyH.cons rfl (fun K hK => ?_) AllReadyH.nil
    refine step_row rfl 27 _ _ rfl (w.heap.size + 1 + 1 + 1) _ rfl rfl 27 _ G.out.ho (size27 G.out.ok) (old27 G.out.oko G.out.ok) (mt_all _) ?_
    intro w1 hs on; replace G := Lib.hid (G.out.seto G.out.ok hs on); clear hs on
    refine hK.out _ _ G.out.hm (fun _ => ?_)
    clear hK K
    refine wpAnyH_ready (rs := [3]) (by kernel_rfl) (by simp) ?_
    refine AllReadyH.cons rfl (fun K hK => ?_) AllReadyH.nil
    refine step_row rfl 36 _ _ rfl (w.heap.size + 1 + 1 + 1 + 1) _ rfl rfl 36 _ G.out.hr (size36 _) rfl (rp_all _) ?_
    intro w1 hs on; replace G := Lib.hid (G.out.setr hs on); clear hs on
    refine hK.out _ _ G.out.hm (fun _ => ?_)
    clear hK K
    refine wpAnyH_done (by kernel_rfl) ?_ _
    go_wp2
    exact out_ret (p := 8) (u := 9) rfl _ _ _ _ _ _ _ _ (begin_bad rfl HG.out (mayE10 rfl rfl HV.out (.inl (by rw [HX.out]; exact HQ.out))) (by decide)) rfl rfl rfl (Out.mk G.out.ho G.out.hr G.out.hb) G.out.oko
  have dq : decide (quota < x) = false := decide_eq_false hq
  by_cases h6 : 6 < x
  · have d6 : decide (6 < x) = true := decide_eq_true h6
    have HQ := Lib.hid h6
    clear ha hqu
    go_enter Tryd.func30, Tryd.ntmps30
    go_upto_region 13 with (first
      | (refine wpList_ld 27 _ rfl _ _ (ld27 G.out.hm G.out.ok) rfl rfl ?_)
      | (refine wpList_ld 28 _ rfl _ _ (ld28 (seen_q G.out.hq).bytes) rfl rfl ?_)
      | (refine wpList_ld 3 _ rfl _ _ (ld3 (seen_of G.out.hm G.out.ok).phase) rfl rfl ?_)
      | (go_at_call 46; (with_reducible refine HR1.out.mono ?_); rintro e w1 ⟨v, rfl, b1⟩; replace G := Lib.hid (G.out.kept b1); clear b1 HR1)
      | (refine wpList_man rfl _ _ rfl w1.heap.size (Man.told bs) rfl rfl w1 rfl rfl HTL.out ?_; intro w2 hP b2 hlt; have P := Lib.hid hP; have HPB := Lib.hid (show w.heap.size < w1.heap.size from Nat.lt_of_le_of_lt (by omega) G.out.hr.size); replace G := Lib.hid (G.out.kept b2); clear b2 hlt hP; generalize w1.heap.size = p at P HPB ⊢)
      | (refine wpList_ld 4 _ rfl _ _ (ld4 (seen_f G.out.hf G.out.okf).name) rfl rfl ?_)
      | (refine wpList_ld 4 _ rfl _ _ (ld4 (seen_f G.out.hf G.out.okf).tag) rfl rfl ?_)
      | (refine wpList_ld 4 _ rfl _ _ (ld4 (seen_f G.out.hf G.out.okf).worn) rfl rfl ?_)
      | (refine wpList_ld 3 _ rfl _ _ (ld3 ((P.out.at 1).trans (Man.mn_ver _))) rfl rfl ?_)
      | (go_at_call 47; (with_reducible refine (HMW.out _).mono ?_); rintro e w1 ⟨rfl, b1⟩; replace G := Lib.hid (G.out.kept b1); replace P := Lib.hid (P.out.kept b1); clear b1 HMW)
      | (refine wpList_ld 3 _ rfl _ _ (ld3 ((P.out.at 2).trans (Man.mn_siz _))) rfl rfl ?_)
      | (go_at_call 13; (with_reducible refine (HC.out _).mono ?_); rintro e w1 ⟨rfl, rfl⟩))
    refine wp_region_held_drew (S := fun W => Has W w.heap.size 27 (Mt.cells ⟨act, h0, h1, least, 0, com, gott, trials⟩)) (by kernel_rfl) G.out.drew.hm ?_
    intro _
    replace G := Lib.hid G.out.drew
    refine wpAnyH_take (i := 0) (v := .agg (Mt.cells ⟨act, h0, h1, least, 0, com, gott, trials⟩)) rfl (by kernel_rfl) (by kernel_rfl) (by kernel_rfl) (fun _ _ _ h => h) (yields_ld (by rfl) 27 (.tmp 4) rfl _ _ (fun W hW => ld27 hW HM.out) rfl) G.out.hm ?_
    simp only [List.getElem_toArray, List.getElem_cons_succ, List.getElem_cons_zero, Act.put, List.setIfInBounds_toArray, List.set_cons_zero, List.set_cons_succ]
    refine wpAnyH_ready (rs := [1]) (by kernel_rfl) (by simp) ?_
    refine AllReadyH.cons rfl (fun K hK => ?_) AllReadyH.nil
    go_simp
    refine (err_any 10 _).mono ?_
    rintro e w1 ⟨rfl, b1⟩; replace G := Lib.hid (G.out.kept b1); clear b1
    refine hK.out _ _ G.out.hm (fun _ => ?_)
    clear hK K
    refine wpAnyH_ready (rs := [2]) (by kernel_rfl) (by simp) ?_
    refine AllReadyH.cons rfl (fun K hK => ?_) AllReadyH.nil
    refine step_row rfl 27 _ _ rfl (w.heap.size + 1 + 1 + 1) _ rfl rfl 27 _ G.out.ho (size27 G.out.ok) (old27 G.out.oko G.out.ok) (mt_all _) ?_
    intro w1 hs on; replace G := Lib.hid (G.out.seto G.out.ok hs on); clear hs on
    refine hK.out _ _ G.out.hm (fun _ => ?_)
    clear hK K
    refine wpAnyH_ready (rs := [3]) (by kernel_rfl) (by simp) ?_
    refine AllReadyH.cons rfl (fun K hK => ?_) AllReadyH.nil
    refine step_row rfl 36 _ _ rfl (w.heap.size + 1 + 1 + 1 + 1) _ rfl rfl 36 _ G.out.hr (size36 _) rfl (rp_all _) ?_
    intro w1 hs on; replace G := Lib.hid (G.out.setr hs on); clear hs on
    refine hK.out _ _ G.out.hm (fun _ => ?_)
    clear hK K
    refine wpAnyH_done (by kernel_rfl) ?_ _
    go_wp2
    exact out_ret (p := 8) (u := 9) rfl _ _ _ _ _ _ _ _ (begin_bad rfl HG.out (mayE10 rfl rfl HV.out (.inr (by rw [HX.out]; exact HQ.out))) (by decide)) rfl rfl rfl (Out.mk G.out.ho G.out.hr G.out.hb) G.out.oko
  have d6 : decide (6 < x) = false := decide_eq_false h6
  have HQ := Lib.hid (show ¬ (quota < chunkI (imOf (Man.told bs)).size ∨ 6 < chunkI (imOf (Man.told bs)).size) by rw [HX.out]; exact fun h => h.elim hq h6)
  clear hqu
  cases wn with
  | true =>
    clear ha
    go_enter Tryd.func30, Tryd.ntmps30
    go_upto_region 15 with (first
      | (refine wpList_ld 27 _ rfl _ _ (ld27 G.out.hm G.out.ok) rfl rfl ?_)
      | (refine wpList_ld 28 _ rfl _ _ (ld28 (seen_q G.out.hq).bytes) rfl rfl ?_)
      | (refine wpList_ld 3 _ rfl _ _ (ld3 (seen_of G.out.hm G.out.ok).phase) rfl rfl ?_)
      | (go_at_call 46; (with_reducible refine HR1.out.mono ?_); rintro e w1 ⟨v, rfl, b1⟩; replace G := Lib.hid (G.out.kept b1); clear b1 HR1)
      | (refine wpList_man rfl _ _ rfl w1.heap.size (Man.told bs) rfl rfl w1 rfl rfl HTL.out ?_; intro w2 hP b2 hlt; have P := Lib.hid hP; have HPB := Lib.hid (show w.heap.size < w1.heap.size from Nat.lt_of_le_of_lt (by omega) G.out.hr.size); replace G := Lib.hid (G.out.kept b2); clear b2 hlt hP; generalize w1.heap.size = p at P HPB ⊢)
      | (refine wpList_ld 4 _ rfl _ _ (ld4 (seen_f G.out.hf G.out.okf).name) rfl rfl ?_)
      | (refine wpList_ld 4 _ rfl _ _ (ld4 (seen_f G.out.hf G.out.okf).tag) rfl rfl ?_)
      | (refine wpList_ld 4 _ rfl _ _ (ld4 (seen_f G.out.hf G.out.okf).worn) rfl rfl ?_)
      | (refine wpList_ld 3 _ rfl _ _ (ld3 ((P.out.at 1).trans (Man.mn_ver _))) rfl rfl ?_)
      | (go_at_call 47; (with_reducible refine (HMW.out _).mono ?_); rintro e w1 ⟨rfl, b1⟩; replace G := Lib.hid (G.out.kept b1); replace P := Lib.hid (P.out.kept b1); clear b1 HMW)
      | (refine wpList_ld 3 _ rfl _ _ (ld3 ((P.out.at 2).trans (Man.mn_siz _))) rfl rfl ?_)
      | (go_at_call 13; (with_reducible refine (HC.out _).mono ?_); rintro e w1 ⟨rfl, rfl⟩))
    refine wp_region_held_drew (S := fun W => Has W w.heap.size 27 (Mt.cells ⟨act, h0, h1, least, 0, com, gott, trials⟩)) (by kernel_rfl) G.out.drew.hm ?_
    intro _
    replace G := Lib.hid G.out.drew
    refine wpAnyH_take (i := 0) (v := .agg (Mt.cells ⟨act, h0, h1, least, 0, com, gott, trials⟩)) rfl (by kernel_rfl) (by kernel_rfl) (by kernel_rfl) (fun _ _ _ h => h) (yields_ld (by rfl) 27 (.tmp 4) rfl _ _ (fun W hW => ld27 hW HM.out) rfl) G.out.hm ?_
    simp only [List.getElem_toArray, List.getElem_cons_succ, List.getElem_cons_zero, Act.put, List.setIfInBounds_toArray, List.set_cons_zero, List.set_cons_succ]
    refine wpAnyH_ready (rs := [1]) (by kernel_rfl) (by simp) ?_
    refine AllReadyH.cons rfl (fun K hK => ?_) AllReadyH.nil
    go_simp
    refine (err_any 5 _).mono ?_
    rintro e w1 ⟨rfl, b1⟩; replace G := Lib.hid (G.out.kept b1); clear b1
    refine hK.out _ _ G.out.hm (fun _ => ?_)
    clear hK K
    refine wpAnyH_ready (rs := [2]) (by kernel_rfl) (by simp) ?_
    refine AllReadyH.cons rfl (fun K hK => ?_) AllReadyH.nil
    refine step_row rfl 27 _ _ rfl (w.heap.size + 1 + 1 + 1) _ rfl rfl 27 _ G.out.ho (size27 G.out.ok) (old27 G.out.oko G.out.ok) (mt_all _) ?_
    intro w1 hs on; replace G := Lib.hid (G.out.seto G.out.ok hs on); clear hs on
    refine hK.out _ _ G.out.hm (fun _ => ?_)
    clear hK K
    refine wpAnyH_ready (rs := [3]) (by kernel_rfl) (by simp) ?_
    refine AllReadyH.cons rfl (fun K hK => ?_) AllReadyH.nil
    refine step_row rfl 36 _ _ rfl (w.heap.size + 1 + 1 + 1 + 1) _ rfl rfl 36 _ G.out.hr (size36 _) rfl (rp_all _) ?_
    intro w1 hs on; replace G := Lib.hid (G.out.setr hs on); clear hs on
    refine hK.out _ _ G.out.hm (fun _ => ?_)
    clear hK K
    refine wpAnyH_done (by kernel_rfl) ?_ _
    go_wp2
    exact out_ret (p := 8) (u := 9) rfl _ _ _ _ _ _ _ _ (begin_bad rfl HG.out (mayE5 rfl rfl HV.out HQ.out rfl) (by decide)) rfl rfl rfl (Out.mk G.out.ho G.out.hr G.out.hb) G.out.oko
  | false =>
    rcases ha with rfl | rfl
    · skip
      go_enter Tryd.func30, Tryd.ntmps30
      go_wp2_with (first
        | (refine wpList_ld 27 _ rfl _ _ (ld27 G.out.hm G.out.ok) rfl rfl ?_)
        | (refine wpList_ld 28 _ rfl _ _ (ld28 (seen_q G.out.hq).bytes) rfl rfl ?_)
        | (refine wpList_ld 3 _ rfl _ _ (ld3 (seen_of G.out.hm G.out.ok).phase) rfl rfl ?_)
        | (go_at_call 46; (with_reducible refine HR1.out.mono ?_); rintro e w1 ⟨v, rfl, b1⟩; replace G := Lib.hid (G.out.kept b1); clear b1 HR1)
        | (refine wpList_man rfl _ _ rfl w1.heap.size (Man.told bs) rfl rfl w1 rfl rfl HTL.out ?_; intro w2 hP b2 hlt; have P := Lib.hid hP; have HPB := Lib.hid (show w.heap.size < w1.heap.size from Nat.lt_of_le_of_lt (by omega) G.out.hr.size); replace G := Lib.hid (G.out.kept b2); clear b2 hlt hP; generalize w1.heap.size = p at P HPB ⊢)
        | (refine wpList_ld 4 _ rfl _ _ (ld4 (seen_f G.out.hf G.out.okf).name) rfl rfl ?_)
        | (refine wpList_ld 4 _ rfl _ _ (ld4 (seen_f G.out.hf G.out.okf).tag) rfl rfl ?_)
        | (refine wpList_ld 4 _ rfl _ _ (ld4 (seen_f G.out.hf G.out.okf).worn) rfl rfl ?_)
        | (refine wpList_ld 3 _ rfl _ _ (ld3 ((P.out.at 1).trans (Man.mn_ver _))) rfl rfl ?_)
        | (go_at_call 47; (with_reducible refine (HMW.out _).mono ?_); rintro e w1 ⟨rfl, b1⟩; replace G := Lib.hid (G.out.kept b1); replace P := Lib.hid (P.out.kept b1); clear b1 HMW)
        | (refine wpList_ld 3 _ rfl _ _ (ld3 ((P.out.at 2).trans (Man.mn_siz _))) rfl rfl ?_)
        | (go_at_call 13; (with_reducible refine (HC.out _).mono ?_); rintro e w1 ⟨rfl, rfl⟩)
        | (refine wpList_ld 24 _ rfl _ _ (ld_told P.out HTL.out) rfl rfl ?_)
        | (refine wpList_st3 rfl _ _ rfl w.heap.size 70 _ rfl rfl _ _ G.out.hm (by omega) (mt_set70 _ G.out.ok) G.out.ok ?_; intro w1 hs on; replace P := Lib.hid (Has.only P.out on (by have := HPB.out; show ¬ p = w.heap.size; omega)); replace G := Lib.hid (G.out.set (ok_phase G.out.ok (by unfold I64; omega)) hs on); clear hs on)
        | (refine wpList_st24 rfl _ _ rfl w.heap.size 71 _ rfl rfl _ _ G.out.ok HTO.out G.out.hm (mt_put2 _ G.out.ok HTO.out) (by omega) ?_; intro w1 hs on; replace P := Lib.hid (Has.only P.out on (by have := HPB.out; show ¬ p = w.heap.size; omega)); replace G := Lib.hid (G.out.set (ok_com G.out.ok HTO.out) hs on); clear hs on)
        | (refine wpList_st3 rfl _ _ rfl w.heap.size 105 _ rfl rfl _ _ G.out.hm (by omega) (mt_set105 _ G.out.ok) G.out.ok ?_; intro w1 hs on; replace G := Lib.hid (G.out.set (ok_gott G.out.ok i64_zero) hs on); clear hs on)
        | (refine wpList_ld 3 _ rfl _ _ (ld3 (seen_of G.out.hm G.out.ok).act) rfl rfl ?_)
        | (refine wpList_build_to rfl 24 _ rfl _ built24 ?_)
        | (refine wpList_st24 rfl _ _ rfl w.heap.size 35 _ rfl rfl _ _ G.out.ok zeroI_ok G.out.hm (mt_put1 _ G.out.ok zeroI_ok) (by omega) ?_; intro w1 hs on; replace G := Lib.hid (G.out.set (ok_h1 G.out.ok zeroI_ok) hs on); clear hs on)
        | (refine wpList_build_to rfl 36 _ rfl _ built36 ?_)
        | (refine wpList_row rfl 27 _ _ rfl (w.heap.size + 1 + 1 + 1) _ rfl rfl 27 _ G.out.ho (size27 G.out.ok) (old27 G.out.oko G.out.ok) (mt_all _) ?_; intro w1 hs on; replace G := Lib.hid (G.out.seto G.out.ok hs on); clear hs on)
        | (refine wpList_row rfl 36 _ _ rfl (w.heap.size + 1 + 1 + 1 + 1) _ rfl rfl 36 _ G.out.hr (size36 _) rfl (rp_all _) ?_; intro w1 hs on; replace G := Lib.hid (G.out.setr hs on); clear hs on))
      exact out_ret (p := 8) (u := 9) rfl _ _ _ _ _ _ _ _ (by unfold beginM; rw [if_neg (not_not_intro rfl), if_neg (not_not_intro HG.out), mayE0 rfl rfl HV.out HQ.out rfl, if_neg (not_not_intro rfl)]; rfl) rfl rfl rfl (Out.mk G.out.ho G.out.hr G.out.hb) G.out.oko
    · skip
      go_enter Tryd.func30, Tryd.ntmps30
      go_wp2_with (first
        | (refine wpList_ld 27 _ rfl _ _ (ld27 G.out.hm G.out.ok) rfl rfl ?_)
        | (refine wpList_ld 28 _ rfl _ _ (ld28 (seen_q G.out.hq).bytes) rfl rfl ?_)
        | (refine wpList_ld 3 _ rfl _ _ (ld3 (seen_of G.out.hm G.out.ok).phase) rfl rfl ?_)
        | (go_at_call 46; (with_reducible refine HR1.out.mono ?_); rintro e w1 ⟨v, rfl, b1⟩; replace G := Lib.hid (G.out.kept b1); clear b1 HR1)
        | (refine wpList_man rfl _ _ rfl w1.heap.size (Man.told bs) rfl rfl w1 rfl rfl HTL.out ?_; intro w2 hP b2 hlt; have P := Lib.hid hP; have HPB := Lib.hid (show w.heap.size < w1.heap.size from Nat.lt_of_le_of_lt (by omega) G.out.hr.size); replace G := Lib.hid (G.out.kept b2); clear b2 hlt hP; generalize w1.heap.size = p at P HPB ⊢)
        | (refine wpList_ld 4 _ rfl _ _ (ld4 (seen_f G.out.hf G.out.okf).name) rfl rfl ?_)
        | (refine wpList_ld 4 _ rfl _ _ (ld4 (seen_f G.out.hf G.out.okf).tag) rfl rfl ?_)
        | (refine wpList_ld 4 _ rfl _ _ (ld4 (seen_f G.out.hf G.out.okf).worn) rfl rfl ?_)
        | (refine wpList_ld 3 _ rfl _ _ (ld3 ((P.out.at 1).trans (Man.mn_ver _))) rfl rfl ?_)
        | (go_at_call 47; (with_reducible refine (HMW.out _).mono ?_); rintro e w1 ⟨rfl, b1⟩; replace G := Lib.hid (G.out.kept b1); replace P := Lib.hid (P.out.kept b1); clear b1 HMW)
        | (refine wpList_ld 3 _ rfl _ _ (ld3 ((P.out.at 2).trans (Man.mn_siz _))) rfl rfl ?_)
        | (go_at_call 13; (with_reducible refine (HC.out _).mono ?_); rintro e w1 ⟨rfl, rfl⟩)
        | (refine wpList_ld 24 _ rfl _ _ (ld_told P.out HTL.out) rfl rfl ?_)
        | (refine wpList_st3 rfl _ _ rfl w.heap.size 70 _ rfl rfl _ _ G.out.hm (by omega) (mt_set70 _ G.out.ok) G.out.ok ?_; intro w1 hs on; replace P := Lib.hid (Has.only P.out on (by have := HPB.out; show ¬ p = w.heap.size; omega)); replace G := Lib.hid (G.out.set (ok_phase G.out.ok (by unfold I64; omega)) hs on); clear hs on)
        | (refine wpList_st24 rfl _ _ rfl w.heap.size 71 _ rfl rfl _ _ G.out.ok HTO.out G.out.hm (mt_put2 _ G.out.ok HTO.out) (by omega) ?_; intro w1 hs on; replace P := Lib.hid (Has.only P.out on (by have := HPB.out; show ¬ p = w.heap.size; omega)); replace G := Lib.hid (G.out.set (ok_com G.out.ok HTO.out) hs on); clear hs on)
        | (refine wpList_st3 rfl _ _ rfl w.heap.size 105 _ rfl rfl _ _ G.out.hm (by omega) (mt_set105 _ G.out.ok) G.out.ok ?_; intro w1 hs on; replace G := Lib.hid (G.out.set (ok_gott G.out.ok i64_zero) hs on); clear hs on)
        | (refine wpList_ld 3 _ rfl _ _ (ld3 (seen_of G.out.hm G.out.ok).act) rfl rfl ?_)
        | (refine wpList_build_to rfl 24 _ rfl _ built24 ?_)
        | (refine wpList_st24 rfl _ _ rfl w.heap.size 1 _ rfl rfl _ _ G.out.ok zeroI_ok G.out.hm (mt_put0 _ G.out.ok zeroI_ok) (by omega) ?_; intro w1 hs on; replace G := Lib.hid (G.out.set (ok_h0 G.out.ok zeroI_ok) hs on); clear hs on)
        | (refine wpList_build_to rfl 36 _ rfl _ built36 ?_)
        | (refine wpList_row rfl 27 _ _ rfl (w.heap.size + 1 + 1 + 1) _ rfl rfl 27 _ G.out.ho (size27 G.out.ok) (old27 G.out.oko G.out.ok) (mt_all _) ?_; intro w1 hs on; replace G := Lib.hid (G.out.seto G.out.ok hs on); clear hs on)
        | (refine wpList_row rfl 36 _ _ rfl (w.heap.size + 1 + 1 + 1 + 1) _ rfl rfl 36 _ G.out.hr (size36 _) rfl (rp_all _) ?_; intro w1 hs on; replace G := Lib.hid (G.out.setr hs on); clear hs on))
      exact out_ret (p := 8) (u := 9) rfl _ _ _ _ _ _ _ _ (by unfold beginM; rw [if_neg (not_not_intro rfl), if_neg (not_not_intro HG.out), mayE0 rfl rfl HV.out HQ.out rfl, if_neg (not_not_intro rfl)]; rfl) rfl rfl rfl (Out.mk G.out.ho G.out.hr G.out.hb) G.out.oko
end Go.Proofs.YtcokpdhhpaahgaaDoor
