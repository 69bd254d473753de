/-
  A request to confirm, as the program does it; conditions: what is kept is of 64 bits, of two slots; the digest is of 32 bytes.
-/
import Derived.Test.YtcokpdhhpaahgaaDoorMUp
import Derived.Deep.RegionHeld3
import Derived.Deep.Cut
namespace Go.Proofs.YtcokpdhhpaahgaaDoor
open Go.RowKit
set_option linter.unusedVariables false
set_option linter.unusedSimpArgs false

set_option maxRecDepth 100000 in
set_option maxHeartbeats 4000000 in
theorem confirmR_any (m : Mt) (f : Fc) (w : World) (hm : m.Ok) (hf : f.Ok) (ha : m.act = 0 ∨ m.act = 1) : Calls Tryd.prog 26 #[.agg m.cells, .agg f.cells] w (Does (confirmM m f) w) := by
  have hz27 := zero27_run
  have hz36 := zero36_run
  obtain ⟨act, h0, h1, least, phase, com, gott, trials⟩ := m
  obtain ⟨nm, tg, dg, wn⟩ := f
  simp only at ha
  have HC := Lib.hid (fun W => confirm_any _ W hm)
  have HI := Lib.hid (conf_i64 hm)
  have G := Lib.hid (fq_new w hm hf)
  clear hm hf
  by_cases hp : phase = 3
  · subst hp
    by_cases ht : trials = 2
    · subst ht
      clear ha
      go_enter Tryd.func26, Tryd.ntmps26
      go_wp2_with (first
        | (refine wpList_ld 27 _ rfl _ _ (ld27 G.out.hm G.out.ok) rfl rfl ?_)
        | (refine wpList_ld 3 _ rfl _ _ (ld3 (seen_of G.out.hm G.out.ok).phase) rfl rfl ?_)
        | (refine wpList_ld 3 _ rfl _ _ (ld3 (seen_of G.out.hm G.out.ok).trials) rfl rfl ?_)
        | (refine wpList_ld 4 _ rfl _ _ (ld4 (seen_f G.out.hf G.out.okf).worn) rfl rfl ?_)
        | (go_at_call 20; (with_reducible refine (refuse_any _ _ _ G.out.ok).mono ?_); rintro e w1 ⟨rfl, b1⟩; replace G := Lib.hid (G.out.kept b1); clear b1)
        | (refine wpList_row rfl 27 _ _ rfl (w.heap.size + 1 + 1) _ rfl rfl 27 _ G.out.ho (size27 G.out.ok) (old27 G.out.oko G.out.ok) (mt_all _) ?_; intro w1 hs on; replace G := Lib.hid (G.out.seto G.out.ok hs on); clear hs on)
        | (refine wpList_row rfl 36 _ _ rfl (w.heap.size + 1 + 1 + 1) _ rfl rfl 36 _ G.out.hr (size36 _) rfl (rp_all _) ?_; intro w1 hs on; replace G := Lib.hid (G.out.setr hs on); clear hs on))
      exact out_ret (p := 4) (u := 5) rfl _ _ _ _ _ _ _ _ (by unfold confirmM; rw [if_pos (.inr rfl)]; rfl) rfl rfl rfl (Out.mk G.out.ho G.out.hr G.out.hb) G.out.oko
    have HT := Lib.hid ht
    have d2 : (trials == 2) = false := by simp [ht]
    cases wn with
    | true =>
      clear ha
      go_enter Tryd.func26, Tryd.ntmps26
      go_wp2_with (first
        | (refine wpList_ld 27 _ rfl _ _ (ld27 G.out.hm G.out.ok) rfl rfl ?_)
        | (refine wpList_ld 3 _ rfl _ _ (ld3 (seen_of G.out.hm G.out.ok).phase) rfl rfl ?_)
        | (refine wpList_ld 3 _ rfl _ _ (ld3 (seen_of G.out.hm G.out.ok).trials) rfl rfl ?_)
        | (refine wpList_ld 4 _ rfl _ _ (ld4 (seen_f G.out.hf G.out.okf).worn) rfl rfl ?_)
        | (go_at_call 20; (with_reducible refine (refuse_any _ _ _ G.out.ok).mono ?_); rintro e w1 ⟨rfl, b1⟩; replace G := Lib.hid (G.out.kept b1); clear b1)
        | (refine wpList_row rfl 27 _ _ rfl (w.heap.size + 1 + 1) _ rfl rfl 27 _ G.out.ho (size27 G.out.ok) (old27 G.out.oko G.out.ok) (mt_all _) ?_; intro w1 hs on; replace G := Lib.hid (G.out.seto G.out.ok hs on); clear hs on)
        | (refine wpList_row rfl 36 _ _ rfl (w.heap.size + 1 + 1 + 1) _ rfl rfl 36 _ G.out.hr (size36 _) rfl (rp_all _) ?_; intro w1 hs on; replace G := Lib.hid (G.out.setr hs on); clear hs on))
      exact out_ret (p := 4) (u := 5) rfl _ _ _ _ _ _ _ _ (by unfold confirmM; rw [if_neg (fun h => h.elim (fun h => h rfl) HT.out), if_pos rfl]; rfl) rfl rfl rfl (Out.mk G.out.ho G.out.hr G.out.hb) G.out.oko
    | false =>
      obtain ⟨cn, hcn⟩ : ∃ x, confN ⟨act, h0, h1, least, 3, com, gott, trials⟩ = x := ⟨_, rfl⟩
      rw [hcn] at HC HI
      have HCN := Lib.hid hcn
      clear hcn
      rcases ha with rfl | rfl
      · skip
        go_enter Tryd.func26, Tryd.ntmps26
        go_wp2_with (first
          | (refine wpList_ld 27 _ rfl _ _ (ld27 G.out.hm G.out.ok) rfl rfl ?_)
          | (refine wpList_ld 3 _ rfl _ _ (ld3 (seen_of G.out.hm G.out.ok).phase) rfl rfl ?_)
          | (refine wpList_ld 3 _ rfl _ _ (ld3 (seen_of G.out.hm G.out.ok).trials) rfl rfl ?_)
          | (refine wpList_ld 4 _ rfl _ _ (ld4 (seen_f G.out.hf G.out.okf).worn) rfl rfl ?_)
          | (go_at_call 45; (with_reducible refine (HC.out _).mono ?_); rintro e w1 ⟨rfl, b1⟩; replace G := Lib.hid (G.out.kept b1); clear b1)
          | (refine wpList_st3 rfl _ _ rfl w.heap.size 69 _ rfl rfl _ _ G.out.hm (by omega) (mt_set69 _ G.out.ok) G.out.ok ?_; intro w1 hs on; replace G := Lib.hid (G.out.set (ok_least G.out.ok HI.out) hs on); clear hs on)
          | (go_at_call 42; (with_reducible refine (other_any _ 1 _ G.out.ok rfl (.inl rfl)).mono ?_); rintro e w1 ⟨rfl, b1⟩; replace G := Lib.hid (G.out.kept b1); clear b1)
          | (refine wpList_st3 rfl _ _ rfl w.heap.size 0 _ rfl rfl _ _ G.out.hm (by omega) (mt_set0 _ _) G.out.ok ?_; intro w1 hs on; replace G := Lib.hid (G.out.set (ok_act G.out.ok (by unfold I64; omega)) hs on); clear hs on)
          | (refine wpList_st3 rfl _ _ rfl w.heap.size 70 _ rfl rfl _ _ G.out.hm (by omega) (mt_set70 _ G.out.ok) G.out.ok ?_; intro w1 hs on; replace G := Lib.hid (G.out.set (ok_phase G.out.ok i64_zero) hs on); clear hs on)
          | (refine wpList_st3 rfl _ _ rfl w.heap.size 106 _ rfl rfl _ _ G.out.hm (by omega) (mt_set106 _ G.out.ok) G.out.ok ?_; intro w1 hs on; replace G := Lib.hid (G.out.set (ok_trials G.out.ok i64_zero) hs on); clear hs on)
          | (refine wpList_build_to rfl 36 _ rfl _ built36 ?_)
          | (refine wpList_row rfl 27 _ _ rfl (w.heap.size + 1 + 1) _ rfl rfl 27 _ G.out.ho (size27 G.out.ok) (old27 G.out.oko G.out.ok) (mt_all _) ?_; intro w1 hs on; replace G := Lib.hid (G.out.seto G.out.ok hs on); clear hs on)
          | (refine wpList_row rfl 36 _ _ rfl (w.heap.size + 1 + 1 + 1) _ rfl rfl 36 _ G.out.hr (size36 _) rfl (rp_all _) ?_; intro w1 hs on; replace G := Lib.hid (G.out.setr hs on); clear hs on))
        exact out_ret (p := 4) (u := 5) rfl _ _ _ _ _ _ _ _ (by unfold confirmM; rw [if_neg (fun h => h.elim (fun h => h rfl) HT.out), if_neg Bool.false_ne_true, HCN.out]; rfl) rfl rfl rfl (Out.mk G.out.ho G.out.hr G.out.hb) G.out.oko
      · skip
        go_enter Tryd.func26, Tryd.ntmps26
        go_wp2_with (first
          | (refine wpList_ld 27 _ rfl _ _ (ld27 G.out.hm G.out.ok) rfl rfl ?_)
          | (refine wpList_ld 3 _ rfl _ _ (ld3 (seen_of G.out.hm G.out.ok).phase) rfl rfl ?_)
          | (refine wpList_ld 3 _ rfl _ _ (ld3 (seen_of G.out.hm G.out.ok).trials) rfl rfl ?_)
          | (refine wpList_ld 4 _ rfl _ _ (ld4 (seen_f G.out.hf G.out.okf).worn) rfl rfl ?_)
          | (go_at_call 45; (with_reducible refine (HC.out _).mono ?_); rintro e w1 ⟨rfl, b1⟩; replace G := Lib.hid (G.out.kept b1); clear b1)
          | (refine wpList_st3 rfl _ _ rfl w.heap.size 69 _ rfl rfl _ _ G.out.hm (by omega) (mt_set69 _ G.out.ok) G.out.ok ?_; intro w1 hs on; replace G := Lib.hid (G.out.set (ok_least G.out.ok HI.out) hs on); clear hs on)
          | (go_at_call 42; (with_reducible refine (other_any _ 0 _ G.out.ok rfl (.inr rfl)).mono ?_); rintro e w1 ⟨rfl, b1⟩; replace G := Lib.hid (G.out.kept b1); clear b1)
          | (refine wpList_st3 rfl _ _ rfl w.heap.size 0 _ rfl rfl _ _ G.out.hm (by omega) (mt_set0 _ _) G.out.ok ?_; intro w1 hs on; replace G := Lib.hid (G.out.set (ok_act G.out.ok (by unfold I64; omega)) hs on); clear hs on)
          | (refine wpList_st3 rfl _ _ rfl w.heap.size 70 _ rfl rfl _ _ G.out.hm (by omega) (mt_set70 _ G.out.ok) G.out.ok ?_; intro w1 hs on; replace G := Lib.hid (G.out.set (ok_phase G.out.ok i64_zero) hs on); clear hs on)
          | (refine wpList_st3 rfl _ _ rfl w.heap.size 106 _ rfl rfl _ _ G.out.hm (by omega) (mt_set106 _ G.out.ok) G.out.ok ?_; intro w1 hs on; replace G := Lib.hid (G.out.set (ok_trials G.out.ok i64_zero) hs on); clear hs on)
          | (refine wpList_build_to rfl 36 _ rfl _ built36 ?_)
          | (refine wpList_row rfl 27 _ _ rfl (w.heap.size + 1 + 1) _ rfl rfl 27 _ G.out.ho (size27 G.out.ok) (old27 G.out.oko G.out.ok) (mt_all _) ?_; intro w1 hs on; replace G := Lib.hid (G.out.seto G.out.ok hs on); clear hs on)
          | (refine wpList_row rfl 36 _ _ rfl (w.heap.size + 1 + 1 + 1) _ rfl rfl 36 _ G.out.hr (size36 _) rfl (rp_all _) ?_; intro w1 hs on; replace G := Lib.hid (G.out.setr hs on); clear hs on))
        exact out_ret (p := 4) (u := 5) rfl _ _ _ _ _ _ _ _ (by unfold confirmM; rw [if_neg (fun h => h.elim (fun h => h rfl) HT.out), if_neg Bool.false_ne_true, HCN.out]; rfl) rfl rfl rfl (Out.mk G.out.ho G.out.hr G.out.hb) G.out.oko
  · have HP := Lib.hid (show ¬ phase = 3 ∨ trials = 2 from .inl hp)
    clear ha
    go_enter Tryd.func26, Tryd.ntmps26
    go_wp2_with (first
      | (refine wpList_ld 27 _ rfl _ _ (ld27 G.out.hm G.out.ok) rfl rfl ?_)
      | (refine wpList_ld 3 _ rfl _ _ (ld3 (seen_of G.out.hm G.out.ok).phase) rfl rfl ?_)
      | (refine wpList_ld 3 _ rfl _ _ (ld3 (seen_of G.out.hm G.out.ok).trials) rfl rfl ?_)
      | (refine wpList_ld 4 _ rfl _ _ (ld4 (seen_f G.out.hf G.out.okf).worn) rfl rfl ?_)
      | (go_at_call 20; (with_reducible refine (refuse_any _ _ _ G.out.ok).mono ?_); rintro e w1 ⟨rfl, b1⟩; replace G := Lib.hid (G.out.kept b1); clear b1)
      | (refine wpList_row rfl 27 _ _ rfl (w.heap.size + 1 + 1) _ rfl rfl 27 _ G.out.ho (size27 G.out.ok) (old27 G.out.oko G.out.ok) (mt_all _) ?_; intro w1 hs on; replace G := Lib.hid (G.out.seto G.out.ok hs on); clear hs on)
      | (refine wpList_row rfl 36 _ _ rfl (w.heap.size + 1 + 1 + 1) _ rfl rfl 36 _ G.out.hr (size36 _) rfl (rp_all _) ?_; intro w1 hs on; replace G := Lib.hid (G.out.setr hs on); clear hs on))
    exact out_ret (p := 4) (u := 5) rfl _ _ _ _ _ _ _ _ (by unfold confirmM; rw [if_pos HP.out]; rfl) rfl rfl rfl (Out.mk G.out.ho G.out.hr G.out.hb) G.out.oko
end Go.Proofs.YtcokpdhhpaahgaaDoor
