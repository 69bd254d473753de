/-
  A request to write, as the program does it; conditions: what is kept is of 64 bits, its chunks are few; the digest is of 32 bytes.
-/
import Derived.Test.YtcokpdhhpaahgaaDoorMUp
import Derived.Deep.RegionHeld3
import Derived.Deep.Cut
import Derived.BigQuiet
namespace Go.Proofs.YtcokpdhhpaahgaaDoor
open Go.RowKit
set_option linter.unusedVariables false
set_option linter.unusedSimpArgs false

set_option maxRecDepth 100000 in
set_option maxHeartbeats 4000000 in
theorem write_any (m : Mt) (q : Rq) (f : Fc) (w : World) (hm : m.Ok) (hf : f.Ok) (hq : I64 q.num) (hg : 0 ≤ m.gott ∧ m.gott ≤ 6) : Calls Tryd.prog 22 #[.agg m.cells, .agg q.cells, .agg f.cells] w (Does (writeM m q.num q.len f) w) := by
  have hz27 := zero27_run
  have hz36 := zero36_run
  have HT0 := fun b h W => there_is (m := m) W hm b h
  have HL0 : ∀ W, Calls Tryd.prog 14 #[.int .i64 m.com.size, .int .i64 q.num] W fun e w' => e = .returned (.int .i64 (lenI m.com.size q.num)) ∧ w' = W := fun W => (lenI_any m.com.size q.num W hm.com.2.2.2 hq).mono fun e w' h => ⟨h.1, h.2.symm⟩
  have G := Lib.hid (gq_new q w hm hf)
  obtain ⟨act, h0, h1, least, phase, com, gott, trials⟩ := m
  obtain ⟨nm, tg, dg, wn⟩ := f
  obtain ⟨kind, num, A, len, cap, bs⟩ := q
  simp only at hg HL0 HT0 hq ⊢
  clear hm hf hq
  by_cases hp : phase = 1
  rotate_left
  · have HP := Lib.hid hp
    clear HT0 HL0 hg
    go_enter Tryd.func22, Tryd.ntmps22
    go_wp2_with (first
      | (refine wpList_ld 27 _ rfl _ _ (ld27 G.out.hm G.out.ok) rfl rfl ?_)
      | (refine wpList_ld 3 _ rfl _ _ (ld3 (seen_of G.out.hm G.out.ok).phase) rfl rfl ?_)
      | (refine wpList_ld 3 _ rfl _ _ (ld3 (seen_q G.out.hq).num) rfl rfl ?_)
      | (refine wpList_ld 3 _ rfl _ _ (ld3 (seen_of G.out.hm G.out.ok).gott) rfl rfl ?_)
      | (refine wpList_ld 4 _ rfl _ _ (ld4 (seen_f G.out.hf G.out.okf).worn) rfl rfl ?_)
      | (go_at_call 20; (with_reducible refine (refuse_any _ _ _ G.out.ok).mono ?_); rintro e w1 ⟨rfl, b1⟩; replace G := Lib.hid (G.out.kept b1); clear b1)
      | (refine wpList_row rfl 27 _ _ rfl (w.heap.size + 1 + 1 + 1) _ rfl rfl 27 _ G.out.ho (size27 G.out.ok) (old27 G.out.oko G.out.ok) (mt_all _) ?_; intro w1 hs on; replace G := Lib.hid (G.out.seto G.out.ok hs on); clear hs on)
      | (refine wpList_row rfl 36 _ _ rfl (w.heap.size + 1 + 1 + 1 + 1) _ rfl rfl 36 _ G.out.hr (size36 _) rfl (rp_all _) ?_; intro w1 hs on; replace G := Lib.hid (G.out.setr hs on); clear hs on))
    exact out_ret (p := 6) (u := 7) rfl _ _ _ _ _ _ _ _ (by unfold writeM; rw [if_pos HP.out]; rfl) rfl rfl rfl (Out.mk G.out.ho G.out.hr G.out.hb) G.out.oko
  subst hp
  by_cases hn : num = gott
  rotate_left
  · have HN := Lib.hid hn
    have dn : (num != gott) = true := by simp [hn]
    clear HT0 HL0 hg
    go_enter Tryd.func22, Tryd.ntmps22
    go_wp2_with (first
      | (refine wpList_ld 27 _ rfl _ _ (ld27 G.out.hm G.out.ok) rfl rfl ?_)
      | (refine wpList_ld 3 _ rfl _ _ (ld3 (seen_of G.out.hm G.out.ok).phase) rfl rfl ?_)
      | (refine wpList_ld 3 _ rfl _ _ (ld3 (seen_q G.out.hq).num) rfl rfl ?_)
      | (refine wpList_ld 3 _ rfl _ _ (ld3 (seen_of G.out.hm G.out.ok).gott) rfl rfl ?_)
      | (refine wpList_ld 4 _ rfl _ _ (ld4 (seen_f G.out.hf G.out.okf).worn) rfl rfl ?_)
      | (go_at_call 20; (with_reducible refine (refuse_any _ _ _ G.out.ok).mono ?_); rintro e w1 ⟨rfl, b1⟩; replace G := Lib.hid (G.out.kept b1); clear b1)
      | (refine wpList_row rfl 27 _ _ rfl (w.heap.size + 1 + 1 + 1) _ rfl rfl 27 _ G.out.ho (size27 G.out.ok) (old27 G.out.oko G.out.ok) (mt_all _) ?_; intro w1 hs on; replace G := Lib.hid (G.out.seto G.out.ok hs on); clear hs on)
      | (refine wpList_row rfl 36 _ _ rfl (w.heap.size + 1 + 1 + 1 + 1) _ rfl rfl 36 _ G.out.hr (size36 _) rfl (rp_all _) ?_; intro w1 hs on; replace G := Lib.hid (G.out.setr hs on); clear hs on))
    exact out_ret (p := 6) (u := 7) rfl _ _ _ _ _ _ _ _ (by unfold writeM; rw [if_neg (not_not_intro rfl), if_pos (.inl HN.out)]; rfl) rfl rfl rfl (Out.mk G.out.ho G.out.hr G.out.hb) G.out.oko
  subst hn
  by_cases ht : num = chunkI com.size
  · have HT := Lib.hid (HT0 true (decide_eq_true ht))
    have HTT := Lib.hid ht
    clear HT0 HL0 hg ht
    go_enter Tryd.func22, Tryd.ntmps22
    go_wp2_with (first
      | (refine wpList_ld 27 _ rfl _ _ (ld27 G.out.hm G.out.ok) rfl rfl ?_)
      | (refine wpList_ld 3 _ rfl _ _ (ld3 (seen_of G.out.hm G.out.ok).phase) rfl rfl ?_)
      | (refine wpList_ld 3 _ rfl _ _ (ld3 (seen_q G.out.hq).num) rfl rfl ?_)
      | (refine wpList_ld 3 _ rfl _ _ (ld3 (seen_of G.out.hm G.out.ok).gott) rfl rfl ?_)
      | (refine wpList_ld 4 _ rfl _ _ (ld4 (seen_f G.out.hf G.out.okf).worn) rfl rfl ?_)
      | (go_at_call 20; (with_reducible refine (refuse_any _ _ _ G.out.ok).mono ?_); rintro e w1 ⟨rfl, b1⟩; replace G := Lib.hid (G.out.kept b1); clear b1)
      | (refine wpList_row rfl 27 _ _ rfl (w.heap.size + 1 + 1 + 1) _ rfl rfl 27 _ G.out.ho (size27 G.out.ok) (old27 G.out.oko G.out.ok) (mt_all _) ?_; intro w1 hs on; replace G := Lib.hid (G.out.seto G.out.ok hs on); clear hs on)
      | (refine wpList_row rfl 36 _ _ rfl (w.heap.size + 1 + 1 + 1 + 1) _ rfl rfl 36 _ G.out.hr (size36 _) rfl (rp_all _) ?_; intro w1 hs on; replace G := Lib.hid (G.out.setr hs on); clear hs on)
      | (go_at_call 43; (with_reducible refine (HT.out _).mono ?_); rintro e w1 ⟨rfl, b1⟩; replace G := Lib.hid (G.out.kept b1); clear b1 HT; have q2 := (seen_q G.out.hq).bytes; have q1 := (seen_q G.out.hq).num; have c72 := (seen_of G.out.hm G.out.ok).s2))
    exact out_ret (p := 6) (u := 7) rfl _ _ _ _ _ _ _ _ (by unfold writeM; rw [if_neg (not_not_intro rfl), if_pos (.inr HTT.out)]; rfl) rfl rfl rfl (Out.mk G.out.ho G.out.hr G.out.hb) G.out.oko
  have HT := Lib.hid (HT0 false (decide_eq_false ht))
  have HTT := Lib.hid ht
  clear HT0 ht
  obtain ⟨L, hL⟩ : ∃ L, lenI com.size num = L := ⟨_, rfl⟩
  rw [hL] at HL0
  have HLL := Lib.hid hL
  have HL := Lib.hid HL0
  clear hL HL0
  by_cases hl : (len : Int) = L
  rotate_left
  · have HN := Lib.hid hl
    have dl : ((len : Int) != L) = true := by simp [hl]
    clear hg
    go_enter Tryd.func22, Tryd.ntmps22
    go_wp2_with (first
      | (refine wpList_ld 27 _ rfl _ _ (ld27 G.out.hm G.out.ok) rfl rfl ?_)
      | (refine wpList_ld 3 _ rfl _ _ (ld3 (seen_of G.out.hm G.out.ok).phase) rfl rfl ?_)
      | (refine wpList_ld 3 _ rfl _ _ (ld3 (seen_q G.out.hq).num) rfl rfl ?_)
      | (refine wpList_ld 3 _ rfl _ _ (ld3 (seen_of G.out.hm G.out.ok).gott) rfl rfl ?_)
      | (refine wpList_ld 4 _ rfl _ _ (ld4 (seen_f G.out.hf G.out.okf).worn) rfl rfl ?_)
      | (go_at_call 20; (with_reducible refine (refuse_any _ _ _ G.out.ok).mono ?_); rintro e w1 ⟨rfl, b1⟩; replace G := Lib.hid (G.out.kept b1); clear b1)
      | (refine wpList_row rfl 27 _ _ rfl (w.heap.size + 1 + 1 + 1) _ rfl rfl 27 _ G.out.ho (size27 G.out.ok) (old27 G.out.oko G.out.ok) (mt_all _) ?_; intro w1 hs on; replace G := Lib.hid (G.out.seto G.out.ok hs on); clear hs on)
      | (refine wpList_row rfl 36 _ _ rfl (w.heap.size + 1 + 1 + 1 + 1) _ rfl rfl 36 _ G.out.hr (size36 _) rfl (rp_all _) ?_; intro w1 hs on; replace G := Lib.hid (G.out.setr hs on); clear hs on)
      | (go_at_call 43; (with_reducible refine (HT.out _).mono ?_); rintro e w1 ⟨rfl, b1⟩; replace G := Lib.hid (G.out.kept b1); clear b1 HT; have q2 := (seen_q G.out.hq).bytes; have q1 := (seen_q G.out.hq).num; have c72 := (seen_of G.out.hm G.out.ok).s2)
      | (go_quiet ((go_at_call 14; exact Calls.quiet_of_same (HL.out _))))
      | (refine wpList_ld 27 _ rfl _ _ (ld27 (G.out.drewN _).hm G.out.ok) rfl rfl ?_)
      | (refine wpList_ld 3 _ rfl _ _ (ld3 (seen_of (G.out.drewN _).hm G.out.ok).phase) rfl rfl ?_)
      | (refine wpList_ld 3 _ rfl _ _ (ld3 (seen_q (G.out.drewN _).hq).num) rfl rfl ?_)
      | (refine wpList_ld 3 _ rfl _ _ (ld3 (seen_of (G.out.drewN _).hm G.out.ok).gott) rfl rfl ?_)
      | (refine wpList_ld 4 _ rfl _ _ (ld4 (seen_f (G.out.drewN _).hf G.out.okf).worn) rfl rfl ?_)
      | (go_at_call 20; (with_reducible refine (refuse_any _ _ _ G.out.ok).mono ?_); rintro e w1 ⟨rfl, b1⟩; replace G := Lib.hid ((G.out.drewN _).kept b1); clear b1)
      | (refine wpList_row rfl 27 _ _ rfl (w.heap.size + 1 + 1 + 1) _ rfl rfl 27 _ (G.out.drewN _).ho (size27 G.out.ok) (old27 G.out.oko G.out.ok) (mt_all _) ?_; intro w1 hs on; replace G := Lib.hid ((G.out.drewN _).seto G.out.ok hs on); clear hs on)
      | (refine wpList_row rfl 36 _ _ rfl (w.heap.size + 1 + 1 + 1 + 1) _ rfl rfl 36 _ (G.out.drewN _).hr (size36 _) rfl (rp_all _) ?_; intro w1 hs on; replace G := Lib.hid ((G.out.drewN _).setr hs on); clear hs on))
    exact out_ret (p := 6) (u := 7) rfl _ _ _ _ _ _ _ _ (by unfold writeM; rw [if_neg (not_not_intro rfl), if_neg (fun h => h.elim (fun h => h rfl) HTT.out), HLL.out, if_pos HN.out]; rfl) rfl rfl rfl (Out.mk G.out.ho G.out.hr G.out.hb) G.out.oko
  subst hl
  cases wn with
  | true =>
    clear hg
    go_enter Tryd.func22, Tryd.ntmps22
    go_wp2_with (first
      | (refine wpList_ld 27 _ rfl _ _ (ld27 G.out.hm G.out.ok) rfl rfl ?_)
      | (refine wpList_ld 3 _ rfl _ _ (ld3 (seen_of G.out.hm G.out.ok).phase) rfl rfl ?_)
      | (refine wpList_ld 3 _ rfl _ _ (ld3 (seen_q G.out.hq).num) rfl rfl ?_)
      | (refine wpList_ld 3 _ rfl _ _ (ld3 (seen_of G.out.hm G.out.ok).gott) rfl rfl ?_)
      | (refine wpList_ld 4 _ rfl _ _ (ld4 (seen_f G.out.hf G.out.okf).worn) rfl rfl ?_)
      | (go_at_call 20; (with_reducible refine (refuse_any _ _ _ G.out.ok).mono ?_); rintro e w1 ⟨rfl, b1⟩; replace G := Lib.hid (G.out.kept b1); clear b1)
      | (refine wpList_row rfl 27 _ _ rfl (w.heap.size + 1 + 1 + 1) _ rfl rfl 27 _ G.out.ho (size27 G.out.ok) (old27 G.out.oko G.out.ok) (mt_all _) ?_; intro w1 hs on; replace G := Lib.hid (G.out.seto G.out.ok hs on); clear hs on)
      | (refine wpList_row rfl 36 _ _ rfl (w.heap.size + 1 + 1 + 1 + 1) _ rfl rfl 36 _ G.out.hr (size36 _) rfl (rp_all _) ?_; intro w1 hs on; replace G := Lib.hid (G.out.setr hs on); clear hs on)
      | (go_at_call 43; (with_reducible refine (HT.out _).mono ?_); rintro e w1 ⟨rfl, b1⟩; replace G := Lib.hid (G.out.kept b1); clear b1 HT; have q2 := (seen_q G.out.hq).bytes; have q1 := (seen_q G.out.hq).num; have c72 := (seen_of G.out.hm G.out.ok).s2)
      | (go_quiet ((go_at_call 14; exact Calls.quiet_of_same (HL.out _))))
      | (refine wpList_ld 27 _ rfl _ _ (ld27 (G.out.drewN _).hm G.out.ok) rfl rfl ?_)
      | (refine wpList_ld 3 _ rfl _ _ (ld3 (seen_of (G.out.drewN _).hm G.out.ok).phase) rfl rfl ?_)
      | (refine wpList_ld 3 _ rfl _ _ (ld3 (seen_q (G.out.drewN _).hq).num) rfl rfl ?_)
      | (refine wpList_ld 3 _ rfl _ _ (ld3 (seen_of (G.out.drewN _).hm G.out.ok).gott) rfl rfl ?_)
      | (refine wpList_ld 4 _ rfl _ _ (ld4 (seen_f (G.out.drewN _).hf G.out.okf).worn) rfl rfl ?_)
      | (go_at_call 20; (with_reducible refine (refuse_any _ _ _ G.out.ok).mono ?_); rintro e w1 ⟨rfl, b1⟩; replace G := Lib.hid ((G.out.drewN _).kept b1); clear b1)
      | (refine wpList_row rfl 27 _ _ rfl (w.heap.size + 1 + 1 + 1) _ rfl rfl 27 _ (G.out.drewN _).ho (size27 G.out.ok) (old27 G.out.oko G.out.ok) (mt_all _) ?_; intro w1 hs on; replace G := Lib.hid ((G.out.drewN _).seto G.out.ok hs on); clear hs on)
      | (refine wpList_row rfl 36 _ _ rfl (w.heap.size + 1 + 1 + 1 + 1) _ rfl rfl 36 _ (G.out.drewN _).hr (size36 _) rfl (rp_all _) ?_; intro w1 hs on; replace G := Lib.hid ((G.out.drewN _).setr hs on); clear hs on))
    exact out_ret (p := 6) (u := 7) rfl _ _ _ _ _ _ _ _ (by unfold writeM; rw [if_neg (not_not_intro rfl), if_neg (fun h => h.elim (fun h => h rfl) HTT.out), HLL.out, if_neg (not_not_intro rfl), if_pos rfl]; rfl) rfl rfl rfl (Out.mk G.out.ho G.out.hr G.out.hb) G.out.oko
  | false =>
    have hg2 : -9223372036854775808 ≤ num + 1 ∧ num + 1 ≤ 9223372036854775807 := by omega
    have HG := Lib.hid (show I64 (num + 1) from hg2)
    clear hg2
    go_enter Tryd.func22, Tryd.ntmps22
    go_wp2_with (first
      | (refine wpList_ld 27 _ rfl _ _ (ld27 G.out.hm G.out.ok) rfl rfl ?_)
      | (refine wpList_ld 3 _ rfl _ _ (ld3 (seen_of G.out.hm G.out.ok).phase) rfl rfl ?_)
      | (refine wpList_ld 3 _ rfl _ _ (ld3 (seen_q G.out.hq).num) rfl rfl ?_)
      | (refine wpList_ld 3 _ rfl _ _ (ld3 (seen_of G.out.hm G.out.ok).gott) rfl rfl ?_)
      | (refine wpList_ld 4 _ rfl _ _ (ld4 (seen_f G.out.hf G.out.okf).worn) rfl rfl ?_)
      | (go_at_call 20; (with_reducible refine (refuse_any _ _ _ G.out.ok).mono ?_); rintro e w1 ⟨rfl, b1⟩; replace G := Lib.hid (G.out.kept b1); clear b1)
      | (refine wpList_row rfl 27 _ _ rfl (w.heap.size + 1 + 1 + 1) _ rfl rfl 27 _ G.out.ho (size27 G.out.ok) (old27 G.out.oko G.out.ok) (mt_all _) ?_; intro w1 hs on; replace G := Lib.hid (G.out.seto G.out.ok hs on); clear hs on)
      | (refine wpList_row rfl 36 _ _ rfl (w.heap.size + 1 + 1 + 1 + 1) _ rfl rfl 36 _ G.out.hr (size36 _) rfl (rp_all _) ?_; intro w1 hs on; replace G := Lib.hid (G.out.setr hs on); clear hs on)
      | (go_at_call 43; (with_reducible refine (HT.out _).mono ?_); rintro e w1 ⟨rfl, b1⟩; replace G := Lib.hid (G.out.kept b1); clear b1 HT; have q2 := (seen_q G.out.hq).bytes; have q1 := (seen_q G.out.hq).num; have c72 := (seen_of G.out.hm G.out.ok).s2)
      | (go_quiet ((go_at_call 14; exact Calls.quiet_of_same (HL.out _))))
      | (refine wpList_ld 27 _ rfl _ _ (ld27 (G.out.drewN _).hm G.out.ok) rfl rfl ?_)
      | (refine wpList_ld 3 _ rfl _ _ (ld3 (seen_of (G.out.drewN _).hm G.out.ok).phase) rfl rfl ?_)
      | (refine wpList_ld 3 _ rfl _ _ (ld3 (seen_q (G.out.drewN _).hq).num) rfl rfl ?_)
      | (refine wpList_ld 3 _ rfl _ _ (ld3 (seen_of (G.out.drewN _).hm G.out.ok).gott) rfl rfl ?_)
      | (refine wpList_ld 4 _ rfl _ _ (ld4 (seen_f (G.out.drewN _).hf G.out.okf).worn) rfl rfl ?_)
      | (go_at_call 20; (with_reducible refine (refuse_any _ _ _ G.out.ok).mono ?_); rintro e w1 ⟨rfl, b1⟩; replace G := Lib.hid ((G.out.drewN _).kept b1); clear b1)
      | (refine wpList_row rfl 27 _ _ rfl (w.heap.size + 1 + 1 + 1) _ rfl rfl 27 _ (G.out.drewN _).ho (size27 G.out.ok) (old27 G.out.oko G.out.ok) (mt_all _) ?_; intro w1 hs on; replace G := Lib.hid ((G.out.drewN _).seto G.out.ok hs on); clear hs on)
      | (refine wpList_row rfl 36 _ _ rfl (w.heap.size + 1 + 1 + 1 + 1) _ rfl rfl 36 _ (G.out.drewN _).hr (size36 _) rfl (rp_all _) ?_; intro w1 hs on; replace G := Lib.hid ((G.out.drewN _).setr hs on); clear hs on)
      | (refine wpList_st3 rfl _ _ rfl w.heap.size 105 (num + 1) rfl rfl _ _ G.out.hm (by omega) (mt_set105 _ G.out.ok) G.out.ok ?_; intro w1 hs on; replace G := Lib.hid (G.out.set (ok_gott G.out.ok HG.out) hs on); clear hs on)
      | (refine wpList_st3 rfl _ _ rfl w.heap.size 105 (num + 1) rfl rfl _ _ (G.out.drewN _).hm (by omega) (mt_set105 _ G.out.ok) G.out.ok ?_; intro w1 hs on; replace G := Lib.hid ((G.out.drewN _).set (ok_gott G.out.ok HG.out) hs on); clear hs on)
      | (refine wpList_build_to rfl 36 _ rfl _ built36 ?_))
    exact out_ret (p := 6) (u := 7) rfl _ _ _ _ _ _ _ _ (by unfold writeM; rw [if_neg (not_not_intro rfl), if_neg (fun h => h.elim (fun h => h rfl) HTT.out), HLL.out, if_neg (not_not_intro rfl), if_neg Bool.false_ne_true]; rfl) rfl rfl rfl (Out.mk G.out.ho G.out.hr G.out.hb) G.out.oko
end Go.Proofs.YtcokpdhhpaahgaaDoor
