/-
  A request to verify, as the program does it; conditions: what is kept is of 64 bits, the digest is of 32 bytes.
-/
import Derived.Test.YtcokpdhhpaahgaaDoorMUp
namespace Go.Proofs.YtcokpdhhpaahgaaDoor
open Go.RowKit
set_option linter.unusedVariables false
set_option linter.unusedSimpArgs false

set_option maxRecDepth 100000 in
set_option maxHeartbeats 4000000 in
theorem verify_any (m : Mt) (f : Fc) (w : World) (hm : m.Ok) (hf : f.Ok) : Calls Tryd.prog 23 #[.agg m.cells, .agg f.cells] w (Does (verifyM m f) w) := by
  have hz27 := zero27_run
  have hz36 := zero36_run
  have HM := Lib.hid hm
  have HF := Lib.hid hf
  clear hm hf
  by_cases hp : m.phase = 1
  · by_cases ht : m.gott = chunkI m.com.size
    · by_cases hd : f.dig = m.com.dig
      · cases hw : f.worn with
        | true =>
          have HP := Lib.hid hp
          clear hp
          have F0 := Lib.hid (fr_new m f w)
          have c70 := (seen_of F0.out.hm HM.out).phase; rw [HP.out] at c70
          have lm := ld27 F0.out.hm HM.out
          have f34 := (seen_f F0.out.hf HF.out).worn; rw [hw] at f34
          have lfd := (seen_f F0.out.hf HF.out).dig
          have lcd := ld_dig F0.out.hm HM.out
          have HT := Lib.hid (fun W => there_is (m := m) W HM.out true (decide_eq_true ht))
          have HT2 := Lib.hid ht
          clear ht
          have HD := Lib.hid hd
          clear hd
          have HR := Lib.hid (fun W => refuse_any m 5 W HM.out)
          go_enter Tryd.func23, Tryd.ntmps23
          go_wp2_with (first
            | (refine wpList_ld 27 _ rfl _ _ lm rfl rfl ?_)
            | (go_at_call 43; (with_reducible refine (HT.out _).mono ?_); rintro e w1 ⟨rfl, b1⟩; have F1 := Lib.hid (F0.out.kept b1); clear b1 HT; clear c70 lm f34 lfd lcd; have c70 := (seen_of F1.out.hm HM.out).phase; rw [HP.out] at c70; have lm := ld27 F1.out.hm HM.out; have f34 := (seen_f F1.out.hf HF.out).worn; rw [hw] at f34; have lfd := (seen_f F1.out.hf HF.out).dig; have lcd := ld_dig F1.out.hm HM.out)
            | (refine wpList_ld 22 _ rfl _ _ lfd rfl rfl ?_)
            | (refine wpList_ld 22 _ rfl _ _ lcd rfl rfl ?_)
            | (refine wpList_ne22 _ _ rfl f.dig m.com.dig rfl rfl HF.out.1 HM.out.com.1 false (by simp [HD.out]) rfl ?_)
            | (refine wpList_ld 27 _ rfl _ _ lm rfl rfl ?_)
            | (go_at_call 20; (with_reducible refine (HR.out _).mono ?_); rintro e w2 ⟨rfl, b2⟩; have F2 := Lib.hid (F1.out.kept b2); clear b2 HR; clear c70 lm f34 lfd lcd)
            | (refine wpList_row rfl 27 _ _ rfl (w.heap.size + 1 + 1) (m).cells rfl rfl 27 _ F2.out.ho (size27 HM.out) (old27 zeroT_ok HM.out) (mt_all _) ?_; intro w3 hs3 on3; have O3 := Lib.hid hs3; have C3 := Lib.hid (F2.out.hb.trans (on3.to_below F2.out.hb.size (fun b e => by omega))); have R3 := Lib.hid (Has.only F2.out.hr on3 (by omega)); clear hs3 on3)
            | (refine wpList_row rfl 36 _ _ rfl (w.heap.size + 1 + 1 + 1) (Rp.cells ⟨5, 0, 0⟩) rfl rfl 36 _ R3.out (size36 _) rfl (rp_all _) ?_; intro w4 hs4 on4; have OUT := Lib.hid (Out.mk (w0 := w) (Has.only O3.out on4 (by omega)) hs4 (C3.out.trans (on4.to_below C3.out.size (fun b e => by omega)))); clear hs4 on4))
          exact out_ret (p := 4) (u := 5) rfl _ _ _ _ _ _ m ⟨5, 0, 0⟩ (by unfold verifyM; rw [if_neg (not_not_intro HP.out), if_neg (not_not_intro HT2.out), if_neg (not_not_intro HD.out), if_pos hw]; rfl) rfl rfl rfl OUT.out (HM.out)
        | false =>
          have OK2 := Lib.hid (show Mt.Ok { m with phase := 2 } from ⟨HM.out.h0, HM.out.h1, HM.out.com, HM.out.act, HM.out.least, i64_two, HM.out.gott, HM.out.trials⟩)
          have HP := Lib.hid hp
          clear hp
          have F0 := Lib.hid (fr_new m f w)
          have c70 := (seen_of F0.out.hm HM.out).phase; rw [HP.out] at c70
          have lm := ld27 F0.out.hm HM.out
          have f34 := (seen_f F0.out.hf HF.out).worn; rw [hw] at f34
          have lfd := (seen_f F0.out.hf HF.out).dig
          have lcd := ld_dig F0.out.hm HM.out
          have HT := Lib.hid (fun W => there_is (m := m) W HM.out true (decide_eq_true ht))
          have HT2 := Lib.hid ht
          clear ht
          have HD := Lib.hid hd
          clear hd
          go_enter Tryd.func23, Tryd.ntmps23
          go_wp2_with (first
            | (refine wpList_ld 27 _ rfl _ _ lm rfl rfl ?_)
            | (go_at_call 43; (with_reducible refine (HT.out _).mono ?_); rintro e w1 ⟨rfl, b1⟩; have F1 := Lib.hid (F0.out.kept b1); clear b1 HT; clear c70 lm f34 lfd lcd; have c70 := (seen_of F1.out.hm HM.out).phase; rw [HP.out] at c70; have lm := ld27 F1.out.hm HM.out; have f34 := (seen_f F1.out.hf HF.out).worn; rw [hw] at f34; have lfd := (seen_f F1.out.hf HF.out).dig; have lcd := ld_dig F1.out.hm HM.out)
            | (refine wpList_ld 22 _ rfl _ _ lfd rfl rfl ?_)
            | (refine wpList_ld 22 _ rfl _ _ lcd rfl rfl ?_)
            | (refine wpList_ne22 _ _ rfl f.dig m.com.dig rfl rfl HF.out.1 HM.out.com.1 false (by simp [HD.out]) rfl ?_)
            | (refine wpList_st3 rfl _ _ rfl w.heap.size 70 (2) rfl rfl m { m with phase := 2 } F1.out.hm (by omega) (mt_set70 2 HM.out) HM.out ?_; intro w2 hs2 on2; have F2 := Lib.hid (F1.out.set hs2 on2); clear hs2 on2; clear c70 lm f34 lfd lcd; have lm := ld27 F2.out.hm OK2.out)
            | (refine wpList_ld 27 _ rfl _ _ lm rfl rfl ?_)
            | (refine wpList_build_to rfl 36 _ rfl _ built36 ?_)
            | (refine wpList_row rfl 27 _ _ rfl (w.heap.size + 1 + 1) ({ m with phase := 2 }).cells rfl rfl 27 _ F2.out.ho (size27 OK2.out) (old27 zeroT_ok OK2.out) (mt_all _) ?_; intro w3 hs3 on3; have O3 := Lib.hid hs3; have C3 := Lib.hid (F2.out.hb.trans (on3.to_below F2.out.hb.size (fun b e => by omega))); have R3 := Lib.hid (Has.only F2.out.hr on3 (by omega)); clear hs3 on3; clear lm)
            | (refine wpList_row rfl 36 _ _ rfl (w.heap.size + 1 + 1 + 1) (Rp.cells ⟨0, 0, 0⟩) rfl rfl 36 _ R3.out (size36 _) rfl (rp_all _) ?_; intro w4 hs4 on4; have OUT := Lib.hid (Out.mk (w0 := w) (Has.only O3.out on4 (by omega)) hs4 (C3.out.trans (on4.to_below C3.out.size (fun b e => by omega)))); clear hs4 on4))
          exact out_ret (p := 4) (u := 5) rfl _ _ _ _ _ _ { m with phase := 2 } ⟨0, 0, 0⟩ (by unfold verifyM; rw [if_neg (not_not_intro HP.out), if_neg (not_not_intro HT2.out), if_neg (not_not_intro HD.out), if_neg (by rw [hw]; decide)]; rfl) rfl rfl rfl OUT.out (OK2.out)
      · skip
        have HP := Lib.hid hp
        clear hp
        have F0 := Lib.hid (fr_new m f w)
        have c70 := (seen_of F0.out.hm HM.out).phase; rw [HP.out] at c70
        have lm := ld27 F0.out.hm HM.out
        have f34 := (seen_f F0.out.hf HF.out).worn
        have lfd := (seen_f F0.out.hf HF.out).dig
        have lcd := ld_dig F0.out.hm HM.out
        have HT := Lib.hid (fun W => there_is (m := m) W HM.out true (decide_eq_true ht))
        have HT2 := Lib.hid ht
        clear ht
        have HD := Lib.hid hd
        clear hd
        have HR := Lib.hid (fun W => refuse_any m 13 W HM.out)
        go_enter Tryd.func23, Tryd.ntmps23
        go_wp2_with (first
          | (refine wpList_ld 27 _ rfl _ _ lm rfl rfl ?_)
          | (go_at_call 43; (with_reducible refine (HT.out _).mono ?_); rintro e w1 ⟨rfl, b1⟩; have F1 := Lib.hid (F0.out.kept b1); clear b1 HT; clear c70 lm f34 lfd lcd; have c70 := (seen_of F1.out.hm HM.out).phase; rw [HP.out] at c70; have lm := ld27 F1.out.hm HM.out; have f34 := (seen_f F1.out.hf HF.out).worn; have lfd := (seen_f F1.out.hf HF.out).dig; have lcd := ld_dig F1.out.hm HM.out)
          | (refine wpList_ld 22 _ rfl _ _ lfd rfl rfl ?_)
          | (refine wpList_ld 22 _ rfl _ _ lcd rfl rfl ?_)
          | (refine wpList_ne22 _ _ rfl f.dig m.com.dig rfl rfl HF.out.1 HM.out.com.1 true (by simp [HD.out]) rfl ?_)
          | (refine wpList_ld 27 _ rfl _ _ lm rfl rfl ?_)
          | (go_at_call 20; (with_reducible refine (HR.out _).mono ?_); rintro e w2 ⟨rfl, b2⟩; have F2 := Lib.hid (F1.out.kept b2); clear b2 HR; clear c70 lm f34 lfd lcd)
          | (refine wpList_row rfl 27 _ _ rfl (w.heap.size + 1 + 1) (m).cells rfl rfl 27 _ F2.out.ho (size27 HM.out) (old27 zeroT_ok HM.out) (mt_all _) ?_; intro w3 hs3 on3; have O3 := Lib.hid hs3; have C3 := Lib.hid (F2.out.hb.trans (on3.to_below F2.out.hb.size (fun b e => by omega))); have R3 := Lib.hid (Has.only F2.out.hr on3 (by omega)); clear hs3 on3)
          | (refine wpList_row rfl 36 _ _ rfl (w.heap.size + 1 + 1 + 1) (Rp.cells ⟨13, 0, 0⟩) rfl rfl 36 _ R3.out (size36 _) rfl (rp_all _) ?_; intro w4 hs4 on4; have OUT := Lib.hid (Out.mk (w0 := w) (Has.only O3.out on4 (by omega)) hs4 (C3.out.trans (on4.to_below C3.out.size (fun b e => by omega)))); clear hs4 on4))
        exact out_ret (p := 4) (u := 5) rfl _ _ _ _ _ _ m ⟨13, 0, 0⟩ (by unfold verifyM; rw [if_neg (not_not_intro HP.out), if_neg (not_not_intro HT2.out), if_pos HD.out]; rfl) rfl rfl rfl OUT.out (HM.out)
    · skip
      have HP := Lib.hid hp
      clear hp
      have F0 := Lib.hid (fr_new m f w)
      have c70 := (seen_of F0.out.hm HM.out).phase; rw [HP.out] at c70
      have lm := ld27 F0.out.hm HM.out
      have f34 := (seen_f F0.out.hf HF.out).worn
      have lfd := (seen_f F0.out.hf HF.out).dig
      have lcd := ld_dig F0.out.hm HM.out
      have HT := Lib.hid (fun W => there_is (m := m) W HM.out false (decide_eq_false ht))
      have HT2 := Lib.hid ht
      clear ht
      have HR := Lib.hid (fun W => refuse_any m 12 W HM.out)
      go_enter Tryd.func23, Tryd.ntmps23
      go_wp2_with (first
        | (refine wpList_ld 27 _ rfl _ _ lm rfl rfl ?_)
        | (go_at_call 43; (with_reducible refine (HT.out _).mono ?_); rintro e w1 ⟨rfl, b1⟩; have F1 := Lib.hid (F0.out.kept b1); clear b1 HT; clear c70 lm f34 lfd lcd; have c70 := (seen_of F1.out.hm HM.out).phase; rw [HP.out] at c70; have lm := ld27 F1.out.hm HM.out; have f34 := (seen_f F1.out.hf HF.out).worn; have lfd := (seen_f F1.out.hf HF.out).dig; have lcd := ld_dig F1.out.hm HM.out)
        | (refine wpList_ld 27 _ rfl _ _ lm rfl rfl ?_)
        | (go_at_call 20; (with_reducible refine (HR.out _).mono ?_); rintro e w2 ⟨rfl, b2⟩; have F2 := Lib.hid (F1.out.kept b2); clear b2 HR; clear c70 lm f34 lfd lcd)
        | (refine wpList_row rfl 27 _ _ rfl (w.heap.size + 1 + 1) (m).cells rfl rfl 27 _ F2.out.ho (size27 HM.out) (old27 zeroT_ok HM.out) (mt_all _) ?_; intro w3 hs3 on3; have O3 := Lib.hid hs3; have C3 := Lib.hid (F2.out.hb.trans (on3.to_below F2.out.hb.size (fun b e => by omega))); have R3 := Lib.hid (Has.only F2.out.hr on3 (by omega)); clear hs3 on3)
        | (refine wpList_row rfl 36 _ _ rfl (w.heap.size + 1 + 1 + 1) (Rp.cells ⟨12, 0, 0⟩) rfl rfl 36 _ R3.out (size36 _) rfl (rp_all _) ?_; intro w4 hs4 on4; have OUT := Lib.hid (Out.mk (w0 := w) (Has.only O3.out on4 (by omega)) hs4 (C3.out.trans (on4.to_below C3.out.size (fun b e => by omega)))); clear hs4 on4))
      exact out_ret (p := 4) (u := 5) rfl _ _ _ _ _ _ m ⟨12, 0, 0⟩ (by unfold verifyM; rw [if_neg (not_not_intro HP.out), if_pos HT2.out]; rfl) rfl rfl rfl OUT.out (HM.out)
  · skip
    have F0 := Lib.hid (fr_new m f w)
    have c70 := (seen_of F0.out.hm HM.out).phase
    have lm := ld27 F0.out.hm HM.out
    have f34 := (seen_f F0.out.hf HF.out).worn
    have lfd := (seen_f F0.out.hf HF.out).dig
    have lcd := ld_dig F0.out.hm HM.out
    have HR := Lib.hid (fun W => refuse_any m 11 W HM.out)
    go_enter Tryd.func23, Tryd.ntmps23
    go_wp2_with (first
      | (refine wpList_ld 27 _ rfl _ _ lm rfl rfl ?_)
      | (go_at_call 20; (with_reducible refine (HR.out _).mono ?_); rintro e w1 ⟨rfl, b1⟩; have F1 := Lib.hid (F0.out.kept b1); clear b1 HR; clear c70 lm f34 lfd lcd)
      | (refine wpList_row rfl 27 _ _ rfl (w.heap.size + 1 + 1) (m).cells rfl rfl 27 _ F1.out.ho (size27 HM.out) (old27 zeroT_ok HM.out) (mt_all _) ?_; intro w2 hs2 on2; have O2 := Lib.hid hs2; have C2 := Lib.hid (F1.out.hb.trans (on2.to_below F1.out.hb.size (fun b e => by omega))); have R2 := Lib.hid (Has.only F1.out.hr on2 (by omega)); clear hs2 on2)
      | (refine wpList_row rfl 36 _ _ rfl (w.heap.size + 1 + 1 + 1) (Rp.cells ⟨11, 0, 0⟩) rfl rfl 36 _ R2.out (size36 _) rfl (rp_all _) ?_; intro w3 hs3 on3; have OUT := Lib.hid (Out.mk (w0 := w) (Has.only O2.out on3 (by omega)) hs3 (C2.out.trans (on3.to_below C2.out.size (fun b e => by omega)))); clear hs3 on3))
    exact out_ret (p := 4) (u := 5) rfl _ _ _ _ _ _ m ⟨11, 0, 0⟩ (by unfold verifyM; rw [if_pos hp]; rfl) rfl rfl rfl OUT.out (HM.out)
end Go.Proofs.YtcokpdhhpaahgaaDoor
