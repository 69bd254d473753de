/-
  What a phase asks beside, the slot 0 being active; conditions: the digests are of 32 bytes, all is in its bounds.
-/
import Derived.Test.YtcokpdhhpaahgaaDoorMMt
namespace Go.Proofs.YtcokpdhhpaahgaaDoor
open Go.RowKit
set_option linter.unusedVariables false
set_option linter.unusedSimpArgs false

set_option maxRecDepth 100000 in
set_option maxHeartbeats 8000000 in
theorem fits0_any (m : Mt) (w : World) (hm : m.Ok) (hi : In m) (ha : m.act = 0) : Calls Tryd.prog 39 #[.agg m.cells] w fun e w' => e = .returned (.bool (fitB m)) ∧ Below w.heap.size w w' := by
  have hz24 := zero24_run
  have C0 : Hid (Below w.heap.size w (w.alloc (.cells m.cells 27))) := Lib.hid ((Below.refl _ _).alloc (Nat.le_refl _) _)
  have H0 := Lib.hid (has_new w 27 m.cells)
  have S0 := Lib.hid (seen_of H0.out hm)
  have q0 := S0.out.act
  rw [ha] at q0
  have eo : m.oth = m.h1 := by unfold Mt.oth; rw [if_pos ha]
  have HB := Lib.hid (okI_fit hi.com).2
  have hn : Has ((w.alloc (.cells m.cells 27)).alloc (.cells zeroI.cells 24)) (w.heap.size + 1) 24 zeroI.cells := by
    have := has_new (w.alloc (.cells m.cells 27)) 24 zeroI.cells
    rwa [World.size_alloc] at this
  have HI := Lib.hid hi
  clear hi ha
  go_enter Tryd.func39, Tryd.ntmps39
  go_upto_region 2 with (first
    | (refine wpList_ld 24 _ rfl _ _ S0.out.l1 rfl rfl ?_)
    | (refine wpList_row rfl 24 _ _ rfl (w.heap.size + 1) m.h1.cells rfl rfl 24 _ hn (size24 hm.h1) (old24 zeroI_ok hm.h1) (im_all _) ?_; intro w1 hs1 on1))
  have H1 := Lib.hid (Has.only (H0.out.more (.cells zeroI.cells 24)) on1 (by omega))
  have C1 : Hid (Below w.heap.size w w1) := Lib.hid ((C0.out.alloc C0.out.size (.cells zeroI.cells 24)).trans (on1.to_below (by simp; omega) (fun b e => by omega)))
  have HO1 := Lib.hid hs1
  have LO1 := Lib.hid (ld24w hs1 hm.h1)
  have S1 := Lib.hid (seen_of H1.out hm)
  have p1 := S1.out.phase
  clear hs1 on1 hn q0 hz24 H0 S0
  by_cases k0 : m.phase = 0
  · have ef : fitB m = ((decide (m.com.ver = 0) && decide (m.gott = 0)) && decide (m.trials = 0)) := by unfold fitB; rw [if_pos k0]
    rw [k0] at p1
    clear k0
    have HX := Lib.hid (isOne_any m.com w1)
    cases e1 : decide (m.com.ver ≠ 0) with
    | true =>
      rw [e1] at HX
      have ec : decide (m.com.ver = 0) = false := decide_eq_false (of_decide_eq_true e1)
      have EF : Hid (false = fitB m) := Lib.hid (by rw [ef, ec]; rfl)
      clear e1 ec ef
      go_wp2_with (first
        | (refine wpList_ld 24 _ rfl _ _ S1.out.l2 rfl rfl ?_)
        | (go_at_call 55; (with_reducible refine HX.out.mono ?_); rintro e w2 ⟨rfl, b2⟩; clear HX; have C2 := Lib.hid (C1.out.trans (b2.mono C1.out.size)); have H2 := Lib.hid (H1.out.kept b2); have HO2 := Lib.hid (HO1.out.kept b2); clear b2; have S2 := Lib.hid (seen_of H2.out hm)))
      go_ret
      exact ⟨ret_bool EF.out, C2.out⟩
    | false =>
      rw [e1] at HX
      have ec : decide (m.com.ver = 0) = true := decide_eq_true (by simpa using of_decide_eq_false e1)
      clear e1
      by_cases g0 : m.gott = 0
      · have G0 := Lib.hid g0
        have EF : Hid (decide (m.trials = 0) = fitB m) := Lib.hid (by rw [ef, ec, decide_eq_true g0]; rfl)
        clear g0 ec ef
        go_wp2_with (first
          | (refine wpList_ld 24 _ rfl _ _ S1.out.l2 rfl rfl ?_)
          | (go_at_call 55; (with_reducible refine HX.out.mono ?_); rintro e w2 ⟨rfl, b2⟩; clear HX; have C2 := Lib.hid (C1.out.trans (b2.mono C1.out.size)); have H2 := Lib.hid (H1.out.kept b2); have HO2 := Lib.hid (HO1.out.kept b2); clear b2; have S2 := Lib.hid (seen_of H2.out hm); have q2 := S2.out.gott; rw [G0.out] at q2; have q3 := S2.out.trials))
        go_ret
        exact ⟨ret_bool (Eq.trans (by by_cases e : m.trials = 0 <;> simp [e]) EF.out), C2.out⟩
      · have G0 := Lib.hid g0
        have g1 : (m.gott == 0) = false := by simp [g0]
        have EF : Hid (false = fitB m) := Lib.hid (by rw [ef, ec, decide_eq_false g0]; rfl)
        clear g0 ec ef
        go_wp2_with (first
          | (refine wpList_ld 24 _ rfl _ _ S1.out.l2 rfl rfl ?_)
          | (go_at_call 55; (with_reducible refine HX.out.mono ?_); rintro e w2 ⟨rfl, b2⟩; clear HX; have C2 := Lib.hid (C1.out.trans (b2.mono C1.out.size)); have H2 := Lib.hid (H1.out.kept b2); have HO2 := Lib.hid (HO1.out.kept b2); clear b2; have S2 := Lib.hid (seen_of H2.out hm); have q2 := S2.out.gott))
        go_ret
        exact ⟨ret_bool EF.out, C2.out⟩
  by_cases k1 : m.phase = 1
  · have ef : fitB m = (canB m m.h1 && decide (m.gott ≤ chunkN m.com.size)) := by unfold fitB; rw [if_neg k0, if_pos k1, eo]
    rw [k1] at p1
    clear k0 k1
    have HC := Lib.hid (canCome_any m m.h1 w1.drew hm hm.h1)
    have bd : Below w1.heap.size w1 w1.drew := (Below.refl _ _).drew
    have HD := Lib.hid (H1.out.kept bd)
    have HOD := Lib.hid (HO1.out.kept bd)
    have CD := Lib.hid (C1.out.trans (bd.mono C1.out.size))
    clear bd
    have SD := Lib.hid (fun (W : World) (hW : Below w1.drew.heap.size w1.drew W) => seen_of (HD.out.kept hW) hm)
    have LD := Lib.hid (fun (W : World) (hW : Below w1.drew.heap.size w1.drew W) => ld24w (HOD.out.kept hW) hm.h1)
    have HS := Lib.hid (Below.refl w1.drew.heap.size w1.drew)
    cases ec : canB m m.h1 with
    | false =>
      rw [ec] at HC
      have EF : Hid (false = fitB m) := Lib.hid (by rw [ef, ec]; rfl)
      clear ec ef
      go_upto_region 6 with fail
      refine wp_region_held_drew (S := fun W => Below w1.drew.heap.size w1.drew W) (by kernel_rfl) HS.out ?_
      intro _
      refine wpAnyH_take (i := 0) (v := .agg m.cells) rfl (by kernel_rfl) (by kernel_rfl) (by kernel_rfl) (fun _ _ _ h => h) (yields_ld (by rfl) 27 (.tmp 1) rfl _ _ (fun W hW => (SD.out W hW).all) rfl) HS.out ?_
      simp only [List.getElem_toArray, List.getElem_cons_succ, List.getElem_cons_zero, Act.put, List.setIfInBounds_toArray, List.set_cons_zero, List.set_cons_succ]
      refine wpAnyH_take (i := 1) (v := .agg m.h1.cells) rfl (by kernel_rfl) (by kernel_rfl) (by kernel_rfl) (fun _ _ _ h => h) (yields_ld (by rfl) 24 (.tmp 3) rfl _ _ (fun W hW => LD.out W hW) rfl) HS.out ?_
      simp only [List.getElem_toArray, List.getElem_cons_succ, List.getElem_cons_zero, Act.put, List.setIfInBounds_toArray, List.set_cons_zero, List.set_cons_succ]
      refine wpAnyH_ready (rs := [2]) (by kernel_rfl) (by simp) ?_
      refine AllReadyH.cons rfl (fun K hK => ?_) AllReadyH.nil
      go_simp
      refine (HC.out).mono ?_
      rintro e w2 ⟨rfl, b2⟩; have HS2 := Lib.hid b2; clear b2
      refine hK.out _ _ HS2.out (fun _ => ?_)
      clear hK K
      refine wpAnyH_take (i := 3) (v := .bool false) rfl (by kernel_rfl) (by kernel_rfl) (by kernel_rfl) (fun _ _ _ h => h) (Or.inl ⟨by rfl, (fun W _ => by go_simp)⟩) HS2.out ?_
      simp only [List.getElem_toArray, List.getElem_cons_succ, List.getElem_cons_zero, Act.put, List.setIfInBounds_toArray, List.set_cons_zero, List.set_cons_succ]
      refine wpAnyH_take (i := 4) (v := undef) rfl (by kernel_rfl) (by kernel_rfl) (by kernel_rfl) (fun _ _ _ h => h) (Or.inr ⟨by rfl, rfl⟩) HS2.out ?_
      simp only [List.getElem_toArray, List.getElem_cons_succ, List.getElem_cons_zero, Act.put, List.setIfInBounds_toArray, List.set_cons_zero, List.set_cons_succ]
      refine wpAnyH_take (i := 5) (v := undef) rfl (by kernel_rfl) (by kernel_rfl) (by kernel_rfl) (fun _ _ _ h => h) (Or.inr ⟨by rfl, rfl⟩) HS2.out ?_
      simp only [List.getElem_toArray, List.getElem_cons_succ, List.getElem_cons_zero, Act.put, List.setIfInBounds_toArray, List.set_cons_zero, List.set_cons_succ]
      refine wpAnyH_take (i := 6) (v := undef) rfl (by kernel_rfl) (by kernel_rfl) (by kernel_rfl) (fun _ _ _ h => h) (Or.inr ⟨by rfl, rfl⟩) HS2.out ?_
      simp only [List.getElem_toArray, List.getElem_cons_succ, List.getElem_cons_zero, Act.put, List.setIfInBounds_toArray, List.set_cons_zero, List.set_cons_succ]
      refine wpAnyH_take (i := 7) (v := undef) rfl (by kernel_rfl) (by kernel_rfl) (by kernel_rfl) (fun _ _ _ h => h) (Or.inr ⟨by rfl, rfl⟩) HS2.out ?_
      simp only [List.getElem_toArray, List.getElem_cons_succ, List.getElem_cons_zero, Act.put, List.setIfInBounds_toArray, List.set_cons_zero, List.set_cons_succ]
      refine wpAnyH_take (i := 8) (v := undef) rfl (by kernel_rfl) (by kernel_rfl) (by kernel_rfl) (fun _ _ _ h => h) (Or.inr ⟨by rfl, rfl⟩) HS2.out ?_
      simp only [List.getElem_toArray, List.getElem_cons_succ, List.getElem_cons_zero, Act.put, List.setIfInBounds_toArray, List.set_cons_zero, List.set_cons_succ]
      refine wpAnyH_take (i := 9) (v := undef) rfl (by kernel_rfl) (by kernel_rfl) (by kernel_rfl) (fun _ _ _ h => h) (Or.inr ⟨by rfl, rfl⟩) HS2.out ?_
      simp only [List.getElem_toArray, List.getElem_cons_succ, List.getElem_cons_zero, Act.put, List.setIfInBounds_toArray, List.set_cons_zero, List.set_cons_succ]
      refine wpAnyH_take (i := 10) (v := .bool false) rfl (by kernel_rfl) (by kernel_rfl) (by kernel_rfl) (fun _ _ _ h => h) (Or.inl ⟨by rfl, (fun W _ => by go_simp)⟩) HS2.out ?_
      simp only [List.getElem_toArray, List.getElem_cons_succ, List.getElem_cons_zero, Act.put, List.setIfInBounds_toArray, List.set_cons_zero, List.set_cons_succ]
      refine wpAnyH_take (i := 11) (v := .bool false) rfl (by kernel_rfl) (by kernel_rfl) (by kernel_rfl) (fun _ _ _ h => h) (Or.inl ⟨by rfl, (fun W _ => by go_simp)⟩) HS2.out ?_
      simp only [List.getElem_toArray, List.getElem_cons_succ, List.getElem_cons_zero, Act.put, List.setIfInBounds_toArray, List.set_cons_zero, List.set_cons_succ]
      refine wpAnyH_done (by kernel_rfl) ?_ _
      have HF := Lib.hid (CD.out.trans (HS2.out.mono CD.out.size))
      clear HS HS2 SD LD HD HOD
      go_wp2
      go_ret
      exact ⟨ret_bool EF.out, HF.out⟩
    | true =>
      rw [ec] at HC
      have EF : Hid (decide (m.gott ≤ chunkN m.com.size) = fitB m) := Lib.hid (by rw [ef, ec]; rfl)
      clear ec ef
      go_upto_region 6 with fail
      refine wp_region_held_drew (S := fun W => Below w1.drew.heap.size w1.drew W) (by kernel_rfl) HS.out ?_
      intro _
      refine wpAnyH_take (i := 0) (v := .agg m.cells) rfl (by kernel_rfl) (by kernel_rfl) (by kernel_rfl) (fun _ _ _ h => h) (yields_ld (by rfl) 27 (.tmp 1) rfl _ _ (fun W hW => (SD.out W hW).all) rfl) HS.out ?_
      simp only [List.getElem_toArray, List.getElem_cons_succ, List.getElem_cons_zero, Act.put, List.setIfInBounds_toArray, List.set_cons_zero, List.set_cons_succ]
      refine wpAnyH_take (i := 1) (v := .agg m.h1.cells) rfl (by kernel_rfl) (by kernel_rfl) (by kernel_rfl) (fun _ _ _ h => h) (yields_ld (by rfl) 24 (.tmp 3) rfl _ _ (fun W hW => LD.out W hW) rfl) HS.out ?_
      simp only [List.getElem_toArray, List.getElem_cons_succ, List.getElem_cons_zero, Act.put, List.setIfInBounds_toArray, List.set_cons_zero, List.set_cons_succ]
      refine wpAnyH_ready (rs := [2]) (by kernel_rfl) (by simp) ?_
      refine AllReadyH.cons rfl (fun K hK => ?_) AllReadyH.nil
      go_simp
      refine (HC.out).mono ?_
      rintro e w2 ⟨rfl, b2⟩; have HS2 := Lib.hid b2; clear b2
      refine hK.out _ _ HS2.out (fun _ => ?_)
      clear hK K
      refine wpAnyH_take (i := 3) (v := .bool true) rfl (by kernel_rfl) (by kernel_rfl) (by kernel_rfl) (fun _ _ _ h => h) (Or.inl ⟨by rfl, (fun W _ => by go_simp)⟩) HS2.out ?_
      simp only [List.getElem_toArray, List.getElem_cons_succ, List.getElem_cons_zero, Act.put, List.setIfInBounds_toArray, List.set_cons_zero, List.set_cons_succ]
      refine wpAnyH_take (i := 4) (v := .pointer (some ⟨w.heap.size, 105, none⟩)) rfl (by kernel_rfl) (by kernel_rfl) (by kernel_rfl) (fun _ _ _ h => h) (Or.inl ⟨by rfl, (fun W _ => by go_simp)⟩) HS2.out ?_
      simp only [List.getElem_toArray, List.getElem_cons_succ, List.getElem_cons_zero, Act.put, List.setIfInBounds_toArray, List.set_cons_zero, List.set_cons_succ]
      refine wpAnyH_take (i := 5) (v := .int .i64 m.gott) rfl (by kernel_rfl) (by kernel_rfl) (by kernel_rfl) (fun _ _ _ h => h) (yields_ld (by rfl) 3 (.tmp 34) rfl _ _ (fun W hW => ld3 (SD.out W hW).gott) rfl) HS2.out ?_
      simp only [List.getElem_toArray, List.getElem_cons_succ, List.getElem_cons_zero, Act.put, List.setIfInBounds_toArray, List.set_cons_zero, List.set_cons_succ]
      refine wpAnyH_take (i := 6) (v := .pointer (some ⟨w.heap.size, 71, none⟩)) rfl (by kernel_rfl) (by kernel_rfl) (by kernel_rfl) (fun _ _ _ h => h) (Or.inl ⟨by rfl, (fun W _ => by go_simp)⟩) HS2.out ?_
      simp only [List.getElem_toArray, List.getElem_cons_succ, List.getElem_cons_zero, Act.put, List.setIfInBounds_toArray, List.set_cons_zero, List.set_cons_succ]
      refine wpAnyH_take (i := 7) (v := .agg m.com.cells) rfl (by kernel_rfl) (by kernel_rfl) (by kernel_rfl) (fun _ _ _ h => h) (yields_ld (by rfl) 24 (.tmp 36) rfl _ _ (fun W hW => (SD.out W hW).l2) rfl) HS2.out ?_
      simp only [List.getElem_toArray, List.getElem_cons_succ, List.getElem_cons_zero, Act.put, List.setIfInBounds_toArray, List.set_cons_zero, List.set_cons_succ]
      refine wpAnyH_ready (rs := [8]) (by kernel_rfl) (by simp) ?_
      refine AllReadyH.cons rfl (fun K hK => ?_) AllReadyH.nil
      go_simp
      refine (chunks_any m.com w2 HB.out).mono ?_
      rintro e w3 ⟨rfl, b3⟩; have HS3 := Lib.hid (HS2.out.trans (b3.mono HS2.out.size)); clear b3
      refine hK.out _ _ HS3.out (fun _ => ?_)
      clear hK K
      refine wpAnyH_take (i := 9) (v := .bool (decide (m.gott ≤ chunkN m.com.size))) rfl (by kernel_rfl) (by kernel_rfl) (by kernel_rfl) (fun _ _ _ h => h) (Or.inl ⟨by rfl, (fun W _ => by go_simp)⟩) HS3.out ?_
      simp only [List.getElem_toArray, List.getElem_cons_succ, List.getElem_cons_zero, Act.put, List.setIfInBounds_toArray, List.set_cons_zero, List.set_cons_succ]
      refine wpAnyH_take (i := 10) (v := .bool (decide (m.gott ≤ chunkN m.com.size))) rfl (by kernel_rfl) (by kernel_rfl) (by kernel_rfl) (fun _ _ _ h => h) (Or.inl ⟨by rfl, (fun W _ => by go_simp)⟩) HS3.out ?_
      simp only [List.getElem_toArray, List.getElem_cons_succ, List.getElem_cons_zero, Act.put, List.setIfInBounds_toArray, List.set_cons_zero, List.set_cons_succ]
      refine wpAnyH_take (i := 11) (v := .bool (decide (m.gott ≤ chunkN m.com.size))) rfl (by kernel_rfl) (by kernel_rfl) (by kernel_rfl) (fun _ _ _ h => h) (Or.inl ⟨by rfl, (fun W _ => by go_simp)⟩) HS3.out ?_
      simp only [List.getElem_toArray, List.getElem_cons_succ, List.getElem_cons_zero, Act.put, List.setIfInBounds_toArray, List.set_cons_zero, List.set_cons_succ]
      refine wpAnyH_done (by kernel_rfl) ?_ _
      have HF := Lib.hid (CD.out.trans (HS3.out.mono CD.out.size))
      clear HS HS2 HS3 SD LD HD HOD
      go_wp2
      go_ret
      exact ⟨ret_bool EF.out, HF.out⟩
  by_cases k2 : m.phase = 2
  · have ef : fitB m = (canB m m.h1 && decide (m.gott = chunkN m.com.size)) := by unfold fitB; rw [if_neg k0, if_neg k1, if_pos k2, eo]
    rw [k2] at p1
    clear k0 k1 k2
    have HC := Lib.hid (canCome_any m m.h1 w1.drew hm hm.h1)
    have bd : Below w1.heap.size w1 w1.drew := (Below.refl _ _).drew
    have HD := Lib.hid (H1.out.kept bd)
    have HOD := Lib.hid (HO1.out.kept bd)
    have CD := Lib.hid (C1.out.trans (bd.mono C1.out.size))
    clear bd
    have SD := Lib.hid (fun (W : World) (hW : Below w1.drew.heap.size w1.drew W) => seen_of (HD.out.kept hW) hm)
    have LD := Lib.hid (fun (W : World) (hW : Below w1.drew.heap.size w1.drew W) => ld24w (HOD.out.kept hW) hm.h1)
    have HS := Lib.hid (Below.refl w1.drew.heap.size w1.drew)
    cases ec : canB m m.h1 with
    | false =>
      rw [ec] at HC
      have EF : Hid (false = fitB m) := Lib.hid (by rw [ef, ec]; rfl)
      clear ec ef
      go_upto_region 8 with fail
      refine wp_region_held_drew (S := fun W => Below w1.drew.heap.size w1.drew W) (by kernel_rfl) HS.out ?_
      intro _
      refine wpAnyH_take (i := 0) (v := .agg m.cells) rfl (by kernel_rfl) (by kernel_rfl) (by kernel_rfl) (fun _ _ _ h => h) (yields_ld (by rfl) 27 (.tmp 1) rfl _ _ (fun W hW => (SD.out W hW).all) rfl) HS.out ?_
      simp only [List.getElem_toArray, List.getElem_cons_succ, List.getElem_cons_zero, Act.put, List.setIfInBounds_toArray, List.set_cons_zero, List.set_cons_succ]
      refine wpAnyH_take (i := 1) (v := .agg m.h1.cells) rfl (by kernel_rfl) (by kernel_rfl) (by kernel_rfl) (fun _ _ _ h => h) (yields_ld (by rfl) 24 (.tmp 3) rfl _ _ (fun W hW => LD.out W hW) rfl) HS.out ?_
      simp only [List.getElem_toArray, List.getElem_cons_succ, List.getElem_cons_zero, Act.put, List.setIfInBounds_toArray, List.set_cons_zero, List.set_cons_succ]
      refine wpAnyH_ready (rs := [2]) (by kernel_rfl) (by simp) ?_
      refine AllReadyH.cons rfl (fun K hK => ?_) AllReadyH.nil
      go_simp
      refine (HC.out).mono ?_
      rintro e w2 ⟨rfl, b2⟩; have HS2 := Lib.hid b2; clear b2
      refine hK.out _ _ HS2.out (fun _ => ?_)
      clear hK K
      refine wpAnyH_take (i := 3) (v := .bool false) rfl (by kernel_rfl) (by kernel_rfl) (by kernel_rfl) (fun _ _ _ h => h) (Or.inl ⟨by rfl, (fun W _ => by go_simp)⟩) HS2.out ?_
      simp only [List.getElem_toArray, List.getElem_cons_succ, List.getElem_cons_zero, Act.put, List.setIfInBounds_toArray, List.set_cons_zero, List.set_cons_succ]
      refine wpAnyH_take (i := 4) (v := undef) rfl (by kernel_rfl) (by kernel_rfl) (by kernel_rfl) (fun _ _ _ h => h) (Or.inr ⟨by rfl, rfl⟩) HS2.out ?_
      simp only [List.getElem_toArray, List.getElem_cons_succ, List.getElem_cons_zero, Act.put, List.setIfInBounds_toArray, List.set_cons_zero, List.set_cons_succ]
      refine wpAnyH_take (i := 5) (v := undef) rfl (by kernel_rfl) (by kernel_rfl) (by kernel_rfl) (fun _ _ _ h => h) (Or.inr ⟨by rfl, rfl⟩) HS2.out ?_
      simp only [List.getElem_toArray, List.getElem_cons_succ, List.getElem_cons_zero, Act.put, List.setIfInBounds_toArray, List.set_cons_zero, List.set_cons_succ]
      refine wpAnyH_take (i := 6) (v := undef) rfl (by kernel_rfl) (by kernel_rfl) (by kernel_rfl) (fun _ _ _ h => h) (Or.inr ⟨by rfl, rfl⟩) HS2.out ?_
      simp only [List.getElem_toArray, List.getElem_cons_succ, List.getElem_cons_zero, Act.put, List.setIfInBounds_toArray, List.set_cons_zero, List.set_cons_succ]
      refine wpAnyH_take (i := 7) (v := undef) rfl (by kernel_rfl) (by kernel_rfl) (by kernel_rfl) (fun _ _ _ h => h) (Or.inr ⟨by rfl, rfl⟩) HS2.out ?_
      simp only [List.getElem_toArray, List.getElem_cons_succ, List.getElem_cons_zero, Act.put, List.setIfInBounds_toArray, List.set_cons_zero, List.set_cons_succ]
      refine wpAnyH_take (i := 8) (v := undef) rfl (by kernel_rfl) (by kernel_rfl) (by kernel_rfl) (fun _ _ _ h => h) (Or.inr ⟨by rfl, rfl⟩) HS2.out ?_
      simp only [List.getElem_toArray, List.getElem_cons_succ, List.getElem_cons_zero, Act.put, List.setIfInBounds_toArray, List.set_cons_zero, List.set_cons_succ]
      refine wpAnyH_take (i := 9) (v := undef) rfl (by kernel_rfl) (by kernel_rfl) (by kernel_rfl) (fun _ _ _ h => h) (Or.inr ⟨by rfl, rfl⟩) HS2.out ?_
      simp only [List.getElem_toArray, List.getElem_cons_succ, List.getElem_cons_zero, Act.put, List.setIfInBounds_toArray, List.set_cons_zero, List.set_cons_succ]
      refine wpAnyH_take (i := 10) (v := .bool false) rfl (by kernel_rfl) (by kernel_rfl) (by kernel_rfl) (fun _ _ _ h => h) (Or.inl ⟨by rfl, (fun W _ => by go_simp)⟩) HS2.out ?_
      simp only [List.getElem_toArray, List.getElem_cons_succ, List.getElem_cons_zero, Act.put, List.setIfInBounds_toArray, List.set_cons_zero, List.set_cons_succ]
      refine wpAnyH_take (i := 11) (v := .bool false) rfl (by kernel_rfl) (by kernel_rfl) (by kernel_rfl) (fun _ _ _ h => h) (Or.inl ⟨by rfl, (fun W _ => by go_simp)⟩) HS2.out ?_
      simp only [List.getElem_toArray, List.getElem_cons_succ, List.getElem_cons_zero, Act.put, List.setIfInBounds_toArray, List.set_cons_zero, List.set_cons_succ]
      refine wpAnyH_done (by kernel_rfl) ?_ _
      have HF := Lib.hid (CD.out.trans (HS2.out.mono CD.out.size))
      clear HS HS2 SD LD HD HOD
      go_wp2
      go_ret
      exact ⟨ret_bool EF.out, HF.out⟩
    | true =>
      rw [ec] at HC
      have EF : Hid (decide (m.gott = chunkN m.com.size) = fitB m) := Lib.hid (by rw [ef, ec]; rfl)
      clear ec ef
      go_upto_region 8 with fail
      refine wp_region_held_drew (S := fun W => Below w1.drew.heap.size w1.drew W) (by kernel_rfl) HS.out ?_
      intro _
      refine wpAnyH_take (i := 0) (v := .agg m.cells) rfl (by kernel_rfl) (by kernel_rfl) (by kernel_rfl) (fun _ _ _ h => h) (yields_ld (by rfl) 27 (.tmp 1) rfl _ _ (fun W hW => (SD.out W hW).all) rfl) HS.out ?_
      simp only [List.getElem_toArray, List.getElem_cons_succ, List.getElem_cons_zero, Act.put, List.setIfInBounds_toArray, List.set_cons_zero, List.set_cons_succ]
      refine wpAnyH_take (i := 1) (v := .agg m.h1.cells) rfl (by kernel_rfl) (by kernel_rfl) (by kernel_rfl) (fun _ _ _ h => h) (yields_ld (by rfl) 24 (.tmp 3) rfl _ _ (fun W hW => LD.out W hW) rfl) HS.out ?_
      simp only [List.getElem_toArray, List.getElem_cons_succ, List.getElem_cons_zero, Act.put, List.setIfInBounds_toArray, List.set_cons_zero, List.set_cons_succ]
      refine wpAnyH_ready (rs := [2]) (by kernel_rfl) (by simp) ?_
      refine AllReadyH.cons rfl (fun K hK => ?_) AllReadyH.nil
      go_simp
      refine (HC.out).mono ?_
      rintro e w2 ⟨rfl, b2⟩; have HS2 := Lib.hid b2; clear b2
      refine hK.out _ _ HS2.out (fun _ => ?_)
      clear hK K
      refine wpAnyH_take (i := 3) (v := .bool true) rfl (by kernel_rfl) (by kernel_rfl) (by kernel_rfl) (fun _ _ _ h => h) (Or.inl ⟨by rfl, (fun W _ => by go_simp)⟩) HS2.out ?_
      simp only [List.getElem_toArray, List.getElem_cons_succ, List.getElem_cons_zero, Act.put, List.setIfInBounds_toArray, List.set_cons_zero, List.set_cons_succ]
      refine wpAnyH_take (i := 4) (v := .pointer (some ⟨w.heap.size, 105, none⟩)) rfl (by kernel_rfl) (by kernel_rfl) (by kernel_rfl) (fun _ _ _ h => h) (Or.inl ⟨by rfl, (fun W _ => by go_simp)⟩) HS2.out ?_
      simp only [List.getElem_toArray, List.getElem_cons_succ, List.getElem_cons_zero, Act.put, List.setIfInBounds_toArray, List.set_cons_zero, List.set_cons_succ]
      refine wpAnyH_take (i := 5) (v := .int .i64 m.gott) rfl (by kernel_rfl) (by kernel_rfl) (by kernel_rfl) (fun _ _ _ h => h) (yields_ld (by rfl) 3 (.tmp 47) rfl _ _ (fun W hW => ld3 (SD.out W hW).gott) rfl) HS2.out ?_
      simp only [List.getElem_toArray, List.getElem_cons_succ, List.getElem_cons_zero, Act.put, List.setIfInBounds_toArray, List.set_cons_zero, List.set_cons_succ]
      refine wpAnyH_take (i := 6) (v := .pointer (some ⟨w.heap.size, 71, none⟩)) rfl (by kernel_rfl) (by kernel_rfl) (by kernel_rfl) (fun _ _ _ h => h) (Or.inl ⟨by rfl, (fun W _ => by go_simp)⟩) HS2.out ?_
      simp only [List.getElem_toArray, List.getElem_cons_succ, List.getElem_cons_zero, Act.put, List.setIfInBounds_toArray, List.set_cons_zero, List.set_cons_succ]
      refine wpAnyH_take (i := 7) (v := .agg m.com.cells) rfl (by kernel_rfl) (by kernel_rfl) (by kernel_rfl) (fun _ _ _ h => h) (yields_ld (by rfl) 24 (.tmp 49) rfl _ _ (fun W hW => (SD.out W hW).l2) rfl) HS2.out ?_
      simp only [List.getElem_toArray, List.getElem_cons_succ, List.getElem_cons_zero, Act.put, List.setIfInBounds_toArray, List.set_cons_zero, List.set_cons_succ]
      refine wpAnyH_ready (rs := [8]) (by kernel_rfl) (by simp) ?_
      refine AllReadyH.cons rfl (fun K hK => ?_) AllReadyH.nil
      go_simp
      refine (chunks_any m.com w2 HB.out).mono ?_
      rintro e w3 ⟨rfl, b3⟩; have HS3 := Lib.hid (HS2.out.trans (b3.mono HS2.out.size)); clear b3
      refine hK.out _ _ HS3.out (fun _ => ?_)
      clear hK K
      refine wpAnyH_take (i := 9) (v := .bool (decide (m.gott = chunkN m.com.size))) rfl (by kernel_rfl) (by kernel_rfl) (by kernel_rfl) (fun _ _ _ h => h) (Or.inl ⟨by rfl, (fun W _ => by go_simp; exact beq_dec _ _)⟩) HS3.out ?_
      simp only [List.getElem_toArray, List.getElem_cons_succ, List.getElem_cons_zero, Act.put, List.setIfInBounds_toArray, List.set_cons_zero, List.set_cons_succ]
      refine wpAnyH_take (i := 10) (v := .bool (decide (m.gott = chunkN m.com.size))) rfl (by kernel_rfl) (by kernel_rfl) (by kernel_rfl) (fun _ _ _ h => h) (Or.inl ⟨by rfl, (fun W _ => by go_simp)⟩) HS3.out ?_
      simp only [List.getElem_toArray, List.getElem_cons_succ, List.getElem_cons_zero, Act.put, List.setIfInBounds_toArray, List.set_cons_zero, List.set_cons_succ]
      refine wpAnyH_take (i := 11) (v := .bool (decide (m.gott = chunkN m.com.size))) rfl (by kernel_rfl) (by kernel_rfl) (by kernel_rfl) (fun _ _ _ h => h) (Or.inl ⟨by rfl, (fun W _ => by go_simp)⟩) HS3.out ?_
      simp only [List.getElem_toArray, List.getElem_cons_succ, List.getElem_cons_zero, Act.put, List.setIfInBounds_toArray, List.set_cons_zero, List.set_cons_succ]
      refine wpAnyH_done (by kernel_rfl) ?_ _
      have HF := Lib.hid (CD.out.trans (HS3.out.mono CD.out.size))
      clear HS HS2 HS3 SD LD HD HOD
      go_wp2
      go_ret
      exact ⟨ret_bool EF.out, HF.out⟩
  by_cases k3 : m.phase = 3
  · have ef : fitB m = ((decide (m.com.ver = 0) && decide (m.gott = 0)) && decide (m.h1.ver ≠ 0)) := by unfold fitB; rw [if_neg k0, if_neg k1, if_neg k2, if_pos k3, eo]
    rw [k3] at p1
    clear k0 k1 k2 k3
    have HX := Lib.hid (isOne_any m.com w1)
    cases e1 : decide (m.com.ver ≠ 0) with
    | true =>
      rw [e1] at HX
      have ec : decide (m.com.ver = 0) = false := decide_eq_false (of_decide_eq_true e1)
      have EF : Hid (false = fitB m) := Lib.hid (by rw [ef, ec]; rfl)
      clear e1 ec ef
      go_wp2_with (first
        | (refine wpList_ld 24 _ rfl _ _ S1.out.l2 rfl rfl ?_)
        | (go_at_call 55; (with_reducible refine HX.out.mono ?_); rintro e w2 ⟨rfl, b2⟩; clear HX; have C2 := Lib.hid (C1.out.trans (b2.mono C1.out.size)); have H2 := Lib.hid (H1.out.kept b2); have HO2 := Lib.hid (HO1.out.kept b2); clear b2; have S2 := Lib.hid (seen_of H2.out hm)))
      go_ret
      exact ⟨ret_bool EF.out, C2.out⟩
    | false =>
      rw [e1] at HX
      have ec : decide (m.com.ver = 0) = true := decide_eq_true (by simpa using of_decide_eq_false e1)
      clear e1
      by_cases g0 : m.gott = 0
      · have G0 := Lib.hid g0
        have EF : Hid (decide (m.h1.ver ≠ 0) = fitB m) := Lib.hid (by rw [ef, ec, decide_eq_true g0]; rfl)
        clear g0 ec ef
        go_wp2_with (first
          | (refine wpList_ld 24 _ rfl _ _ S1.out.l2 rfl rfl ?_)
          | (go_at_call 55; (with_reducible refine HX.out.mono ?_); rintro e w2 ⟨rfl, b2⟩; clear HX; have C2 := Lib.hid (C1.out.trans (b2.mono C1.out.size)); have H2 := Lib.hid (H1.out.kept b2); have HO2 := Lib.hid (HO1.out.kept b2); clear b2; have S2 := Lib.hid (seen_of H2.out hm); have q2 := S2.out.gott; rw [G0.out] at q2; have LO2 := Lib.hid (ld24w HO2.out hm.h1); have HY := Lib.hid (isOne_any m.h1 w2))
          | (refine wpList_ld 24 _ rfl _ _ LO2.out rfl rfl ?_)
          | (go_at_call 55; (with_reducible refine HY.out.mono ?_); rintro e w3 ⟨rfl, b3⟩; clear HY; have C3 := Lib.hid (C2.out.trans (b3.mono C2.out.size)); clear b3))
        go_ret
        exact ⟨ret_bool (Eq.trans (by simp) EF.out), C3.out⟩
      · have G0 := Lib.hid g0
        have g1 : (m.gott == 0) = false := by simp [g0]
        have EF : Hid (false = fitB m) := Lib.hid (by rw [ef, ec, decide_eq_false g0]; rfl)
        clear g0 ec ef
        go_wp2_with (first
          | (refine wpList_ld 24 _ rfl _ _ S1.out.l2 rfl rfl ?_)
          | (go_at_call 55; (with_reducible refine HX.out.mono ?_); rintro e w2 ⟨rfl, b2⟩; clear HX; have C2 := Lib.hid (C1.out.trans (b2.mono C1.out.size)); have H2 := Lib.hid (H1.out.kept b2); have HO2 := Lib.hid (HO1.out.kept b2); clear b2; have S2 := Lib.hid (seen_of H2.out hm); have q2 := S2.out.gott))
        go_ret
        exact ⟨ret_bool EF.out, C2.out⟩
  have ef : fitB m = false := by unfold fitB; rw [if_neg k0, if_neg k1, if_neg k2, if_neg k3]
  have d0 : (m.phase == 0) = false := by simp [k0]
  have d1 : (m.phase == 1) = false := by simp [k1]
  have d2 : (m.phase == 2) = false := by simp [k2]
  have d3 : (m.phase == 3) = false := by simp [k3]
  have EF := Lib.hid ef.symm
  clear k0 k1 k2 k3 ef
  go_wp2
  go_ret
  exact ⟨ret_bool EF.out, C1.out⟩
end Go.Proofs.YtcokpdhhpaahgaaDoor
