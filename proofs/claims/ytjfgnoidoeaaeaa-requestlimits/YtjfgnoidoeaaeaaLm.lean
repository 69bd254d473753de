/-
  The walk of the law RequestLimits, one of the nine, and the whole; conditions: none.
-/
import Derived.Test.YtjfgnoidoeaaeaaLo
import Derived.Deep.RegionHeld3
import Derived.Deep.Cut
namespace Go.Proofs.Ytjfgnoidoeaaeaa.requestLimits
open Go.RowKit
set_option linter.unusedVariables false
set_option linter.unusedSimpArgs false

set_option maxRecDepth 100000 in
set_option maxHeartbeats 16000000 in
theorem walk_nine (i : Nat) (w : World) (hi : i < 9) : Calls Try.prog 5 #[.int .i64 (i : Int)] w fun e w' => e = .returned (.bool true) ∧ Below w.heap.size w w' := by
  have hz24 := zero24_run
  have hz27 := zero27_run
  have HLV := Lib.hid (live_any w)
  have d0 : decide ((i : Int) < 0) = false := decide_eq_false (by omega)
  have d1 : decide (9 ≤ (i : Int)) = false := decide_eq_false (by omega)
  have i0 : (0 : Int) ≤ (i : Int) := by omega
  have hin : (i : Int) < 9 := by omega
  have HNI := Lib.hid hi
  obtain ⟨r, b2, he, hm, hg, hrb, hib, hlr⟩ := nineR hi
  have HIB := Lib.hid hib
  have HLR := Lib.hid hlr
  obtain ⟨LY, hLY⟩ : ∃ L, (respOut r).length = L := ⟨_, rfl⟩
  have HPA := Lib.hid (fun (X : World) => show Calls Try.prog 15 #[.agg r.cells] X (Gives LY (respOut r) X) by have h1 := answer_any r X he hm hg; rw [hLY] at h1; exact h1)
  have hg2 := rout_long hrb
  rw [hLY] at hg2
  have hg2' : decide (0 < LY) = b2 := by rw [← hg2, Bool.eq_iff_iff]; simp
  clear he hm hg hrb hib hlr hLY hi
  go_enter Try.func5, Try.ntmps5
  go_upto_region 2 with (go_at_call 6; (with_reducible refine HLV.out.mono ?_); rintro e w1 ⟨rfl, b1⟩; clear HLV; have C1 := Lib.hid b1; clear b1)
  obtain ⟨wd, hwd⟩ : ∃ wd, w1.drew = wd := ⟨_, rfl⟩
  have CD := Lib.hid (show Below w.heap.size w wd by rw [← hwd]; exact C1.out.drew)
  have HTR := Lib.hid (show (fun W : World => True) wd from trivial)
  clear C1
  refine wp_region_held_drew (S := fun W => True) (by kernel_rfl) trivial ?_
  intro _
  rw [hwd]
  clear hwd
  refine wpAnyH_take (i := 0) (v := .agg (qc 1 0 nilV)) rfl (by kernel_rfl) (by kernel_rfl) (by kernel_rfl) (fun _ _ _ h => h) (yields_bld (by rfl) 24 #[(0, .const (.int .i64 1))] rfl _ (by kernel_rfl)) HTR.out ?_
  simp only [List.getElem_toArray, List.getElem_cons_succ, List.getElem_cons_zero, Act.put, List.setIfInBounds_toArray, List.set_cons_zero, List.set_cons_succ]
  refine wpAnyH_take (i := 1) (v := .agg (qc 9 0 nilV)) rfl (by kernel_rfl) (by kernel_rfl) (by kernel_rfl) (fun _ _ _ h => h) (yields_bld (by rfl) 24 #[(0, .const (.int .i64 9))] rfl _ (by kernel_rfl)) HTR.out ?_
  simp only [List.getElem_toArray, List.getElem_cons_succ, List.getElem_cons_zero, Act.put, List.setIfInBounds_toArray, List.set_cons_zero, List.set_cons_succ]
  refine wpAnyH_take (i := 2) (v := .agg (qc 0 0 nilV)) rfl (by kernel_rfl) (by kernel_rfl) (by kernel_rfl) (fun _ _ _ h => h) (yields_bld (by rfl) 24 #[(0, .const (.int .i64 0))] rfl _ (by kernel_rfl)) HTR.out ?_
  simp only [List.getElem_toArray, List.getElem_cons_succ, List.getElem_cons_zero, Act.put, List.setIfInBounds_toArray, List.set_cons_zero, List.set_cons_succ]
  refine wpAnyH_take (i := 3) (v := .agg (qc 10 0 nilV)) rfl (by kernel_rfl) (by kernel_rfl) (by kernel_rfl) (fun _ _ _ h => h) (yields_bld (by rfl) 24 #[(0, .const (.int .i64 10))] rfl _ (by kernel_rfl)) HTR.out ?_
  simp only [List.getElem_toArray, List.getElem_cons_succ, List.getElem_cons_zero, Act.put, List.setIfInBounds_toArray, List.set_cons_zero, List.set_cons_succ]
  refine wpAnyH_take (i := 4) (v := .agg (qc 1 2147483647 nilV)) rfl (by kernel_rfl) (by kernel_rfl) (by kernel_rfl) (fun _ _ _ h => h) (yields_bld (by rfl) 24 #[(0, .const (.int .i64 1)), (1, .const (.int .i64 2147483647))] rfl _ (by kernel_rfl)) HTR.out ?_
  simp only [List.getElem_toArray, List.getElem_cons_succ, List.getElem_cons_zero, Act.put, List.setIfInBounds_toArray, List.set_cons_zero, List.set_cons_succ]
  refine wpAnyH_take (i := 5) (v := .agg (qc 1 2147483648 nilV)) rfl (by kernel_rfl) (by kernel_rfl) (by kernel_rfl) (fun _ _ _ h => h) (yields_bld (by rfl) 24 #[(0, .const (.int .i64 1)), (1, .const (.int .i64 2147483648))] rfl _ (by kernel_rfl)) HTR.out ?_
  simp only [List.getElem_toArray, List.getElem_cons_succ, List.getElem_cons_zero, Act.put, List.setIfInBounds_toArray, List.set_cons_zero, List.set_cons_succ]
  refine wpAnyH_take (i := 6) (v := .agg (qc 1 (-1) nilV)) rfl (by kernel_rfl) (by kernel_rfl) (by kernel_rfl) (fun _ _ _ h => h) (yields_bld (by rfl) 24 #[(0, .const (.int .i64 1)), (1, .const (.int .i64 (-1)))] rfl _ (by kernel_rfl)) HTR.out ?_
  simp only [List.getElem_toArray, List.getElem_cons_succ, List.getElem_cons_zero, Act.put, List.setIfInBounds_toArray, List.set_cons_zero, List.set_cons_succ]
  refine wpAnyH_ready (rs := [7, 9]) (by kernel_rfl) (by simp) ?_
  refine AllReadyH.cons rfl (fun K hK => ?_) (AllReadyH.cons rfl (fun K hK => ?_) AllReadyH.nil)
  · refine step_mk (by rfl) (.const (.int .i64 1000)) (.const (.int .i64 1000)) rfl 1000 rfl rfl (by omega) ?_
    refine hK.out _ _ HTR.out (fun _ => ?_)
    clear hK K
    simp only [List.getElem_toArray, List.getElem_cons_succ, List.getElem_cons_zero, Act.put, List.setIfInBounds_toArray, List.set_cons_zero, List.set_cons_succ]
    refine wpAnyH_take (i := 8) (v := .agg (qc 1 0 (zerS wd.heap.size 1000))) rfl (by kernel_rfl) (by kernel_rfl) (by kernel_rfl) (fun _ _ _ h => h) (yields_bldZ (by rfl) (.tmp 16) rfl _ 1000 rfl) HTR.out ?_
    simp only [List.getElem_toArray, List.getElem_cons_succ, List.getElem_cons_zero, Act.put, List.setIfInBounds_toArray, List.set_cons_zero, List.set_cons_succ]
    refine wpAnyH_ready (rs := [9]) (by kernel_rfl) (by simp) ?_
    refine AllReadyH.cons rfl (fun K hK => ?_) AllReadyH.nil
    refine step_mk (by rfl) (.const (.int .i64 1001)) (.const (.int .i64 1001)) rfl 1001 rfl rfl (by omega) ?_
    refine hK.out _ _ HTR.out (fun _ => ?_)
    clear hK K
    simp only [List.getElem_toArray, List.getElem_cons_succ, List.getElem_cons_zero, Act.put, List.setIfInBounds_toArray, List.set_cons_zero, List.set_cons_succ]
    refine wpAnyH_take (i := 10) (v := .agg (qc 1 0 (zerS (wd.alloc (.cells (zeroBytes 1000) 5)).heap.size 1001))) rfl (by kernel_rfl) (by kernel_rfl) (by kernel_rfl) (fun _ _ _ h => h) (yields_bldZ (by rfl) (.tmp 18) rfl _ 1001 rfl) HTR.out ?_
    simp only [List.getElem_toArray, List.getElem_cons_succ, List.getElem_cons_zero, Act.put, List.setIfInBounds_toArray, List.set_cons_zero, List.set_cons_succ]
    refine wpAnyH_ready (rs := [11]) (by kernel_rfl) (by simp) ?_
    refine AllReadyH.cons rfl (fun K hK => ?_) AllReadyH.nil
    refine step_nine (by rfl) wd.heap.size (wd.alloc (.cells (zeroBytes 1000) 5)).heap.size (.tmp 9) (.tmp 10) (.tmp 11) (.tmp 12) (.tmp 13) (.tmp 14) (.tmp 15) (.tmp 17) (.tmp 19) rfl rfl rfl rfl rfl rfl rfl rfl rfl rfl ?_
    refine hK.out _ _ HTR.out (fun _ => ?_)
    clear hK K
    simp only [List.getElem_toArray, List.getElem_cons_succ, List.getElem_cons_zero, Act.put, List.setIfInBounds_toArray, List.set_cons_zero, List.set_cons_succ]
    refine wpAnyH_take (i := 12) (v := .slice (some ⟨((wd.alloc (.cells (zeroBytes 1000) 5)).alloc (.cells (zeroBytes 1001) 5)).heap.size, 0, none⟩) 9 9) rfl (by kernel_rfl) (by kernel_rfl) (by kernel_rfl) (fun _ _ _ h => h) (Or.inl ⟨by rfl, (fun W _ => by go_simp)⟩) HTR.out ?_
    simp only [List.getElem_toArray, List.getElem_cons_succ, List.getElem_cons_zero, Act.put, List.setIfInBounds_toArray, List.set_cons_zero, List.set_cons_succ]
    refine wpAnyH_done (by kernel_rfl) ?_ _
    have BW : Below wd.heap.size wd (((wd.alloc (.cells (zeroBytes 1000) 5)).alloc (.cells (zeroBytes 1001) 5)).alloc (.cells (cellsQ (wd.heap.size) ((wd.alloc (.cells (zeroBytes 1000) 5)).heap.size)) 24)) := (((Below.refl _ _).alloc (Nat.le_refl _) _).alloc (by simp) _).alloc (by simp; omega) _
    have HTQ := has_new ((wd.alloc (.cells (zeroBytes 1000) 5)).alloc (.cells (zeroBytes 1001) 5)) 24 (cellsQ (wd.heap.size) ((wd.alloc (.cells (zeroBytes 1000) 5)).heap.size))
    have HZP : Has (((wd.alloc (.cells (zeroBytes 1000) 5)).alloc (.cells (zeroBytes 1001) 5)).alloc (.cells (cellsQ (wd.heap.size) ((wd.alloc (.cells (zeroBytes 1000) 5)).heap.size)) 24)) wd.heap.size 5 (zeroBytes 1000) := ((has_new wd 5 (zeroBytes 1000)).more _).more _
    have HZQ : Has (((wd.alloc (.cells (zeroBytes 1000) 5)).alloc (.cells (zeroBytes 1001) 5)).alloc (.cells (cellsQ (wd.heap.size) ((wd.alloc (.cells (zeroBytes 1000) 5)).heap.size)) 24)) (wd.alloc (.cells (zeroBytes 1000) 5)).heap.size 5 (zeroBytes 1001) := (has_new (wd.alloc (.cells (zeroBytes 1000) 5)) 5 (zeroBytes 1001)).more _
    obtain ⟨p, hp⟩ : ∃ p, wd.heap.size = p := ⟨_, rfl⟩
    obtain ⟨q, hq⟩ : ∃ q, (wd.alloc (.cells (zeroBytes 1000) 5)).heap.size = q := ⟨_, rfl⟩
    obtain ⟨g, hg⟩ : ∃ g, ((wd.alloc (.cells (zeroBytes 1000) 5)).alloc (.cells (zeroBytes 1001) 5)).heap.size = g := ⟨_, rfl⟩
    have CE := CD.out.trans (BW.mono CD.out.size)
    clear BW CD
    try rw [hp] at CE
    try rw [hq] at CE
    try rw [hp] at HTQ
    try rw [hq] at HTQ
    try rw [hg] at HTQ
    try rw [hp] at HZP
    try rw [hq] at HZP
    try rw [hp] at HZQ
    try rw [hq] at HZQ
    try rw [hp]
    try rw [hq]
    try rw [hg]
    generalize hWW : ((wd.alloc (.cells (zeroBytes 1000) 5)).alloc (.cells (zeroBytes 1001) 5)).alloc (.cells (cellsQ p q) 24) = W at *
    have C2 := Lib.hid CE
    have T2 := Lib.hid HTQ
    have P2 := Lib.hid HZP
    have Q2 := Lib.hid HZQ
    clear hWW hp hq hg CE HTQ HZP HZQ HTR
    obtain ⟨k, n, A, l, b, hk, hn, hqb, hob, hlq, hrq⟩ := nineQ (p := p) (q := q) HNI.out
    have HOB := Lib.hid hob
    have HLQ := Lib.hid hlq
    have HRQ := Lib.hid hrq
    obtain ⟨LX, hLX⟩ : ∃ L, (reqOut k n (List.replicate l 0)).length = L := ⟨_, rfl⟩
    have HPQ := Lib.hid (fun (X : World) (h : Row X A l (List.replicate l 0)) => show Calls Try.prog 7 #[.agg (qc k n (.slice A l l))] X (Gives LX (reqOut k n (List.replicate l 0)) X) by have h1 := bytes_any' k n A l l _ X hk hn h; rw [hLX] at h1; exact h1)
    have hg1 := out_long hqb
    rw [hLX] at hg1
    have hg1' : decide (0 < LX) = b := by rw [← hg1, Bool.eq_iff_iff]; simp
    clear hk hn hqb hob hlq hrq hLX
    have BZ : Below W.heap.size W (((W.alloc (.cells #[.bool true, .bool true, .bool false, .bool false, .bool true, .bool false, .bool false, .bool true, .bool false] 4)).alloc (.cells cellsR 27)).alloc (.cells #[.bool true, .bool false, .bool false, .bool true, .bool false, .bool true, .bool false, .bool false, .bool false] 4)) := (((Below.refl _ _).alloc (Nat.le_refl _) _).alloc (by simp) _).alloc (by simp; omega) _
    have HO : Has (((W.alloc (.cells #[.bool true, .bool true, .bool false, .bool false, .bool true, .bool false, .bool false, .bool true, .bool false] 4)).alloc (.cells cellsR 27)).alloc (.cells #[.bool true, .bool false, .bool false, .bool true, .bool false, .bool true, .bool false, .bool false, .bool false] 4)) W.heap.size 4 (OK9.map Value.bool).toArray := ((has_new W 4 #[.bool true, .bool true, .bool false, .bool false, .bool true, .bool false, .bool false, .bool true, .bool false]).more _).more _
    have hr1 := has_new (W.alloc (.cells #[.bool true, .bool true, .bool false, .bool false, .bool true, .bool false, .bool false, .bool true, .bool false] 4)) 27 cellsR
    rw [World.size_alloc] at hr1
    have HR : Has (((W.alloc (.cells #[.bool true, .bool true, .bool false, .bool false, .bool true, .bool false, .bool false, .bool true, .bool false] 4)).alloc (.cells cellsR 27)).alloc (.cells #[.bool true, .bool false, .bool false, .bool true, .bool false, .bool true, .bool false, .bool false, .bool false] 4)) (W.heap.size + 1) 27 cellsR := hr1.more _
    have hi1 := has_new ((W.alloc (.cells #[.bool true, .bool true, .bool false, .bool false, .bool true, .bool false, .bool false, .bool true, .bool false] 4)).alloc (.cells cellsR 27)) 4 #[.bool true, .bool false, .bool false, .bool true, .bool false, .bool true, .bool false, .bool false, .bool false]
    rw [World.size_alloc, World.size_alloc] at hi1
    have HI : Has (((W.alloc (.cells #[.bool true, .bool true, .bool false, .bool false, .bool true, .bool false, .bool false, .bool true, .bool false] 4)).alloc (.cells cellsR 27)).alloc (.cells #[.bool true, .bool false, .bool false, .bool true, .bool false, .bool true, .bool false, .bool false, .bool false] 4)) (W.heap.size + 1 + 1) 4 (IS9.map Value.bool).toArray := hi1
    have HO3 := Lib.hid HO
    have HR3 := Lib.hid HR
    have HI3 := Lib.hid HI
    have T3 := Lib.hid (T2.out.kept BZ)
    have P3 := Lib.hid (P2.out.kept BZ)
    have Q3 := Lib.hid (Q2.out.kept BZ)
    have C3 := Lib.hid (C2.out.trans (BZ.mono C2.out.size))
    clear BZ HO HR HI hr1 hi1 T2 P2 Q2 C2
    go_upto_region 8 with (first
      | (refine wpList_nineR rfl (.tmp 22) (.tmp 23) (.tmp 24) (.tmp 25) (.tmp 26) (.tmp 27) (.tmp 28) (.tmp 29) (.tmp 30) rfl rfl rfl rfl rfl rfl rfl rfl rfl rfl ?_))
    generalize hV : (((W.alloc (.cells #[.bool true, .bool true, .bool false, .bool false, .bool true, .bool false, .bool false, .bool true, .bool false] 4)).alloc (.cells cellsR 27)).alloc (.cells #[.bool true, .bool false, .bool false, .bool true, .bool false, .bool true, .bool false, .bool false, .bool false] 4)) = V at *
    obtain ⟨G, hG⟩ : ∃ G, W.heap.size = G := ⟨_, rfl⟩
    rw [hG] at HO3 HR3 HI3 ⊢
    clear hV hG
    have bd : Below V.heap.size V V.drew := (Below.refl _ _).drew
    obtain ⟨U, hU⟩ : ∃ U, V.drew = U := ⟨_, rfl⟩
    rw [hU] at bd
    have SQ := Lib.hid (fun (X : World) (hX : Below U.heap.size U X) => HLQ.out X g ((T3.out.kept bd).kept hX))
    have SO := Lib.hid (fun (X : World) (hX : Below U.heap.size U X) => ld4 (bools_at ((HO3.out.kept bd).kept hX) HOB.out))
    have SR := Lib.hid (fun (X : World) (hX : Below U.heap.size U X) => HLR.out X (G + 1) ((HR3.out.kept bd).kept hX))
    have SI := Lib.hid (fun (X : World) (hX : Below U.heap.size U X) => ld4 (bools_at ((HI3.out.kept bd).kept hX) HIB.out))
    have HB := Lib.hid (fun (X : World) (hX : Below U.heap.size U X) => HPQ.out X (HRQ.out X ((P3.out.kept bd).kept hX) ((Q3.out.kept bd).kept hX)))
    have CE := Lib.hid (C3.out.trans (bd.mono C3.out.size))
    have HS0 := Lib.hid (Below.refl U.heap.size U)
    clear bd T3 P3 Q3 C3 HO3 HR3 HI3
    refine wp_region_held_drew (S := fun X => Below U.heap.size U X) (by kernel_rfl) (by rw [hU]; exact HS0.out) ?_
    intro _
    rw [hU]
    clear hU
    refine wpAnyH_take (i := 0) (v := .slice (some ⟨g, 0, none⟩) 9 9) rfl (by kernel_rfl) (by kernel_rfl) (by kernel_rfl) (fun _ _ _ h => h) (Or.inl ⟨by rfl, (fun W _ => by go_simp)⟩) HS0.out ?_
    simp only [List.getElem_toArray, List.getElem_cons_succ, List.getElem_cons_zero, Act.put, List.setIfInBounds_toArray, List.set_cons_zero, List.set_cons_succ]
    refine wpAnyH_take (i := 1) (v := .int .i64 (i : Int)) rfl (by kernel_rfl) (by kernel_rfl) (by kernel_rfl) (fun _ _ _ h => h) (Or.inl ⟨by rfl, (fun W _ => by go_simp)⟩) HS0.out ?_
    simp only [List.getElem_toArray, List.getElem_cons_succ, List.getElem_cons_zero, Act.put, List.setIfInBounds_toArray, List.set_cons_zero, List.set_cons_succ]
    refine wpAnyH_take (i := 2) (v := .pointer (some ⟨g, i * 3, none⟩)) rfl (by kernel_rfl) (by kernel_rfl) (by kernel_rfl) (fun _ _ _ h => h) (Or.inl ⟨by rfl, (fun W _ => by go_simp)⟩) HS0.out ?_
    simp only [List.getElem_toArray, List.getElem_cons_succ, List.getElem_cons_zero, Act.put, List.setIfInBounds_toArray, List.set_cons_zero, List.set_cons_succ]
    refine wpAnyH_take (i := 3) (v := .agg (qc k n (.slice A l l))) rfl (by kernel_rfl) (by kernel_rfl) (by kernel_rfl) (fun _ _ _ h => h) (yields_ld (by rfl) 24 (.tmp 48) rfl _ _ (fun X hX => SQ.out X hX) rfl) HS0.out ?_
    simp only [List.getElem_toArray, List.getElem_cons_succ, List.getElem_cons_zero, Act.put, List.setIfInBounds_toArray, List.set_cons_zero, List.set_cons_succ]
    refine wpAnyH_take (i := 7) (v := .slice (some ⟨G, 0, none⟩) 9 9) rfl (by kernel_rfl) (by kernel_rfl) (by kernel_rfl) (fun _ _ _ h => h) (Or.inl ⟨by rfl, (fun W _ => by go_simp)⟩) HS0.out ?_
    simp only [List.getElem_toArray, List.getElem_cons_succ, List.getElem_cons_zero, Act.put, List.setIfInBounds_toArray, List.set_cons_zero, List.set_cons_succ]
    refine wpAnyH_take (i := 8) (v := .int .i64 (i : Int)) rfl (by kernel_rfl) (by kernel_rfl) (by kernel_rfl) (fun _ _ _ h => h) (Or.inl ⟨by rfl, (fun W _ => by go_simp)⟩) HS0.out ?_
    simp only [List.getElem_toArray, List.getElem_cons_succ, List.getElem_cons_zero, Act.put, List.setIfInBounds_toArray, List.set_cons_zero, List.set_cons_succ]
    refine wpAnyH_take (i := 9) (v := .pointer (some ⟨G, i, none⟩)) rfl (by kernel_rfl) (by kernel_rfl) (by kernel_rfl) (fun _ _ _ h => h) (Or.inl ⟨by rfl, (fun W _ => by go_simp)⟩) HS0.out ?_
    simp only [List.getElem_toArray, List.getElem_cons_succ, List.getElem_cons_zero, Act.put, List.setIfInBounds_toArray, List.set_cons_zero, List.set_cons_succ]
    refine wpAnyH_take (i := 10) (v := .bool b) rfl (by kernel_rfl) (by kernel_rfl) (by kernel_rfl) (fun _ _ _ h => h) (yields_ld (by rfl) 4 (.tmp 55) rfl _ _ (fun X hX => SO.out X hX) rfl) HS0.out ?_
    simp only [List.getElem_toArray, List.getElem_cons_succ, List.getElem_cons_zero, Act.put, List.setIfInBounds_toArray, List.set_cons_zero, List.set_cons_succ]
    refine wpAnyH_ready (rs := [4]) (by kernel_rfl) (by simp) ?_
    refine AllReadyH.cons rfl (fun K hK => ?_) AllReadyH.nil
    go_simp
    refine (HB.out U HS0.out).mono ?_
    rintro e x1 ⟨y1, rfl, p1, f1⟩
    obtain ⟨B1, d1, rfl, _, _, _⟩ := p1.form
    have HS1 := Lib.hid f1
    clear p1 f1
    refine hK.out _ _ HS1.out (fun _ => ?_)
    clear hK K
    refine wpAnyH_take (i := 5) (v := .int .i64 (LX : Int)) rfl (by kernel_rfl) (by kernel_rfl) (by kernel_rfl) (fun _ _ _ h => h) (Or.inl ⟨by rfl, (fun W _ => by go_simp)⟩) HS1.out ?_
    simp only [List.getElem_toArray, List.getElem_cons_succ, List.getElem_cons_zero, Act.put, List.setIfInBounds_toArray, List.set_cons_zero, List.set_cons_succ]
    refine wpAnyH_take (i := 6) (v := .bool b) rfl (by kernel_rfl) (by kernel_rfl) (by kernel_rfl) (fun _ _ _ h => h) (Or.inl ⟨by rfl, (fun W _ => by go_simp)⟩) HS1.out ?_
    simp only [List.getElem_toArray, List.getElem_cons_succ, List.getElem_cons_zero, Act.put, List.setIfInBounds_toArray, List.set_cons_zero, List.set_cons_succ]
    refine wpAnyH_take (i := 11) (v := .bool true) rfl (by kernel_rfl) (by kernel_rfl) (by kernel_rfl) (fun _ _ _ h => h) (Or.inl ⟨by rfl, (fun W _ => by go_simp)⟩) HS1.out ?_
    simp only [List.getElem_toArray, List.getElem_cons_succ, List.getElem_cons_zero, Act.put, List.setIfInBounds_toArray, List.set_cons_zero, List.set_cons_succ]
    refine wpAnyH_take (i := 12) (v := .bool true) rfl (by kernel_rfl) (by kernel_rfl) (by kernel_rfl) (fun _ _ _ h => h) (Or.inl ⟨by rfl, (fun W _ => by go_simp)⟩) HS1.out ?_
    simp only [List.getElem_toArray, List.getElem_cons_succ, List.getElem_cons_zero, Act.put, List.setIfInBounds_toArray, List.set_cons_zero, List.set_cons_succ]
    refine wpAnyH_take (i := 13) (v := .slice (some ⟨G + 1, 0, none⟩) 9 9) rfl (by kernel_rfl) (by kernel_rfl) (by kernel_rfl) (fun _ _ _ h => h) (Or.inl ⟨by rfl, (fun W _ => by go_simp)⟩) HS1.out ?_
    simp only [List.getElem_toArray, List.getElem_cons_succ, List.getElem_cons_zero, Act.put, List.setIfInBounds_toArray, List.set_cons_zero, List.set_cons_succ]
    refine wpAnyH_take (i := 14) (v := .int .i64 (i : Int)) rfl (by kernel_rfl) (by kernel_rfl) (by kernel_rfl) (fun _ _ _ h => h) (Or.inl ⟨by rfl, (fun W _ => by go_simp)⟩) HS1.out ?_
    simp only [List.getElem_toArray, List.getElem_cons_succ, List.getElem_cons_zero, Act.put, List.setIfInBounds_toArray, List.set_cons_zero, List.set_cons_succ]
    refine wpAnyH_take (i := 15) (v := .pointer (some ⟨G + 1, i * 3, none⟩)) rfl (by kernel_rfl) (by kernel_rfl) (by kernel_rfl) (fun _ _ _ h => h) (Or.inl ⟨by rfl, (fun W _ => by go_simp)⟩) HS1.out ?_
    simp only [List.getElem_toArray, List.getElem_cons_succ, List.getElem_cons_zero, Act.put, List.setIfInBounds_toArray, List.set_cons_zero, List.set_cons_succ]
    refine wpAnyH_take (i := 16) (v := .agg r.cells) rfl (by kernel_rfl) (by kernel_rfl) (by kernel_rfl) (fun _ _ _ h => h) (yields_ld (by rfl) 27 (.tmp 61) rfl _ _ (fun X hX => SR.out X hX) rfl) HS1.out ?_
    simp only [List.getElem_toArray, List.getElem_cons_succ, List.getElem_cons_zero, Act.put, List.setIfInBounds_toArray, List.set_cons_zero, List.set_cons_succ]
    refine wpAnyH_take (i := 20) (v := .slice (some ⟨G + 1 + 1, 0, none⟩) 9 9) rfl (by kernel_rfl) (by kernel_rfl) (by kernel_rfl) (fun _ _ _ h => h) (Or.inl ⟨by rfl, (fun W _ => by go_simp)⟩) HS1.out ?_
    simp only [List.getElem_toArray, List.getElem_cons_succ, List.getElem_cons_zero, Act.put, List.setIfInBounds_toArray, List.set_cons_zero, List.set_cons_succ]
    refine wpAnyH_take (i := 21) (v := .int .i64 (i : Int)) rfl (by kernel_rfl) (by kernel_rfl) (by kernel_rfl) (fun _ _ _ h => h) (Or.inl ⟨by rfl, (fun W _ => by go_simp)⟩) HS1.out ?_
    simp only [List.getElem_toArray, List.getElem_cons_succ, List.getElem_cons_zero, Act.put, List.setIfInBounds_toArray, List.set_cons_zero, List.set_cons_succ]
    refine wpAnyH_take (i := 22) (v := .pointer (some ⟨G + 1 + 1, i, none⟩)) rfl (by kernel_rfl) (by kernel_rfl) (by kernel_rfl) (fun _ _ _ h => h) (Or.inl ⟨by rfl, (fun W _ => by go_simp)⟩) HS1.out ?_
    simp only [List.getElem_toArray, List.getElem_cons_succ, List.getElem_cons_zero, Act.put, List.setIfInBounds_toArray, List.set_cons_zero, List.set_cons_succ]
    refine wpAnyH_take (i := 23) (v := .bool b2) rfl (by kernel_rfl) (by kernel_rfl) (by kernel_rfl) (fun _ _ _ h => h) (yields_ld (by rfl) 4 (.tmp 68) rfl _ _ (fun X hX => SI.out X hX) rfl) HS1.out ?_
    simp only [List.getElem_toArray, List.getElem_cons_succ, List.getElem_cons_zero, Act.put, List.setIfInBounds_toArray, List.set_cons_zero, List.set_cons_succ]
    refine wpAnyH_ready (rs := [17]) (by kernel_rfl) (by simp) ?_
    refine AllReadyH.cons rfl (fun K hK => ?_) AllReadyH.nil
    go_simp
    refine (HPA.out x1).mono ?_
    rintro e x2 ⟨y2, rfl, p2, f2⟩
    obtain ⟨B2, d2, rfl, _, _, _⟩ := p2.form
    have HS2 := Lib.hid (show Below U.heap.size U x2 from HS1.out.trans (f2.mono HS1.out.size))
    clear p2 f2
    refine hK.out _ _ HS2.out (fun _ => ?_)
    clear hK K
    refine wpAnyH_take (i := 18) (v := .int .i64 (LY : Int)) rfl (by kernel_rfl) (by kernel_rfl) (by kernel_rfl) (fun _ _ _ h => h) (Or.inl ⟨by rfl, (fun W _ => by go_simp)⟩) HS2.out ?_
    simp only [List.getElem_toArray, List.getElem_cons_succ, List.getElem_cons_zero, Act.put, List.setIfInBounds_toArray, List.set_cons_zero, List.set_cons_succ]
    refine wpAnyH_take (i := 19) (v := .bool b2) rfl (by kernel_rfl) (by kernel_rfl) (by kernel_rfl) (fun _ _ _ h => h) (Or.inl ⟨by rfl, (fun W _ => by go_simp)⟩) HS2.out ?_
    simp only [List.getElem_toArray, List.getElem_cons_succ, List.getElem_cons_zero, Act.put, List.setIfInBounds_toArray, List.set_cons_zero, List.set_cons_succ]
    refine wpAnyH_take (i := 24) (v := .bool true) rfl (by kernel_rfl) (by kernel_rfl) (by kernel_rfl) (fun _ _ _ h => h) (Or.inl ⟨by rfl, (fun W _ => by go_simp)⟩) HS2.out ?_
    simp only [List.getElem_toArray, List.getElem_cons_succ, List.getElem_cons_zero, Act.put, List.setIfInBounds_toArray, List.set_cons_zero, List.set_cons_succ]
    refine wpAnyH_take (i := 25) (v := .bool true) rfl (by kernel_rfl) (by kernel_rfl) (by kernel_rfl) (fun _ _ _ h => h) (Or.inl ⟨by rfl, (fun W _ => by go_simp)⟩) HS2.out ?_
    simp only [List.getElem_toArray, List.getElem_cons_succ, List.getElem_cons_zero, Act.put, List.setIfInBounds_toArray, List.set_cons_zero, List.set_cons_succ]
    refine wpAnyH_take (i := 26) (v := .bool true) rfl (by kernel_rfl) (by kernel_rfl) (by kernel_rfl) (fun _ _ _ h => h) (Or.inl ⟨by rfl, (fun W _ => by go_simp)⟩) HS2.out ?_
    simp only [List.getElem_toArray, List.getElem_cons_succ, List.getElem_cons_zero, Act.put, List.setIfInBounds_toArray, List.set_cons_zero, List.set_cons_succ]
    refine wpAnyH_done (by kernel_rfl) ?_ _
    have CX := Lib.hid (CE.out.trans (HS2.out.mono CE.out.size))
    clear HS0 HS1 HS2 SQ SO SR SI HB CE
    go_wp2
    go_ret
    exact ⟨rfl, CX.out⟩
  · refine step_mk (by rfl) (.const (.int .i64 1001)) (.const (.int .i64 1001)) rfl 1001 rfl rfl (by omega) ?_
    refine hK.out _ _ HTR.out (fun _ => ?_)
    clear hK K
    simp only [List.getElem_toArray, List.getElem_cons_succ, List.getElem_cons_zero, Act.put, List.setIfInBounds_toArray, List.set_cons_zero, List.set_cons_succ]
    refine wpAnyH_take (i := 10) (v := .agg (qc 1 0 (zerS wd.heap.size 1001))) rfl (by kernel_rfl) (by kernel_rfl) (by kernel_rfl) (fun _ _ _ h => h) (yields_bldZ (by rfl) (.tmp 18) rfl _ 1001 rfl) HTR.out ?_
    simp only [List.getElem_toArray, List.getElem_cons_succ, List.getElem_cons_zero, Act.put, List.setIfInBounds_toArray, List.set_cons_zero, List.set_cons_succ]
    refine wpAnyH_ready (rs := [7]) (by kernel_rfl) (by simp) ?_
    refine AllReadyH.cons rfl (fun K hK => ?_) AllReadyH.nil
    refine step_mk (by rfl) (.const (.int .i64 1000)) (.const (.int .i64 1000)) rfl 1000 rfl rfl (by omega) ?_
    refine hK.out _ _ HTR.out (fun _ => ?_)
    clear hK K
    simp only [List.getElem_toArray, List.getElem_cons_succ, List.getElem_cons_zero, Act.put, List.setIfInBounds_toArray, List.set_cons_zero, List.set_cons_succ]
    refine wpAnyH_take (i := 8) (v := .agg (qc 1 0 (zerS (wd.alloc (.cells (zeroBytes 1001) 5)).heap.size 1000))) rfl (by kernel_rfl) (by kernel_rfl) (by kernel_rfl) (fun _ _ _ h => h) (yields_bldZ (by rfl) (.tmp 16) rfl _ 1000 rfl) HTR.out ?_
    simp only [List.getElem_toArray, List.getElem_cons_succ, List.getElem_cons_zero, Act.put, List.setIfInBounds_toArray, List.set_cons_zero, List.set_cons_succ]
    refine wpAnyH_ready (rs := [11]) (by kernel_rfl) (by simp) ?_
    refine AllReadyH.cons rfl (fun K hK => ?_) AllReadyH.nil
    refine step_nine (by rfl) (wd.alloc (.cells (zeroBytes 1001) 5)).heap.size wd.heap.size (.tmp 9) (.tmp 10) (.tmp 11) (.tmp 12) (.tmp 13) (.tmp 14) (.tmp 15) (.tmp 17) (.tmp 19) rfl rfl rfl rfl rfl rfl rfl rfl rfl rfl ?_
    refine hK.out _ _ HTR.out (fun _ => ?_)
    clear hK K
    simp only [List.getElem_toArray, List.getElem_cons_succ, List.getElem_cons_zero, Act.put, List.setIfInBounds_toArray, List.set_cons_zero, List.set_cons_succ]
    refine wpAnyH_take (i := 12) (v := .slice (some ⟨((wd.alloc (.cells (zeroBytes 1001) 5)).alloc (.cells (zeroBytes 1000) 5)).heap.size, 0, none⟩) 9 9) rfl (by kernel_rfl) (by kernel_rfl) (by kernel_rfl) (fun _ _ _ h => h) (Or.inl ⟨by rfl, (fun W _ => by go_simp)⟩) HTR.out ?_
    simp only [List.getElem_toArray, List.getElem_cons_succ, List.getElem_cons_zero, Act.put, List.setIfInBounds_toArray, List.set_cons_zero, List.set_cons_succ]
    refine wpAnyH_done (by kernel_rfl) ?_ _
    have BW : Below wd.heap.size wd (((wd.alloc (.cells (zeroBytes 1001) 5)).alloc (.cells (zeroBytes 1000) 5)).alloc (.cells (cellsQ ((wd.alloc (.cells (zeroBytes 1001) 5)).heap.size) (wd.heap.size)) 24)) := (((Below.refl _ _).alloc (Nat.le_refl _) _).alloc (by simp) _).alloc (by simp; omega) _
    have HTQ := has_new ((wd.alloc (.cells (zeroBytes 1001) 5)).alloc (.cells (zeroBytes 1000) 5)) 24 (cellsQ ((wd.alloc (.cells (zeroBytes 1001) 5)).heap.size) (wd.heap.size))
    have HZP : Has (((wd.alloc (.cells (zeroBytes 1001) 5)).alloc (.cells (zeroBytes 1000) 5)).alloc (.cells (cellsQ ((wd.alloc (.cells (zeroBytes 1001) 5)).heap.size) (wd.heap.size)) 24)) (wd.alloc (.cells (zeroBytes 1001) 5)).heap.size 5 (zeroBytes 1000) := (has_new (wd.alloc (.cells (zeroBytes 1001) 5)) 5 (zeroBytes 1000)).more _
    have HZQ : Has (((wd.alloc (.cells (zeroBytes 1001) 5)).alloc (.cells (zeroBytes 1000) 5)).alloc (.cells (cellsQ ((wd.alloc (.cells (zeroBytes 1001) 5)).heap.size) (wd.heap.size)) 24)) wd.heap.size 5 (zeroBytes 1001) := ((has_new wd 5 (zeroBytes 1001)).more _).more _
    obtain ⟨p, hp⟩ : ∃ p, (wd.alloc (.cells (zeroBytes 1001) 5)).heap.size = p := ⟨_, rfl⟩
    obtain ⟨q, hq⟩ : ∃ q, wd.heap.size = q := ⟨_, rfl⟩
    obtain ⟨g, hg⟩ : ∃ g, ((wd.alloc (.cells (zeroBytes 1001) 5)).alloc (.cells (zeroBytes 1000) 5)).heap.size = g := ⟨_, rfl⟩
    have CE := CD.out.trans (BW.mono CD.out.size)
    clear BW CD
    try rw [hp] at CE
    try rw [hq] at CE
    try rw [hp] at HTQ
    try rw [hq] at HTQ
    try rw [hg] at HTQ
    try rw [hp] at HZP
    try rw [hq] at HZP
    try rw [hp] at HZQ
    try rw [hq] at HZQ
    try rw [hp]
    try rw [hq]
    try rw [hg]
    generalize hWW : ((wd.alloc (.cells (zeroBytes 1001) 5)).alloc (.cells (zeroBytes 1000) 5)).alloc (.cells (cellsQ p q) 24) = W at *
    have C2 := Lib.hid CE
    have T2 := Lib.hid HTQ
    have P2 := Lib.hid HZP
    have Q2 := Lib.hid HZQ
    clear hWW hp hq hg CE HTQ HZP HZQ HTR
    obtain ⟨k, n, A, l, b, hk, hn, hqb, hob, hlq, hrq⟩ := nineQ (p := p) (q := q) HNI.out
    have HOB := Lib.hid hob
    have HLQ := Lib.hid hlq
    have HRQ := Lib.hid hrq
    obtain ⟨LX, hLX⟩ : ∃ L, (reqOut k n (List.replicate l 0)).length = L := ⟨_, rfl⟩
    have HPQ := Lib.hid (fun (X : World) (h : Row X A l (List.replicate l 0)) => show Calls Try.prog 7 #[.agg (qc k n (.slice A l l))] X (Gives LX (reqOut k n (List.replicate l 0)) X) by have h1 := bytes_any' k n A l l _ X hk hn h; rw [hLX] at h1; exact h1)
    have hg1 := out_long hqb
    rw [hLX] at hg1
    have hg1' : decide (0 < LX) = b := by rw [← hg1, Bool.eq_iff_iff]; simp
    clear hk hn hqb hob hlq hrq hLX
    have BZ : Below W.heap.size W (((W.alloc (.cells #[.bool true, .bool true, .bool false, .bool false, .bool true, .bool false, .bool false, .bool true, .bool false] 4)).alloc (.cells cellsR 27)).alloc (.cells #[.bool true, .bool false, .bool false, .bool true, .bool false, .bool true, .bool false, .bool false, .bool false] 4)) := (((Below.refl _ _).alloc (Nat.le_refl _) _).alloc (by simp) _).alloc (by simp; omega) _
    have HO : Has (((W.alloc (.cells #[.bool true, .bool true, .bool false, .bool false, .bool true, .bool false, .bool false, .bool true, .bool false] 4)).alloc (.cells cellsR 27)).alloc (.cells #[.bool true, .bool false, .bool false, .bool true, .bool false, .bool true, .bool false, .bool false, .bool false] 4)) W.heap.size 4 (OK9.map Value.bool).toArray := ((has_new W 4 #[.bool true, .bool true, .bool false, .bool false, .bool true, .bool false, .bool false, .bool true, .bool false]).more _).more _
    have hr1 := has_new (W.alloc (.cells #[.bool true, .bool true, .bool false, .bool false, .bool true, .bool false, .bool false, .bool true, .bool false] 4)) 27 cellsR
    rw [World.size_alloc] at hr1
    have HR : Has (((W.alloc (.cells #[.bool true, .bool true, .bool false, .bool false, .bool true, .bool false, .bool false, .bool true, .bool false] 4)).alloc (.cells cellsR 27)).alloc (.cells #[.bool true, .bool false, .bool false, .bool true, .bool false, .bool true, .bool false, .bool false, .bool false] 4)) (W.heap.size + 1) 27 cellsR := hr1.more _
    have hi1 := has_new ((W.alloc (.cells #[.bool true, .bool true, .bool false, .bool false, .bool true, .bool false, .bool false, .bool true, .bool false] 4)).alloc (.cells cellsR 27)) 4 #[.bool true, .bool false, .bool false, .bool true, .bool false, .bool true, .bool false, .bool false, .bool false]
    rw [World.size_alloc, World.size_alloc] at hi1
    have HI : Has (((W.alloc (.cells #[.bool true, .bool true, .bool false, .bool false, .bool true, .bool false, .bool false, .bool true, .bool false] 4)).alloc (.cells cellsR 27)).alloc (.cells #[.bool true, .bool false, .bool false, .bool true, .bool false, .bool true, .bool false, .bool false, .bool false] 4)) (W.heap.size + 1 + 1) 4 (IS9.map Value.bool).toArray := hi1
    have HO3 := Lib.hid HO
    have HR3 := Lib.hid HR
    have HI3 := Lib.hid HI
    have T3 := Lib.hid (T2.out.kept BZ)
    have P3 := Lib.hid (P2.out.kept BZ)
    have Q3 := Lib.hid (Q2.out.kept BZ)
    have C3 := Lib.hid (C2.out.trans (BZ.mono C2.out.size))
    clear BZ HO HR HI hr1 hi1 T2 P2 Q2 C2
    go_upto_region 8 with (first
      | (refine wpList_nineR rfl (.tmp 22) (.tmp 23) (.tmp 24) (.tmp 25) (.tmp 26) (.tmp 27) (.tmp 28) (.tmp 29) (.tmp 30) rfl rfl rfl rfl rfl rfl rfl rfl rfl rfl ?_))
    generalize hV : (((W.alloc (.cells #[.bool true, .bool true, .bool false, .bool false, .bool true, .bool false, .bool false, .bool true, .bool false] 4)).alloc (.cells cellsR 27)).alloc (.cells #[.bool true, .bool false, .bool false, .bool true, .bool false, .bool true, .bool false, .bool false, .bool false] 4)) = V at *
    obtain ⟨G, hG⟩ : ∃ G, W.heap.size = G := ⟨_, rfl⟩
    rw [hG] at HO3 HR3 HI3 ⊢
    clear hV hG
    have bd : Below V.heap.size V V.drew := (Below.refl _ _).drew
    obtain ⟨U, hU⟩ : ∃ U, V.drew = U := ⟨_, rfl⟩
    rw [hU] at bd
    have SQ := Lib.hid (fun (X : World) (hX : Below U.heap.size U X) => HLQ.out X g ((T3.out.kept bd).kept hX))
    have SO := Lib.hid (fun (X : World) (hX : Below U.heap.size U X) => ld4 (bools_at ((HO3.out.kept bd).kept hX) HOB.out))
    have SR := Lib.hid (fun (X : World) (hX : Below U.heap.size U X) => HLR.out X (G + 1) ((HR3.out.kept bd).kept hX))
    have SI := Lib.hid (fun (X : World) (hX : Below U.heap.size U X) => ld4 (bools_at ((HI3.out.kept bd).kept hX) HIB.out))
    have HB := Lib.hid (fun (X : World) (hX : Below U.heap.size U X) => HPQ.out X (HRQ.out X ((P3.out.kept bd).kept hX) ((Q3.out.kept bd).kept hX)))
    have CE := Lib.hid (C3.out.trans (bd.mono C3.out.size))
    have HS0 := Lib.hid (Below.refl U.heap.size U)
    clear bd T3 P3 Q3 C3 HO3 HR3 HI3
    refine wp_region_held_drew (S := fun X => Below U.heap.size U X) (by kernel_rfl) (by rw [hU]; exact HS0.out) ?_
    intro _
    rw [hU]
    clear hU
    refine wpAnyH_take (i := 0) (v := .slice (some ⟨g, 0, none⟩) 9 9) rfl (by kernel_rfl) (by kernel_rfl) (by kernel_rfl) (fun _ _ _ h => h) (Or.inl ⟨by rfl, (fun W _ => by go_simp)⟩) HS0.out ?_
    simp only [List.getElem_toArray, List.getElem_cons_succ, List.getElem_cons_zero, Act.put, List.setIfInBounds_toArray, List.set_cons_zero, List.set_cons_succ]
    refine wpAnyH_take (i := 1) (v := .int .i64 (i : Int)) rfl (by kernel_rfl) (by kernel_rfl) (by kernel_rfl) (fun _ _ _ h => h) (Or.inl ⟨by rfl, (fun W _ => by go_simp)⟩) HS0.out ?_
    simp only [List.getElem_toArray, List.getElem_cons_succ, List.getElem_cons_zero, Act.put, List.setIfInBounds_toArray, List.set_cons_zero, List.set_cons_succ]
    refine wpAnyH_take (i := 2) (v := .pointer (some ⟨g, i * 3, none⟩)) rfl (by kernel_rfl) (by kernel_rfl) (by kernel_rfl) (fun _ _ _ h => h) (Or.inl ⟨by rfl, (fun W _ => by go_simp)⟩) HS0.out ?_
    simp only [List.getElem_toArray, List.getElem_cons_succ, List.getElem_cons_zero, Act.put, List.setIfInBounds_toArray, List.set_cons_zero, List.set_cons_succ]
    refine wpAnyH_take (i := 3) (v := .agg (qc k n (.slice A l l))) rfl (by kernel_rfl) (by kernel_rfl) (by kernel_rfl) (fun _ _ _ h => h) (yields_ld (by rfl) 24 (.tmp 48) rfl _ _ (fun X hX => SQ.out X hX) rfl) HS0.out ?_
    simp only [List.getElem_toArray, List.getElem_cons_succ, List.getElem_cons_zero, Act.put, List.setIfInBounds_toArray, List.set_cons_zero, List.set_cons_succ]
    refine wpAnyH_take (i := 7) (v := .slice (some ⟨G, 0, none⟩) 9 9) rfl (by kernel_rfl) (by kernel_rfl) (by kernel_rfl) (fun _ _ _ h => h) (Or.inl ⟨by rfl, (fun W _ => by go_simp)⟩) HS0.out ?_
    simp only [List.getElem_toArray, List.getElem_cons_succ, List.getElem_cons_zero, Act.put, List.setIfInBounds_toArray, List.set_cons_zero, List.set_cons_succ]
    refine wpAnyH_take (i := 8) (v := .int .i64 (i : Int)) rfl (by kernel_rfl) (by kernel_rfl) (by kernel_rfl) (fun _ _ _ h => h) (Or.inl ⟨by rfl, (fun W _ => by go_simp)⟩) HS0.out ?_
    simp only [List.getElem_toArray, List.getElem_cons_succ, List.getElem_cons_zero, Act.put, List.setIfInBounds_toArray, List.set_cons_zero, List.set_cons_succ]
    refine wpAnyH_take (i := 9) (v := .pointer (some ⟨G, i, none⟩)) rfl (by kernel_rfl) (by kernel_rfl) (by kernel_rfl) (fun _ _ _ h => h) (Or.inl ⟨by rfl, (fun W _ => by go_simp)⟩) HS0.out ?_
    simp only [List.getElem_toArray, List.getElem_cons_succ, List.getElem_cons_zero, Act.put, List.setIfInBounds_toArray, List.set_cons_zero, List.set_cons_succ]
    refine wpAnyH_take (i := 10) (v := .bool b) rfl (by kernel_rfl) (by kernel_rfl) (by kernel_rfl) (fun _ _ _ h => h) (yields_ld (by rfl) 4 (.tmp 55) rfl _ _ (fun X hX => SO.out X hX) rfl) HS0.out ?_
    simp only [List.getElem_toArray, List.getElem_cons_succ, List.getElem_cons_zero, Act.put, List.setIfInBounds_toArray, List.set_cons_zero, List.set_cons_succ]
    refine wpAnyH_ready (rs := [4]) (by kernel_rfl) (by simp) ?_
    refine AllReadyH.cons rfl (fun K hK => ?_) AllReadyH.nil
    go_simp
    refine (HB.out U HS0.out).mono ?_
    rintro e x1 ⟨y1, rfl, p1, f1⟩
    obtain ⟨B1, d1, rfl, _, _, _⟩ := p1.form
    have HS1 := Lib.hid f1
    clear p1 f1
    refine hK.out _ _ HS1.out (fun _ => ?_)
    clear hK K
    refine wpAnyH_take (i := 5) (v := .int .i64 (LX : Int)) rfl (by kernel_rfl) (by kernel_rfl) (by kernel_rfl) (fun _ _ _ h => h) (Or.inl ⟨by rfl, (fun W _ => by go_simp)⟩) HS1.out ?_
    simp only [List.getElem_toArray, List.getElem_cons_succ, List.getElem_cons_zero, Act.put, List.setIfInBounds_toArray, List.set_cons_zero, List.set_cons_succ]
    refine wpAnyH_take (i := 6) (v := .bool b) rfl (by kernel_rfl) (by kernel_rfl) (by kernel_rfl) (fun _ _ _ h => h) (Or.inl ⟨by rfl, (fun W _ => by go_simp)⟩) HS1.out ?_
    simp only [List.getElem_toArray, List.getElem_cons_succ, List.getElem_cons_zero, Act.put, List.setIfInBounds_toArray, List.set_cons_zero, List.set_cons_succ]
    refine wpAnyH_take (i := 11) (v := .bool true) rfl (by kernel_rfl) (by kernel_rfl) (by kernel_rfl) (fun _ _ _ h => h) (Or.inl ⟨by rfl, (fun W _ => by go_simp)⟩) HS1.out ?_
    simp only [List.getElem_toArray, List.getElem_cons_succ, List.getElem_cons_zero, Act.put, List.setIfInBounds_toArray, List.set_cons_zero, List.set_cons_succ]
    refine wpAnyH_take (i := 12) (v := .bool true) rfl (by kernel_rfl) (by kernel_rfl) (by kernel_rfl) (fun _ _ _ h => h) (Or.inl ⟨by rfl, (fun W _ => by go_simp)⟩) HS1.out ?_
    simp only [List.getElem_toArray, List.getElem_cons_succ, List.getElem_cons_zero, Act.put, List.setIfInBounds_toArray, List.set_cons_zero, List.set_cons_succ]
    refine wpAnyH_take (i := 13) (v := .slice (some ⟨G + 1, 0, none⟩) 9 9) rfl (by kernel_rfl) (by kernel_rfl) (by kernel_rfl) (fun _ _ _ h => h) (Or.inl ⟨by rfl, (fun W _ => by go_simp)⟩) HS1.out ?_
    simp only [List.getElem_toArray, List.getElem_cons_succ, List.getElem_cons_zero, Act.put, List.setIfInBounds_toArray, List.set_cons_zero, List.set_cons_succ]
    refine wpAnyH_take (i := 14) (v := .int .i64 (i : Int)) rfl (by kernel_rfl) (by kernel_rfl) (by kernel_rfl) (fun _ _ _ h => h) (Or.inl ⟨by rfl, (fun W _ => by go_simp)⟩) HS1.out ?_
    simp only [List.getElem_toArray, List.getElem_cons_succ, List.getElem_cons_zero, Act.put, List.setIfInBounds_toArray, List.set_cons_zero, List.set_cons_succ]
    refine wpAnyH_take (i := 15) (v := .pointer (some ⟨G + 1, i * 3, none⟩)) rfl (by kernel_rfl) (by kernel_rfl) (by kernel_rfl) (fun _ _ _ h => h) (Or.inl ⟨by rfl, (fun W _ => by go_simp)⟩) HS1.out ?_
    simp only [List.getElem_toArray, List.getElem_cons_succ, List.getElem_cons_zero, Act.put, List.setIfInBounds_toArray, List.set_cons_zero, List.set_cons_succ]
    refine wpAnyH_take (i := 16) (v := .agg r.cells) rfl (by kernel_rfl) (by kernel_rfl) (by kernel_rfl) (fun _ _ _ h => h) (yields_ld (by rfl) 27 (.tmp 61) rfl _ _ (fun X hX => SR.out X hX) rfl) HS1.out ?_
    simp only [List.getElem_toArray, List.getElem_cons_succ, List.getElem_cons_zero, Act.put, List.setIfInBounds_toArray, List.set_cons_zero, List.set_cons_succ]
    refine wpAnyH_take (i := 20) (v := .slice (some ⟨G + 1 + 1, 0, none⟩) 9 9) rfl (by kernel_rfl) (by kernel_rfl) (by kernel_rfl) (fun _ _ _ h => h) (Or.inl ⟨by rfl, (fun W _ => by go_simp)⟩) HS1.out ?_
    simp only [List.getElem_toArray, List.getElem_cons_succ, List.getElem_cons_zero, Act.put, List.setIfInBounds_toArray, List.set_cons_zero, List.set_cons_succ]
    refine wpAnyH_take (i := 21) (v := .int .i64 (i : Int)) rfl (by kernel_rfl) (by kernel_rfl) (by kernel_rfl) (fun _ _ _ h => h) (Or.inl ⟨by rfl, (fun W _ => by go_simp)⟩) HS1.out ?_
    simp only [List.getElem_toArray, List.getElem_cons_succ, List.getElem_cons_zero, Act.put, List.setIfInBounds_toArray, List.set_cons_zero, List.set_cons_succ]
    refine wpAnyH_take (i := 22) (v := .pointer (some ⟨G + 1 + 1, i, none⟩)) rfl (by kernel_rfl) (by kernel_rfl) (by kernel_rfl) (fun _ _ _ h => h) (Or.inl ⟨by rfl, (fun W _ => by go_simp)⟩) HS1.out ?_
    simp only [List.getElem_toArray, List.getElem_cons_succ, List.getElem_cons_zero, Act.put, List.setIfInBounds_toArray, List.set_cons_zero, List.set_cons_succ]
    refine wpAnyH_take (i := 23) (v := .bool b2) rfl (by kernel_rfl) (by kernel_rfl) (by kernel_rfl) (fun _ _ _ h => h) (yields_ld (by rfl) 4 (.tmp 68) rfl _ _ (fun X hX => SI.out X hX) rfl) HS1.out ?_
    simp only [List.getElem_toArray, List.getElem_cons_succ, List.getElem_cons_zero, Act.put, List.setIfInBounds_toArray, List.set_cons_zero, List.set_cons_succ]
    refine wpAnyH_ready (rs := [17]) (by kernel_rfl) (by simp) ?_
    refine AllReadyH.cons rfl (fun K hK => ?_) AllReadyH.nil
    go_simp
    refine (HPA.out x1).mono ?_
    rintro e x2 ⟨y2, rfl, p2, f2⟩
    obtain ⟨B2, d2, rfl, _, _, _⟩ := p2.form
    have HS2 := Lib.hid (show Below U.heap.size U x2 from HS1.out.trans (f2.mono HS1.out.size))
    clear p2 f2
    refine hK.out _ _ HS2.out (fun _ => ?_)
    clear hK K
    refine wpAnyH_take (i := 18) (v := .int .i64 (LY : Int)) rfl (by kernel_rfl) (by kernel_rfl) (by kernel_rfl) (fun _ _ _ h => h) (Or.inl ⟨by rfl, (fun W _ => by go_simp)⟩) HS2.out ?_
    simp only [List.getElem_toArray, List.getElem_cons_succ, List.getElem_cons_zero, Act.put, List.setIfInBounds_toArray, List.set_cons_zero, List.set_cons_succ]
    refine wpAnyH_take (i := 19) (v := .bool b2) rfl (by kernel_rfl) (by kernel_rfl) (by kernel_rfl) (fun _ _ _ h => h) (Or.inl ⟨by rfl, (fun W _ => by go_simp)⟩) HS2.out ?_
    simp only [List.getElem_toArray, List.getElem_cons_succ, List.getElem_cons_zero, Act.put, List.setIfInBounds_toArray, List.set_cons_zero, List.set_cons_succ]
    refine wpAnyH_take (i := 24) (v := .bool true) rfl (by kernel_rfl) (by kernel_rfl) (by kernel_rfl) (fun _ _ _ h => h) (Or.inl ⟨by rfl, (fun W _ => by go_simp)⟩) HS2.out ?_
    simp only [List.getElem_toArray, List.getElem_cons_succ, List.getElem_cons_zero, Act.put, List.setIfInBounds_toArray, List.set_cons_zero, List.set_cons_succ]
    refine wpAnyH_take (i := 25) (v := .bool true) rfl (by kernel_rfl) (by kernel_rfl) (by kernel_rfl) (fun _ _ _ h => h) (Or.inl ⟨by rfl, (fun W _ => by go_simp)⟩) HS2.out ?_
    simp only [List.getElem_toArray, List.getElem_cons_succ, List.getElem_cons_zero, Act.put, List.setIfInBounds_toArray, List.set_cons_zero, List.set_cons_succ]
    refine wpAnyH_take (i := 26) (v := .bool true) rfl (by kernel_rfl) (by kernel_rfl) (by kernel_rfl) (fun _ _ _ h => h) (Or.inl ⟨by rfl, (fun W _ => by go_simp)⟩) HS2.out ?_
    simp only [List.getElem_toArray, List.getElem_cons_succ, List.getElem_cons_zero, Act.put, List.setIfInBounds_toArray, List.set_cons_zero, List.set_cons_succ]
    refine wpAnyH_done (by kernel_rfl) ?_ _
    have CX := Lib.hid (CE.out.trans (HS2.out.mono CE.out.size))
    clear HS0 HS1 HS2 SQ SO SR SI HB CE
    go_wp2
    go_ret
    exact ⟨rfl, CX.out⟩
theorem walk (n : Int) (w : World) (w0 : (Lit.int .i64 n).wf = true) : Calls Try.prog 5 #[.int .i64 n] w fun e w' => e = .returned (.bool true) ∧ Below w.heap.size w w' := by
  by_cases h : n < 0 ∨ 9 ≤ n
  · exact walk_none n w h
  · obtain ⟨i, rfl⟩ := Int.eq_ofNat_of_zero_le (show 0 ≤ n by omega)
    exact walk_nine i w (by omega)
end Go.Proofs.Ytjfgnoidoeaaeaa.requestLimits
