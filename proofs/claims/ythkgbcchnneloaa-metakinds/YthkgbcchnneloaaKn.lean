/-
  The walk of the law MetaKinds: what may be kept in each phase; conditions: none.
-/
import Derived.Test.YthkgbcchnneloaaKl
import Derived.Test.YthkgbcchnneloaaZe
import Derived.Deep.RegionHeld3
import Derived.Deep.Cut
namespace Go.Proofs.Ythkgbcchnneloaa.metaKinds
open Go.RowKit
set_option linter.unusedVariables false
set_option linter.unusedSimpArgs false

set_option maxRecDepth 100000 in
theorem len_7 : K7.all (fun k => k.list.length == 107) = true := by decide +kernel
set_option maxRecDepth 100000 in
theorem len_9 : K9.all (fun k => k.list.length == 107) = true := by decide +kernel
set_option maxRecDepth 100000 in
theorem len_11 : K11.all (fun k => k.list.length == 107) = true := by decide +kernel
set_option maxRecDepth 100000 in
theorem len_16 : K16.all (fun k => k.list.length == 107) = true := by decide +kernel
set_option maxRecDepth 100000 in
theorem len_18 : K18.all (fun k => k.list.length == 107) = true := by decide +kernel
theorem ld4 {W : World} {g k : Nat} {b : Bool} (h : W.cell? ⟨g, k, none⟩ = some (.bool b)) : (Instr.loadAt 4 (.pointer (some ⟨g, k, none⟩))).run Try.prog W = .ok (.bool b) W := by
  go_simp
set_option maxRecDepth 100000 in
set_option maxHeartbeats 16000000 in
theorem walk (n : Int) (wn : (Lit.int .i64 n).wf = true) (w : World) :
    Calls Try.prog 5 #[.int .i64 n] w fun e w' => e = .returned (.bool true) ∧ Below w.heap.size w w' := by
  have hz27 := zero27_run
  have hz24 := zero24_run
  have HLV := Lib.hid (live_any w)
  have hbn := bounds_i64 wn
  go_enter Try.func5, Try.ntmps5
  go_upto_region 5 with (first
    | (go_at_call 6; (with_reducible refine HLV.out.mono ?_); rintro e w1 ⟨rfl, b1⟩; clear HLV; have C1 := Lib.hid b1; clear b1; have hn1 := has_new w1 24 zeroI.cells)
    | (refine wpList_build24 rfl (.const (.int .i64 1)) (.const (.int .i64 5)) rfl 1 5 rfl rfl ?_)
    | (refine wpList_row rfl 24 _ _ rfl w1.heap.size iA.cells rfl rfl 24 _ hn1 (size24 iA_ok) (old24 zeroI_ok iA_ok) (im_all _) ?_; intro w2 hs2 on2; have C2 := Lib.hid ((C1.out.alloc C1.out.size (.cells zeroI.cells 24)).trans (on2.to_below (C1.out.alloc C1.out.size (.cells zeroI.cells 24)).size (fun b e => by have := C1.out.size; omega))); have A2 := Lib.hid hs2; clear hs2 on2 hn1; have hn2 := has_new w2 24 zeroI.cells)
    | (refine wpList_build24 rfl (.const (.int .i64 2)) (.const (.int .i64 321)) rfl 2 321 rfl rfl ?_)
    | (refine wpList_row rfl 24 _ _ rfl w2.heap.size iB.cells rfl rfl 24 _ hn2 (size24 iB_ok) (old24 zeroI_ok iB_ok) (im_all _) ?_; intro w3 hs3 on3; have C3 := Lib.hid ((C2.out.alloc C2.out.size (.cells zeroI.cells 24)).trans (on3.to_below (C2.out.alloc C2.out.size (.cells zeroI.cells 24)).size (fun b e => by have := C2.out.size; omega))); have A3 := Lib.hid (Has.only (A2.out.more (.cells zeroI.cells 24)) on3 (by have := A2.out.size; omega)); have B3 := Lib.hid hs3; clear hs3 on3 hn2; have LA3 := Lib.hid (ld24w A3.out iA_ok); have hn3 := has_new w3 27 zeroT.cells)
    | (refine wpList_ld 24 _ rfl _ _ LA3.out rfl rfl ?_)
    | (refine wpList_build_to rfl 24 _ rfl _ built24 ?_)
    | (refine wpList_build25 rfl (.tmp 12) (.tmp 13) rfl rfl rfl ?_)
    | (refine wpList_build27h rfl (.tmp 14) rfl rfl ?_)
    | (refine wpList_row rfl 27 _ _ rfl w3.heap.size mA.cells rfl rfl 27 _ hn3 (size27 mA_ok) (old27 zeroT_ok mA_ok) (mt_all _) ?_; intro w4 hs4 on4; have C4 := Lib.hid ((C3.out.alloc C3.out.size (.cells zeroT.cells 27)).trans (on4.to_below (C3.out.alloc C3.out.size (.cells zeroT.cells 27)).size (fun b e => by have := C3.out.size; omega))); have A4 := Lib.hid (Has.only (A3.out.more (.cells zeroT.cells 27)) on4 (by have := A3.out.size; omega)); have B4 := Lib.hid (Has.only (B3.out.more (.cells zeroT.cells 27)) on4 (by have := B3.out.size; omega)); have L4 := Lib.hid (ld27 hs4 mA_ok); clear hs4 on4 hn3 LA3))
  refine wp_region_lit ?_
  refine wpList_ld 27 (.tmp 6) rfl _ _ L4.out rfl rfl ?_
  simp only [List.getElem_toArray, Act.put, List.setIfInBounds_toArray, List.set_cons_zero, List.set_cons_succ]
  refine wpList_ld 27 (.tmp 6) rfl _ _ L4.out rfl rfl ?_
  simp only [List.getElem_toArray, Act.put, List.setIfInBounds_toArray, List.set_cons_zero, List.set_cons_succ]
  refine wpList_ld 27 (.tmp 6) rfl _ _ L4.out rfl rfl ?_
  simp only [List.getElem_toArray, Act.put, List.setIfInBounds_toArray, List.set_cons_zero, List.set_cons_succ]
  refine wpList_ld 27 (.tmp 6) rfl _ _ L4.out rfl rfl ?_
  simp only [List.getElem_toArray, Act.put, List.setIfInBounds_toArray, List.set_cons_zero, List.set_cons_succ]
  refine wpList_ld 27 (.tmp 6) rfl _ _ L4.out rfl rfl ?_
  simp only [List.getElem_toArray, Act.put, List.setIfInBounds_toArray, List.set_cons_zero, List.set_cons_succ]
  refine wpList_ld 27 (.tmp 6) rfl _ _ L4.out rfl rfl ?_
  simp only [List.getElem_toArray, Act.put, List.setIfInBounds_toArray, List.set_cons_zero, List.set_cons_succ]
  refine wpList_ld 27 (.tmp 6) rfl _ _ L4.out rfl rfl ?_
  simp only [List.getElem_toArray, Act.put, List.setIfInBounds_toArray, List.set_cons_zero, List.set_cons_succ]
  refine wpList_ld 27 (.tmp 6) rfl _ _ L4.out rfl rfl ?_
  simp only [List.getElem_toArray, Act.put, List.setIfInBounds_toArray, List.set_cons_zero, List.set_cons_succ]
  refine wpList_ld 27 (.tmp 6) rfl _ _ L4.out rfl rfl ?_
  simp only [List.getElem_toArray, Act.put, List.setIfInBounds_toArray, List.set_cons_zero, List.set_cons_succ]
  refine wpList_ld 27 (.tmp 6) rfl _ _ L4.out rfl rfl ?_
  simp only [List.getElem_toArray, Act.put, List.setIfInBounds_toArray, List.set_cons_zero, List.set_cons_succ]
  refine wpList_ld 27 (.tmp 6) rfl _ _ L4.out rfl rfl ?_
  simp only [List.getElem_toArray, Act.put, List.setIfInBounds_toArray, List.set_cons_zero, List.set_cons_succ]
  refine wpList_ld 27 (.tmp 6) rfl _ _ L4.out rfl rfl ?_
  simp only [List.getElem_toArray, Act.put, List.setIfInBounds_toArray, List.set_cons_zero, List.set_cons_succ]
  refine wpList_twelve rfl (.tmp 16) (.tmp 17) (.tmp 18) (.tmp 19) (.tmp 20) (.tmp 21) (.tmp 22) (.tmp 23) (.tmp 24) (.tmp 25) (.tmp 26) (.tmp 27) rfl (some 28) rfl rfl rfl rfl rfl rfl rfl rfl rfl rfl rfl rfl rfl ?_
  simp only [List.getElem_toArray, Act.put, List.setIfInBounds_toArray, List.set_cons_zero, List.set_cons_succ]
  have S0 := Lib.hid (show KS w w1.heap.size w2.heap.size w4.heap.size K0 (w4.alloc (.cells (rowC K0) 27)) from
    ⟨has_new _ _ _, A4.out.more _, B4.out.more _, C4.out.alloc C4.out.size _, A4.out.size, B4.out.size, C4.out.size⟩)
  clear A2 A3 A4 B3 B4 C1 C2 C3 C4 L4
  generalize hW0 : w4.alloc (.cells (rowC K0) 27) = W0 at *
  obtain ⟨K, hK⟩ : ∃ K, w4.heap.size = K := ⟨_, rfl⟩
  obtain ⟨a, ha⟩ : ∃ a, w1.heap.size = a := ⟨_, rfl⟩
  obtain ⟨b, hb⟩ : ∃ b, w2.heap.size = b := ⟨_, rfl⟩
  rw [hK, ha, hb] at S0
  rw [hK, ha, hb]
  clear hK ha hb hW0
  go_upto_region 7 with (first
    | (refine wpList_stK rfl 3 _ _ rfl K 107 (.int .i64 1) rfl rfl [Value.int .i64 1] rfl size3 (int_one _) K0 K1 row_0 S0.out.1 put_1 (by decide) ?_; intro v1 hs on; have S1 := Lib.hid (ks_to S0.out hs on); clear hs on S0))
  go_upto_region 8 with (first
    | (refine wpList_ld 24 _ rfl _ _ (ld24w S1.out.2.2.1 iB_ok) rfl rfl ?_)
    | (refine wpList_stK rfl 24 _ _ rfl K 285 (.agg (Im.cells iB)) rfl rfl (Im.list iB) rfl (size24l iB_ok) (iml_one _) K1 K2 row_1 S1.out.1 put_2 (by decide) ?_; intro v2 hs on; have S2 := Lib.hid (ks_to S1.out hs on); clear hs on S1))
  have D2 := Lib.hid (ks_drew S2.out)
  clear S2
  have SS := Lib.hid (Only.refl (fun b => b = K) v2.drew)
  have SL := Lib.hid (fun (W : World) (hW : Only (fun b => b = K) v2.drew W) => ld24w (Has.only D2.out.2.2.1 hW (by have := D2.out.2.2.2.2.1; have := D2.out.2.2.2.2.2.1; omega)) iB_ok)
  refine wp_region_held_drew (S := fun W => Only (fun b => b = K) v2.drew W) (by kernel_rfl) SS.out ?_
  intro _
  refine wpAnyH_take (i := 0) (v := .slice (some ⟨K, 0, none⟩) 12 12) rfl (by kernel_rfl) (by kernel_rfl) (by kernel_rfl) (fun _ _ _ h => h) (Or.inl ⟨by rfl, (fun W _ => by go_simp)⟩) SS.out ?_
  simp only [List.getElem_toArray, List.getElem_cons_succ, List.getElem_cons_zero, Act.put, List.setIfInBounds_toArray, List.set_cons_zero, List.set_cons_succ]
  refine wpAnyH_take (i := 1) (v := .agg iB.cells) rfl (by kernel_rfl) (by kernel_rfl) (by kernel_rfl) (fun _ _ _ h => h) (yields_ld (by rfl) 24 (.tmp 5) rfl _ _ (fun W hW => SL.out W hW) rfl) SS.out ?_
  simp only [List.getElem_toArray, List.getElem_cons_succ, List.getElem_cons_zero, Act.put, List.setIfInBounds_toArray, List.set_cons_zero, List.set_cons_succ]
  refine wpAnyH_take (i := 2) (v := .pointer (some ⟨K, 321, none⟩)) rfl (by kernel_rfl) (by kernel_rfl) (by kernel_rfl) (fun _ _ _ h => h) (Or.inl ⟨by rfl, (fun W _ => by go_simp)⟩) SS.out ?_
  simp only [List.getElem_toArray, List.getElem_cons_succ, List.getElem_cons_zero, Act.put, List.setIfInBounds_toArray, List.set_cons_zero, List.set_cons_succ]
  refine wpAnyH_take (i := 3) (v := .pointer (some ⟨K, 322, none⟩)) rfl (by kernel_rfl) (by kernel_rfl) (by kernel_rfl) (fun _ _ _ h => h) (Or.inl ⟨by rfl, (fun W _ => by go_simp)⟩) SS.out ?_
  simp only [List.getElem_toArray, List.getElem_cons_succ, List.getElem_cons_zero, Act.put, List.setIfInBounds_toArray, List.set_cons_zero, List.set_cons_succ]
  refine wpAnyH_take (i := 4) (v := .pointer (some ⟨K, 356, none⟩)) rfl (by kernel_rfl) (by kernel_rfl) (by kernel_rfl) (fun _ _ _ h => h) (Or.inl ⟨by rfl, (fun W _ => by go_simp)⟩) SS.out ?_
  simp only [List.getElem_toArray, List.getElem_cons_succ, List.getElem_cons_zero, Act.put, List.setIfInBounds_toArray, List.set_cons_zero, List.set_cons_succ]
  refine wpAnyH_ready (rs := [5]) (by kernel_rfl) (by simp) ?_
  refine AllReadyH.cons rfl (fun K' hK => ?_) AllReadyH.nil
  refine step_stK rfl 24 (.tmp 40) (.tmp 37) rfl K 356 (.agg (Im.cells iB)) rfl rfl (Im.list iB) rfl (size24l iB_ok) (iml_one _) K2 K3 row_2 D2.out.1 put_3 (by decide) ?_
  refine hK.out _ _ (SS.out.setRow rfl _) (fun _ => ?_)
  clear hK K'
  refine wpAnyH_done (by kernel_rfl) ?_ _
  have S3 := Lib.hid (ks_to D2.out (setRow_heap _ _ _ _ _ _ D2.out.1) (SS.out.setRow rfl (rowC K3)))
  generalize v2.drew.setRow K (rowC K3) = v3 at *
  clear SS SL D2
  go_upto_region 10 with (first
    | (refine wpList_stK rfl 3 _ _ rfl K 498 (.int .i64 1) rfl rfl [Value.int .i64 1] rfl size3 (int_one _) K3 K4 row_3 S3.out.1 put_4 (by decide) ?_; intro v4 hs on; have S4 := Lib.hid (ks_to S3.out hs on); clear hs on S3))
  go_upto_region 11 with (first
    | (refine wpList_stK rfl 3 _ _ rfl K 605 (.int .i64 1) rfl rfl [Value.int .i64 1] rfl size3 (int_one _) K4 K5 row_4 S4.out.1 put_5 (by decide) ?_; intro v5 hs on; have S5 := Lib.hid (ks_to S4.out hs on); clear hs on S4))
  go_upto_region 12 with (first
    | (refine wpList_ld 24 _ rfl _ _ (ld24w S5.out.2.2.1 iB_ok) rfl rfl ?_)
    | (refine wpList_stK rfl 24 _ _ rfl K 606 (.agg (Im.cells iB)) rfl rfl (Im.list iB) rfl (size24l iB_ok) (iml_one _) K5 K6 row_5 S5.out.1 put_6 (by decide) ?_; intro v6 hs on; have S6 := Lib.hid (ks_to S5.out hs on); clear hs on S5))
  go_upto_region 13 with (first
    | (refine wpList_stK rfl 3 _ _ rfl K 640 (.int .i64 2) rfl rfl [Value.int .i64 2] rfl size3 (int_one _) K6 K7 row_6 S6.out.1 put_7 (by decide) ?_; intro v7 hs on; have S7 := Lib.hid (ks_to S6.out hs on); clear hs on S6))
  go_upto_region 14 with (first
    | (refine wpList_ld 27 _ rfl _ _ (ldK (i := 5) (m := n5) S7.out.1 len_7 rfl) rfl rfl ?_)
    | (refine wpList_stK rfl 27 _ _ rfl K 642 (.agg (Mt.cells n5)) rfl rfl (Mt.list n5) rfl (by kernel_rfl) (mtl_one _) K7 K8 row_7 S7.out.1 put_8 (by decide) ?_; intro v8 hs on; have S8 := Lib.hid (ks_to S7.out hs on); clear hs on S7))
  go_upto_region 15 with (first
    | (refine wpList_stK rfl 3 _ _ rfl K 747 (.int .i64 3) rfl rfl [Value.int .i64 3] rfl size3 (int_one _) K8 K9 row_8 S8.out.1 put_9 (by decide) ?_; intro v9 hs on; have S9 := Lib.hid (ks_to S8.out hs on); clear hs on S8))
  go_upto_region 16 with (first
    | (refine wpList_ld 27 _ rfl _ _ (ldK (i := 5) (m := n5) S9.out.1 len_9 rfl) rfl rfl ?_)
    | (refine wpList_stK rfl 27 _ _ rfl K 749 (.agg (Mt.cells n5)) rfl rfl (Mt.list n5) rfl (by kernel_rfl) (mtl_one _) K9 K10 row_9 S9.out.1 put_10 (by decide) ?_; intro v10 hs on; have S10 := Lib.hid (ks_to S9.out hs on); clear hs on S9))
  go_upto_region 17 with (first
    | (refine wpList_stK rfl 3 _ _ rfl K 819 (.int .i64 2) rfl rfl [Value.int .i64 2] rfl size3 (int_one _) K10 K11 row_10 S10.out.1 put_11 (by decide) ?_; intro v11 hs on; have S11 := Lib.hid (ks_to S10.out hs on); clear hs on S10))
  go_upto_region 18 with (first
    | (refine wpList_ld 27 _ rfl _ _ (ldK (i := 7) (m := n7) S11.out.1 len_11 rfl) rfl rfl ?_)
    | (refine wpList_stK rfl 27 _ _ rfl K 856 (.agg (Mt.cells n7)) rfl rfl (Mt.list n7) rfl (by kernel_rfl) (mtl_one _) K11 K12 row_11 S11.out.1 put_12 (by decide) ?_; intro v12 hs on; have S12 := Lib.hid (ks_to S11.out hs on); clear hs on S11))
  go_upto_region 19 with (first
    | (refine wpList_stK rfl 3 _ _ rfl K 961 (.int .i64 1) rfl rfl [Value.int .i64 1] rfl size3 (int_one _) K12 K13 row_12 S12.out.1 put_13 (by decide) ?_; intro v13 hs on; have S13 := Lib.hid (ks_to S12.out hs on); clear hs on S12))
  go_upto_region 20 with (first
    | (refine wpList_stK rfl 3 _ _ rfl K 1033 (.int .i64 3) rfl rfl [Value.int .i64 3] rfl size3 (int_one _) K13 K14 row_13 S13.out.1 put_14 (by decide) ?_; intro v14 hs on; have S14 := Lib.hid (ks_to S13.out hs on); clear hs on S13))
  have D14 := Lib.hid (ks_drew S14.out)
  clear S14
  have SS := Lib.hid (Only.refl (fun b => b = K) v14.drew)
  have SL := Lib.hid (fun (W : World) (hW : Only (fun b => b = K) v14.drew W) => ld24w (Has.only D14.out.2.2.1 hW (by have := D14.out.2.2.2.2.1; have := D14.out.2.2.2.2.2.1; omega)) iB_ok)
  refine wp_region_held_drew (S := fun W => Only (fun b => b = K) v14.drew W) (by kernel_rfl) SS.out ?_
  intro _
  refine wpAnyH_take (i := 0) (v := .slice (some ⟨K, 0, none⟩) 12 12) rfl (by kernel_rfl) (by kernel_rfl) (by kernel_rfl) (fun _ _ _ h => h) (Or.inl ⟨by rfl, (fun W _ => by go_simp)⟩) SS.out ?_
  simp only [List.getElem_toArray, List.getElem_cons_succ, List.getElem_cons_zero, Act.put, List.setIfInBounds_toArray, List.set_cons_zero, List.set_cons_succ]
  refine wpAnyH_take (i := 1) (v := .agg iB.cells) rfl (by kernel_rfl) (by kernel_rfl) (by kernel_rfl) (fun _ _ _ h => h) (yields_ld (by rfl) 24 (.tmp 5) rfl _ _ (fun W hW => SL.out W hW) rfl) SS.out ?_
  simp only [List.getElem_toArray, List.getElem_cons_succ, List.getElem_cons_zero, Act.put, List.setIfInBounds_toArray, List.set_cons_zero, List.set_cons_succ]
  refine wpAnyH_take (i := 2) (v := .pointer (some ⟨K, 963, none⟩)) rfl (by kernel_rfl) (by kernel_rfl) (by kernel_rfl) (fun _ _ _ h => h) (Or.inl ⟨by rfl, (fun W _ => by go_simp)⟩) SS.out ?_
  simp only [List.getElem_toArray, List.getElem_cons_succ, List.getElem_cons_zero, Act.put, List.setIfInBounds_toArray, List.set_cons_zero, List.set_cons_succ]
  refine wpAnyH_take (i := 3) (v := .pointer (some ⟨K, 964, none⟩)) rfl (by kernel_rfl) (by kernel_rfl) (by kernel_rfl) (fun _ _ _ h => h) (Or.inl ⟨by rfl, (fun W _ => by go_simp)⟩) SS.out ?_
  simp only [List.getElem_toArray, List.getElem_cons_succ, List.getElem_cons_zero, Act.put, List.setIfInBounds_toArray, List.set_cons_zero, List.set_cons_succ]
  refine wpAnyH_take (i := 4) (v := .pointer (some ⟨K, 998, none⟩)) rfl (by kernel_rfl) (by kernel_rfl) (by kernel_rfl) (fun _ _ _ h => h) (Or.inl ⟨by rfl, (fun W _ => by go_simp)⟩) SS.out ?_
  simp only [List.getElem_toArray, List.getElem_cons_succ, List.getElem_cons_zero, Act.put, List.setIfInBounds_toArray, List.set_cons_zero, List.set_cons_succ]
  refine wpAnyH_ready (rs := [5]) (by kernel_rfl) (by simp) ?_
  refine AllReadyH.cons rfl (fun K' hK => ?_) AllReadyH.nil
  refine step_stK rfl 24 (.tmp 85) (.tmp 82) rfl K 998 (.agg (Im.cells iB)) rfl rfl (Im.list iB) rfl (size24l iB_ok) (iml_one _) K14 K15 row_14 D14.out.1 put_15 (by decide) ?_
  refine hK.out _ _ (SS.out.setRow rfl _) (fun _ => ?_)
  clear hK K'
  refine wpAnyH_done (by kernel_rfl) ?_ _
  have S15 := Lib.hid (ks_to D14.out (setRow_heap _ _ _ _ _ _ D14.out.1) (SS.out.setRow rfl (rowC K15)))
  generalize v14.drew.setRow K (rowC K15) = v15 at *
  clear SS SL D14
  go_upto_region 22 with (first
    | (refine wpList_stK rfl 3 _ _ rfl K 1069 (.int .i64 2) rfl rfl [Value.int .i64 2] rfl size3 (int_one _) K15 K16 row_15 S15.out.1 put_16 (by decide) ?_; intro v16 hs on; have S16 := Lib.hid (ks_to S15.out hs on); clear hs on S15))
  go_upto_region 23 with (first
    | (refine wpList_ld 27 _ rfl _ _ (ldK (i := 9) (m := n9) S16.out.1 len_16 rfl) rfl rfl ?_)
    | (refine wpList_stK rfl 27 _ _ rfl K 1070 (.agg (Mt.cells n9)) rfl rfl (Mt.list n9) rfl (by kernel_rfl) (mtl_one _) K16 K17 row_16 S16.out.1 put_17 (by decide) ?_; intro v17 hs on; have S17 := Lib.hid (ks_to S16.out hs on); clear hs on S16))
  go_upto_region 24 with (first
    | (refine wpList_build_to rfl 24 _ rfl _ built24 ?_)
    | (refine wpList_stK rfl 24 _ _ rfl K 1105 (.agg (Im.cells zeroI)) rfl rfl (Im.list zeroI) rfl (size24l zeroI_ok) (iml_one _) K17 K18 row_17 S17.out.1 put_18 (by decide) ?_; intro v18 hs on; have S18 := Lib.hid (ks_to S17.out hs on); clear hs on S17))
  go_upto_region 25 with (first
    | (refine wpList_ld 27 _ rfl _ _ (ldK (i := 5) (m := n5) S18.out.1 len_18 rfl) rfl rfl ?_)
    | (refine wpList_stK rfl 27 _ _ rfl K 1177 (.agg (Mt.cells n5)) rfl rfl (Mt.list n5) rfl (by kernel_rfl) (mtl_one _) K18 K19 row_18 S18.out.1 put_19 (by decide) ?_; intro v19 hs on; have S19 := Lib.hid (ks_to S18.out hs on); clear hs on S18))
  have D19 := Lib.hid (ks_drew S19.out)
  clear S19
  have SS := Lib.hid (Only.refl (fun b => b = K) v19.drew)
  have SL := Lib.hid (fun (W : World) (hW : Only (fun b => b = K) v19.drew W) => ld24w (Has.only D19.out.2.1 hW (by have := D19.out.2.2.2.2.1; have := D19.out.2.2.2.2.2.1; omega)) iA_ok)
  refine wp_region_held_drew (S := fun W => Only (fun b => b = K) v19.drew W) (by kernel_rfl) SS.out ?_
  intro _
  refine wpAnyH_take (i := 0) (v := .slice (some ⟨K, 0, none⟩) 12 12) rfl (by kernel_rfl) (by kernel_rfl) (by kernel_rfl) (fun _ _ _ h => h) (Or.inl ⟨by rfl, (fun W _ => by go_simp)⟩) SS.out ?_
  simp only [List.getElem_toArray, List.getElem_cons_succ, List.getElem_cons_zero, Act.put, List.setIfInBounds_toArray, List.set_cons_zero, List.set_cons_succ]
  refine wpAnyH_take (i := 1) (v := .agg iA.cells) rfl (by kernel_rfl) (by kernel_rfl) (by kernel_rfl) (fun _ _ _ h => h) (yields_ld (by rfl) 24 (.tmp 4) rfl _ _ (fun W hW => SL.out W hW) rfl) SS.out ?_
  simp only [List.getElem_toArray, List.getElem_cons_succ, List.getElem_cons_zero, Act.put, List.setIfInBounds_toArray, List.set_cons_zero, List.set_cons_succ]
  refine wpAnyH_take (i := 2) (v := .pointer (some ⟨K, 1177, none⟩)) rfl (by kernel_rfl) (by kernel_rfl) (by kernel_rfl) (fun _ _ _ h => h) (Or.inl ⟨by rfl, (fun W _ => by go_simp)⟩) SS.out ?_
  simp only [List.getElem_toArray, List.getElem_cons_succ, List.getElem_cons_zero, Act.put, List.setIfInBounds_toArray, List.set_cons_zero, List.set_cons_succ]
  refine wpAnyH_take (i := 3) (v := .pointer (some ⟨K, 1178, none⟩)) rfl (by kernel_rfl) (by kernel_rfl) (by kernel_rfl) (fun _ _ _ h => h) (Or.inl ⟨by rfl, (fun W _ => by go_simp)⟩) SS.out ?_
  simp only [List.getElem_toArray, List.getElem_cons_succ, List.getElem_cons_zero, Act.put, List.setIfInBounds_toArray, List.set_cons_zero, List.set_cons_succ]
  refine wpAnyH_take (i := 4) (v := .pointer (some ⟨K, 1212, none⟩)) rfl (by kernel_rfl) (by kernel_rfl) (by kernel_rfl) (fun _ _ _ h => h) (Or.inl ⟨by rfl, (fun W _ => by go_simp)⟩) SS.out ?_
  simp only [List.getElem_toArray, List.getElem_cons_succ, List.getElem_cons_zero, Act.put, List.setIfInBounds_toArray, List.set_cons_zero, List.set_cons_succ]
  refine wpAnyH_ready (rs := [5]) (by kernel_rfl) (by simp) ?_
  refine AllReadyH.cons rfl (fun K' hK => ?_) AllReadyH.nil
  refine step_stK rfl 24 (.tmp 108) (.tmp 105) rfl K 1212 (.agg (Im.cells iA)) rfl rfl (Im.list iA) rfl (size24l iA_ok) (iml_one _) K19 K20 row_19 D19.out.1 put_20 (by decide) ?_
  refine hK.out _ _ (SS.out.setRow rfl _) (fun _ => ?_)
  clear hK K'
  refine wpAnyH_done (by kernel_rfl) ?_ _
  have S20 := Lib.hid (ks_to D19.out (setRow_heap _ _ _ _ _ _ D19.out.1) (SS.out.setRow rfl (rowC K20)))
  generalize v19.drew.setRow K (rowC K20) = v20 at *
  clear SS SL D19
  go_upto_region 27 with fail
  obtain ⟨B, hB⟩ : ∃ B, v20.heap.size = B := ⟨_, rfl⟩
  have HO := Lib.hid (show Has (v20.alloc (.cells (B12.map Value.bool).toArray 4)) B 4 (B12.map Value.bool).toArray by rw [← hB]; exact has_new _ _ _)
  have S21 := Lib.hid (show KS w a b K K20 (v20.alloc (.cells (B12.map Value.bool).toArray 4)) from by
    obtain ⟨h1, h2, h3, h4, h5, h6, h7⟩ := S20.out
    exact ⟨h1.more _, h2.more _, h3.more _, h4.alloc h4.size _, h5, h6, h7⟩)
  rw [show (#[.bool true, .bool false, .bool false, .bool true, .bool false, .bool true, .bool false, .bool true, .bool false, .bool true, .bool false, .bool false] : Array Value) = (B12.map Value.bool).toArray from rfl]
  rw [hB]
  clear S20
  generalize v20.alloc (.cells (B12.map Value.bool).toArray 4) = wB at *
  clear hB
  by_cases i0 : n < 0
  · go_wp2
    go_ret
    exact ⟨rfl, S21.out.2.2.2.1⟩
  by_cases i1 : 12 ≤ n
  · go_wp2
    go_ret
    exact ⟨rfl, S21.out.2.2.2.1⟩
  obtain ⟨k, rfl⟩ := Int.eq_ofNat_of_zero_le (show 0 ≤ n by omega)
  have hk : k < 12 := by omega
  obtain ⟨m, bb, hm12, hb12, hok, hrb⟩ := twelve hk
  have k0 : (0 : Int) ≤ (k : Int) := by omega
  have k1 : (k : Int) < 12 := by omega
  have d0 : decide ((k : Int) < 0) = false := decide_eq_false (by omega)
  have d1 : decide ((12 : Int) ≤ (k : Int)) = false := decide_eq_false (by omega)
  go_upto_region 29 with fail
  have bd : Below wB.heap.size wB wB.drew := (Below.refl _ _).drew
  have D21 := Lib.hid (ks_drew S21.out)
  have HOD := Lib.hid (HO.out.kept bd)
  have SK := Lib.hid (fun (W : World) (hW : Below wB.drew.heap.size wB.drew W) => ldK (i := k) (m := m) (D21.out.1.kept hW) len12 hm12)
  have SB := Lib.hid (fun (W : World) (hW : Below wB.drew.heap.size wB.drew W) => ld4 (k := k) (b := bb) ((HOD.out.kept hW).at k |>.trans (by rw [List.getElem?_toArray, List.getElem?_map, hb12]; rfl)))
  have HR := Lib.hid (right_any m wB.drew hok)
  have HPB := Lib.hid (fun W => mbytes_any m W hok)
  rw [hrb] at HR
  have HS0 := Lib.hid (Below.refl wB.drew.heap.size wB.drew)
  have HL0 : Hid (bb = false → (bytesM m).length = 0) := Lib.hid (fun h => by unfold bytesM; rw [if_neg (by rw [hrb, h]; simp)]; rfl)
  have HL1 : Hid (bb = true → (bytesM m).length = 128) := Lib.hid (fun h => by unfold bytesM; rw [if_pos (by rw [hrb, h]), meta_len])
  clear bd HO S21 hm12 hb12 hok hrb d0 d1 i0 i1 wn hbn hz27 hz24
  obtain ⟨BY, hBY⟩ : ∃ BY, bytesM m = BY := ⟨_, rfl⟩
  obtain ⟨LB, hLB⟩ : ∃ LB, BY.length = LB := ⟨_, rfl⟩
  rw [hBY, hLB] at HPB HL0 HL1
  clear hBY hLB
  cases bb with
  | false =>
    have e0 : LB = 0 := HL0.out rfl
    subst e0
    clear HL0 HL1
    refine wp_region_held_drew (S := fun W => Below wB.drew.heap.size wB.drew W) (by kernel_rfl) HS0.out ?_
    intro _
    refine wpAnyH_take (i := 0) (v := .slice (some ⟨K, 0, none⟩) 12 12) rfl (by kernel_rfl) (by kernel_rfl) (by kernel_rfl) (fun _ _ _ h => h) (Or.inl ⟨by rfl, (fun W _ => by go_simp)⟩) HS0.out ?_
    simp only [List.getElem_toArray, List.getElem_cons_succ, List.getElem_cons_zero, Act.put, List.setIfInBounds_toArray, List.set_cons_zero, List.set_cons_succ]
    refine wpAnyH_take (i := 1) (v := .int .i64 (k : Int)) rfl (by kernel_rfl) (by kernel_rfl) (by kernel_rfl) (fun _ _ _ h => h) (Or.inl ⟨by rfl, (fun W _ => by go_simp)⟩) HS0.out ?_
    simp only [List.getElem_toArray, List.getElem_cons_succ, List.getElem_cons_zero, Act.put, List.setIfInBounds_toArray, List.set_cons_zero, List.set_cons_succ]
    refine wpAnyH_take (i := 2) (v := .pointer (some ⟨K, k * 107, none⟩)) rfl (by kernel_rfl) (by kernel_rfl) (by kernel_rfl) (fun _ _ _ h => h) (Or.inl ⟨by rfl, (fun W _ => by go_simp)⟩) HS0.out ?_
    simp only [List.getElem_toArray, List.getElem_cons_succ, List.getElem_cons_zero, Act.put, List.setIfInBounds_toArray, List.set_cons_zero, List.set_cons_succ]
    refine wpAnyH_take (i := 3) (v := .agg m.cells) rfl (by kernel_rfl) (by kernel_rfl) (by kernel_rfl) (fun _ _ _ h => h) (yields_ld (by rfl) 27 (.tmp 125) rfl _ _ (fun W hW => SK.out W hW) rfl) HS0.out ?_
    simp only [List.getElem_toArray, List.getElem_cons_succ, List.getElem_cons_zero, Act.put, List.setIfInBounds_toArray, List.set_cons_zero, List.set_cons_succ]
    refine wpAnyH_take (i := 5) (v := .slice (some ⟨B, 0, none⟩) 12 12) rfl (by kernel_rfl) (by kernel_rfl) (by kernel_rfl) (fun _ _ _ h => h) (Or.inl ⟨by rfl, (fun W _ => by go_simp)⟩) HS0.out ?_
    simp only [List.getElem_toArray, List.getElem_cons_succ, List.getElem_cons_zero, Act.put, List.setIfInBounds_toArray, List.set_cons_zero, List.set_cons_succ]
    refine wpAnyH_take (i := 6) (v := .int .i64 (k : Int)) rfl (by kernel_rfl) (by kernel_rfl) (by kernel_rfl) (fun _ _ _ h => h) (Or.inl ⟨by rfl, (fun W _ => by go_simp)⟩) HS0.out ?_
    simp only [List.getElem_toArray, List.getElem_cons_succ, List.getElem_cons_zero, Act.put, List.setIfInBounds_toArray, List.set_cons_zero, List.set_cons_succ]
    refine wpAnyH_take (i := 7) (v := .pointer (some ⟨B, k, none⟩)) rfl (by kernel_rfl) (by kernel_rfl) (by kernel_rfl) (fun _ _ _ h => h) (Or.inl ⟨by rfl, (fun W _ => by go_simp)⟩) HS0.out ?_
    simp only [List.getElem_toArray, List.getElem_cons_succ, List.getElem_cons_zero, Act.put, List.setIfInBounds_toArray, List.set_cons_zero, List.set_cons_succ]
    refine wpAnyH_take (i := 8) (v := .bool false) rfl (by kernel_rfl) (by kernel_rfl) (by kernel_rfl) (fun _ _ _ h => h) (yields_ld (by rfl) 4 (.tmp 130) rfl _ _ (fun W hW => SB.out W hW) rfl) HS0.out ?_
    simp only [List.getElem_toArray, List.getElem_cons_succ, List.getElem_cons_zero, Act.put, List.setIfInBounds_toArray, List.set_cons_zero, List.set_cons_succ]
    refine wpAnyH_ready (rs := [4]) (by kernel_rfl) (by simp) ?_
    refine AllReadyH.cons rfl (fun K hK => ?_) AllReadyH.nil
    go_simp
    refine (HR.out).mono ?_
    rintro e x1 ⟨rfl, f1⟩; have HS1 := Lib.hid (show Below wB.drew.heap.size wB.drew x1 from f1); clear f1
    refine hK.out _ _ HS1.out (fun _ => ?_)
    clear hK K
    refine wpAnyH_take (i := 9) (v := .bool true) rfl (by kernel_rfl) (by kernel_rfl) (by kernel_rfl) (fun _ _ _ h => h) (Or.inl ⟨by rfl, (fun W _ => by go_simp)⟩) HS1.out ?_
    simp only [List.getElem_toArray, List.getElem_cons_succ, List.getElem_cons_zero, Act.put, List.setIfInBounds_toArray, List.set_cons_zero, List.set_cons_succ]
    refine wpAnyH_take (i := 10) (v := .bool true) rfl (by kernel_rfl) (by kernel_rfl) (by kernel_rfl) (fun _ _ _ h => h) (Or.inl ⟨by rfl, (fun W _ => by go_simp)⟩) HS1.out ?_
    simp only [List.getElem_toArray, List.getElem_cons_succ, List.getElem_cons_zero, Act.put, List.setIfInBounds_toArray, List.set_cons_zero, List.set_cons_succ]
    refine wpAnyH_take (i := 11) (v := .slice (some ⟨K, 0, none⟩) 12 12) rfl (by kernel_rfl) (by kernel_rfl) (by kernel_rfl) (fun _ _ _ h => h) (Or.inl ⟨by rfl, (fun W _ => by go_simp)⟩) HS1.out ?_
    simp only [List.getElem_toArray, List.getElem_cons_succ, List.getElem_cons_zero, Act.put, List.setIfInBounds_toArray, List.set_cons_zero, List.set_cons_succ]
    refine wpAnyH_take (i := 12) (v := .int .i64 (k : Int)) rfl (by kernel_rfl) (by kernel_rfl) (by kernel_rfl) (fun _ _ _ h => h) (Or.inl ⟨by rfl, (fun W _ => by go_simp)⟩) HS1.out ?_
    simp only [List.getElem_toArray, List.getElem_cons_succ, List.getElem_cons_zero, Act.put, List.setIfInBounds_toArray, List.set_cons_zero, List.set_cons_succ]
    refine wpAnyH_take (i := 13) (v := .pointer (some ⟨K, k * 107, none⟩)) rfl (by kernel_rfl) (by kernel_rfl) (by kernel_rfl) (fun _ _ _ h => h) (Or.inl ⟨by rfl, (fun W _ => by go_simp)⟩) HS1.out ?_
    simp only [List.getElem_toArray, List.getElem_cons_succ, List.getElem_cons_zero, Act.put, List.setIfInBounds_toArray, List.set_cons_zero, List.set_cons_succ]
    refine wpAnyH_take (i := 14) (v := .agg m.cells) rfl (by kernel_rfl) (by kernel_rfl) (by kernel_rfl) (fun _ _ _ h => h) (yields_ld (by rfl) 27 (.tmp 136) rfl _ _ (fun W hW => SK.out W hW) rfl) HS1.out ?_
    simp only [List.getElem_toArray, List.getElem_cons_succ, List.getElem_cons_zero, Act.put, List.setIfInBounds_toArray, List.set_cons_zero, List.set_cons_succ]
    refine wpAnyH_take (i := 18) (v := .slice (some ⟨B, 0, none⟩) 12 12) rfl (by kernel_rfl) (by kernel_rfl) (by kernel_rfl) (fun _ _ _ h => h) (Or.inl ⟨by rfl, (fun W _ => by go_simp)⟩) HS1.out ?_
    simp only [List.getElem_toArray, List.getElem_cons_succ, List.getElem_cons_zero, Act.put, List.setIfInBounds_toArray, List.set_cons_zero, List.set_cons_succ]
    refine wpAnyH_take (i := 19) (v := .int .i64 (k : Int)) rfl (by kernel_rfl) (by kernel_rfl) (by kernel_rfl) (fun _ _ _ h => h) (Or.inl ⟨by rfl, (fun W _ => by go_simp)⟩) HS1.out ?_
    simp only [List.getElem_toArray, List.getElem_cons_succ, List.getElem_cons_zero, Act.put, List.setIfInBounds_toArray, List.set_cons_zero, List.set_cons_succ]
    refine wpAnyH_take (i := 20) (v := .pointer (some ⟨B, k, none⟩)) rfl (by kernel_rfl) (by kernel_rfl) (by kernel_rfl) (fun _ _ _ h => h) (Or.inl ⟨by rfl, (fun W _ => by go_simp)⟩) HS1.out ?_
    simp only [List.getElem_toArray, List.getElem_cons_succ, List.getElem_cons_zero, Act.put, List.setIfInBounds_toArray, List.set_cons_zero, List.set_cons_succ]
    refine wpAnyH_take (i := 21) (v := .bool false) rfl (by kernel_rfl) (by kernel_rfl) (by kernel_rfl) (fun _ _ _ h => h) (yields_ld (by rfl) 4 (.tmp 143) rfl _ _ (fun W hW => SB.out W hW) rfl) HS1.out ?_
    simp only [List.getElem_toArray, List.getElem_cons_succ, List.getElem_cons_zero, Act.put, List.setIfInBounds_toArray, List.set_cons_zero, List.set_cons_succ]
    refine wpAnyH_ready (rs := [15]) (by kernel_rfl) (by simp) ?_
    refine AllReadyH.cons rfl (fun K hK => ?_) AllReadyH.nil
    go_simp
    refine (HPB.out x1).mono ?_
    rintro e x2 ⟨y2, rfl, p2, f2⟩
    obtain ⟨B2, c2, rfl, _, _, _⟩ := p2.form
    have HS2 := Lib.hid (show Below wB.drew.heap.size wB.drew x2 from HS1.out.trans (f2.mono HS1.out.size))
    clear p2 f2
    refine hK.out _ _ HS2.out (fun _ => ?_)
    clear hK K
    refine wpAnyH_take (i := 16) (v := .int .i64 0) rfl (by kernel_rfl) (by kernel_rfl) (by kernel_rfl) (fun _ _ _ h => h) (Or.inl ⟨by rfl, (fun W _ => by go_simp)⟩) HS2.out ?_
    simp only [List.getElem_toArray, List.getElem_cons_succ, List.getElem_cons_zero, Act.put, List.setIfInBounds_toArray, List.set_cons_zero, List.set_cons_succ]
    refine wpAnyH_take (i := 17) (v := .bool false) rfl (by kernel_rfl) (by kernel_rfl) (by kernel_rfl) (fun _ _ _ h => h) (Or.inl ⟨by rfl, (fun W _ => by go_simp)⟩) HS2.out ?_
    simp only [List.getElem_toArray, List.getElem_cons_succ, List.getElem_cons_zero, Act.put, List.setIfInBounds_toArray, List.set_cons_zero, List.set_cons_succ]
    refine wpAnyH_take (i := 22) (v := .bool true) rfl (by kernel_rfl) (by kernel_rfl) (by kernel_rfl) (fun _ _ _ h => h) (Or.inl ⟨by rfl, (fun W _ => by go_simp)⟩) HS2.out ?_
    simp only [List.getElem_toArray, List.getElem_cons_succ, List.getElem_cons_zero, Act.put, List.setIfInBounds_toArray, List.set_cons_zero, List.set_cons_succ]
    refine wpAnyH_take (i := 23) (v := .bool true) rfl (by kernel_rfl) (by kernel_rfl) (by kernel_rfl) (fun _ _ _ h => h) (Or.inl ⟨by rfl, (fun W _ => by go_simp)⟩) HS2.out ?_
    simp only [List.getElem_toArray, List.getElem_cons_succ, List.getElem_cons_zero, Act.put, List.setIfInBounds_toArray, List.set_cons_zero, List.set_cons_succ]
    refine wpAnyH_take (i := 24) (v := .bool true) rfl (by kernel_rfl) (by kernel_rfl) (by kernel_rfl) (fun _ _ _ h => h) (Or.inl ⟨by rfl, (fun W _ => by go_simp)⟩) HS2.out ?_
    simp only [List.getElem_toArray, List.getElem_cons_succ, List.getElem_cons_zero, Act.put, List.setIfInBounds_toArray, List.set_cons_zero, List.set_cons_succ]
    refine wpAnyH_done (by kernel_rfl) ?_ _
    have CX := Lib.hid (D21.out.2.2.2.1.trans (HS2.out.mono D21.out.2.2.2.1.size))
    clear HS0 HS1 HS2 SK SB HR HPB D21 HOD
    go_wp2
    go_ret
    exact ⟨rfl, CX.out⟩
  | true =>
    have e0 : LB = 128 := HL1.out rfl
    subst e0
    clear HL0 HL1
    refine wp_region_held_drew (S := fun W => Below wB.drew.heap.size wB.drew W) (by kernel_rfl) HS0.out ?_
    intro _
    refine wpAnyH_take (i := 0) (v := .slice (some ⟨K, 0, none⟩) 12 12) rfl (by kernel_rfl) (by kernel_rfl) (by kernel_rfl) (fun _ _ _ h => h) (Or.inl ⟨by rfl, (fun W _ => by go_simp)⟩) HS0.out ?_
    simp only [List.getElem_toArray, List.getElem_cons_succ, List.getElem_cons_zero, Act.put, List.setIfInBounds_toArray, List.set_cons_zero, List.set_cons_succ]
    refine wpAnyH_take (i := 1) (v := .int .i64 (k : Int)) rfl (by kernel_rfl) (by kernel_rfl) (by kernel_rfl) (fun _ _ _ h => h) (Or.inl ⟨by rfl, (fun W _ => by go_simp)⟩) HS0.out ?_
    simp only [List.getElem_toArray, List.getElem_cons_succ, List.getElem_cons_zero, Act.put, List.setIfInBounds_toArray, List.set_cons_zero, List.set_cons_succ]
    refine wpAnyH_take (i := 2) (v := .pointer (some ⟨K, k * 107, none⟩)) rfl (by kernel_rfl) (by kernel_rfl) (by kernel_rfl) (fun _ _ _ h => h) (Or.inl ⟨by rfl, (fun W _ => by go_simp)⟩) HS0.out ?_
    simp only [List.getElem_toArray, List.getElem_cons_succ, List.getElem_cons_zero, Act.put, List.setIfInBounds_toArray, List.set_cons_zero, List.set_cons_succ]
    refine wpAnyH_take (i := 3) (v := .agg m.cells) rfl (by kernel_rfl) (by kernel_rfl) (by kernel_rfl) (fun _ _ _ h => h) (yields_ld (by rfl) 27 (.tmp 125) rfl _ _ (fun W hW => SK.out W hW) rfl) HS0.out ?_
    simp only [List.getElem_toArray, List.getElem_cons_succ, List.getElem_cons_zero, Act.put, List.setIfInBounds_toArray, List.set_cons_zero, List.set_cons_succ]
    refine wpAnyH_take (i := 5) (v := .slice (some ⟨B, 0, none⟩) 12 12) rfl (by kernel_rfl) (by kernel_rfl) (by kernel_rfl) (fun _ _ _ h => h) (Or.inl ⟨by rfl, (fun W _ => by go_simp)⟩) HS0.out ?_
    simp only [List.getElem_toArray, List.getElem_cons_succ, List.getElem_cons_zero, Act.put, List.setIfInBounds_toArray, List.set_cons_zero, List.set_cons_succ]
    refine wpAnyH_take (i := 6) (v := .int .i64 (k : Int)) rfl (by kernel_rfl) (by kernel_rfl) (by kernel_rfl) (fun _ _ _ h => h) (Or.inl ⟨by rfl, (fun W _ => by go_simp)⟩) HS0.out ?_
    simp only [List.getElem_toArray, List.getElem_cons_succ, List.getElem_cons_zero, Act.put, List.setIfInBounds_toArray, List.set_cons_zero, List.set_cons_succ]
    refine wpAnyH_take (i := 7) (v := .pointer (some ⟨B, k, none⟩)) rfl (by kernel_rfl) (by kernel_rfl) (by kernel_rfl) (fun _ _ _ h => h) (Or.inl ⟨by rfl, (fun W _ => by go_simp)⟩) HS0.out ?_
    simp only [List.getElem_toArray, List.getElem_cons_succ, List.getElem_cons_zero, Act.put, List.setIfInBounds_toArray, List.set_cons_zero, List.set_cons_succ]
    refine wpAnyH_take (i := 8) (v := .bool true) rfl (by kernel_rfl) (by kernel_rfl) (by kernel_rfl) (fun _ _ _ h => h) (yields_ld (by rfl) 4 (.tmp 130) rfl _ _ (fun W hW => SB.out W hW) rfl) HS0.out ?_
    simp only [List.getElem_toArray, List.getElem_cons_succ, List.getElem_cons_zero, Act.put, List.setIfInBounds_toArray, List.set_cons_zero, List.set_cons_succ]
    refine wpAnyH_ready (rs := [4]) (by kernel_rfl) (by simp) ?_
    refine AllReadyH.cons rfl (fun K hK => ?_) AllReadyH.nil
    go_simp
    refine (HR.out).mono ?_
    rintro e x1 ⟨rfl, f1⟩; have HS1 := Lib.hid (show Below wB.drew.heap.size wB.drew x1 from f1); clear f1
    refine hK.out _ _ HS1.out (fun _ => ?_)
    clear hK K
    refine wpAnyH_take (i := 9) (v := .bool true) rfl (by kernel_rfl) (by kernel_rfl) (by kernel_rfl) (fun _ _ _ h => h) (Or.inl ⟨by rfl, (fun W _ => by go_simp)⟩) HS1.out ?_
    simp only [List.getElem_toArray, List.getElem_cons_succ, List.getElem_cons_zero, Act.put, List.setIfInBounds_toArray, List.set_cons_zero, List.set_cons_succ]
    refine wpAnyH_take (i := 10) (v := .bool true) rfl (by kernel_rfl) (by kernel_rfl) (by kernel_rfl) (fun _ _ _ h => h) (Or.inl ⟨by rfl, (fun W _ => by go_simp)⟩) HS1.out ?_
    simp only [List.getElem_toArray, List.getElem_cons_succ, List.getElem_cons_zero, Act.put, List.setIfInBounds_toArray, List.set_cons_zero, List.set_cons_succ]
    refine wpAnyH_take (i := 11) (v := .slice (some ⟨K, 0, none⟩) 12 12) rfl (by kernel_rfl) (by kernel_rfl) (by kernel_rfl) (fun _ _ _ h => h) (Or.inl ⟨by rfl, (fun W _ => by go_simp)⟩) HS1.out ?_
    simp only [List.getElem_toArray, List.getElem_cons_succ, List.getElem_cons_zero, Act.put, List.setIfInBounds_toArray, List.set_cons_zero, List.set_cons_succ]
    refine wpAnyH_take (i := 12) (v := .int .i64 (k : Int)) rfl (by kernel_rfl) (by kernel_rfl) (by kernel_rfl) (fun _ _ _ h => h) (Or.inl ⟨by rfl, (fun W _ => by go_simp)⟩) HS1.out ?_
    simp only [List.getElem_toArray, List.getElem_cons_succ, List.getElem_cons_zero, Act.put, List.setIfInBounds_toArray, List.set_cons_zero, List.set_cons_succ]
    refine wpAnyH_take (i := 13) (v := .pointer (some ⟨K, k * 107, none⟩)) rfl (by kernel_rfl) (by kernel_rfl) (by kernel_rfl) (fun _ _ _ h => h) (Or.inl ⟨by rfl, (fun W _ => by go_simp)⟩) HS1.out ?_
    simp only [List.getElem_toArray, List.getElem_cons_succ, List.getElem_cons_zero, Act.put, List.setIfInBounds_toArray, List.set_cons_zero, List.set_cons_succ]
    refine wpAnyH_take (i := 14) (v := .agg m.cells) rfl (by kernel_rfl) (by kernel_rfl) (by kernel_rfl) (fun _ _ _ h => h) (yields_ld (by rfl) 27 (.tmp 136) rfl _ _ (fun W hW => SK.out W hW) rfl) HS1.out ?_
    simp only [List.getElem_toArray, List.getElem_cons_succ, List.getElem_cons_zero, Act.put, List.setIfInBounds_toArray, List.set_cons_zero, List.set_cons_succ]
    refine wpAnyH_take (i := 18) (v := .slice (some ⟨B, 0, none⟩) 12 12) rfl (by kernel_rfl) (by kernel_rfl) (by kernel_rfl) (fun _ _ _ h => h) (Or.inl ⟨by rfl, (fun W _ => by go_simp)⟩) HS1.out ?_
    simp only [List.getElem_toArray, List.getElem_cons_succ, List.getElem_cons_zero, Act.put, List.setIfInBounds_toArray, List.set_cons_zero, List.set_cons_succ]
    refine wpAnyH_take (i := 19) (v := .int .i64 (k : Int)) rfl (by kernel_rfl) (by kernel_rfl) (by kernel_rfl) (fun _ _ _ h => h) (Or.inl ⟨by rfl, (fun W _ => by go_simp)⟩) HS1.out ?_
    simp only [List.getElem_toArray, List.getElem_cons_succ, List.getElem_cons_zero, Act.put, List.setIfInBounds_toArray, List.set_cons_zero, List.set_cons_succ]
    refine wpAnyH_take (i := 20) (v := .pointer (some ⟨B, k, none⟩)) rfl (by kernel_rfl) (by kernel_rfl) (by kernel_rfl) (fun _ _ _ h => h) (Or.inl ⟨by rfl, (fun W _ => by go_simp)⟩) HS1.out ?_
    simp only [List.getElem_toArray, List.getElem_cons_succ, List.getElem_cons_zero, Act.put, List.setIfInBounds_toArray, List.set_cons_zero, List.set_cons_succ]
    refine wpAnyH_take (i := 21) (v := .bool true) rfl (by kernel_rfl) (by kernel_rfl) (by kernel_rfl) (fun _ _ _ h => h) (yields_ld (by rfl) 4 (.tmp 143) rfl _ _ (fun W hW => SB.out W hW) rfl) HS1.out ?_
    simp only [List.getElem_toArray, List.getElem_cons_succ, List.getElem_cons_zero, Act.put, List.setIfInBounds_toArray, List.set_cons_zero, List.set_cons_succ]
    refine wpAnyH_ready (rs := [15]) (by kernel_rfl) (by simp) ?_
    refine AllReadyH.cons rfl (fun K hK => ?_) AllReadyH.nil
    go_simp
    refine (HPB.out x1).mono ?_
    rintro e x2 ⟨y2, rfl, p2, f2⟩
    obtain ⟨B2, c2, rfl, _, _, _⟩ := p2.form
    have HS2 := Lib.hid (show Below wB.drew.heap.size wB.drew x2 from HS1.out.trans (f2.mono HS1.out.size))
    clear p2 f2
    refine hK.out _ _ HS2.out (fun _ => ?_)
    clear hK K
    refine wpAnyH_take (i := 16) (v := .int .i64 128) rfl (by kernel_rfl) (by kernel_rfl) (by kernel_rfl) (fun _ _ _ h => h) (Or.inl ⟨by rfl, (fun W _ => by go_simp)⟩) HS2.out ?_
    simp only [List.getElem_toArray, List.getElem_cons_succ, List.getElem_cons_zero, Act.put, List.setIfInBounds_toArray, List.set_cons_zero, List.set_cons_succ]
    refine wpAnyH_take (i := 17) (v := .bool true) rfl (by kernel_rfl) (by kernel_rfl) (by kernel_rfl) (fun _ _ _ h => h) (Or.inl ⟨by rfl, (fun W _ => by go_simp)⟩) HS2.out ?_
    simp only [List.getElem_toArray, List.getElem_cons_succ, List.getElem_cons_zero, Act.put, List.setIfInBounds_toArray, List.set_cons_zero, List.set_cons_succ]
    refine wpAnyH_take (i := 22) (v := .bool true) rfl (by kernel_rfl) (by kernel_rfl) (by kernel_rfl) (fun _ _ _ h => h) (Or.inl ⟨by rfl, (fun W _ => by go_simp)⟩) HS2.out ?_
    simp only [List.getElem_toArray, List.getElem_cons_succ, List.getElem_cons_zero, Act.put, List.setIfInBounds_toArray, List.set_cons_zero, List.set_cons_succ]
    refine wpAnyH_take (i := 23) (v := .bool true) rfl (by kernel_rfl) (by kernel_rfl) (by kernel_rfl) (fun _ _ _ h => h) (Or.inl ⟨by rfl, (fun W _ => by go_simp)⟩) HS2.out ?_
    simp only [List.getElem_toArray, List.getElem_cons_succ, List.getElem_cons_zero, Act.put, List.setIfInBounds_toArray, List.set_cons_zero, List.set_cons_succ]
    refine wpAnyH_take (i := 24) (v := .bool true) rfl (by kernel_rfl) (by kernel_rfl) (by kernel_rfl) (fun _ _ _ h => h) (Or.inl ⟨by rfl, (fun W _ => by go_simp)⟩) HS2.out ?_
    simp only [List.getElem_toArray, List.getElem_cons_succ, List.getElem_cons_zero, Act.put, List.setIfInBounds_toArray, List.set_cons_zero, List.set_cons_succ]
    refine wpAnyH_done (by kernel_rfl) ?_ _
    have CX := Lib.hid (D21.out.2.2.2.1.trans (HS2.out.mono D21.out.2.2.2.1.size))
    clear HS0 HS1 HS2 SK SB HR HPB D21 HOD
    go_wp2
    go_ret
    exact ⟨rfl, CX.out⟩
end Go.Proofs.Ythkgbcchnneloaa.metaKinds
