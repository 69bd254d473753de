/-
  The walk of the law HmacLong: a key that is longer than a block is as its hash; conditions: the tables lie as they were laid.
-/
import Derived.Test.YtienckdcdbcjhaaDoorLive
import Derived.Test.YtienckdcdbcjhaaDoorCards
import Derived.Deep.RegionHeld3
namespace Go.Proofs.YtienckdcdbcjhaaDoor.hmacLong
open Go.ChangeShapes Go.WideShapes Go.ChangeAt Go.RowKit
set_option linter.unusedVariables false
set_option linter.unusedSimpArgs false

set_option maxRecDepth 100000 in
set_option maxHeartbeats 1000000 in
theorem walk_out (a0 : Option Addr) (len0 cap0 : Nat) (a1 : Option Addr) (len1 cap1 : Nat) (w : World) (ht : Tabs w) (h : len0 < 65 ∨ 300 < len0 ∨ 500 < len1) :
    Calls Tryd.prog 6 #[.slice a0 len0 cap0, .slice a1 len1 cap1] w fun e w' => e = .returned (.bool true) ∧ Below w.heap.size w w' := by
  by_cases h1 : len0 < 65
  · have i0 : (len0 : Int) < 65 := by omega
    go_enter Tryd.func6, Tryd.ntmps6
    go_wp2_with (go_at_call 7; refine (live_any _ ht).mono ?_; rintro e w1 ⟨rfl, H1⟩)
    go_ret
    exact ⟨rfl, H1⟩
  · have i0 : ¬ (len0 : Int) < 65 := by omega
    by_cases h2 : 300 < len0
    · have i1 : (300 : Int) < (len0 : Int) := by omega
      go_enter Tryd.func6, Tryd.ntmps6
      go_wp2_with (go_at_call 7; refine (live_any _ ht).mono ?_; rintro e w1 ⟨rfl, H1⟩)
      go_ret
      exact ⟨rfl, H1⟩
    · have i1 : ¬ (300 : Int) < (len0 : Int) := by omega
      have i2 : (500 : Int) < (len1 : Int) := by omega
      go_enter Tryd.func6, Tryd.ntmps6
      go_wp2_with (go_at_call 7; refine (live_any _ ht).mono ?_; rintro e w1 ⟨rfl, H1⟩)
      go_ret
      exact ⟨rfl, H1⟩
set_option maxRecDepth 100000 in
set_option maxHeartbeats 2000000 in
theorem walk_within (a0 : Option Addr) (len0 cap0 : Nat) (ks : List Int) (a1 : Option Addr) (len1 cap1 : Nat) (bs : List Int) (w : World) (hk : Row w a0 len0 ks) (hr : Row w a1 len1 bs) (hc0 : len0 ≤ cap0) (hc1 : len1 ≤ cap1) (ht : Tabs w)
    (h0 : 65 ≤ len0) (h1 : len0 ≤ 300) (h2 : len1 ≤ 500) :
    Calls Tryd.prog 6 #[.slice a0 len0 cap0, .slice a1 len1 cap1] w fun e w' => e = .returned (.bool true) ∧ Below w.heap.size w w' := by
  have i0 : ¬ (len0 : Int) < 65 := by omega
  have i1 : ¬ (300 : Int) < (len0 : Int) := by omega
  have i2 : ¬ (500 : Int) < (len1 : Int) := by omega
  have hz2 := zero24_run
  have HLONG := Lib.hid (tag_long ks bs (by rw [hk.1]; omega))
  have hbs := byt_sha hk.2.1
  have hsl := Lib.hid (sha_len ks)
  go_enter Tryd.func6, Tryd.ntmps6
  go_wp2_with (go_at_call 7; refine (live_any _ ht).mono ?_; rintro e w1 ⟨rfl, H1⟩)
  refine (rsha_any a0 len0 cap0 ks _ (row_below H1 hk) hc0 (by omega)).mono ?_
  rintro e w2 ⟨rfl, H2⟩
  have b2 := H1.trans (H2.mono H1.size)
  have hne := has_new w2 24 zero24
  have b3 := b2.alloc b2.size (.cells zero24 24)
  generalize shaI ks = dig at *
  go_wp2_with ((refine wpList_row rfl 24 _ _ rfl w2.heap.size (nums dig).toArray rfl rfl 24 _ hne (size24 hsl.out) (by rw [zero24_size, List.size_toArray, nums_len, hsl.out]) (nums_all _) ?_; intro w4 hs4 hon4))
  have b4 := below_only b3 hon4 b2.size b3.size
  have hd4 := has_row hs4 hsl.out hbs
  have H1t := ht.kept b4
  have hk4 := row_below b4 hk
  have hr4 := row_below b4 hr
  clear hne b3 hon4 hs4 H1 H2 b2
  have hC1 : ∀ W, Below w4.heap.size w4.drew W → Calls Tryd.prog 8 #[.slice a0 len0 cap0, .slice a1 len1 cap1] W fun e w' => e = .returned (.agg (nums (tagI ks bs)).toArray) ∧ Below W.heap.size W w' := fun W hW =>
    tag_any a0 len0 cap0 ks a1 len1 cap1 bs W (row_below (w := w4.drew) hW (row_below ((Below.refl _ w4).drew) hk4)) (row_below (w := w4.drew) hW (row_below ((Below.refl _ w4).drew) hr4)) hc0 hc1 ((H1t.kept ((Below.refl _ w4).drew)).kept hW) (by omega) (by omega)
  have hC2 : ∀ W, Below w4.heap.size w4.drew W → Calls Tryd.prog 8 #[.slice (some ⟨w2.heap.size, 0, none⟩) 32 32, .slice a1 len1 cap1] W fun e w' => e = .returned (.agg (nums (tagI ks bs)).toArray) ∧ Below W.heap.size W w' := fun W hW => by
    have := tag_any (some ⟨w2.heap.size, 0, none⟩) 32 32 dig a1 len1 cap1 bs W (row_below (w := w4.drew) hW (row_below ((Below.refl _ w4).drew) hd4)) (row_below (w := w4.drew) hW (row_below ((Below.refl _ w4).drew) hr4)) (Nat.le_refl _) hc1 ((H1t.kept ((Below.refl _ w4).drew)).kept hW) (by omega) (by omega)
    rw [HLONG.out] at this
    exact this
  have b7 : Below w4.heap.size w4.drew w4.drew := Below.refl _ _
  have hl := tag_len ks bs
  have heq := eq24 (tagI ks bs) hl
  generalize tagI ks bs = tag at *
  have HA := Lib.hid hC1
  have HB := Lib.hid hC2
  clear hC1 hC2 hk4 hr4 hd4 hl H1t
  refine wp_region_held_drew (S := fun w' => Below w4.heap.size w4.drew w') (by kernel_rfl) b7 ?_
  intro hS7
  refine wpAnyH_take (i := 0) (v := .slice a0 len0 cap0) rfl (by kernel_rfl) (by kernel_rfl) (by kernel_rfl) (fun _ _ _ h => h) (Or.inl ⟨by rfl, (fun W _ => by go_simp)⟩) hS7 ?_
  simp only [List.getElem_toArray, List.getElem_cons_succ, List.getElem_cons_zero, Act.put, List.setIfInBounds_toArray, List.set_cons_zero, List.set_cons_succ]
  refine wpAnyH_take (i := 1) (v := .slice a1 len1 cap1) rfl (by kernel_rfl) (by kernel_rfl) (by kernel_rfl) (fun _ _ _ h => h) (Or.inl ⟨by rfl, (fun W _ => by go_simp)⟩) hS7 ?_
  simp only [List.getElem_toArray, List.getElem_cons_succ, List.getElem_cons_zero, Act.put, List.setIfInBounds_toArray, List.set_cons_zero, List.set_cons_succ]
  refine wpAnyH_take (i := 3) (v := .slice (some ⟨w2.heap.size, 0, none⟩) 32 32) rfl (by kernel_rfl) (by kernel_rfl) (by kernel_rfl) (fun _ _ _ h => h) (Or.inl ⟨by rfl, (fun W _ => by go_simp)⟩) hS7 ?_
  simp only [List.getElem_toArray, List.getElem_cons_succ, List.getElem_cons_zero, Act.put, List.setIfInBounds_toArray, List.set_cons_zero, List.set_cons_succ]
  refine wpAnyH_take (i := 4) (v := .slice a1 len1 cap1) rfl (by kernel_rfl) (by kernel_rfl) (by kernel_rfl) (fun _ _ _ h => h) (Or.inl ⟨by rfl, (fun W _ => by go_simp)⟩) hS7 ?_
  simp only [List.getElem_toArray, List.getElem_cons_succ, List.getElem_cons_zero, Act.put, List.setIfInBounds_toArray, List.set_cons_zero, List.set_cons_succ]
  refine wpAnyH_ready (rs := [2]) (by kernel_rfl) (by simp) ?_
  refine AllReadyH.cons rfl (fun K hK => ?_) AllReadyH.nil
  go_simp
  refine (HA.out _ hS7).mono ?_
  rintro e w8 ⟨rfl, H8⟩; have hS8 : Below w4.heap.size w4.drew w8 := H8
  refine hK.out _ _ hS8 (fun _ => ?_)
  clear hK K
  refine wpAnyH_ready (rs := [5]) (by kernel_rfl) (by simp) ?_
  refine AllReadyH.cons rfl (fun K hK => ?_) AllReadyH.nil
  go_simp
  refine (HB.out _ hS8).mono ?_
  rintro e w9 ⟨rfl, H9⟩; have hS9 : Below w4.heap.size w4.drew w9 := hS8.trans (H9.mono hS8.size)
  refine hK.out _ _ hS9 (fun _ => ?_)
  clear hK K
  refine wpAnyH_take (i := 6) (v := .bool true) rfl (by kernel_rfl) (by kernel_rfl) (by kernel_rfl) (fun _ _ _ h => h) (Or.inl ⟨by rfl, (fun W _ => by go_simp)⟩) hS9 ?_
  simp only [List.getElem_toArray, List.getElem_cons_succ, List.getElem_cons_zero, Act.put, List.setIfInBounds_toArray, List.set_cons_zero, List.set_cons_succ]
  refine wpAnyH_take (i := 7) (v := .bool true) rfl (by kernel_rfl) (by kernel_rfl) (by kernel_rfl) (fun _ _ _ h => h) (Or.inl ⟨by rfl, (fun W _ => by go_simp)⟩) hS9 ?_
  simp only [List.getElem_toArray, List.getElem_cons_succ, List.getElem_cons_zero, Act.put, List.setIfInBounds_toArray, List.set_cons_zero, List.set_cons_succ]
  refine wpAnyH_done (by kernel_rfl) ?_ _
  have hfin := b4.drew.trans (hS9.mono b4.size)
  clear hS7 hS8 heq
  go_wp2
  go_ret
  exact ⟨rfl, hfin⟩
theorem walk (a0 : Option Addr) (len0 cap0 : Nat) (z0 : List Int) (a1 : Option Addr) (len1 cap1 : Nat) (z1 : List Int) (w : World) (w0 : IsRow .u8 w a0 len0 cap0 z0) (w1 : IsRow .u8 w a1 len1 cap1 z1) (ht : Tabs w) :
    Calls Tryd.prog 6 #[.slice a0 len0 cap0, .slice a1 len1 cap1] w fun e w' => e = .returned (.bool true) ∧ Below w.heap.size w w' := by
  obtain ⟨hk, hc0⟩ := row_of w0
  obtain ⟨hr, hc1⟩ := row_of w1
  by_cases h : len0 < 65 ∨ 300 < len0 ∨ 500 < len1
  · exact walk_out a0 len0 cap0 a1 len1 cap1 w ht h
  · exact walk_within a0 len0 cap0 _ a1 len1 cap1 _ w hk hr hc0 hc1 ht (by omega) (by omega) (by omega)
end Go.Proofs.YtienckdcdbcjhaaDoor.hmacLong
