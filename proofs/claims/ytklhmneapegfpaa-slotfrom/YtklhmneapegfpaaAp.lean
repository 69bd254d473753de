/-
  The calls of an area that read and write: Read, Program; conditions: the area and its flash are there.
-/
import Derived.Test.YtklhmneapegfpaaAm
namespace Go.Proofs.Ytklhmneapegfpaa
open Go.RowKit
set_option linter.unusedVariables false
set_option linter.unusedSimpArgs false

set_option maxRecDepth 100000 in
set_option maxHeartbeats 1000000 in
theorem aread_any {T x g m k : Nat} {S : Fs} {P : Pt} (s a n : Int) (w : World) (ha : Ar w x g P) (hf : Fl w T g m k S) (hp : P.Ok S.wear.length) (hi1 : I64 a) (hi2 : I64 n) :
    Calls Try.prog 20 #[.pointer (some ⟨x, 0, none⟩), .int .i64 s, .int .i64 a, .int .i64 n] w (Gives (aRead S P s a n) w) := by
  have hh := Lib.hid (handed_any w ha)
  have hW := Lib.hid (whose_any g P w)
  have HA := Lib.hid ha
  have HF := Lib.hid hf
  clear ha hf
  unfold aRead
  by_cases hs : P.in s a n
  · rw [if_pos hs]
    obtain ⟨h0, ha0, hn0, hna⟩ := hs
    have hd : decide ((0 ≤ s ∧ s < (P.cnt : Int)) ∧ 0 ≤ a ∧ 0 ≤ n ∧ n ≤ 320 - a) = true := by simp only [decide_eq_true_eq]; exact ⟨h0, ha0, hn0, hna⟩
    obtain ⟨q, rfl, hq⟩ := Pt.has_nat h0
    have hc : 0 < P.cnt := by omega
    rw [whoV_yes hc] at hW
    have h1 := hp.in'
    have h2 := hp.few
    have hpl : P.place (q : Int) a = ((P.fst : Int) + (q : Int)) * 320 + a := rfl
    rw [hpl]
    have hpi : I64 (((P.fst : Int) + (q : Int)) * 320 + a) := ⟨by omega, by omega⟩
    have HPL := Lib.hid (fun W => place_any (.pointer (some ⟨g, 0, none⟩)) P.fst P.cnt P.bud (q : Int) a W ⟨by omega, by omega⟩ ⟨by omega, by omega⟩ ⟨by omega, by omega⟩)
    generalize ((P.fst : Int) + (q : Int)) * 320 + a = pl at *
    clear h0 ha0 hn0 hna hpl
    unfold fsCells at hW
    go_enter Try.func20, Try.ntmps20
    go_wp2_with (first
      | (go_at_call 29; (with_reducible refine hh.out.mono ?_); rintro e w0 ⟨rfl, rfl⟩)
      | (go_at_call 28; (with_reducible refine hW.out.mono ?_); rintro e w1 ⟨rfl, H1⟩)
      | (go_at_call 30; refine (within_any _ _ _ _ _ _ _ _ hi1).mono ?_; rintro e w2 ⟨rfl, H2⟩; have hx := (has_new w1 50 (fsCells (.pointer (some ⟨g, 0, none⟩)) P.fst P.cnt P.bud)).kept H2; have HX := Lib.hid hx; have b2 := Lib.hid (behind H1 H2); obtain ⟨k0, k1, k2, k3⟩ := fs_cells hx; clear hx; rw [hd]))
    have HS7 := Lib.hid (show Has w2.drew w1.heap.size 50 (fsCells (.pointer (some ⟨g, 0, none⟩)) P.fst P.cnt P.bud) from HX.out)
    have b7 := Lib.hid b2.out.drew
    clear k0 k1 k2 k3 hh hW H1 H2
    refine wp_region_held_drew (S := fun W => Has W w1.heap.size 50 (fsCells (.pointer (some ⟨g, 0, none⟩)) P.fst P.cnt P.bud)) (by kernel_rfl) HS7.out ?_
    intro _
    refine wpAnyH_take (i := 0) (v := .pointer (some ⟨w1.heap.size, 0, none⟩)) rfl (by kernel_rfl) (by kernel_rfl) (by kernel_rfl) (fun _ _ _ h => h) (Or.inl ⟨by rfl, (fun W _ => by go_simp)⟩) HS7.out ?_
    simp only [List.getElem_toArray, List.getElem_cons_succ, List.getElem_cons_zero, Act.put, List.setIfInBounds_toArray, List.set_cons_zero, List.set_cons_succ]
    refine wpAnyH_take (i := 1) (v := .pointer (some ⟨g, 0, none⟩)) rfl (by kernel_rfl) (by kernel_rfl) (by kernel_rfl) (fun _ _ _ h => h) (Or.inl ⟨by rfl, (fun W hW => by obtain ⟨q0, q1, q2, q3⟩ := fs_cells hW; go_simp)⟩) HS7.out ?_
    simp only [List.getElem_toArray, List.getElem_cons_succ, List.getElem_cons_zero, Act.put, List.setIfInBounds_toArray, List.set_cons_zero, List.set_cons_succ]
    refine wpAnyH_take (i := 2) (v := .agg #[.pointer (some ⟨g, 0, none⟩), .int .i64 (P.fst : Int), .int .i64 (P.cnt : Int), .int .i64 (P.bud : Int)]) rfl (by kernel_rfl) (by kernel_rfl) (by kernel_rfl) (fun _ _ _ h => h) (Or.inl ⟨by rfl, (fun W hW => by obtain ⟨q0, q1, q2, q3⟩ := fs_cells hW; go_simp)⟩) HS7.out ?_
    simp only [List.getElem_toArray, List.getElem_cons_succ, List.getElem_cons_zero, Act.put, List.setIfInBounds_toArray, List.set_cons_zero, List.set_cons_succ]
    refine wpAnyH_take (i := 3) (v := .int .i64 (q : Int)) rfl (by kernel_rfl) (by kernel_rfl) (by kernel_rfl) (fun _ _ _ h => h) (Or.inl ⟨by rfl, (fun W _ => by go_simp)⟩) HS7.out ?_
    simp only [List.getElem_toArray, List.getElem_cons_succ, List.getElem_cons_zero, Act.put, List.setIfInBounds_toArray, List.set_cons_zero, List.set_cons_succ]
    refine wpAnyH_take (i := 4) (v := .int .i64 a) rfl (by kernel_rfl) (by kernel_rfl) (by kernel_rfl) (fun _ _ _ h => h) (Or.inl ⟨by rfl, (fun W _ => by go_simp)⟩) HS7.out ?_
    simp only [List.getElem_toArray, List.getElem_cons_succ, List.getElem_cons_zero, Act.put, List.setIfInBounds_toArray, List.set_cons_zero, List.set_cons_succ]
    refine wpAnyH_take (i := 6) (v := .int .i64 n) rfl (by kernel_rfl) (by kernel_rfl) (by kernel_rfl) (fun _ _ _ h => h) (Or.inl ⟨by rfl, (fun W _ => by go_simp)⟩) HS7.out ?_
    simp only [List.getElem_toArray, List.getElem_cons_succ, List.getElem_cons_zero, Act.put, List.setIfInBounds_toArray, List.set_cons_zero, List.set_cons_succ]
    refine wpAnyH_ready (rs := [5]) (by kernel_rfl) (by simp) ?_
    refine AllReadyH.cons rfl (fun K hK => ?_) AllReadyH.nil
    go_simp
    refine (HPL.out _).mono ?_
    rintro e w3 ⟨rfl, H3⟩
    have HS8 := Lib.hid (HS7.out.kept H3)
    have b3 := Lib.hid (b7.out.trans (H3.mono b7.out.size))
    refine hK.out _ _ HS8.out (fun _ => ?_)
    clear hK K
    refine wpAnyH_ready (rs := [7]) (by kernel_rfl) (by simp) ?_
    refine AllReadyH.cons rfl (fun K hK => ?_) AllReadyH.nil
    go_simp
    refine (read_any pl n w3 hpi hi2 (HF.out.kept b3.out)).mono ?_
    rintro e w4 ⟨A4, c4, rfl, hc4, r4, hA4, b4⟩
    have HS9 := Lib.hid (HS8.out.kept b4)
    refine hK.out _ _ HS9.out (fun _ => ?_)
    clear hK K
    refine wpAnyH_take (i := 8) (v := .slice A4 (read S pl n).length c4) rfl (by kernel_rfl) (by kernel_rfl) (by kernel_rfl) (fun _ _ _ h => h) (Or.inl ⟨by rfl, (fun W _ => by go_simp)⟩) HS9.out ?_
    simp only [List.getElem_toArray, List.getElem_cons_succ, List.getElem_cons_zero, Act.put, List.setIfInBounds_toArray, List.set_cons_zero, List.set_cons_succ]
    refine wpAnyH_done (by kernel_rfl) ?_ _
    go_wp2
    go_ret
    exact ⟨A4, c4, rfl, hc4, r4, fun x hx => Nat.le_trans b3.out.size (hA4 x hx), b3.out.trans (b4.mono b3.out.size)⟩
  · rw [if_neg hs]
    obtain ⟨F, f, b, hwho⟩ := who_is g P
    rw [hwho] at hW
    clear hwho
    have hd : decide ((0 ≤ s ∧ s < (P.cnt : Int)) ∧ 0 ≤ a ∧ 0 ≤ n ∧ n ≤ 320 - a) = false := by simp only [decide_eq_false_iff_not]; exact hs
    unfold fsCells at hW
    go_enter Try.func20, Try.ntmps20
    go_wp2_with (first
      | (go_at_call 29; (with_reducible refine hh.out.mono ?_); rintro e w0 ⟨rfl, rfl⟩)
      | (go_at_call 28; (with_reducible refine hW.out.mono ?_); rintro e w1 ⟨rfl, H1⟩)
      | (go_at_call 30; refine (within_any _ _ _ _ _ _ _ _ hi1).mono ?_; rintro e w2 ⟨rfl, H2⟩; skip; rw [hd]))
    go_ret
    have b3 := behind H1 H2
    exact ⟨none, 0, rfl, Nat.le_refl _, row_nil _, fun x hx => (by cases hx), b3⟩
set_option maxRecDepth 100000 in
set_option maxHeartbeats 1000000 in
theorem aprogram_any {T x g m k : Nat} {S : Fs} {P : Pt} (s a : Int) (A : Option Addr) (N z : Nat) (zs : List Int) (w : World) (ha : Ar w x g P) (hf : Fl w T g m k S) (hp : P.Ok S.wear.length) (hi1 : I64 a) (hr : Row w A N zs) (hA : Clear g m k A N) (hops : S.ops ≤ 1000000) :
    Calls Try.prog 27 #[.pointer (some ⟨x, 0, none⟩), .int .i64 s, .int .i64 a, .slice A N z] w fun e w' => e = .returned (.int .i64 (aProg S P s a zs).1) ∧ FlTo T g m k (aProg S P s a zs).2 w w' := by
  have hlen := hr.1
  have HR := Lib.hid hr
  clear hr
  have hh := Lib.hid (handed_any w ha)
  have hW := Lib.hid (whose_any g P w)
  have HA := Lib.hid ha
  have HF := Lib.hid hf
  clear ha hf
  unfold aProg
  rw [hlen]
  by_cases hs : P.in s a (N : Int)
  · rw [if_pos hs]
    obtain ⟨h0, ha0, hn0, hna⟩ := hs
    have hd : decide ((0 ≤ s ∧ s < (P.cnt : Int)) ∧ 0 ≤ a ∧ 0 ≤ (N : Int) ∧ (N : Int) ≤ 320 - a) = true := by simp only [decide_eq_true_eq]; exact ⟨h0, ha0, hn0, hna⟩
    obtain ⟨q, rfl, hq⟩ := Pt.has_nat h0
    have hc : 0 < P.cnt := by omega
    rw [whoV_yes hc] at hW
    have h1 := hp.in'
    have h2 := hp.few
    have hpl : P.place (q : Int) a = ((P.fst : Int) + (q : Int)) * 320 + a := rfl
    rw [hpl]
    have hpi : I64 (((P.fst : Int) + (q : Int)) * 320 + a) := ⟨by omega, by omega⟩
    have HPL := Lib.hid (fun W => place_any (.pointer (some ⟨g, 0, none⟩)) P.fst P.cnt P.bud (q : Int) a W ⟨by omega, by omega⟩ ⟨by omega, by omega⟩ ⟨by omega, by omega⟩)
    generalize ((P.fst : Int) + (q : Int)) * 320 + a = pl at *
    clear h0 ha0 hn0 hna hpl
    unfold fsCells at hW
    go_enter Try.func27, Try.ntmps27
    go_wp2_with (first
      | (go_at_call 29; (with_reducible refine hh.out.mono ?_); rintro e w0 ⟨rfl, rfl⟩)
      | (go_at_call 28; (with_reducible refine hW.out.mono ?_); rintro e w1 ⟨rfl, H1⟩)
      | (go_at_call 30; refine (within_any _ _ _ _ _ _ _ _ hi1).mono ?_; rintro e w2 ⟨rfl, H2⟩; have hx := (has_new w1 50 (fsCells (.pointer (some ⟨g, 0, none⟩)) P.fst P.cnt P.bud)).kept H2; have HX := Lib.hid hx; have b2 := Lib.hid (behind H1 H2); obtain ⟨k0, k1, k2, k3⟩ := fs_cells hx; clear hx; rw [hd]))
    have HS7 := Lib.hid (show Has w2.drew w1.heap.size 50 (fsCells (.pointer (some ⟨g, 0, none⟩)) P.fst P.cnt P.bud) from HX.out)
    have b7 := Lib.hid b2.out.drew
    have H0 := Lib.hid H1.size
    clear k0 k1 k2 k3 hh hW H1 H2
    refine wp_region_held_drew (S := fun W => Has W w1.heap.size 50 (fsCells (.pointer (some ⟨g, 0, none⟩)) P.fst P.cnt P.bud)) (by kernel_rfl) HS7.out ?_
    intro _
    refine wpAnyH_take (i := 0) (v := .pointer (some ⟨w1.heap.size, 0, none⟩)) rfl (by kernel_rfl) (by kernel_rfl) (by kernel_rfl) (fun _ _ _ h => h) (Or.inl ⟨by rfl, (fun W _ => by go_simp)⟩) HS7.out ?_
    simp only [List.getElem_toArray, List.getElem_cons_succ, List.getElem_cons_zero, Act.put, List.setIfInBounds_toArray, List.set_cons_zero, List.set_cons_succ]
    refine wpAnyH_take (i := 1) (v := .pointer (some ⟨g, 0, none⟩)) rfl (by kernel_rfl) (by kernel_rfl) (by kernel_rfl) (fun _ _ _ h => h) (Or.inl ⟨by rfl, (fun W hW => by obtain ⟨q0, q1, q2, q3⟩ := fs_cells hW; go_simp)⟩) HS7.out ?_
    simp only [List.getElem_toArray, List.getElem_cons_succ, List.getElem_cons_zero, Act.put, List.setIfInBounds_toArray, List.set_cons_zero, List.set_cons_succ]
    refine wpAnyH_take (i := 2) (v := .agg #[.pointer (some ⟨g, 0, none⟩), .int .i64 (P.fst : Int), .int .i64 (P.cnt : Int), .int .i64 (P.bud : Int)]) rfl (by kernel_rfl) (by kernel_rfl) (by kernel_rfl) (fun _ _ _ h => h) (Or.inl ⟨by rfl, (fun W hW => by obtain ⟨q0, q1, q2, q3⟩ := fs_cells hW; go_simp)⟩) HS7.out ?_
    simp only [List.getElem_toArray, List.getElem_cons_succ, List.getElem_cons_zero, Act.put, List.setIfInBounds_toArray, List.set_cons_zero, List.set_cons_succ]
    refine wpAnyH_take (i := 3) (v := .int .i64 (q : Int)) rfl (by kernel_rfl) (by kernel_rfl) (by kernel_rfl) (fun _ _ _ h => h) (Or.inl ⟨by rfl, (fun W _ => by go_simp)⟩) HS7.out ?_
    simp only [List.getElem_toArray, List.getElem_cons_succ, List.getElem_cons_zero, Act.put, List.setIfInBounds_toArray, List.set_cons_zero, List.set_cons_succ]
    refine wpAnyH_take (i := 4) (v := .int .i64 a) rfl (by kernel_rfl) (by kernel_rfl) (by kernel_rfl) (fun _ _ _ h => h) (Or.inl ⟨by rfl, (fun W _ => by go_simp)⟩) HS7.out ?_
    simp only [List.getElem_toArray, List.getElem_cons_succ, List.getElem_cons_zero, Act.put, List.setIfInBounds_toArray, List.set_cons_zero, List.set_cons_succ]
    refine wpAnyH_take (i := 6) (v := .slice A N z) rfl (by kernel_rfl) (by kernel_rfl) (by kernel_rfl) (fun _ _ _ h => h) (Or.inl ⟨by rfl, (fun W _ => by go_simp)⟩) HS7.out ?_
    simp only [List.getElem_toArray, List.getElem_cons_succ, List.getElem_cons_zero, Act.put, List.setIfInBounds_toArray, List.set_cons_zero, List.set_cons_succ]
    refine wpAnyH_ready (rs := [5]) (by kernel_rfl) (by simp) ?_
    refine AllReadyH.cons rfl (fun K hK => ?_) AllReadyH.nil
    go_simp
    refine (HPL.out _).mono ?_
    rintro e w3 ⟨rfl, H3⟩
    have HS8 := Lib.hid (HS7.out.kept H3)
    have b3 := Lib.hid (b7.out.trans (H3.mono b7.out.size))
    refine hK.out _ _ HS8.out (fun _ => ?_)
    clear hK K
    refine wpAnyH_ready (rs := [7]) (by kernel_rfl) (by simp) ?_
    refine AllReadyH.cons rfl (fun K hK => ?_) AllReadyH.nil
    go_simp
    refine (program_any pl A N z zs w3 hpi (HF.out.kept b3.out) (row_below b3.out HR.out) hA hops).mono ?_
    rintro e w4 ⟨rfl, F4, O4⟩
    have HS9 := Lib.hid (HS8.out.only O4 (fun x => by have := HF.out.in _ x; have := H0.out; omega))
    refine hK.out _ _ HS9.out (fun _ => ?_)
    clear hK K
    refine wpAnyH_take (i := 8) (v := .int .i64 (prog S pl zs).1) rfl (by kernel_rfl) (by kernel_rfl) (by kernel_rfl) (fun _ _ _ h => h) (Or.inl ⟨by rfl, (fun W _ => by go_simp)⟩) HS9.out ?_
    simp only [List.getElem_toArray, List.getElem_cons_succ, List.getElem_cons_zero, Act.put, List.setIfInBounds_toArray, List.set_cons_zero, List.set_cons_succ]
    refine wpAnyH_done (by kernel_rfl) ?_ _
    go_wp2
    go_ret
    exact ⟨rfl, F4, (Only.of_below b3.out).trans O4⟩
  · rw [if_neg hs]
    obtain ⟨F, f, b, hwho⟩ := who_is g P
    rw [hwho] at hW
    clear hwho
    have hd : decide ((0 ≤ s ∧ s < (P.cnt : Int)) ∧ 0 ≤ a ∧ 0 ≤ (N : Int) ∧ (N : Int) ≤ 320 - a) = false := by simp only [decide_eq_false_iff_not]; exact hs
    unfold fsCells at hW
    go_enter Try.func27, Try.ntmps27
    go_wp2_with (first
      | (go_at_call 29; (with_reducible refine hh.out.mono ?_); rintro e w0 ⟨rfl, rfl⟩)
      | (go_at_call 28; (with_reducible refine hW.out.mono ?_); rintro e w1 ⟨rfl, H1⟩)
      | (go_at_call 30; refine (within_any _ _ _ _ _ _ _ _ hi1).mono ?_; rintro e w2 ⟨rfl, H2⟩; skip; rw [hd]))
    go_ret
    have b3 := behind H1 H2
    exact ⟨rfl, HF.out.kept b3, Only.of_below b3⟩
end Go.Proofs.Ytklhmneapegfpaa
