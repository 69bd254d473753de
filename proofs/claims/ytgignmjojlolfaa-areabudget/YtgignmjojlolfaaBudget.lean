/-
  What is proved: for all numbers and rows of numbers the law AreaBudget answers true: no sector is erased more often than the budget says (budgets of 0 to 20, up to 100 calls; others the law lets by). Conditions: none.
-/
import Derived.Test.YtgignmjojlolfaaBudf
import Derived.Deep.RegionHeld
import Derived.StillTailTactics
import Derived.Test.YtgignmjojlolfaaRows
import Derived.WalkKit
import Derived.ProofKit
import Derived.OpenShut
import Derived.ShutString
import Derived.ChangeOld
import Derived.Below
namespace Go.Proofs.Ytgignmjojlolfaa.areaBudget
open Go.ChangeShapes Go.WideShapes Go.ChangeAt Go.RowKit
open Go.ChangeMaps (open_string shut_string)
set_option linter.unusedVariables false

theorem own : ownKnob Try.prog.godebug = none := by kernel_rfl
theorem laidOut : laidOutB Try.prog = true := by kernel_rfl

/-- WHAT THE WALK IS TOLD OF A SLICE OF INTEGERS THAT CAME IN: it is nil; or it leads to a row of 'cap' cells, the numbers 'zs' (the first 'len' are its elements, the rest its spare room), each fitting its kind. -/
def IsRow (k : IntKind) (w : World) (a : Option Addr) (len cap : Nat) (zs : List Int) : Prop :=
  (a = none ∧ len = 0 ∧ cap = 0 ∧ zs = []) ∨
  ∃ x, a = some x ∧ len ≤ cap ∧ cap ≤ maxLen ∧ zs.length = cap ∧ (∀ i, i < zs.length → w.cell? (x.add i) = some (.int k (zs.getD i 0))) ∧ ∀ n ∈ zs, (Lit.int k n).wf = true

set_option linter.unusedSimpArgs false
set_option maxRecDepth 100000 in
set_option maxHeartbeats 4000000 in
theorem walk (a0 : Int) (a1 : Option Addr) (len1 cap1 : Nat) (z1 : List Int) (w : World) (w0 : (Lit.int .i64 a0).wf = true) (w1 : IsRow .i64 w a1 len1 cap1 z1) :
    Calls Try.prog 3 #[.int .i64 a0, .slice a1 len1 cap1] w fun e w' => e = .returned (.bool true) ∧ Below w.heap.size w w' := by
  have hn := bounds_i64 w0
  have hrow : len1 = 0 ∨ ∃ b off, a1 = some ⟨b, off, none⟩ ∧ b < w.heap.size ∧ ∀ j, j < len1 → w.cell? ⟨b, off + j, none⟩ = some (.int .i64 (z1.getD j 0)) := by
    rcases w1 with ⟨rfl, rfl, rfl, rfl⟩ | ⟨x, rfl, hlc, hm, hz, hc, hwf⟩
    · exact .inl rfl
    · by_cases h0 : len1 = 0
      · exact .inl h0
      · obtain ⟨b, off, rfl, hcell⟩ := ints_at hc (by omega)
        exact .inr ⟨b, off, rfl, World.block_lt_of_cell? _ _ (hcell 0 (by omega)), fun j hj => hcell j (by omega)⟩
  clear w0 w1
  by_cases h0 : a0 < 0
  · have d0 : decide (a0 < 0) = true := by simpa using h0
    go_enter Try.func3, Try.ntmps3
    go_wp2_with (go_at_call 5; refine (alive_any _).mono ?_; rintro e w1 ⟨rfl, H1⟩)
    go_ret
    exact ⟨rfl, H1⟩
  have d0 : decide (a0 < 0) = false := by simpa using h0
  by_cases h1 : 20 < a0
  · have d1 : decide (20 < a0) = true := by simpa using h1
    go_enter Try.func3, Try.ntmps3
    go_wp2_with (go_at_call 5; refine (alive_any _).mono ?_; rintro e w1 ⟨rfl, H1⟩)
    go_ret
    exact ⟨rfl, H1⟩
  have d1 : decide (20 < a0) = false := by simpa using h1
  by_cases h2 : 100 < len1
  · have d2 : decide (100 < len1) = true := by simpa using h2
    go_enter Try.func3, Try.ntmps3
    go_wp2_with (go_at_call 5; refine (alive_any _).mono ?_; rintro e w1 ⟨rfl, H1⟩)
    go_ret
    exact ⟨rfl, H1⟩
  have d2 : decide (100 < len1) = false := by simpa using h2
  have d3 : ¬ (100 : Int) < (len1 : Int) := by omega
  obtain ⟨n, rfl⟩ := Int.eq_ofNat_of_zero_le (show 0 ≤ a0 by omega)
  have hn20 : n ≤ 20 := by omega
  have HROW := Lib.hid hrow
  have HMB := Lib.hid (made_bud (show n ≤ 1000 by omega))
  clear hrow hn h2 d0 d1
  go_enter Try.func3, Try.ntmps3
  go_wp2_with (first
    | (go_at_call 5; refine (alive_any _).mono ?_; rintro e w1 ⟨rfl, H1⟩; have hn := Lib.hid (new_any 4 w1))
    | (go_at_call 6; (with_reducible refine hn.out.mono ?_); rintro e w2 ⟨g, m, k, rfl, hg, hm, hk, f2, b2⟩; rw [show sect 4 = 4 from rfl] at f2; have HN := newArea_any 0 1 3 (n : Int) w2 f2 ⟨i64_small (by omega), i64_small (by omega), i64_small (by omega)⟩; rw [fresh_wear, HMB.out] at HN; unfold capCells at HN)
    | (go_at_call 7; (with_reducible refine HN.mono ?_); rintro e w3 ⟨x, rfl, hx, a3, b3⟩; clear HN))
  have NI := Lib.hid (not_in f2 hx)
  have NH := Lib.hid (not_in f2 (x := w3.heap.size) b3.size)
  have NX := Lib.hid (show x < w3.heap.size from Has.size a3)
  have b4 : Below w1.heap.size w1 (w3.alloc (.cells #[.int .i64 0, .int .i64 0, .int .i64 0] 30)) := (b2.trans (b3.mono b2.size)).alloc (b2.trans (b3.mono b2.size)).size _
  have b5 : Below w3.heap.size w3 (w3.alloc (.cells #[.int .i64 0, .int .i64 0, .int .i64 0] 30)) := (Below.refl _ w3).alloc (Nat.le_refl _) _
  have hst : Going w w1 w2.heap.size g m k x w3.heap.size n len1 (.int .i64 0) (w3.alloc (.cells #[.int .i64 0, .int .i64 0, .int .i64 0] 30)) :=
    ⟨_, _, 0, rfl, by omega, bud_fresh n, (f2.kept b3).kept b5, a3.kept b5, has_new w3 30 _, b4⟩
  have NT := Lib.hid (show w2.heap.size ≤ w3.heap.size from b3.size)
  have HHB := Lib.hid (show w1.heap.size ≤ w3.heap.size from (b2.trans (b3.mono b2.size)).size)
  have HB1 := Lib.hid H1
  generalize w3.heap.size = hb at *
  clear f2 b2 a3 b3 b4 b5 H1
  go_loopw [9] (fun v9 wr => Going w w1 w2.heap.size g m k x hb n len1 v9 wr) (fun v9 _ => len1 - (intOf v9).toNat)
  case atStart => exact hst
  case round =>
    clear hst
    obtain ⟨S, hs, j, rfl, hj, hBu, hf, har, hhad, hbb⟩ := hrel
    have j0 : (0 : Int) ≤ (j : Int) := by omega
    by_cases hlt : j < len1
    · have j1 : (j : Int) < (len1 : Int) := by omega
      obtain ⟨y, b, off, rfl, qx⟩ : ∃ x b off, a1 = some ⟨b, off, none⟩ ∧ wr.cell? ⟨b, off + j, none⟩ = some (.int .i64 x) := by
        rcases HROW.out with h | ⟨b, off, h1, h2, h3⟩
        · omega
        · exact ⟨_, b, off, h1, ((HB1.out.trans (hbb.mono HB1.out.size)).cell (p := ⟨b, off + j, none⟩) h2).trans (h3 j hlt)⟩
      obtain ⟨v, hv⟩ := Int.eq_ofNat_of_zero_le (show 0 ≤ y % 1024 by omega)
      have hand : bits .and .i64 y 1023 = (v : Int) := (and1023 y).trans hv
      have hv3 : v < 1024 := by omega
      clear hv
      obtain ⟨s, hs3, hmod⟩ : ∃ s : Nat, s < 3 ∧ (v : Int) % 3 = (s : Int) := ⟨v % 3, by omega, by omega⟩
      have i3 : (s : Int) < 3 := by omega
      have i0 : (0 : Int) ≤ (s : Int) := by omega
      have hlo := hBu.lo s hs3
      have hops : S.ops ≤ 1000000 := by have := hBu.ops; omega
      have hok : Pt.Ok ⟨1, 3, n⟩ S.wear.length := by rw [hBu.len]; exact bud_ok (by omega)
      have HER := Lib.hid (aerase_any (s : Int) wr har hf hBu.few hops hok)
      have hwr : IntKind.i64.wrap (1 + (s : Int)) = 1 + (s : Int) := by rw [IntKind.wrap_i64]; omega
      have HHL := Lib.hid hBu.hl
      obtain ⟨h, hh⟩ : ∃ h, hs.getD s 0 = h := ⟨_, rfl⟩
      have HHH := Lib.hid hh
      rw [hh] at hlo
      by_cases hlt2 : h < (n : Int)
      · obtain ⟨e1, hB2⟩ := hBu.yes hs3 (by rw [hh]; exact hlt2)
        have E1 := Lib.hid e1
        rw [hh] at hB2
        have HB2 := Lib.hid hB2
        obtain ⟨S2, hS2⟩ : ∃ S2, (aErase S ⟨1, 3, n⟩ s).2 = S2 := ⟨_, rfl⟩
        have HS2 := Lib.hid hS2
        rw [hS2] at HB2
        have dlt : decide (h < (n : Int)) = true := by simpa using hlt2
        have HAR := Lib.hid har
        have HHAD := Lib.hid hhad
        have HBB := Lib.hid hbb
        have hbS := hBu.few
        clear hh hBu har hf hhad hbb hops hok hbS e1 hB2 hS2
        go_wp2_with (go_at_call 8; (with_reducible refine HER.out.mono ?_); rintro e w9 ⟨rfl, f9, o9⟩; rw [E1.out]; rw [HS2.out] at f9; have H9 := Lib.hid (HHAD.out.only o9 NH.out); have A9 := Lib.hid (HAR.out.only o9 NI.out); have F9 := Lib.hid f9; have B9 := Lib.hid (below_to HBB.out hg hm hk o9); have c9 := had_at H9.out (s := s) (by rw [HHL.out]; exact hs3); rw [HHH.out] at c9; clear f9 o9 HER)
        refine wp_region_still_lit (by kernel_rfl) (by kernel_rfl) ?_
        simp only [World.drew_eq]
        repeat still_step
        still_call (still_of (num_any _ _))
        repeat still_step
        still_call (still_of (num_any _ _))
        repeat still_step
        refine wpStill_nil ?_
        have z9 := H9.out.soft s
        have hwr2 : IntKind.i64.wrap (h + 1) = h + 1 := by rw [IntKind.wrap_i64]; omega
        go_wp2_with (go_at_call 9; (with_reducible refine (num_any _ _).mono ?_); rintro e w8 ⟨rfl, rfl⟩)
        have oq : Only (fun b => b = hb) w9 (w9.setCell ⟨hb, s, none⟩ (.int .i64 (h + 1))).drew := ((Only.refl (fun b => b = hb) w9).setCell rfl _).drew
        have HQH := Lib.hid (show Has (w9.setCell ⟨hb, s, none⟩ (.int .i64 (h + 1))).drew hb 30 (ints (hs.set s (h + 1))).toArray from had_put H9.out s (h + 1))
        have HQA := Lib.hid (A9.out.only oq (fun e => by have := NX.out; omega))
        have HQF := Lib.hid (F9.out.onlyq HB2.out.cut oq (fun b e => by subst e; exact NH.out))
        have HQB := Lib.hid (show Below w1.heap.size w1 (w9.setCell ⟨hb, s, none⟩ (.int .i64 (h + 1))).drew from (B9.out.setCell HHB.out _).drew)
        have HCC := Lib.hid (show (hs.set s (h + 1)).getD s 0 = h + 1 by rw [getD_set _ _ _ _ (by rw [HHL.out]; exact hs3), if_pos rfl])
        have HHL2 := Lib.hid (show (hs.set s (h + 1)).length = 3 by rw [List.length_set]; exact HHL.out)
        have cle : h + 1 ≤ (n : Int) := by omega
        generalize (w9.setCell ⟨hb, s, none⟩ (.int .i64 (h + 1))).drew = wq at *
        generalize hs.set s (h + 1) = hs2 at *
        generalize hc : h + 1 = c at *
        have clo : 0 ≤ c := by omega
        clear hc c9 z9 H9 A9 F9 B9 HHAD HAR HBB oq
        have HCL := Lib.hid (show ∀ W : World, Has W hb 30 (ints hs2).toArray → W.cell? ⟨hb, s, none⟩ = some (.int .i64 c) from fun W hW => by have := had_at hW (s := s) (by rw [HHL2.out]; exact hs3); rw [HCC.out] at this; exact this)
        have hwc : IntKind.i64.wrap ((n : Int) - c) = (n : Int) - c := by rw [IntKind.wrap_i64]; omega
        have HS7 := Lib.hid (show Has wq.drew hb 30 (ints hs2).toArray from HQH.out)
        have LFT := left_any (s : Int) wq.drew (HQA.out.kept ((Below.refl _ wq).drew)) (HQF.out.kept ((Below.refl _ wq).drew)) HB2.out.few (by have := HB2.out.ops; omega) (by rw [HB2.out.len]; exact bud_ok (by omega))
        rw [HB2.out.left hs3, HCC.out] at LFT
        have LFTH := Lib.hid LFT
        clear LFT
        refine wp_region_held_drew (S := fun W => Has W hb 30 (ints hs2).toArray) (by kernel_rfl) HS7.out ?_
        intro _
        refine wpAnyH_take (i := 0) (v := .pointer (some ⟨x, 0, none⟩)) rfl (by kernel_rfl) (by kernel_rfl) (by kernel_rfl) (fun _ _ _ h => h) (Or.inl ⟨by rfl, (fun W _ => by go_simp)⟩) HS7.out ?_
        simp only [List.getElem_toArray, List.getElem_cons_succ, List.getElem_cons_zero, Act.put, List.setIfInBounds_toArray, List.set_cons_zero, List.set_cons_succ]
        refine wpAnyH_take (i := 1) (v := .int .i64 (s : Int)) rfl (by kernel_rfl) (by kernel_rfl) (by kernel_rfl) (fun _ _ _ h => h) (Or.inl ⟨by rfl, (fun W _ => by go_simp)⟩) HS7.out ?_
        simp only [List.getElem_toArray, List.getElem_cons_succ, List.getElem_cons_zero, Act.put, List.setIfInBounds_toArray, List.set_cons_zero, List.set_cons_succ]
        refine wpAnyH_take (i := 3) (v := .int .i64 (n : Int)) rfl (by kernel_rfl) (by kernel_rfl) (by kernel_rfl) (fun _ _ _ h => h) (Or.inl ⟨by rfl, (fun W _ => by go_simp)⟩) HS7.out ?_
        simp only [List.getElem_toArray, List.getElem_cons_succ, List.getElem_cons_zero, Act.put, List.setIfInBounds_toArray, List.set_cons_zero, List.set_cons_succ]
        refine wpAnyH_take (i := 4) (v := .int .i64 (s : Int)) rfl (by kernel_rfl) (by kernel_rfl) (by kernel_rfl) (fun _ _ _ h => h) (Or.inl ⟨by rfl, (fun W _ => by go_simp)⟩) HS7.out ?_
        simp only [List.getElem_toArray, List.getElem_cons_succ, List.getElem_cons_zero, Act.put, List.setIfInBounds_toArray, List.set_cons_zero, List.set_cons_succ]
        refine wpAnyH_take (i := 5) (v := .pointer (some ⟨hb, s, none⟩)) rfl (by kernel_rfl) (by kernel_rfl) (by kernel_rfl) (fun _ _ _ h => h) (Or.inl ⟨by rfl, (fun W _ => by go_simp)⟩) HS7.out ?_
        simp only [List.getElem_toArray, List.getElem_cons_succ, List.getElem_cons_zero, Act.put, List.setIfInBounds_toArray, List.set_cons_zero, List.set_cons_succ]
        refine wpAnyH_take (i := 6) (v := .int .i64 c) rfl (by kernel_rfl) (by kernel_rfl) (by kernel_rfl) (fun _ _ _ h => h) (Or.inl ⟨by rfl, (fun W hW => by have q9 := HCL.out W hW; go_simp)⟩) HS7.out ?_
        simp only [List.getElem_toArray, List.getElem_cons_succ, List.getElem_cons_zero, Act.put, List.setIfInBounds_toArray, List.set_cons_zero, List.set_cons_succ]
        refine wpAnyH_take (i := 7) (v := .int .i64 ((n : Int) - c)) rfl (by kernel_rfl) (by kernel_rfl) (by kernel_rfl) (fun _ _ _ h => h) (Or.inl ⟨by rfl, (fun W _ => by go_simp)⟩) HS7.out ?_
        simp only [List.getElem_toArray, List.getElem_cons_succ, List.getElem_cons_zero, Act.put, List.setIfInBounds_toArray, List.set_cons_zero, List.set_cons_succ]
        refine wpAnyH_ready (rs := [2]) (by kernel_rfl) (by simp) ?_
        refine AllReadyH.cons rfl (fun K hK => ?_) AllReadyH.nil
        go_simp
        refine (LFTH.out).mono ?_
        rintro e w10 ⟨rfl, b10⟩
        have HS10 := Lib.hid (HS7.out.kept b10)
        have HBQ := Lib.hid (show Below wq.heap.size wq w10 from ((Below.refl _ wq).drew).trans b10)
        clear LFTH b10
        refine hK.out _ _ HS10.out (fun _ => ?_)
        clear hK K
        refine wpAnyH_take (i := 8) (v := .bool false) rfl (by kernel_rfl) (by kernel_rfl) (by kernel_rfl) (fun _ _ _ h => h) (Or.inl ⟨by rfl, (fun W _ => by go_simp)⟩) HS10.out ?_
        simp only [List.getElem_toArray, List.getElem_cons_succ, List.getElem_cons_zero, Act.put, List.setIfInBounds_toArray, List.set_cons_zero, List.set_cons_succ]
        refine wpAnyH_take (i := 9) (v := .bool false) rfl (by kernel_rfl) (by kernel_rfl) (by kernel_rfl) (fun _ _ _ h => h) (Or.inl ⟨by rfl, (fun W _ => by go_simp)⟩) HS10.out ?_
        simp only [List.getElem_toArray, List.getElem_cons_succ, List.getElem_cons_zero, Act.put, List.setIfInBounds_toArray, List.set_cons_zero, List.set_cons_succ]
        refine wpAnyH_take (i := 10) (v := .pointer (some ⟨g, 0, none⟩)) rfl (by kernel_rfl) (by kernel_rfl) (by kernel_rfl) (fun _ _ _ h => h) (Or.inl ⟨by rfl, (fun W _ => by go_simp)⟩) HS10.out ?_
        simp only [List.getElem_toArray, List.getElem_cons_succ, List.getElem_cons_zero, Act.put, List.setIfInBounds_toArray, List.set_cons_zero, List.set_cons_succ]
        refine wpAnyH_take (i := 11) (v := .int .i64 (s : Int)) rfl (by kernel_rfl) (by kernel_rfl) (by kernel_rfl) (fun _ _ _ h => h) (Or.inl ⟨by rfl, (fun W _ => by go_simp)⟩) HS10.out ?_
        simp only [List.getElem_toArray, List.getElem_cons_succ, List.getElem_cons_zero, Act.put, List.setIfInBounds_toArray, List.set_cons_zero, List.set_cons_succ]
        refine wpAnyH_take (i := 12) (v := .int .i64 (1 + (s : Int))) rfl (by kernel_rfl) (by kernel_rfl) (by kernel_rfl) (fun _ _ _ h => h) (Or.inl ⟨by rfl, (fun W _ => by go_simp)⟩) HS10.out ?_
        simp only [List.getElem_toArray, List.getElem_cons_succ, List.getElem_cons_zero, Act.put, List.setIfInBounds_toArray, List.set_cons_zero, List.set_cons_succ]
        refine wpAnyH_take (i := 14) (v := .int .i64 (s : Int)) rfl (by kernel_rfl) (by kernel_rfl) (by kernel_rfl) (fun _ _ _ h => h) (Or.inl ⟨by rfl, (fun W _ => by go_simp)⟩) HS10.out ?_
        simp only [List.getElem_toArray, List.getElem_cons_succ, List.getElem_cons_zero, Act.put, List.setIfInBounds_toArray, List.set_cons_zero, List.set_cons_succ]
        refine wpAnyH_take (i := 15) (v := .pointer (some ⟨hb, s, none⟩)) rfl (by kernel_rfl) (by kernel_rfl) (by kernel_rfl) (fun _ _ _ h => h) (Or.inl ⟨by rfl, (fun W _ => by go_simp)⟩) HS10.out ?_
        simp only [List.getElem_toArray, List.getElem_cons_succ, List.getElem_cons_zero, Act.put, List.setIfInBounds_toArray, List.set_cons_zero, List.set_cons_succ]
        refine wpAnyH_take (i := 16) (v := .int .i64 c) rfl (by kernel_rfl) (by kernel_rfl) (by kernel_rfl) (fun _ _ _ h => h) (Or.inl ⟨by rfl, (fun W hW => by have q9 := HCL.out W hW; go_simp)⟩) HS10.out ?_
        simp only [List.getElem_toArray, List.getElem_cons_succ, List.getElem_cons_zero, Act.put, List.setIfInBounds_toArray, List.set_cons_zero, List.set_cons_succ]
        refine wpAnyH_ready (rs := [13]) (by kernel_rfl) (by simp) ?_
        refine AllReadyH.cons rfl (fun K hK => ?_) AllReadyH.nil
        go_simp
        refine (wear_any (1 + (s : Int)) w10 (HQF.out.kept HBQ.out)).mono ?_
        rintro e w11 ⟨rfl, rfl⟩
        rw [HB2.out.wear hs3, HCC.out]
        refine hK.out _ _ HS10.out (fun _ => ?_)
        clear hK K
        refine wpAnyH_take (i := 17) (v := .bool false) rfl (by kernel_rfl) (by kernel_rfl) (by kernel_rfl) (fun _ _ _ h => h) (Or.inl ⟨by rfl, (fun W _ => by go_simp)⟩) HS10.out ?_
        simp only [List.getElem_toArray, List.getElem_cons_succ, List.getElem_cons_zero, Act.put, List.setIfInBounds_toArray, List.set_cons_zero, List.set_cons_succ]
        refine wpAnyH_take (i := 18) (v := .bool false) rfl (by kernel_rfl) (by kernel_rfl) (by kernel_rfl) (fun _ _ _ h => h) (Or.inl ⟨by rfl, (fun W _ => by go_simp)⟩) HS10.out ?_
        simp only [List.getElem_toArray, List.getElem_cons_succ, List.getElem_cons_zero, Act.put, List.setIfInBounds_toArray, List.set_cons_zero, List.set_cons_succ]
        refine wpAnyH_done (by kernel_rfl) ?_ _
        have HF11 := Lib.hid (HQF.out.kept HBQ.out)
        have HA11 := Lib.hid (HQA.out.kept HBQ.out)
        have HB11 := Lib.hid (HQB.out.trans (HBQ.out.mono HQB.out.size))
        clear HCL HS7
        go_wp2_with fail
        go_roundw
        case rel => exact ⟨_, _, j + 1, by go_num, by omega, HB2.out, HF11.out, HA11.out, HS10.out, HB11.out⟩
        case measure => simp [intOf]; omega
      · have E0 := Lib.hid (hBu.no hs3 (by rw [hh]; exact hlt2))
        have dlt : decide (h < (n : Int)) = false := by simpa using hlt2
        have HB2 := Lib.hid (show Bud S n hs (j + 1) from { hBu with ops := by have := hBu.ops; omega })
        have heq : h = (n : Int) := by omega
        have HAR := Lib.hid har
        have HHAD := Lib.hid hhad
        have HBB := Lib.hid hbb
        have hbS := hBu.few
        clear hh hBu har hf hhad hbb hops hok hbS
        go_wp2_with (go_at_call 8; (with_reducible refine HER.out.mono ?_); rintro e w9 ⟨rfl, f9, o9⟩; rw [E0.out] at f9 ⊢; have H9 := Lib.hid (HHAD.out.only o9 NH.out); have A9 := Lib.hid (HAR.out.only o9 NI.out); have F9 := Lib.hid f9; have B9 := Lib.hid (below_to HBB.out hg hm hk o9); have c9 := had_at H9.out (s := s) (by rw [HHL.out]; exact hs3); rw [HHH.out] at c9; clear f9 o9 HER)
        refine wp_region_still_lit (by kernel_rfl) (by kernel_rfl) ?_
        simp only [World.drew_eq]
        repeat still_step
        still_call (still_of (num_any _ _))
        repeat still_step
        still_call (still_of (num_any _ _))
        repeat still_step
        still_call (still_of (num_any _ _))
        repeat still_step
        refine wpStill_nil ?_
        have z9 := H9.out.soft s
        have hwr2 : IntKind.i64.wrap (h + 1) = h + 1 := by rw [IntKind.wrap_i64]; omega
        go_wp2_with (go_at_call 9; (with_reducible refine (num_any _ _).mono ?_); rintro e w8 ⟨rfl, rfl⟩)
        have HQH := Lib.hid (show Has w9.drew hb 30 (ints hs).toArray from H9.out)
        have HQA := Lib.hid (A9.out.kept ((Below.refl _ w9).drew))
        have HQF := Lib.hid (F9.out.kept ((Below.refl _ w9).drew))
        have HQB := Lib.hid B9.out.drew
        have HCC := HHH
        have HHL2 := HHL
        obtain ⟨c, hc⟩ : ∃ c, h = c := ⟨_, rfl⟩
        rw [hc] at HCC
        obtain ⟨hs2, hh2⟩ : ∃ x, hs = x := ⟨_, rfl⟩
        rw [hh2] at HCC HHL2 HQH HB2
        obtain ⟨S2, hh3⟩ : ∃ x, S = x := ⟨_, rfl⟩
        rw [hh3] at HQF HB2
        generalize w9.drew = wq at *
        have clo : 0 ≤ c := by omega
        have cle : c ≤ (n : Int) := by omega
        clear hc hh2 hh3 c9 z9 H9 A9 F9 B9 HHAD HAR HBB heq
        have HCL := Lib.hid (show ∀ W : World, Has W hb 30 (ints hs2).toArray → W.cell? ⟨hb, s, none⟩ = some (.int .i64 c) from fun W hW => by have := had_at hW (s := s) (by rw [HHL2.out]; exact hs3); rw [HCC.out] at this; exact this)
        have hwc : IntKind.i64.wrap ((n : Int) - c) = (n : Int) - c := by rw [IntKind.wrap_i64]; omega
        have HS7 := Lib.hid (show Has wq.drew hb 30 (ints hs2).toArray from HQH.out)
        have LFT := left_any (s : Int) wq.drew (HQA.out.kept ((Below.refl _ wq).drew)) (HQF.out.kept ((Below.refl _ wq).drew)) HB2.out.few (by have := HB2.out.ops; omega) (by rw [HB2.out.len]; exact bud_ok (by omega))
        rw [HB2.out.left hs3, HCC.out] at LFT
        have LFTH := Lib.hid LFT
        clear LFT
        refine wp_region_held_drew (S := fun W => Has W hb 30 (ints hs2).toArray) (by kernel_rfl) HS7.out ?_
        intro _
        refine wpAnyH_take (i := 0) (v := .pointer (some ⟨x, 0, none⟩)) rfl (by kernel_rfl) (by kernel_rfl) (by kernel_rfl) (fun _ _ _ h => h) (Or.inl ⟨by rfl, (fun W _ => by go_simp)⟩) HS7.out ?_
        simp only [List.getElem_toArray, List.getElem_cons_succ, List.getElem_cons_zero, Act.put, List.setIfInBounds_toArray, List.set_cons_zero, List.set_cons_succ]
        refine wpAnyH_take (i := 1) (v := .int .i64 (s : Int)) rfl (by kernel_rfl) (by kernel_rfl) (by kernel_rfl) (fun _ _ _ h => h) (Or.inl ⟨by rfl, (fun W _ => by go_simp)⟩) HS7.out ?_
        simp only [List.getElem_toArray, List.getElem_cons_succ, List.getElem_cons_zero, Act.put, List.setIfInBounds_toArray, List.set_cons_zero, List.set_cons_succ]
        refine wpAnyH_take (i := 3) (v := .int .i64 (n : Int)) rfl (by kernel_rfl) (by kernel_rfl) (by kernel_rfl) (fun _ _ _ h => h) (Or.inl ⟨by rfl, (fun W _ => by go_simp)⟩) HS7.out ?_
        simp only [List.getElem_toArray, List.getElem_cons_succ, List.getElem_cons_zero, Act.put, List.setIfInBounds_toArray, List.set_cons_zero, List.set_cons_succ]
        refine wpAnyH_take (i := 4) (v := .int .i64 (s : Int)) rfl (by kernel_rfl) (by kernel_rfl) (by kernel_rfl) (fun _ _ _ h => h) (Or.inl ⟨by rfl, (fun W _ => by go_simp)⟩) HS7.out ?_
        simp only [List.getElem_toArray, List.getElem_cons_succ, List.getElem_cons_zero, Act.put, List.setIfInBounds_toArray, List.set_cons_zero, List.set_cons_succ]
        refine wpAnyH_take (i := 5) (v := .pointer (some ⟨hb, s, none⟩)) rfl (by kernel_rfl) (by kernel_rfl) (by kernel_rfl) (fun _ _ _ h => h) (Or.inl ⟨by rfl, (fun W _ => by go_simp)⟩) HS7.out ?_
        simp only [List.getElem_toArray, List.getElem_cons_succ, List.getElem_cons_zero, Act.put, List.setIfInBounds_toArray, List.set_cons_zero, List.set_cons_succ]
        refine wpAnyH_take (i := 6) (v := .int .i64 c) rfl (by kernel_rfl) (by kernel_rfl) (by kernel_rfl) (fun _ _ _ h => h) (Or.inl ⟨by rfl, (fun W hW => by have q9 := HCL.out W hW; go_simp)⟩) HS7.out ?_
        simp only [List.getElem_toArray, List.getElem_cons_succ, List.getElem_cons_zero, Act.put, List.setIfInBounds_toArray, List.set_cons_zero, List.set_cons_succ]
        refine wpAnyH_take (i := 7) (v := .int .i64 ((n : Int) - c)) rfl (by kernel_rfl) (by kernel_rfl) (by kernel_rfl) (fun _ _ _ h => h) (Or.inl ⟨by rfl, (fun W _ => by go_simp)⟩) HS7.out ?_
        simp only [List.getElem_toArray, List.getElem_cons_succ, List.getElem_cons_zero, Act.put, List.setIfInBounds_toArray, List.set_cons_zero, List.set_cons_succ]
        refine wpAnyH_ready (rs := [2]) (by kernel_rfl) (by simp) ?_
        refine AllReadyH.cons rfl (fun K hK => ?_) AllReadyH.nil
        go_simp
        refine (LFTH.out).mono ?_
        rintro e w10 ⟨rfl, b10⟩
        have HS10 := Lib.hid (HS7.out.kept b10)
        have HBQ := Lib.hid (show Below wq.heap.size wq w10 from ((Below.refl _ wq).drew).trans b10)
        clear LFTH b10
        refine hK.out _ _ HS10.out (fun _ => ?_)
        clear hK K
        refine wpAnyH_take (i := 8) (v := .bool false) rfl (by kernel_rfl) (by kernel_rfl) (by kernel_rfl) (fun _ _ _ h => h) (Or.inl ⟨by rfl, (fun W _ => by go_simp)⟩) HS10.out ?_
        simp only [List.getElem_toArray, List.getElem_cons_succ, List.getElem_cons_zero, Act.put, List.setIfInBounds_toArray, List.set_cons_zero, List.set_cons_succ]
        refine wpAnyH_take (i := 9) (v := .bool false) rfl (by kernel_rfl) (by kernel_rfl) (by kernel_rfl) (fun _ _ _ h => h) (Or.inl ⟨by rfl, (fun W _ => by go_simp)⟩) HS10.out ?_
        simp only [List.getElem_toArray, List.getElem_cons_succ, List.getElem_cons_zero, Act.put, List.setIfInBounds_toArray, List.set_cons_zero, List.set_cons_succ]
        refine wpAnyH_take (i := 10) (v := .pointer (some ⟨g, 0, none⟩)) rfl (by kernel_rfl) (by kernel_rfl) (by kernel_rfl) (fun _ _ _ h => h) (Or.inl ⟨by rfl, (fun W _ => by go_simp)⟩) HS10.out ?_
        simp only [List.getElem_toArray, List.getElem_cons_succ, List.getElem_cons_zero, Act.put, List.setIfInBounds_toArray, List.set_cons_zero, List.set_cons_succ]
        refine wpAnyH_take (i := 11) (v := .int .i64 (s : Int)) rfl (by kernel_rfl) (by kernel_rfl) (by kernel_rfl) (fun _ _ _ h => h) (Or.inl ⟨by rfl, (fun W _ => by go_simp)⟩) HS10.out ?_
        simp only [List.getElem_toArray, List.getElem_cons_succ, List.getElem_cons_zero, Act.put, List.setIfInBounds_toArray, List.set_cons_zero, List.set_cons_succ]
        refine wpAnyH_take (i := 12) (v := .int .i64 (1 + (s : Int))) rfl (by kernel_rfl) (by kernel_rfl) (by kernel_rfl) (fun _ _ _ h => h) (Or.inl ⟨by rfl, (fun W _ => by go_simp)⟩) HS10.out ?_
        simp only [List.getElem_toArray, List.getElem_cons_succ, List.getElem_cons_zero, Act.put, List.setIfInBounds_toArray, List.set_cons_zero, List.set_cons_succ]
        refine wpAnyH_take (i := 14) (v := .int .i64 (s : Int)) rfl (by kernel_rfl) (by kernel_rfl) (by kernel_rfl) (fun _ _ _ h => h) (Or.inl ⟨by rfl, (fun W _ => by go_simp)⟩) HS10.out ?_
        simp only [List.getElem_toArray, List.getElem_cons_succ, List.getElem_cons_zero, Act.put, List.setIfInBounds_toArray, List.set_cons_zero, List.set_cons_succ]
        refine wpAnyH_take (i := 15) (v := .pointer (some ⟨hb, s, none⟩)) rfl (by kernel_rfl) (by kernel_rfl) (by kernel_rfl) (fun _ _ _ h => h) (Or.inl ⟨by rfl, (fun W _ => by go_simp)⟩) HS10.out ?_
        simp only [List.getElem_toArray, List.getElem_cons_succ, List.getElem_cons_zero, Act.put, List.setIfInBounds_toArray, List.set_cons_zero, List.set_cons_succ]
        refine wpAnyH_take (i := 16) (v := .int .i64 c) rfl (by kernel_rfl) (by kernel_rfl) (by kernel_rfl) (fun _ _ _ h => h) (Or.inl ⟨by rfl, (fun W hW => by have q9 := HCL.out W hW; go_simp)⟩) HS10.out ?_
        simp only [List.getElem_toArray, List.getElem_cons_succ, List.getElem_cons_zero, Act.put, List.setIfInBounds_toArray, List.set_cons_zero, List.set_cons_succ]
        refine wpAnyH_ready (rs := [13]) (by kernel_rfl) (by simp) ?_
        refine AllReadyH.cons rfl (fun K hK => ?_) AllReadyH.nil
        go_simp
        refine (wear_any (1 + (s : Int)) w10 (HQF.out.kept HBQ.out)).mono ?_
        rintro e w11 ⟨rfl, rfl⟩
        rw [HB2.out.wear hs3, HCC.out]
        refine hK.out _ _ HS10.out (fun _ => ?_)
        clear hK K
        refine wpAnyH_take (i := 17) (v := .bool false) rfl (by kernel_rfl) (by kernel_rfl) (by kernel_rfl) (fun _ _ _ h => h) (Or.inl ⟨by rfl, (fun W _ => by go_simp)⟩) HS10.out ?_
        simp only [List.getElem_toArray, List.getElem_cons_succ, List.getElem_cons_zero, Act.put, List.setIfInBounds_toArray, List.set_cons_zero, List.set_cons_succ]
        refine wpAnyH_take (i := 18) (v := .bool false) rfl (by kernel_rfl) (by kernel_rfl) (by kernel_rfl) (fun _ _ _ h => h) (Or.inl ⟨by rfl, (fun W _ => by go_simp)⟩) HS10.out ?_
        simp only [List.getElem_toArray, List.getElem_cons_succ, List.getElem_cons_zero, Act.put, List.setIfInBounds_toArray, List.set_cons_zero, List.set_cons_succ]
        refine wpAnyH_done (by kernel_rfl) ?_ _
        have HF11 := Lib.hid (HQF.out.kept HBQ.out)
        have HA11 := Lib.hid (HQA.out.kept HBQ.out)
        have HB11 := Lib.hid (HQB.out.trans (HBQ.out.mono HQB.out.size))
        clear HCL HS7
        go_wp2_with fail
        go_roundw
        case rel => exact ⟨_, _, j + 1, by go_num, by omega, HB2.out, HF11.out, HA11.out, HS10.out, HB11.out⟩
        case measure => simp [intOf]; omega
    · obtain rfl : j = len1 := by omega
      go_wp2
      go_ret
      exact ⟨rfl, HB1.out.trans (hbb.mono HB1.out.size)⟩

/-! ### THE ROW's STEP: WRITTEN OUT: LEAVE IT -/
set_option maxRecDepth 100000 in
theorem lifted (os : Os) (started : os.Started) (H : Type) (enc : TypeId × Value → H) :
    ReturnsInHanded {} Try.checked os 3 .any (Rows.areaBudgetSpec.pre6 enc Try.prog Try.f3 Rows.areaBudgetRow.domain false) (Rows.areaBudgetSpec.post enc Try.prog Try.f3 false true false false) := by
  refine returnsInHanded_of_change (C := Try.checked) own started (by kernel_rfl) Try.func3
    (ChangeSpec.witness6 (enc := enc) (C := Try.checked) false ⟨#[], #[.int .i64 0, .slice none 0 0], []⟩ 8 (by kernel_rfl) (by kernel_rfl) (by kernel_rfl) (by kernel_rfl)) ?_
  intro W base args ds gs before hval0 hW hcnd _
  have hval : ∀ (j : Nat) t v, Try.f3.params[j]? = some t → args[j]? = some v → Value.okWide Try.prog W .any base t v := hval0
  have hW' := hW
  obtain ⟨p, q, hA0, hV, rfl, hfz, hnd⟩ := hW
  have hA : DataW.TrodAll enc Try.prog W 0 (fun _ => true) true Try.f3.params.toList args.toList ds p := hA0
  rw [Try.params3] at hA hval
  obtain ⟨v0, vs0, d0, ds0, p0, q0, hargs, rfl, rfl, h0, r0⟩ := trodAll_cons hA
  obtain ⟨v1, vs1, d1, ds1, p1, q1, rfl, rfl, rfl, h1, r1⟩ := trodAll_cons r0
  obtain ⟨rfl, rfl, rfl⟩ := trodAll_nil r1
  obtain rfl : args = #[v0, v1] := by cases args; simp_all
  obtain ⟨rfl, rfl⟩ := trodVars_none hV
  obtain ⟨a0, rfl, rfl, rfl, w0⟩ := open_int Try.underlying3 (hval 0 3 v0 rfl rfl) h0
  obtain ⟨a1, len1, cap1, rfl⟩ := okWide_slice Try.underlying22 (hval 1 22 v1 rfl rfl)
  have k1 := h1
  have lt1 : ∀ x ∈ p1, x.block < W.heap.size := by obtain ⟨m, hm⟩ := k1; exact DataW.trod_lt m _ _ _ hm
  obtain ⟨z1, w1⟩ : ∃ zs, IsRow .i64 W a1 len1 cap1 zs := by
    obtain ⟨fuel, hf⟩ := h1
    rcases open_ints Try.underlying22 Try.underlying3 (by kernel_rfl) hf with ⟨hcs, _⟩ | ⟨x, l, c, zs, hcs, _, hl, hm, hz, _, hcell, hwz⟩
    · simp [Value.cells] at hcs
      obtain ⟨rfl, rfl, rfl⟩ := hcs
      exact ⟨[], .inl ⟨rfl, rfl, rfl, rfl⟩⟩
    · simp [Value.cells] at hcs
      obtain ⟨rfl, rfl, rfl⟩ := hcs
      exact ⟨zs, .inr ⟨_, rfl, hl, hm, by simpa using hz, hcell, hwz⟩⟩
  clear hA0 hval0
  refine (walk a0 a1 len1 cap1 z1 W w0 w1).mono fun e W' ⟨he, bel⟩ => ?_
  subst he
  exact ⟨_, rfl, _, _, _, [], _, [], hW', trodAll_mk1 (shut_bool Try.underlying4 _), (trodAll_cons_mk (shut_int Try.underlying3 w0) (trodAll_cons_mk (Below.trod laidOut (by kernel_rfl) (of_decide_eq_true (by kernel_rfl)) k1 bel lt1) trodAll_mk0)), rfl, bel.frame _, fun h => by cases h⟩

theorem over : Rows.areaBudgetRow.holds Try.pinned (OpenSpec.ofChange Rows.areaBudgetSpec) :=
  OpenClaim.holds_of_wide 3 Try.f3 rfl rfl rfl rfl rfl rfl rfl ⟨rfl, rfl, rfl, rfl, rfl⟩ rfl rfl rfl rfl rfl (by kernel_rfl) Try.func3 (by kernel_rfl)
    (of_decide_eq_true (by kernel_rfl)) (by unfold Func.isWrapper; first | (rw [if_pos (by decide +kernel)]; kernel_rfl) | (rw [if_neg (by decide +kernel)]; exact ⟨rfl, rfl⟩))
    (fun os started H enc _ => lifted os started H enc)

/-- ████ THE STATEMENT ████ -/
theorem proved : Rows.AreaBudgetSaid := over
end Go.Proofs.Ytgignmjojlolfaa.areaBudget
namespace Go.Proofs.Ytgignmjojlolfaa
theorem AreaBudget_holds : Rows.AreaBudgetSaid := areaBudget.proved
#print axioms AreaBudget_holds
end Go.Proofs.Ytgignmjojlolfaa
