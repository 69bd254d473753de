/-
  The calls of an area: Read, Program, Erase, Left; conditions: the area and its flash are there.
-/
import Derived.Test.YtklhmneapegfpaaAn
import Derived.Deep.RegionHeld
namespace Go.Proofs.Ytklhmneapegfpaa
open Go.RowKit
set_option linter.unusedVariables false
set_option linter.unusedSimpArgs false

theorem Ar.kept {w w' : World} {x g : Nat} {P : Pt} (h : Ar w x g P) (hb : Below w.heap.size w w') : Ar w' x g P := Has.kept h hb
theorem fs_cells {w : World} {x : Nat} {F : Value} {f c b : Int} (h : Has w x 50 (fsCells F f c b)) : w.cell? ⟨x, 0, none⟩ = some F ∧ w.cell? ⟨x, 1, none⟩ = some (.int .i64 f) ∧ w.cell? ⟨x, 2, none⟩ = some (.int .i64 c) ∧ w.cell? ⟨x, 3, none⟩ = some (.int .i64 b) :=
  ⟨h.at 0, h.at 1, h.at 2, h.at 3⟩
theorem who_is (g : Nat) (P : Pt) : ∃ F f b, whoV g P = fsCells (.pointer F) f P.cnt b := by
  by_cases h : 0 < P.cnt
  · exact ⟨_, _, _, whoV_yes h⟩
  · have e : (P.cnt : Int) = 0 := by omega
    rw [e]
    exact ⟨_, _, _, whoV_no h⟩
/-- The world behind 'whose', with the struct's own copy, and what comes behind. -/
theorem behind {w w1 w2 : World} {o : Obj} (H1 : Below w.heap.size w w1) (H2 : Below (w1.alloc o).heap.size (w1.alloc o) w2) : Below w.heap.size w w2 :=
  (H1.alloc H1.size o).trans (H2.mono (by have := H1.size; simp; omega))
set_option maxRecDepth 100000 in
set_option maxHeartbeats 1000000 in
theorem left_any {T x g m k : Nat} {S : Fs} {P : Pt} (s : Int) (w : World) (ha : Ar w x g P) (hf : Fl w T g m k S) (hfew : Few S) (hops : S.ops ≤ 1000000) (hp : P.Ok S.wear.length) :
    Calls Try.prog 25 #[.pointer (some ⟨x, 0, none⟩), .int .i64 s] w fun e w' => e = .returned (.int .i64 (aLeft S P s)) ∧ Below w.heap.size w w' := by
  have hh := Lib.hid (handed_any w ha)
  have hW := Lib.hid (whose_any g P w)
  have HA := Lib.hid ha
  have HF := Lib.hid hf
  clear ha hf
  unfold aLeft
  by_cases hs : P.has s
  · obtain ⟨q, rfl, hq⟩ := Pt.has_nat hs
    have hc : 0 < P.cnt := by omega
    rw [whoV_yes hc] at hW
    rw [if_pos hs]
    have hd : decide (0 ≤ (q : Int) ∧ (q : Int) < (P.cnt : Int)) = true := by simpa using hq
    clear hs
    unfold fsCells at hW
    go_enter Try.func25, Try.ntmps25
    go_wp2_with (first
      | (go_at_call 29; (with_reducible refine hh.out.mono ?_); rintro e w0 ⟨rfl, rfl⟩)
      | (go_at_call 28; (with_reducible refine hW.out.mono ?_); rintro e w1 ⟨rfl, H1⟩)
      | (go_at_call 35; refine (ahas_any _ _ _ _ _ _).mono ?_; rintro e w2 ⟨rfl, H2⟩; have hx := (has_new w1 50 (fsCells (.pointer (some ⟨g, 0, none⟩)) P.fst P.cnt P.bud)).kept H2; have HX := Lib.hid hx; have b2 := Lib.hid (behind H1 H2); obtain ⟨k0, k1, k2, k3⟩ := fs_cells hx; clear hx; rw [hd])
      | (go_at_call 37; refine (aleft_any (P := P) q _ (HF.out.kept b2.out) hfew hops hp hq).mono ?_; rintro e w3 ⟨rfl, H3⟩))
    go_ret
    exact ⟨rfl, b2.out.trans (H3.mono b2.out.size)⟩
  · rw [if_neg hs]
    obtain ⟨F, f, b, hwho⟩ := who_is g P
    rw [hwho] at hW
    clear hwho
    have hd : decide (0 ≤ s ∧ s < (P.cnt : Int)) = false := by simp only [decide_eq_false_iff_not]; exact hs
    unfold fsCells at hW
    go_enter Try.func25, Try.ntmps25
    go_wp2_with (first
      | (go_at_call 29; (with_reducible refine hh.out.mono ?_); rintro e w0 ⟨rfl, rfl⟩)
      | (go_at_call 28; (with_reducible refine hW.out.mono ?_); rintro e w1 ⟨rfl, H1⟩)
      | (go_at_call 35; refine (ahas_any _ _ _ _ _ _).mono ?_; rintro e w2 ⟨rfl, H2⟩; skip; rw [hd]))
    go_ret
    exact ⟨rfl, behind H1 H2⟩
set_option maxRecDepth 100000 in
set_option maxHeartbeats 1000000 in
theorem aerase_any {T x g m k : Nat} {S : Fs} {P : Pt} (s : Int) (w : World) (ha : Ar w x g P) (hf : Fl w T g m k S) (hfew : Few S) (hops : S.ops ≤ 1000000) (hp : P.Ok S.wear.length) :
    Calls Try.prog 26 #[.pointer (some ⟨x, 0, none⟩), .int .i64 s] w fun e w' => e = .returned (.int .i64 (aErase S P s).1) ∧ FlTo T g m k (aErase S P s).2 w w' := by
  have hh := Lib.hid (handed_any w ha)
  have hW := Lib.hid (whose_any g P w)
  have HA := Lib.hid ha
  have HF := Lib.hid hf
  clear ha hf
  unfold aErase
  by_cases hs : P.has s
  · have hal : aLeft S P s = max ((P.bud : Int) - wearAt S ((P.fst : Int) + s)) 0 := by unfold aLeft; rw [if_pos hs]
    rw [if_pos hs, hal]
    obtain ⟨q, rfl, hq⟩ := Pt.has_nat hs
    have hc : 0 < P.cnt := by omega
    rw [whoV_yes hc] at hW
    have hd : decide (0 ≤ (q : Int) ∧ (q : Int) < (P.cnt : Int)) = true := by simpa using hq
    have h1 := hp.in'
    have h2 := hp.few
    have q1 : IntKind.i64.wrap ((P.fst : Int) + (q : Int)) = (P.fst : Int) + (q : Int) := by rw [IntKind.wrap_i64]; omega
    clear hs hal
    unfold fsCells at hW
    by_cases hz : max ((P.bud : Int) - wearAt S ((P.fst : Int) + (q : Int))) 0 = 0
    · rw [if_pos hz]
      go_enter Try.func26, Try.ntmps26
      go_wp2_with (first
        | (go_at_call 29; (with_reducible refine hh.out.mono ?_); rintro e w0 ⟨rfl, rfl⟩)
        | (go_at_call 28; (with_reducible refine hW.out.mono ?_); rintro e w1 ⟨rfl, H1⟩)
        | (go_at_call 35; refine (ahas_any _ _ _ _ _ _).mono ?_; rintro e w2 ⟨rfl, H2⟩; have hx := (has_new w1 50 (fsCells (.pointer (some ⟨g, 0, none⟩)) P.fst P.cnt P.bud)).kept H2; have HX := Lib.hid hx; have b2 := Lib.hid (behind H1 H2); obtain ⟨k0, k1, k2, k3⟩ := fs_cells hx; clear hx; rw [hd])
        | (go_at_call 37; refine (aleft_any (P := P) q _ (HF.out.kept b2.out) hfew hops hp hq).mono ?_; rintro e w3 ⟨rfl, H3⟩; rw [hz]))
      go_ret
      have b3 := b2.out.trans (H3.mono b2.out.size)
      exact ⟨rfl, HF.out.kept b3, Only.of_below b3⟩
    · rw [if_neg hz]
      have hz' : (max ((P.bud : Int) - wearAt S ((P.fst : Int) + (q : Int))) 0 == 0) = false := by simpa using hz
      go_enter Try.func26, Try.ntmps26
      go_wp2_with (first
        | (go_at_call 29; (with_reducible refine hh.out.mono ?_); rintro e w0 ⟨rfl, rfl⟩)
        | (go_at_call 28; (with_reducible refine hW.out.mono ?_); rintro e w1 ⟨rfl, H1⟩)
        | (go_at_call 35; refine (ahas_any _ _ _ _ _ _).mono ?_; rintro e w2 ⟨rfl, H2⟩; have hx := (has_new w1 50 (fsCells (.pointer (some ⟨g, 0, none⟩)) P.fst P.cnt P.bud)).kept H2; have HX := Lib.hid hx; have b2 := Lib.hid (behind H1 H2); obtain ⟨k0, k1, k2, k3⟩ := fs_cells hx; clear hx; rw [hd])
        | (go_at_call 37; refine (aleft_any (P := P) q _ (HF.out.kept b2.out) hfew hops hp hq).mono ?_; rintro e w3 ⟨rfl, H3⟩; have b3 := Lib.hid (b2.out.trans (H3.mono b2.out.size)); obtain ⟨j0, j1, j2, j3⟩ := fs_cells (HX.out.kept H3); generalize max ((P.bud : Int) - wearAt S ((P.fst : Int) + (q : Int))) 0 = lf at *)
        | (go_at_call 38; refine (erase_any ((P.fst : Int) + (q : Int)) _ (HF.out.kept b3.out) hops hfew).mono ?_; rintro e w4 ⟨rfl, F4, O4⟩))
      go_ret
      exact ⟨rfl, F4, (Only.of_below b3.out).trans O4⟩
  · rw [if_neg hs]
    obtain ⟨F, f, b, hwho⟩ := who_is g P
    rw [hwho] at hW
    clear hwho
    have hd : decide (0 ≤ s ∧ s < (P.cnt : Int)) = false := by simp only [decide_eq_false_iff_not]; exact hs
    unfold fsCells at hW
    go_enter Try.func26, Try.ntmps26
    go_wp2_with (first
      | (go_at_call 29; (with_reducible refine hh.out.mono ?_); rintro e w0 ⟨rfl, rfl⟩)
      | (go_at_call 28; (with_reducible refine hW.out.mono ?_); rintro e w1 ⟨rfl, H1⟩)
      | (go_at_call 35; refine (ahas_any _ _ _ _ _ _).mono ?_; rintro e w2 ⟨rfl, H2⟩; skip; rw [hd]))
    go_ret
    have b3 := behind H1 H2
    exact ⟨rfl, HF.out.kept b3, Only.of_below b3⟩
end Go.Proofs.Ytklhmneapegfpaa
