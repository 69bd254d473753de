/-
  The program's Blank of an area; conditions: the area and its flash are there.
-/
import Derived.Test.YtklhmneapegfpaaAp
import Derived.Test.YtklhmneapegfpaaRown
namespace Go.Proofs.Ytklhmneapegfpaa
open Go.RowKit
set_option linter.unusedVariables false
set_option linter.unusedSimpArgs false

set_option maxRecDepth 100000 in
set_option maxHeartbeats 1000000 in
theorem ablank_any {T x g m k : Nat} {S : Fs} {P : Pt} (s : Int) (w : World) (ha : Ar w x g P) (hf : Fl w T g m k S) (hp : P.Ok S.wear.length) :
    Calls Try.prog 24 #[.pointer (some ⟨x, 0, none⟩), .int .i64 s] w fun e w' => e = .returned (.bool (aBlank S P s)) ∧ Below w.heap.size w w' := by
  have hh := Lib.hid (handed_any w ha)
  have hW := Lib.hid (whose_any g P w)
  have HA := Lib.hid ha
  have HF := Lib.hid hf
  clear ha hf
  unfold aBlank
  by_cases hs : P.has s
  · obtain ⟨q, rfl, hq⟩ := Pt.has_nat hs
    have hc : 0 < P.cnt := by omega
    rw [whoV_yes hc] at hW
    rw [if_pos hs]
    have hd : decide (0 ≤ (q : Int) ∧ (q : Int) < (P.cnt : Int)) = true := by simpa using hq
    have h1 := hp.in'
    have h2 := hp.few
    have q1 : IntKind.i64.wrap ((P.fst : Int) + (q : Int)) = (P.fst : Int) + (q : Int) := by rw [IntKind.wrap_i64]; omega
    clear hs
    unfold fsCells at hW
    go_enter Try.func24, Try.ntmps24
    go_wp2_with (first
      | (go_at_call 29; (with_reducible refine hh.out.mono ?_); rintro e w0 ⟨rfl, rfl⟩)
      | (go_at_call 28; (with_reducible refine hW.out.mono ?_); rintro e w1 ⟨rfl, H1⟩)
      | (go_at_call 35; refine (ahas_any _ _ _ _ _ _).mono ?_; rintro e w2 ⟨rfl, H2⟩; have hx := (has_new w1 50 (fsCells (.pointer (some ⟨g, 0, none⟩)) P.fst P.cnt P.bud)).kept H2; have HX := Lib.hid hx; have b2 := Lib.hid (behind H1 H2); obtain ⟨k0, k1, k2, k3⟩ := fs_cells hx; clear hx; rw [hd])
      | (go_at_call 36; refine (blank_any ((P.fst : Int) + (q : Int)) _ (HF.out.kept b2.out)).mono ?_; rintro e w3 ⟨rfl, rfl⟩))
    go_ret
    exact ⟨rfl, b2.out⟩
  · rw [if_neg hs]
    obtain ⟨F, f, b, hwho⟩ := who_is g P
    rw [hwho] at hW
    clear hwho
    have hd : decide (0 ≤ s ∧ s < (P.cnt : Int)) = false := by simp only [decide_eq_false_iff_not]; exact hs
    unfold fsCells at hW
    go_enter Try.func24, Try.ntmps24
    go_wp2_with (first
      | (go_at_call 29; (with_reducible refine hh.out.mono ?_); rintro e w0 ⟨rfl, rfl⟩)
      | (go_at_call 28; (with_reducible refine hW.out.mono ?_); rintro e w1 ⟨rfl, H1⟩)
      | (go_at_call 35; refine (ahas_any _ _ _ _ _ _).mono ?_; rintro e w2 ⟨rfl, H2⟩; skip; rw [hd]))
    go_ret
    exact ⟨rfl, behind H1 H2⟩
theorem Has.grew {w w' : World} {b N : Nat} {t : TypeId} {cs : Array Value} {r : Option Nat} (h : Has w b t cs) (hg : w.grownBy w' r) (hr : ∀ k, r = some k → N ≤ k) (hb : b < N) : Has w' b t cs :=
  (hg.block b h.size (fun e => by have := hr b e.symm; omega)).trans h
end Go.Proofs.Ytklhmneapegfpaa
