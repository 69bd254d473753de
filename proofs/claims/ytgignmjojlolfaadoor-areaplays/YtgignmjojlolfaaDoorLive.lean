/-
  The law's own example answers true; conditions: none.
-/
import Derived.Test.YtgignmjojlolfaaDoorFacts
import Derived.Test.YtgignmjojlolfaaDoorAp
namespace Go.Proofs.YtgignmjojlolfaaDoor
open Go.RowKit
set_option linter.unusedVariables false
set_option linter.unusedSimpArgs false

theorem num_any (n : Int) (w : World) : Calls Tryd.prog 12 #[.int .i64 n] w fun e w' => e = .returned (.int .i64 n) ∧ w = w' := by
  go_enter Tryd.func12, Tryd.ntmps12
  go_wp2
  go_ret
  exact ⟨rfl, rfl⟩
theorem Ar.only {w w' : World} {x g : Nat} {P : Pt} {p : Nat → Prop} (h : Ar w x g P) (o : Only p w w') (hp : ¬ p x) : Ar w' x g P := Has.only h o hp
theorem not_in {w : World} {T g m k : Nat} {S : Fs} (hf : Fl w T g m k S) {x : Nat} (hx : w.heap.size ≤ x) : ¬ In3 g m k x := fun e => by have := hf.in _ e; omega
theorem made_live : Pt.made 3 1 2 4 = ⟨1, 2, 4⟩ := rfl
theorem live_is : (aProg (fresh 3) ⟨1, 2, 4⟩ 0 0 [1]).1 = 0 ∧ aLeft (aProg (fresh 3) ⟨1, 2, 4⟩ 0 0 [1]).2 ⟨1, 2, 4⟩ 1 = 4 := by decide +kernel
set_option maxRecDepth 100000 in
set_option maxHeartbeats 1000000 in
theorem alive_any (w : World) : Calls Tryd.prog 5 #[] w fun e w' => e = .returned (.bool true) ∧ Below w.heap.size w w' := by
  have hn := Lib.hid (new_any 3 w)
  obtain ⟨e1, e2⟩ := live_is
  go_enter Tryd.func5, Tryd.ntmps5
  go_wp2_with (first
    | (go_at_call 6; (with_reducible refine hn.out.mono ?_); rintro e w1 ⟨g, m, k, rfl, hg, hm, hk, f1, b1⟩; rw [sect3] at f1; have HN := newArea_any 0 1 2 4 w1 f1 ⟨i64_small (by omega), i64_small (by omega), i64_small (by omega)⟩; rw [fresh_wear, made_live] at HN; unfold capCells at HN)
    | (go_at_call 8; (with_reducible refine HN.mono ?_); rintro e w2 ⟨x, rfl, hx, a2, b2⟩; clear HN)
    | (go_at_call_of 10 (Value.pointer none); (with_reducible refine (alen_nil _).mono ?_); rintro e w3 ⟨rfl, b3⟩)
    | (go_at_call 10; (with_reducible refine (alen_any _ (a2.kept b3)).mono ?_); rintro e w4 ⟨rfl, b4⟩; have NI := Lib.hid (not_in f1 hx); have b24 := b3.trans (b4.mono b3.size); have A4 := Lib.hid (a2.kept b24); have b14 := b2.trans (b24.mono b2.size); have F4 := Lib.hid (f1.kept b14); have B4 := Lib.hid (b1.trans (b14.mono b1.size)); clear a2 b2 b3 b4 b24 b14 f1 b1; have PR := Lib.hid (aprogram_any 0 0 (some ⟨w4.heap.size, 0, none⟩) 1 1 [1] (w4.alloc (.cells #[.int .u8 1] 5)) (A4.out.kept ((Below.refl _ w4).alloc (Nat.le_refl _) _)) (F4.out.lit _) (by rw [fresh_wear]; exact ⟨by decide, by decide, by decide⟩) (i64_small (by omega)) (row_text w4 [1] (byt_one (by omega)) 1 rfl (0, 0)) (.inr (F4.out.away (Nat.le_refl _))) (by simp [fresh])))
    | (go_at_call 13; (with_reducible refine PR.out.mono ?_); rintro e w5 ⟨rfl, f5, o5⟩; have F5 := Lib.hid f5; have A5 := Lib.hid ((A4.out.kept ((Below.refl _ w4).alloc (Nat.le_refl _) _)).only o5 NI.out); have B5 := Lib.hid (below_to (below_lit B4.out _) hg hm hk o5); clear f5 o5 PR; rw [e1])
    | (go_at_call 12; (with_reducible refine (num_any _ _).mono ?_); rintro e w6 ⟨rfl, rfl⟩)
    | (go_at_call 23; (with_reducible refine (left_any 1 _ A5.out F5.out (few_aProg (few_fresh 3) _ _ _ _) (by have := (aProg_wears (fresh 3) ⟨1, 2, 4⟩ 0 0 [1]).2; have : (fresh 3).ops = 0 := rfl; omega) (by rw [(aProg_wears _ _ _ _ _).1, fresh_wear]; exact ⟨by decide, by decide, by decide⟩)).mono ?_); rintro e w6 ⟨rfl, b6⟩; rw [e2]))
  go_ret
  exact ⟨rfl, B5.out.trans (b6.mono B5.out.size)⟩
end Go.Proofs.YtgignmjojlolfaaDoor
