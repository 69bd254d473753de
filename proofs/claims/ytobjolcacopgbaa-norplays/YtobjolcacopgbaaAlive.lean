/-
  The law's own example answers true; conditions: none.
-/
import Derived.Test.YtobjolcacopgbaaRers
namespace Go.Proofs.Ytobjolcacopgbaa
open Go.RowKit
set_option linter.unusedVariables false
set_option linter.unusedSimpArgs false

theorem Fl.away {w : World} {T g m k : Nat} {S : Fs} (hf : Fl w T g m k S) {b off : Nat} (hb : w.heap.size ≤ b) : Away g m k (some ⟨b, off, none⟩) := fun x hx e => by
  cases hx
  have := hf.in _ e
  simp only [] at this
  omega
theorem Fl.lit {w : World} {T g m k : Nat} {S : Fs} (hf : Fl w T g m k S) (o : Obj) : Fl (w.alloc o) T g m k S := hf.kept ((Below.refl _ w).alloc (Nat.le_refl _) o)
/-- What a call on a flash of the law's own leaves, seen from the law's start. -/
theorem below_to {w w1 w2 : World} {g m k : Nat} (h : Below w.heap.size w w1) (hg : w.heap.size ≤ g) (hm : w.heap.size ≤ m) (hk : w.heap.size ≤ k) (o : Only (In3 g m k) w1 w2) : Below w.heap.size w w2 :=
  h.trans (o.to_below h.size (by rintro b (rfl | rfl | rfl) <;> assumption))
theorem below_lit {w w1 : World} (h : Below w.heap.size w w1) (o : Obj) : Below w.heap.size w (w1.alloc o) := h.alloc h.size o
theorem sect3 : sect 3 = 3 := rfl
theorem first5 : (prog (fresh 3) 0 [5]).1 = 0 ∧ (prog (fresh 3) 0 [5]).2.ops = 1 ∧ (prog (prog (fresh 3) 0 [5]).2 0 [6]).1 = 3 ∧ (prog (prog (fresh 3) 0 [5]).2 0 [6]).2.wear.length = 3 ∧ (read (prog (prog (fresh 3) 0 [5]).2 0 [6]).2 0 1).length = 1 := by decide +kernel
theorem i64_small {a : Int} (h : -1000000 ≤ a ∧ a ≤ 1000000) : I64 a := ⟨by omega, by omega⟩
theorem byt_one {x : Int} (h : 0 ≤ x ∧ x ≤ 255) : Byt [x] := byt_same 1 x h
set_option maxRecDepth 100000 in
set_option maxHeartbeats 1000000 in
theorem alive_any (w : World) : Calls Try.prog 8 #[] w fun e w' => e = .returned (.bool true) ∧ Below w.heap.size w w' := by
  have hn := Lib.hid (new_any 3 w)
  obtain ⟨e1, e2, e3, e4, e5⟩ := first5
  go_enter Try.func8, Try.ntmps8
  go_wp2_with (first
    | (go_at_call 9; refine hn.out.mono ?_; rintro e w1 ⟨g, m, k, rfl, hg, hm, hk, f1, b1⟩; rw [sect3] at f1; have P1 := Lib.hid (program_any 0 (some ⟨w1.heap.size, 0, none⟩) 1 1 [5] (w1.alloc (.cells #[.int .u8 5] 5)) (i64_small (by omega)) (f1.lit _) (row_text w1 [5] (byt_one (by omega)) 1 rfl (0, 0)) (f1.away (Nat.le_refl _)) (by simp [fresh])); have B1 := Lib.hid (below_lit b1 (.cells #[.int .u8 5] 5)); clear b1 f1)
    | (go_at_call_of 13 (Value.slice (some ⟨w1.heap.size, 0, none⟩) 1 1); refine P1.out.mono ?_; rintro e w2 ⟨rfl, f2, o2⟩; have B2 := Lib.hid (below_to B1.out hg hm hk o2); have F2 := Lib.hid f2; have P2 := Lib.hid (program_any 0 (some ⟨w2.heap.size, 0, none⟩) 1 1 [6] (w2.alloc (.cells #[.int .u8 6] 5)) (i64_small (by omega)) (f2.lit _) (row_text w2 [6] (byt_one (by omega)) 1 rfl (0, 0)) (f2.away (Nat.le_refl _)) (by omega)); clear f2 o2; rw [e1])
    | (go_at_call 13; refine P2.out.mono ?_; rintro e w3 ⟨rfl, f3, o3⟩; have B3 := Lib.hid (below_to (below_lit B2.out _) hg hm hk o3); have F3 := Lib.hid f3; clear f3 o3; rw [e3])
    | (go_at_call 29; refine (len_any _ F3.out).mono ?_; rintro e w4 ⟨rfl, rfl⟩; rw [e4])
    | (go_at_call 12; refine (num_any _ _).mono ?_; rintro e w4 ⟨rfl, rfl⟩)
    | (go_at_call 27; refine (read_any 0 1 _ (i64_small (by omega)) (i64_small (by omega)) F3.out).mono ?_; rintro e w4 ⟨A4, c4, rfl, hc4, r4, hb4, b4⟩; rw [e5]))
  go_ret
  exact ⟨rfl, B3.out.trans (b4.mono B3.out.size)⟩
end Go.Proofs.Ytobjolcacopgbaa
