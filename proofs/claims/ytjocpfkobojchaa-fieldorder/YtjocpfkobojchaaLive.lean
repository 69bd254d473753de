/-
  The document's example is kept; conditions: none.
-/
import Derived.Test.YtjocpfkobojchaaWb
import Derived.Test.YtjocpfkobojchaaRn
namespace Go.Proofs.Ytjocpfkobojchaa
open Go.RowKit
set_option linter.unusedVariables false
set_option linter.unusedSimpArgs false

theorem wnew (w : World) : Wr (w.alloc (.cells #[.pointer none, .int .i64 0] 27)) w.heap.size (fun _ => False) [] := ⟨byt_nil, by simp, fun h => h, none, [], has_new _ _ _, rfl, rfl⟩
theorem plus_lt {P : Nat → Prop} {w w' : World} (h : ∀ b, P b → b < w'.heap.size) : ∀ b, Plus P w w' b → b < w'.heap.size := by
  rintro b (h1 | h1)
  · exact h b h1
  · exact h1.2
theorem WrTo.lt {p : Nat} {P : Nat → Prop} {zs : List Int} {w w' : World} (h : WrTo p P zs w w') (hP : ∀ b, P b → b < w.heap.size) : ∀ b, Plus P w w' b → b < w'.heap.size := plus_lt fun b hb => Nat.lt_of_lt_of_le (hP b hb) h.2.size
theorem cut28 : cutN 2 8 = 2 := by decide
theorem num258 : numL 258 2 = [1, 2] := by decide
theorem got12 : got ⟨[1, 2], false⟩ 2 = [1, 2] := rfl
theorem aft12 : aft ⟨[1, 2], false⟩ 2 = ⟨[], false⟩ := rfl
theorem val12 : w64 (val [1, 2]) = 258 := by decide
set_option maxRecDepth 100000 in
theorem alive_any (w : World) : Calls Try.prog 7 #[] w fun e w' => e = .returned (.bool true) ∧ Below w.heap.size w w' := by
  have hb0 : Below w.heap.size w (w.alloc (.cells #[.pointer none, .int .i64 0] 27)) := (Below.refl _ w).alloc (Nat.le_refl _) _
  have hw0 := wnew w
  generalize hW : w.alloc (.cells #[.pointer none, .int .i64 0] 27) = w0 at *
  have HB := Lib.hid (bytes_any w0 hw0 (fun b hb => hb.elim))
  go_enter Try.func7, Try.ntmps7
  go_wp2_with (first
    | (go_at_call 12; (with_reducible refine HB.out.mono ?_); rintro e w1 ⟨v1, rfl, o1, b1⟩; obtain ⟨A1, c1, rfl, _, _, _⟩ := o1.form; clear HB o1; have hw1 := hw0.kept b1; have HN := Lib.hid (wnum_any 258 2 w1 (by omega) hw1 (by simp)))
    | (go_at_call 10; (with_reducible refine HN.out.mono ?_); rintro e w2 ⟨rfl, h2⟩; clear HN; rw [cut28, num258, List.nil_append] at h2; have HB2 := Lib.hid (bytes_any w2 h2.1 (h2.lt (fun b hb => hb.elim))))
    | (go_at_call 12; (with_reducible refine HB2.out.mono ?_); rintro e w3 ⟨v3, rfl, o3, b3⟩; obtain ⟨A3, c3, rfl, _, r3, _⟩ := o3.form; clear HB2 o3; have HR := Lib.hid (newReader_any A3 2 c3 [1, 2] w3 r3 (by omega)))
    | (go_at_call 14; (with_reducible refine HR.out.mono ?_); rintro e w4 ⟨r, rfl, hr, hrd, b4⟩; clear HR; have HD := Lib.hid (num_any 2 w4 hrd); rw [cut28, got12, aft12, val12] at HD)
    | (go_at_call 15; (with_reducible refine HD.out.mono ?_); rintro e w5 ⟨rfl, hrd5, o5⟩; clear HD; have HL := Lib.hid (left_any w5 hrd5))
    | (go_at_call 17; (with_reducible refine HL.out.mono ?_); rintro e w6 ⟨rfl, rfl⟩; clear HL))
  go_ret
  have s1 := b1.size
  have s2 := h2.2.size
  have s3 := b3.size
  have s4 := b4.size
  have s0 := hb0.size
  have c1 : Below w.heap.size w w1 := hb0.trans (b1.mono s0)
  have c2 : Below w.heap.size w w2 := c1.trans (h2.2.to_below (by omega) (fun b e => by omega))
  have c3 : Below w.heap.size w w3 := c2.trans (b3.mono (by omega))
  have c4 : Below w.heap.size w w4 := c3.trans (b4.mono (by omega))
  exact ⟨rfl, c4.trans (o5.to_below (by omega) (fun b e => by omega))⟩
end Go.Proofs.Ytjocpfkobojchaa
