/-
  The calls that write a cell: the program's Put and the document's own; conditions: the row reads as bytes, the seq is a number of 56 bits.
-/
import Derived.Test.YtclephjnokbaoaaCeCp
import Derived.Test.YtclephjnokbaoaaCeLive
import Derived.Test.YtclephjnokbaoaaCeRx
import Derived.Test.YtclephjnokbaoaaCeDuGet
namespace Go.Proofs.Ytclephjnokbaoaa
open Go.RowKit
set_option linter.unusedVariables false
set_option linter.unusedSimpArgs false

theorem isSeq_yes (n : Int) (w : World) (h : Seq n) : Calls Try.prog 74 #[.int .i64 n] w fun e w' => e = .returned (.bool true) ∧ w = w' := by
  have h1 := h.1
  have h2 := h.2
  have d2 : decide (n ≤ 2147483647) = true := decide_eq_true h2
  clear h
  go_enter Try.func74, Try.ntmps74
  go_wp2
  go_ret
  exact ⟨rfl, rfl⟩
theorem isSeq_no (n : Int) (w : World) (h : ¬ Seq n) : Calls Try.prog 74 #[.int .i64 n] w fun e w' => e = .returned (.bool false) ∧ w = w' := by
  by_cases h1 : 1 ≤ n
  · have h2 : ¬ n ≤ 2147483647 := fun k => h ⟨h1, k⟩
    have d2 : decide (n ≤ 2147483647) = false := decide_eq_false h2
    clear h
    go_enter Try.func74, Try.ntmps74
    go_wp2
    go_ret
    exact ⟨rfl, rfl⟩
  · clear h
    go_enter Try.func74, Try.ntmps74
    go_wp2
    go_ret
    exact ⟨rfl, rfl⟩
/-- What a Put answers. -/
def Puts (os : List Int) (er : Int) (w : World) (e : Ending) (w' : World) : Prop := ∃ v, e = .returned (.tuple #[v, .int .i64 er]) ∧ Own w' w.heap.size v os.length os ∧ Below w.heap.size w w'
set_option maxRecDepth 100000 in
theorem cput_any (n : Int) (A : Option Addr) (m c : Nat) (zs : List Int) (w : World) (hn : -9223372036854775808 ≤ n ∧ n ≤ 9223372036854775807) (hr : Row w A m zs) :
    Calls Try.prog 62 #[.int .i64 n, .slice A m c] w (Puts (outL n zs m) (errN n m) w) := by
  by_cases hs : Seq n
  · have HS := Lib.hid (isSeq_yes n w hs)
    by_cases hl : 156 < m
    · rw [out_long hl, err_long hs hl]
      have i1 : (156 : Int) < (m : Int) := by omega
      clear hs hr hn
      go_enter Try.func62, Try.ntmps62
      go_wp2_with (go_at_call 74; (with_reducible refine HS.out.mono ?_); rintro e w1 ⟨rfl, rfl⟩)
      go_ret2
      exact ⟨_, rfl, own_nil _ _, Below.refl _ _⟩
    · rw [out_some hs (by omega), err_none hs (by omega)]
      have i1 : ¬ (156 : Int) < (m : Int) := by omega
      clear hs
      have hw0 := wnew w
      have b0 : Below w.heap.size w (w.alloc (.cells #[.pointer none, .int .i64 0] 110)) := (Below.refl _ w).alloc (Nat.le_refl _) _
      have hr0 := row_below b0 hr
      have HN := Lib.hid (wnum_any n 4 (w.alloc (.cells #[.pointer none, .int .i64 0] 110)) hn hw0 (by simp))
      rw [cut4, List.nil_append] at HN
      have HLT := Lib.hid (row_lies hr)
      clear hr hn
      go_enter Try.func62, Try.ntmps62
      go_wp2_with (first
        | (go_at_call 74; (with_reducible refine HS.out.mono ?_); rintro e w1 ⟨rfl, rfl⟩)
        | (go_at_call 80; (with_reducible refine HN.out.mono ?_); rintro e w2 ⟨rfl, h2⟩; clear HN; have hr2 := row_under hr0 HLT.out h2.2 (fun b e => by omega); have hlt2 := h2.lt (fun b hb => hb.elim); have HW := Lib.hid (wraw_any A m c zs 156 w2 hr2 h2.1 (by rw [num_len]; omega)); rw [cut156] at HW; clear hr0 hr2)
        | (go_at_call 81; (with_reducible refine HW.out.mono ?_); rintro e w3 ⟨rfl, h3⟩; clear HW; have HB := Lib.hid (bytes_any w3 h3.1 (h3.lt hlt2)); rw [List.length_append, num_len, raw_len] at HB)
        | (go_at_call 83; (with_reducible refine HB.out.mono ?_); rintro e w4 ⟨v4, rfl, o4, b4⟩; clear HB; obtain ⟨A4, c4, rfl, _, r4, _⟩ := o4.form; clear o4; have HP := Lib.hid (put_any A4 160 c4 _ w4 r4 (by omega)); clear r4)
        | (go_at_call 82; (with_reducible refine HP.out.mono ?_); rintro e w5 ⟨v5, rfl, o5, b5⟩))
      have s0 := b0.size
      have s2 := h2.2.size
      have s3 := h3.2.size
      have s4 := b4.size
      have c2 : Below w.heap.size w w2 := b0.trans (h2.2.to_below (by omega) (fun b e => by omega))
      have c3 : Below w.heap.size w w3 := c2.trans (h3.2.to_below (by omega) (fun b e => by omega))
      have c4 := c3.trans (b4.mono (by omega))
      have c5 := c4.trans (b5.mono (by omega))
      go_ret2
      exact ⟨v5, rfl, by rw [cell_len]; exact o5.lower (by omega), c5⟩
  · have HS := Lib.hid (isSeq_no n w hs)
    rw [out_arg hs, err_arg hs]
    clear hs hr hn
    go_enter Try.func62, Try.ntmps62
    go_wp2_with (go_at_call 74; (with_reducible refine HS.out.mono ?_); rintro e w1 ⟨rfl, rfl⟩)
    go_ret2
    exact ⟨_, rfl, own_nil _ _, Below.refl _ _⟩
theorem only_one {b p : Nat} (h : b = p ∨ (fun _ : Nat => False) b) : b = p := h.elim id (fun h => h.elim)
theorem only_plus {w w' : World} {b : Nat} (h : Plus (fun _ => False) w w' b) : w.heap.size ≤ b := h.elim (fun h => h.elim) (fun h => h.1)
theorem rwnew (w : World) : Rw (w.alloc (.cells #[.slice none 0 0] 114)) w.heap.size (fun _ => False) [] := ⟨by simp, fun h => h, _, has_new _ _ _, own_nil _ _, fun g hg => by cases hg⟩
end Go.Proofs.Ytclephjnokbaoaa
