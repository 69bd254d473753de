/-
  The parts that a row of configs gets, or which error: the program's Deal; conditions: the row lies in old memory, its configs are ones that may come in.
-/
import Derived.Test.YtljkngalnoepmaaLa
import Derived.Test.YtljkngalnoepmaaAl
namespace Go.Proofs.Ytljkngalnoepmaa
open Go.RowKit
set_option linter.unusedVariables false
set_option linter.unusedSimpArgs false

/-- What Deal answers: parts in a row of the call's own, and an error's number. -/
def Dealt (base : Nat) (cs : List Cf) (e : Ending) (w : World) : Prop := ∃ v, e = .returned (.tuple #[v, .int .i64 (errN cs)]) ∧ OwnP w base v (dealL cs).length (dealL cs)
theorem dealt_not {base : Nat} {cs : List Cf} {k : Int} (w : World) (h : errN cs = k ∧ dealL cs = []) : Dealt base cs (.returned (.tuple #[.slice none 0 0, .int .i64 k])) w := by
  refine ⟨_, by rw [h.1], ?_⟩
  rw [h.2]
  exact World.ownsRow_nil w base 24 3
theorem dealt_yes {base n : Nat} {cs : List Cf} {v : Value} {w : World} (h : errN cs = 0 ∧ dealL cs = layL cs 0) (hn : cs.length = n) (o : OwnP w base v n (layL cs 0)) : Dealt base cs (.returned (.tuple #[v, .int .i64 0])) w := by
  refine ⟨v, by rw [h.1], ?_⟩
  rw [h.2, layL_len, hn]
  exact o
set_option maxRecDepth 100000 in
theorem deal_any (a : Option Addr) (n cap : Nat) (cs : List Cf) (B : Nat) (w : World) (hr : Cfs w B a n cs) (hB : B ≤ w.heap.size) (hc : n ≤ cap) (hok : ∀ c ∈ cs, c.Ok) (hn : n ≤ maxLen) :
    Calls Try.prog 9 #[.slice a n cap] w fun e w' => Dealt w.heap.size cs e w' ∧ Below w.heap.size w w' := by
  have HR := Lib.hid hr
  have HL := Lib.hid hr.2
  have HA := Lib.hid (allRight_any a n cap cs B w hr hB hok hn)
  have HOK := Lib.hid hok
  clear hr hok hn
  cases e0 : winB (n : Int) 1 8 with
  | false =>
    have EF := Lib.hid (err_arg (cs := cs) (by rw [HL.out, e0]; rfl))
    go_enter Try.func9, Try.ntmps9
    go_wp2_with (go_at_call 18; (with_reducible refine (within_any _ _ _ _).mono ?_); rintro e w1 ⟨rfl, rfl⟩)
    go_ret2
    exact ⟨dealt_not _ EF.out, Below.refl _ _⟩
  | true =>
    cases e1 : cs.all rightB with
    | false =>
      have EF := Lib.hid (err_arg (cs := cs) (by rw [e1, Bool.and_false]))
      rw [e1] at HA
      clear e1
      go_enter Try.func9, Try.ntmps9
      go_wp2_with (first
        | (go_at_call 18; (with_reducible refine (within_any _ _ _ _).mono ?_); rintro e w1 ⟨rfl, rfl⟩)
        | (go_at_call 19; (with_reducible refine HA.out.mono ?_); rintro e w2 ⟨rfl, b2⟩))
      go_ret2
      exact ⟨dealt_not _ EF.out, b2⟩
    | true =>
      rw [e1] at HA
      have E0 := Lib.hid e0
      have E1 := Lib.hid e1
      have n8 : n ≤ 8 := by have := (win_true e0).2; omega
      clear e1
      have HS := Lib.hid (fun w1 (b1 : Below w.heap.size w w1) => share_any a n cap cs B w1 (HR.out.kept (b1.mono hB)) (Nat.le_trans hB b1.size) hc n8)
      cases e2 : shareB cs with
      | true =>
        have EF := Lib.hid (err_name (cs := cs) (by rw [HL.out]; exact E0.out) E1.out e2)
        rw [e2] at HS
        clear e2
        go_enter Try.func9, Try.ntmps9
        go_wp2_with (first
          | (go_at_call 18; (with_reducible refine (within_any _ _ _ _).mono ?_); rintro e w1 ⟨rfl, rfl⟩)
          | (go_at_call 19; (with_reducible refine HA.out.mono ?_); rintro e w2 ⟨rfl, b2⟩; have B2 := Lib.hid b2; clear b2)
          | (go_at_call 20; (with_reducible refine (HS.out _ B2.out).mono ?_); rintro e w3 ⟨rfl, b3⟩; have B3 := Lib.hid (belowThen B2.out b3 B2.out.size); clear b3))
        go_ret2
        exact ⟨dealt_not _ EF.out, B3.out⟩
      | false =>
        have EF := Lib.hid (err_none (cs := cs) (by rw [HL.out]; exact E0.out) E1.out e2)
        rw [e2] at HS
        clear e2
        obtain ⟨s, hs, hs1⟩ : ∃ s, sumN cs = s ∧ s ≤ 128 := ⟨_, rfl, by have := (sumN_in cs).2; have := HL.out; omega⟩
        have HY := Lib.hid (fun w1 (b1 : Below w.heap.size w w1) => lay_any a n cap cs B w1 (HR.out.kept (b1.mono hB)) (Nat.le_trans hB b1.size) n8)
        rw [hs] at HY
        clear hs
        go_enter Try.func9, Try.ntmps9
        go_wp2_with (first
          | (go_at_call 18; (with_reducible refine (within_any _ _ _ _).mono ?_); rintro e w1 ⟨rfl, rfl⟩)
          | (go_at_call 19; (with_reducible refine HA.out.mono ?_); rintro e w2 ⟨rfl, b2⟩; have B2 := Lib.hid b2; clear b2)
          | (go_at_call 20; (with_reducible refine (HS.out _ B2.out).mono ?_); rintro e w3 ⟨rfl, b3⟩; have B3 := Lib.hid (belowThen B2.out b3 B2.out.size); clear b3)
          | (go_at_call 21; (with_reducible refine (HY.out _ B3.out).mono ?_); rintro e w4 ⟨⟨v4, rfl, o4⟩, b4⟩; have B4 := Lib.hid (belowThen B3.out b4 B3.out.size); have O4 := Lib.hid (ownsRow_low o4 B3.out.size); clear b4 o4))
        go_ret2
        exact ⟨dealt_yes EF.out HL.out O4.out, B4.out⟩
end Go.Proofs.Ytljkngalnoepmaa
