/-
  The calls of package slot: From, May, Write and what they call; conditions: the area and its flash are there, fewer than a million operations were done, the row does not lie in the flash.
-/
import Derived.Test.YtklhmneapegfpaaSp
import Derived.Test.YtklhmneapegfpaaAbl
namespace Go.Proofs.Ytklhmneapegfpaa
open Go.RowKit
set_option linter.unusedVariables false
set_option linter.unusedSimpArgs false

theorem belowThen {w w1 w2 : World} (h : Below w.heap.size w w1) (h2 : Below w1.heap.size w1 w2) : Below w.heap.size w w2 := h.trans (h2.mono h.size)
theorem sw_yes {n l m : Int} (h : l ≤ n ∧ n ≤ m) (w : World) : Calls Try.prog 21 #[.int .i64 n, .int .i64 l, .int .i64 m] w fun e w' => e = .returned (.bool true) ∧ w = w' := by
  obtain ⟨h1, h2⟩ := h
  go_enter Try.func21, Try.ntmps21
  go_wp2
  go_ret
  exact ⟨rfl, rfl⟩
theorem sw_no {n l m : Int} (h : ¬ (l ≤ n ∧ n ≤ m)) (w : World) : Calls Try.prog 21 #[.int .i64 n, .int .i64 l, .int .i64 m] w fun e w' => e = .returned (.bool false) ∧ w = w' := by
  by_cases h1 : l ≤ n
  · have h2 : ¬ n ≤ m := fun k => h ⟨h1, k⟩
    go_enter Try.func21, Try.ntmps21
    go_wp2
    go_ret
    exact ⟨rfl, rfl⟩
  · go_enter Try.func21, Try.ntmps21
    go_wp2
    go_ret
    exact ⟨rfl, rfl⟩
theorem from_any (s k n : Int) (w : World) : Calls Try.prog 15 #[.int .i64 s, .int .i64 k, .int .i64 n] w fun e w' => e = .returned (.int .i64 (atI s k n)) ∧ w = w' := by
  by_cases h1 : 0 ≤ s ∧ s ≤ 1
  · have W1 := Lib.hid (sw_yes h1 w)
    by_cases h2 : 1 ≤ n ∧ n ≤ 6
    · have W2 := Lib.hid (sw_yes h2 w)
      have q0 : IntKind.i64.wrap (n - 1) = n - 1 := by rw [IntKind.wrap_i64]; omega
      by_cases h3 : 0 ≤ k ∧ k ≤ n - 1
      · have W3 := Lib.hid (sw_yes h3 w)
        have hi : inAt s k n := ⟨h1, h2, h3.1, by omega⟩
        rw [at_yes hi]
        have hm := mul_01 (n := n) h1
        have q1 : IntKind.i64.wrap (s * n) = s * n := by rw [IntKind.wrap_i64]; omega
        have q2 : IntKind.i64.wrap (4 + s * n) = 4 + s * n := by rw [IntKind.wrap_i64]; omega
        have q3 : IntKind.i64.wrap (4 + s * n + k) = 4 + s * n + k := by rw [IntKind.wrap_i64]; omega
        clear hm hi h1 h2 h3
        go_enter Try.func15, Try.ntmps15
        go_wp2_with (first
          | (go_at_call 21; (with_reducible refine W1.out.mono ?_); rintro e w1 ⟨rfl, rfl⟩)
          | (go_at_call 21; (with_reducible refine W2.out.mono ?_); rintro e w1 ⟨rfl, rfl⟩)
          | (go_at_call 21; (with_reducible refine W3.out.mono ?_); rintro e w1 ⟨rfl, rfl⟩))
        go_ret
        exact ⟨rfl, rfl⟩
      · have W3 := Lib.hid (sw_no h3 w)
        rw [at_no (fun h => h3 ⟨h.2.2.1, by have := h.2.2.2; omega⟩)]
        clear h1 h2 h3
        go_enter Try.func15, Try.ntmps15
        go_wp2_with (first
          | (go_at_call 21; (with_reducible refine W1.out.mono ?_); rintro e w1 ⟨rfl, rfl⟩)
          | (go_at_call 21; (with_reducible refine W2.out.mono ?_); rintro e w1 ⟨rfl, rfl⟩)
          | (go_at_call 21; (with_reducible refine W3.out.mono ?_); rintro e w1 ⟨rfl, rfl⟩))
        go_ret
        exact ⟨rfl, rfl⟩
    · have W2 := Lib.hid (sw_no h2 w)
      rw [at_no (fun h => h2 h.2.1)]
      clear h1 h2
      go_enter Try.func15, Try.ntmps15
      go_wp2_with (first
        | (go_at_call 21; (with_reducible refine W1.out.mono ?_); rintro e w1 ⟨rfl, rfl⟩)
        | (go_at_call 21; (with_reducible refine W2.out.mono ?_); rintro e w1 ⟨rfl, rfl⟩))
      go_ret
      exact ⟨rfl, rfl⟩
  · have W1 := Lib.hid (sw_no h1 w)
    rw [at_no (fun h => h1 h.1)]
    clear h1
    go_enter Try.func15, Try.ntmps15
    go_wp2_with (first
      | (go_at_call 21; (with_reducible refine W1.out.mono ?_); rintro e w1 ⟨rfl, rfl⟩))
    go_ret
    exact ⟨rfl, rfl⟩
theorem left_nat {S : Fs} {P : Pt} {s : Int} : 0 ≤ aLeft S P s := by unfold aLeft; split <;> omega
set_option maxRecDepth 100000 in
set_option maxHeartbeats 1000000 in
theorem free_any {T x g m k : Nat} {S : Fs} {P : Pt} (s : Int) (w : World) (ha : Ar w x g P) (hf : Fl w T g m k S) (hfew : Few S) (hops : S.ops ≤ 1000000) (hp : P.Ok S.wear.length) :
    Calls Try.prog 18 #[.pointer (some ⟨x, 0, none⟩), .int .i64 s] w fun e w' => e = .returned (.bool (freeS S P s)) ∧ Below w.heap.size w w' := by
  have HBl := Lib.hid (ablank_any s w ha hf hp)
  have HA := Lib.hid ha
  have HF := Lib.hid hf
  have HP := Lib.hid hp
  clear ha hf hp
  cases hb : aBlank S P s with
  | true =>
    rw [hb] at HBl
    rw [show freeS S P s = true by unfold freeS; rw [hb]; rfl]
    clear hb
    go_enter Try.func18, Try.ntmps18
    go_wp2_with (first
      | (go_at_call 24; (with_reducible refine HBl.out.mono ?_); rintro e w1 ⟨rfl, H1⟩))
    go_ret
    exact ⟨rfl, H1⟩
  | false =>
    rw [hb] at HBl
    rw [show freeS S P s = decide (0 < aLeft S P s) by unfold freeS; rw [hb]; rfl]
    clear hb
    go_enter Try.func18, Try.ntmps18
    go_wp2_with (first
      | (go_at_call 24; (with_reducible refine HBl.out.mono ?_); rintro e w1 ⟨rfl, H1⟩; clear HBl; have HLf := Lib.hid (left_any s w1 (HA.out.kept H1) (HF.out.kept H1) hfew hops HP.out))
      | (go_at_call 25; (with_reducible refine HLf.out.mono ?_); rintro e w2 ⟨rfl, H2⟩))
    go_ret
    exact ⟨rfl, belowThen H1 H2⟩
theorem erase_len (S : Fs) (P : Pt) (s : Int) : (aErase S P s).2.wear.length = S.wear.length := (aErase_wears S P s).1
set_option maxRecDepth 100000 in
set_option maxHeartbeats 1000000 in
theorem fillw_any {T x g m k : Nat} {S : Fs} {P : Pt} (s : Int) (A : Option Addr) (n z : Nat) (zs : List Int) (w : World) (ha : Ar w x g P) (hx : ¬ In3 g m k x) (hf : Fl w T g m k S) (hfew : Few S) (hops : S.ops ≤ 999999) (hp : P.Ok S.wear.length)
    (hr : Row w A n zs) (hA : Clear g m k A n) :
    Calls Try.prog 19 #[.pointer (some ⟨x, 0, none⟩), .int .i64 s, .slice A n z] w fun e w' => e = .returned (.int .i64 (fillW S P s zs).1) ∧ FlTo T g m k (fillW S P s zs).2 w w' := by
  have HBl := Lib.hid (ablank_any s w ha hf hp)
  have HA := Lib.hid ha
  have HF := Lib.hid hf
  have HP := Lib.hid hp
  have HR := Lib.hid hr
  have HC := Lib.hid hA
  have HX := Lib.hid hx
  have hlen := hr.1
  clear ha hf hp hr hA hx
  by_cases hbl : aBlank S P s = true
  · rw [hbl] at HBl
    rw [fill_blank hbl]
    clear hbl
    by_cases h0 : n = 0
    · subst h0
      rw [lay_none hlen]
      go_enter Try.func19, Try.ntmps19
      go_wp2_with (first
        | (go_at_call 24; (with_reducible refine HBl.out.mono ?_); rintro e w1 ⟨rfl, H1⟩; clear HBl))
      go_ret
      exact ⟨rfl, HF.out.kept H1, Only.of_below H1⟩
    · have i0 : ¬ (n : Int) = 0 := by omega
      rw [lay_some (by omega)]
      go_enter Try.func19, Try.ntmps19
      go_wp2_with (first
        | (go_at_call 24; (with_reducible refine HBl.out.mono ?_); rintro e w1 ⟨rfl, H1⟩; clear HBl; have HPr := Lib.hid (aprogram_any s 0 A n z zs w1 (HA.out.kept H1) (HF.out.kept H1) HP.out ⟨by omega, by omega⟩ (row_below H1 HR.out) HC.out (by omega)))
        | (go_at_call 27; (with_reducible refine HPr.out.mono ?_); rintro e w2 ⟨rfl, H2⟩))
      go_ret
      exact ⟨rfl, H2.1, (Only.of_below H1).trans H2.2⟩
  · replace hbl : aBlank S P s = false := by simpa using hbl
    rw [hbl] at HBl
    by_cases he : (aErase S P s).1 = 0
    · rw [fill_two hbl he]
      clear hbl
      have HE0 := Lib.hid he
      clear he
      by_cases h0 : n = 0
      · subst h0
        rw [lay_none hlen]
        go_enter Try.func19, Try.ntmps19
        go_wp2_with (first
          | (go_at_call 24; (with_reducible refine HBl.out.mono ?_); rintro e w1 ⟨rfl, H1⟩; clear HBl; have HE := Lib.hid (aerase_any s w1 (HA.out.kept H1) (HF.out.kept H1) hfew (by omega) HP.out); rw [HE0.out] at HE)
          | (go_at_call 26; (with_reducible refine HE.out.mono ?_); rintro e w2 ⟨rfl, H2⟩; clear HE))
        go_ret
        exact ⟨rfl, H2.1, (Only.of_below H1).trans H2.2⟩
      · have i0 : ¬ (n : Int) = 0 := by omega
        rw [lay_some (by omega)]
        go_enter Try.func19, Try.ntmps19
        go_wp2_with (first
          | (go_at_call 24; (with_reducible refine HBl.out.mono ?_); rintro e w1 ⟨rfl, H1⟩; clear HBl; have HE := Lib.hid (aerase_any s w1 (HA.out.kept H1) (HF.out.kept H1) hfew (by omega) HP.out); rw [HE0.out] at HE)
          | (go_at_call 26; (with_reducible refine HE.out.mono ?_); rintro e w2 ⟨rfl, H2⟩; clear HE; have HPr := Lib.hid (aprogram_any s 0 A n z zs w2 (Has.only (HA.out.kept H1) H2.2 HX.out) H2.1 (by rw [erase_len]; exact HP.out) ⟨by omega, by omega⟩ (row_clear (row_below H1 HR.out) H2.2 HC.out) HC.out (by have := (aErase_wears S P s).2; omega)))
          | (go_at_call 27; (with_reducible refine HPr.out.mono ?_); rintro e w3 ⟨rfl, H3⟩))
        go_ret
        exact ⟨rfl, H3.1, ((Only.of_below H1).trans H2.2).trans H3.2⟩
    · rw [fill_err hbl he]
      clear hbl
      go_enter Try.func19, Try.ntmps19
      go_wp2_with (first
        | (go_at_call 24; (with_reducible refine HBl.out.mono ?_); rintro e w1 ⟨rfl, H1⟩; clear HBl; have HE := Lib.hid (aerase_any s w1 (HA.out.kept H1) (HF.out.kept H1) hfew (by omega) HP.out))
        | (go_at_call 26; (with_reducible refine HE.out.mono ?_); rintro e w2 ⟨rfl, H2⟩; clear HE))
      go_ret
      exact ⟨rfl, H2.1, (Only.of_below H1).trans H2.2⟩
set_option maxRecDepth 100000 in
set_option maxHeartbeats 1000000 in
theorem write_any {T x g m k : Nat} {S : Fs} {P : Pt} (sl q c : Int) (A : Option Addr) (n z : Nat) (zs : List Int) (w : World) (ha : Ar w x g P) (hx : ¬ In3 g m k x) (hf : Fl w T g m k S) (hfew : Few S) (hops : S.ops ≤ 999999) (hp : P.Ok S.wear.length)
    (hr : Row w A n zs) (hA : Clear g m k A n) :
    Calls Try.prog 11 #[.pointer (some ⟨x, 0, none⟩), .int .i64 sl, .int .i64 q, .int .i64 c, .slice A n z] w fun e w' => e = .returned (.int .i64 (writeW S P sl q c zs).1) ∧ FlTo T g m k (writeW S P sl q c zs).2 w w' := by
  have hlen := hr.1
  have HF := Lib.hid hf
  have h4 := at_cases sl q c
  obtain ⟨s, hs⟩ : ∃ s, atI sl q c = s := ⟨_, rfl⟩
  have HFr := Lib.hid (from_any sl q c w)
  rw [hs] at HFr h4
  by_cases h1 : s = -1
  · rw [write_out (.inl (hs.trans h1))]
    subst h1
    clear hs h4 ha hf hr hA hp
    go_enter Try.func11, Try.ntmps11
    go_wp2_with (first
      | (go_at_call 15; (with_reducible refine HFr.out.mono ?_); rintro e w1 ⟨rfl, rfl⟩))
    go_ret
    exact ⟨rfl, HF.out, Only.refl _ _⟩
  have b1 : (s == -1) = false := by simpa using h1
  by_cases h2 : 320 < n
  · rw [write_out (.inr (by omega))]
    have i2 : (320 : Int) < (n : Int) := by omega
    have d2 : decide ((320 : Int) < (n : Int)) = true := decide_eq_true i2
    clear hs h4 ha hf hr hA hp
    go_enter Try.func11, Try.ntmps11
    go_wp2_with (first
      | (go_at_call 15; (with_reducible refine HFr.out.mono ?_); rintro e w1 ⟨rfl, rfl⟩))
    go_ret
    exact ⟨rfl, HF.out, Only.refl _ _⟩
  have i2 : ¬ (320 : Int) < (n : Int) := by omega
  have d2 : decide ((320 : Int) < (n : Int)) = false := decide_eq_false i2
  have HFe := Lib.hid (free_any s w ha hf hfew (by omega) hp)
  cases hfr : freeS S P s with
  | false =>
    rw [write_worn (by rw [hs]; omega) (by rw [hs]; exact hfr)]
    rw [hfr] at HFe
    clear hs h4 ha hf hr hA hp
    go_enter Try.func11, Try.ntmps11
    go_wp2_with (first
      | (go_at_call 15; (with_reducible refine HFr.out.mono ?_); rintro e w1 ⟨rfl, rfl⟩)
      | (go_at_call 18; (with_reducible refine HFe.out.mono ?_); rintro e w2 ⟨rfl, H2⟩))
    go_ret
    exact ⟨rfl, HF.out.kept H2, Only.of_below H2⟩
  | true =>
    rw [write_does (by rw [hs]; omega) (by rw [hs]; exact hfr), hs]
    rw [hfr] at HFe
    have HA := Lib.hid ha
    have HP := Lib.hid hp
    have HR := Lib.hid hr
    have HC := Lib.hid hA
    have HX := Lib.hid hx
    clear hs h4 ha hf hr hA hp hx
    go_enter Try.func11, Try.ntmps11
    go_wp2_with (first
      | (go_at_call 15; (with_reducible refine HFr.out.mono ?_); rintro e w1 ⟨rfl, rfl⟩)
      | (go_at_call 18; (with_reducible refine HFe.out.mono ?_); rintro e w2 ⟨rfl, H2⟩; have HFi := Lib.hid (fillw_any s A n z zs w2 (HA.out.kept H2) HX.out (HF.out.kept H2) hfew hops HP.out (row_below H2 HR.out) HC.out))
      | (go_at_call 19; (with_reducible refine HFi.out.mono ?_); rintro e w3 ⟨rfl, H3⟩))
    go_ret
    exact ⟨rfl, H3.1, (Only.of_below H2).trans H3.2⟩
theorem smay_any {T x g m k : Nat} {S : Fs} {P : Pt} (sl q c : Int) (w : World) (ha : Ar w x g P) (hf : Fl w T g m k S) (hfew : Few S) (hops : S.ops ≤ 1000000) (hp : P.Ok S.wear.length) :
    Calls Try.prog 14 #[.pointer (some ⟨x, 0, none⟩), .int .i64 sl, .int .i64 q, .int .i64 c] w fun e w' => e = .returned (.bool (freeS S P (atI sl q c))) ∧ Below w.heap.size w w' := by
  have HFe := Lib.hid (free_any (atI sl q c) w ha hf hfew hops hp)
  have HFr := Lib.hid (from_any sl q c w)
  clear ha hf hp
  go_enter Try.func14, Try.ntmps14
  go_wp2_with (first
    | (go_at_call 15; (with_reducible refine HFr.out.mono ?_); rintro e w1 ⟨rfl, rfl⟩)
    | (go_at_call 18; (with_reducible refine HFe.out.mono ?_); rintro e w2 ⟨rfl, H2⟩))
  go_ret
  exact ⟨rfl, H2⟩
end Go.Proofs.Ytklhmneapegfpaa
