/-
  Several texts in one: Sc, Si, Sg, Sf, Cl; each says its own conditions.
-/
import Derived.Test.YtklhmneapegfpaaGreatDoorSp
import Derived.Test.YtklhmneapegfpaaGreatDoorMAr
import Derived.Laws.BytesArg
import Derived.Lib.SlBytesConst
import Derived.Deep.RegionHeld3
namespace Go.Proofs.YtklhmneapegfpaaGreatDoor
open Go.RowKit
set_option linter.unusedVariables false
set_option linter.unusedSimpArgs false

theorem belowThen {w w1 w2 : World} (h : Below w.heap.size w w1) (h2 : Below w1.heap.size w1 w2) : Below w.heap.size w w2 := h.trans (h2.mono h.size)
theorem sw_yes {n l m : Int} (h : l ≤ n ∧ n ≤ m) (w : World) : Calls Tryz.prog 37 #[.int .i64 n, .int .i64 l, .int .i64 m] w fun e w' => e = .returned (.bool true) ∧ w = w' := by
  obtain ⟨h1, h2⟩ := h
  go_enter Tryz.func37, Tryz.ntmps37
  go_wp2
  go_ret
  exact ⟨rfl, rfl⟩
theorem sw_no {n l m : Int} (h : ¬ (l ≤ n ∧ n ≤ m)) (w : World) : Calls Tryz.prog 37 #[.int .i64 n, .int .i64 l, .int .i64 m] w fun e w' => e = .returned (.bool false) ∧ w = w' := by
  by_cases h1 : l ≤ n
  · have h2 : ¬ n ≤ m := fun k => h ⟨h1, k⟩
    go_enter Tryz.func37, Tryz.ntmps37
    go_wp2
    go_ret
    exact ⟨rfl, rfl⟩
  · go_enter Tryz.func37, Tryz.ntmps37
    go_wp2
    go_ret
    exact ⟨rfl, rfl⟩
theorem from_any (s k n : Int) (w : World) : Calls Tryz.prog 16 #[.int .i64 s, .int .i64 k, .int .i64 n] w fun e w' => e = .returned (.int .i64 (atI s k n)) ∧ w = w' := by
  by_cases h1 : 0 ≤ s ∧ s ≤ 1
  · have W1 := Lib.hid (sw_yes h1 w)
    by_cases h2 : 1 ≤ n ∧ n ≤ 6
    · have W2 := Lib.hid (sw_yes h2 w)
      have q0 : IntKind.i64.wrap (n - 1) = n - 1 := by rw [IntKind.wrap_i64]; omega
      by_cases h3 : 0 ≤ k ∧ k ≤ n - 1
      · have W3 := Lib.hid (sw_yes h3 w)
        have hi : inAt s k n := ⟨h1, h2, h3.1, by omega⟩
        rw [at_yes hi]
        have hm := mul_01 (n := n) h1
        have q1 : IntKind.i64.wrap (s * n) = s * n := by rw [IntKind.wrap_i64]; omega
        have q2 : IntKind.i64.wrap (4 + s * n) = 4 + s * n := by rw [IntKind.wrap_i64]; omega
        have q3 : IntKind.i64.wrap (4 + s * n + k) = 4 + s * n + k := by rw [IntKind.wrap_i64]; omega
        clear hm hi h1 h2 h3
        go_enter Tryz.func16, Tryz.ntmps16
        go_wp2_with (first
          | (go_at_call 37; (with_reducible refine W1.out.mono ?_); rintro e w1 ⟨rfl, rfl⟩)
          | (go_at_call 37; (with_reducible refine W2.out.mono ?_); rintro e w1 ⟨rfl, rfl⟩)
          | (go_at_call 37; (with_reducible refine W3.out.mono ?_); rintro e w1 ⟨rfl, rfl⟩))
        go_ret
        exact ⟨rfl, rfl⟩
      · have W3 := Lib.hid (sw_no h3 w)
        rw [at_no (fun h => h3 ⟨h.2.2.1, by have := h.2.2.2; omega⟩)]
        clear h1 h2 h3
        go_enter Tryz.func16, Tryz.ntmps16
        go_wp2_with (first
          | (go_at_call 37; (with_reducible refine W1.out.mono ?_); rintro e w1 ⟨rfl, rfl⟩)
          | (go_at_call 37; (with_reducible refine W2.out.mono ?_); rintro e w1 ⟨rfl, rfl⟩)
          | (go_at_call 37; (with_reducible refine W3.out.mono ?_); rintro e w1 ⟨rfl, rfl⟩))
        go_ret
        exact ⟨rfl, rfl⟩
    · have W2 := Lib.hid (sw_no h2 w)
      rw [at_no (fun h => h2 h.2.1)]
      clear h1 h2
      go_enter Tryz.func16, Tryz.ntmps16
      go_wp2_with (first
        | (go_at_call 37; (with_reducible refine W1.out.mono ?_); rintro e w1 ⟨rfl, rfl⟩)
        | (go_at_call 37; (with_reducible refine W2.out.mono ?_); rintro e w1 ⟨rfl, rfl⟩))
      go_ret
      exact ⟨rfl, rfl⟩
  · have W1 := Lib.hid (sw_no h1 w)
    rw [at_no (fun h => h1 h.1)]
    clear h1
    go_enter Tryz.func16, Tryz.ntmps16
    go_wp2_with (first
      | (go_at_call 37; (with_reducible refine W1.out.mono ?_); rintro e w1 ⟨rfl, rfl⟩))
    go_ret
    exact ⟨rfl, rfl⟩
theorem left_nat {S : Fs} {P : Pt} {s : Int} : 0 ≤ aLeft S P s := by unfold aLeft; split <;> omega
set_option maxRecDepth 100000 in
set_option maxHeartbeats 1000000 in
theorem free_any {T x g m k : Nat} {S : Fs} {P : Pt} (s : Int) (w : World) (ha : Ar w x g P) (hf : Fl w T g m k S) (hfew : Few S) (hops : S.ops ≤ 1000000) (hp : P.Ok S.wear.length) :
    Calls Tryz.prog 31 #[.pointer (some ⟨x, 0, none⟩), .int .i64 s] w fun e w' => e = .returned (.bool (freeS S P s)) ∧ Below w.heap.size w w' := by
  have HBl := Lib.hid (ablank_any s w ha hf hp)
  have HA := Lib.hid ha
  have HF := Lib.hid hf
  have HP := Lib.hid hp
  clear ha hf hp
  cases hb : aBlank S P s with
  | true =>
    rw [hb] at HBl
    rw [show freeS S P s = true by unfold freeS; rw [hb]; rfl]
    clear hb
    go_enter Tryz.func31, Tryz.ntmps31
    go_wp2_with (first
      | (go_at_call 56; (with_reducible refine HBl.out.mono ?_); rintro e w1 ⟨rfl, H1⟩))
    go_ret
    exact ⟨rfl, H1⟩
  | false =>
    rw [hb] at HBl
    rw [show freeS S P s = decide (0 < aLeft S P s) by unfold freeS; rw [hb]; rfl]
    clear hb
    go_enter Tryz.func31, Tryz.ntmps31
    go_wp2_with (first
      | (go_at_call 56; (with_reducible refine HBl.out.mono ?_); rintro e w1 ⟨rfl, H1⟩; clear HBl; have HLf := Lib.hid (left_any s w1 (HA.out.kept H1) (HF.out.kept H1) hfew hops HP.out))
      | (go_at_call 57; (with_reducible refine HLf.out.mono ?_); rintro e w2 ⟨rfl, H2⟩))
    go_ret
    exact ⟨rfl, belowThen H1 H2⟩
theorem erase_len (S : Fs) (P : Pt) (s : Int) : (aErase S P s).2.wear.length = S.wear.length := (aErase_wears S P s).1
set_option maxRecDepth 100000 in
set_option maxHeartbeats 1000000 in
theorem fillw_any {T x g m k : Nat} {S : Fs} {P : Pt} (s : Int) (A : Option Addr) (n z : Nat) (zs : List Int) (w : World) (ha : Ar w x g P) (hx : ¬ In3 g m k x) (hf : Fl w T g m k S) (hfew : Few S) (hops : S.ops ≤ 999999) (hp : P.Ok S.wear.length)
    (hr : Row w A n zs) (hA : Clear g m k A n) :
    Calls Tryz.prog 34 #[.pointer (some ⟨x, 0, none⟩), .int .i64 s, .slice A n z] w fun e w' => e = .returned (.int .i64 (fillW S P s zs).1) ∧ FlTo T g m k (fillW S P s zs).2 w w' := by
  have HBl := Lib.hid (ablank_any s w ha hf hp)
  have HA := Lib.hid ha
  have HF := Lib.hid hf
  have HP := Lib.hid hp
  have HR := Lib.hid hr
  have HC := Lib.hid hA
  have HX := Lib.hid hx
  have hlen := hr.1
  clear ha hf hp hr hA hx
  by_cases hbl : aBlank S P s = true
  · rw [hbl] at HBl
    rw [fill_blank hbl]
    clear hbl
    by_cases h0 : n = 0
    · subst h0
      rw [lay_none hlen]
      go_enter Tryz.func34, Tryz.ntmps34
      go_wp2_with (first
        | (go_at_call 56; (with_reducible refine HBl.out.mono ?_); rintro e w1 ⟨rfl, H1⟩; clear HBl))
      go_ret
      exact ⟨rfl, HF.out.kept H1, Only.of_below H1⟩
    · have i0 : ¬ (n : Int) = 0 := by omega
      rw [lay_some (by omega)]
      go_enter Tryz.func34, Tryz.ntmps34
      go_wp2_with (first
        | (go_at_call 56; (with_reducible refine HBl.out.mono ?_); rintro e w1 ⟨rfl, H1⟩; clear HBl; have HPr := Lib.hid (aprogram_any s 0 A n z zs w1 (HA.out.kept H1) (HF.out.kept H1) HP.out ⟨by omega, by omega⟩ (row_below H1 HR.out) HC.out (by omega)))
        | (go_at_call 60; (with_reducible refine HPr.out.mono ?_); rintro e w2 ⟨rfl, H2⟩))
      go_ret
      exact ⟨rfl, H2.1, (Only.of_below H1).trans H2.2⟩
  · replace hbl : aBlank S P s = false := by simpa using hbl
    rw [hbl] at HBl
    by_cases he : (aErase S P s).1 = 0
    · rw [fill_two hbl he]
      clear hbl
      have HE0 := Lib.hid he
      clear he
      by_cases h0 : n = 0
      · subst h0
        rw [lay_none hlen]
        go_enter Tryz.func34, Tryz.ntmps34
        go_wp2_with (first
          | (go_at_call 56; (with_reducible refine HBl.out.mono ?_); rintro e w1 ⟨rfl, H1⟩; clear HBl; have HE := Lib.hid (aerase_any s w1 (HA.out.kept H1) (HF.out.kept H1) hfew (by omega) HP.out); rw [HE0.out] at HE)
          | (go_at_call 59; (with_reducible refine HE.out.mono ?_); rintro e w2 ⟨rfl, H2⟩; clear HE))
        go_ret
        exact ⟨rfl, H2.1, (Only.of_below H1).trans H2.2⟩
      · have i0 : ¬ (n : Int) = 0 := by omega
        rw [lay_some (by omega)]
        go_enter Tryz.func34, Tryz.ntmps34
        go_wp2_with (first
          | (go_at_call 56; (with_reducible refine HBl.out.mono ?_); rintro e w1 ⟨rfl, H1⟩; clear HBl; have HE := Lib.hid (aerase_any s w1 (HA.out.kept H1) (HF.out.kept H1) hfew (by omega) HP.out); rw [HE0.out] at HE)
          | (go_at_call 59; (with_reducible refine HE.out.mono ?_); rintro e w2 ⟨rfl, H2⟩; clear HE; have HPr := Lib.hid (aprogram_any s 0 A n z zs w2 (Has.only (HA.out.kept H1) H2.2 HX.out) H2.1 (by rw [erase_len]; exact HP.out) ⟨by omega, by omega⟩ (row_clear (row_below H1 HR.out) H2.2 HC.out) HC.out (by have := (aErase_wears S P s).2; omega)))
          | (go_at_call 60; (with_reducible refine HPr.out.mono ?_); rintro e w3 ⟨rfl, H3⟩))
        go_ret
        exact ⟨rfl, H3.1, ((Only.of_below H1).trans H2.2).trans H3.2⟩
    · rw [fill_err hbl he]
      clear hbl
      go_enter Tryz.func34, Tryz.ntmps34
      go_wp2_with (first
        | (go_at_call 56; (with_reducible refine HBl.out.mono ?_); rintro e w1 ⟨rfl, H1⟩; clear HBl; have HE := Lib.hid (aerase_any s w1 (HA.out.kept H1) (HF.out.kept H1) hfew (by omega) HP.out))
        | (go_at_call 59; (with_reducible refine HE.out.mono ?_); rintro e w2 ⟨rfl, H2⟩; clear HE))
      go_ret
      exact ⟨rfl, H2.1, (Only.of_below H1).trans H2.2⟩
set_option maxRecDepth 100000 in
set_option maxHeartbeats 1000000 in
theorem write_any {T x g m k : Nat} {S : Fs} {P : Pt} (sl q c : Int) (A : Option Addr) (n z : Nat) (zs : List Int) (w : World) (ha : Ar w x g P) (hx : ¬ In3 g m k x) (hf : Fl w T g m k S) (hfew : Few S) (hops : S.ops ≤ 999999) (hp : P.Ok S.wear.length)
    (hr : Row w A n zs) (hA : Clear g m k A n) :
    Calls Tryz.prog 14 #[.pointer (some ⟨x, 0, none⟩), .int .i64 sl, .int .i64 q, .int .i64 c, .slice A n z] w fun e w' => e = .returned (.int .i64 (writeW S P sl q c zs).1) ∧ FlTo T g m k (writeW S P sl q c zs).2 w w' := by
  have hlen := hr.1
  have HF := Lib.hid hf
  have h4 := at_cases sl q c
  obtain ⟨s, hs⟩ : ∃ s, atI sl q c = s := ⟨_, rfl⟩
  have HFr := Lib.hid (from_any sl q c w)
  rw [hs] at HFr h4
  by_cases h1 : s = -1
  · rw [write_out (.inl (hs.trans h1))]
    subst h1
    clear hs h4 ha hf hr hA hp
    go_enter Tryz.func14, Tryz.ntmps14
    go_wp2_with (first
      | (go_at_call 16; (with_reducible refine HFr.out.mono ?_); rintro e w1 ⟨rfl, rfl⟩))
    go_ret
    exact ⟨rfl, HF.out, Only.refl _ _⟩
  have b1 : (s == -1) = false := by simpa using h1
  by_cases h2 : 320 < n
  · rw [write_out (.inr (by omega))]
    have i2 : (320 : Int) < (n : Int) := by omega
    have d2 : decide ((320 : Int) < (n : Int)) = true := decide_eq_true i2
    clear hs h4 ha hf hr hA hp
    go_enter Tryz.func14, Tryz.ntmps14
    go_wp2_with (first
      | (go_at_call 16; (with_reducible refine HFr.out.mono ?_); rintro e w1 ⟨rfl, rfl⟩))
    go_ret
    exact ⟨rfl, HF.out, Only.refl _ _⟩
  have i2 : ¬ (320 : Int) < (n : Int) := by omega
  have d2 : decide ((320 : Int) < (n : Int)) = false := decide_eq_false i2
  have HFe := Lib.hid (free_any s w ha hf hfew (by omega) hp)
  cases hfr : freeS S P s with
  | false =>
    rw [write_worn (by rw [hs]; omega) (by rw [hs]; exact hfr)]
    rw [hfr] at HFe
    clear hs h4 ha hf hr hA hp
    go_enter Tryz.func14, Tryz.ntmps14
    go_wp2_with (first
      | (go_at_call 16; (with_reducible refine HFr.out.mono ?_); rintro e w1 ⟨rfl, rfl⟩)
      | (go_at_call 31; (with_reducible refine HFe.out.mono ?_); rintro e w2 ⟨rfl, H2⟩))
    go_ret
    exact ⟨rfl, HF.out.kept H2, Only.of_below H2⟩
  | true =>
    rw [write_does (by rw [hs]; omega) (by rw [hs]; exact hfr), hs]
    rw [hfr] at HFe
    have HA := Lib.hid ha
    have HP := Lib.hid hp
    have HR := Lib.hid hr
    have HC := Lib.hid hA
    have HX := Lib.hid hx
    clear hs h4 ha hf hr hA hp hx
    go_enter Tryz.func14, Tryz.ntmps14
    go_wp2_with (first
      | (go_at_call 16; (with_reducible refine HFr.out.mono ?_); rintro e w1 ⟨rfl, rfl⟩)
      | (go_at_call 31; (with_reducible refine HFe.out.mono ?_); rintro e w2 ⟨rfl, H2⟩; have HFi := Lib.hid (fillw_any s A n z zs w2 (HA.out.kept H2) HX.out (HF.out.kept H2) hfew hops HP.out (row_below H2 HR.out) HC.out))
      | (go_at_call 34; (with_reducible refine HFi.out.mono ?_); rintro e w3 ⟨rfl, H3⟩))
    go_ret
    exact ⟨rfl, H3.1, (Only.of_below H2).trans H3.2⟩
theorem smay_any {T x g m k : Nat} {S : Fs} {P : Pt} (sl q c : Int) (w : World) (ha : Ar w x g P) (hf : Fl w T g m k S) (hfew : Few S) (hops : S.ops ≤ 1000000) (hp : P.Ok S.wear.length) :
    Calls Tryz.prog 11 #[.pointer (some ⟨x, 0, none⟩), .int .i64 sl, .int .i64 q, .int .i64 c] w fun e w' => e = .returned (.bool (freeS S P (atI sl q c))) ∧ Below w.heap.size w w' := by
  have HFe := Lib.hid (free_any (atI sl q c) w ha hf hfew hops hp)
  have HFr := Lib.hid (from_any sl q c w)
  clear ha hf hp
  go_enter Tryz.func11, Tryz.ntmps11
  go_wp2_with (first
    | (go_at_call 16; (with_reducible refine HFr.out.mono ?_); rintro e w1 ⟨rfl, rfl⟩)
    | (go_at_call 31; (with_reducible refine HFe.out.mono ?_); rintro e w2 ⟨rfl, H2⟩))
  go_ret
  exact ⟨rfl, H2⟩
end Go.Proofs.YtklhmneapegfpaaGreatDoor

namespace Go.Proofs.YtklhmneapegfpaaGreatDoor
open Go.RowKit
set_option linter.unusedVariables false
set_option linter.unusedSimpArgs false

/-- So many chunks are read. -/
def Imaged (w : World) (S : Fs) (P : Pt) (sl n z : Int) (v9 v10 : Value) (wr : World) : Prop :=
  ∃ (k L : Nat), v10 = .int .i64 (k : Int) ∧ Own wr w.heap.size v9 L (img S P sl n z k) ∧ (L : Int) = min (320 * (k : Int)) (max z 0) ∧ (∀ j : Nat, j < k → 320 * (j : Int) < z ∧ P.has (atI sl (j : Int) n)) ∧ Below w.heap.size w wr
theorem has_six {P : Pt} {sl n k : Int} (h : P.has (atI sl k n)) : 0 ≤ k ∧ k ≤ 5 := by
  by_cases hi : inAt sl k n
  · have := hi.2.1; have := hi.2.2; omega
  · rw [at_no hi] at h; have := h.1; omega
theorem img_end {S : Fs} {P : Pt} {sl n z : Int} {k : Nat} (hz : ¬ 320 * (k : Int) < z) (h : ∀ j : Nat, j < k → 320 * (j : Int) < z ∧ P.has (atI sl (j : Int) n)) : imgL S P sl n z = img S P sl n z k := by
  cases k with
  | zero => rw [img_no (fun h => by have := h.1; omega)]; rfl
  | succ q =>
    obtain ⟨h1, h2⟩ := h q (by omega)
    rw [img_yes (img_in h1 (by omega) h2), show ((z - 1) / 320 + 1).toNat = q + 1 by omega]
set_option maxRecDepth 100000 in
set_option maxHeartbeats 2000000 in
theorem image_any {T x g m k : Nat} {S : Fs} {P : Pt} (sl n z : Int) (w : World) (ha : Ar w x g P) (hf : Fl w T g m k S) (hp : P.Ok S.wear.length) (hi : I64 z) :
    Calls Tryz.prog 21 #[.pointer (some ⟨x, 0, none⟩), .int .i64 sl, .int .i64 n, .int .i64 z] w (GivesO (imgL S P sl n z) w) := by
  have HA := Lib.hid ha
  have HF := Lib.hid hf
  have HP := Lib.hid hp
  have HI := Lib.hid hi
  have HOK := Lib.hid hf.ok
  clear ha hf hp hi
  go_enter Tryz.func21, Tryz.ntmps21
  go_wp2
  have hst : Imaged w S P sl n z (.slice none 0 0) (.int .i64 0) w := ⟨0, 0, rfl, own_nil w _, by omega, fun j hj => by omega, Below.refl _ w⟩
  go_loopw [9, 10] (fun v9 v10 wr => Imaged w S P sl n z v9 v10 wr) (fun _ v10 _ => 7 - (intOf v10).toNat)
  case atStart => exact hst
  case round =>
    clear hst
    obtain ⟨q, L, rfl, ho, hL, hall, hB⟩ := hrel
    obtain ⟨A, c, rfl, hc, hr, _⟩ := ho.form
    have HO := Lib.hid ho
    have HB := Lib.hid hB
    have HALL := Lib.hid hall
    have hq6 : q ≤ 6 := by
      cases q with
      | zero => omega
      | succ q => have := has_six (hall q (by omega)).2; omega
    clear ho hr hB hall
    by_cases hlt : (L : Int) < z
    · have hLq : L = 320 * q := by omega
      subst hLq
      have hLL := Lib.hid hL
      clear hL
      by_cases hcut : z - 320 * (q : Int) ≤ 320
      · have hcut2 : ¬ 320 < z - 320 * (q : Int) := by omega
        have q1 : IntKind.i64.wrap (z - 320 * (q : Int)) = z - 320 * (q : Int) := by rw [IntKind.wrap_i64]; have := HI.out.1; have := HI.out.2; omega
        have q2 : IntKind.i64.wrap ((q : Int) + 1) = ((q + 1 : Nat) : Int) := by rw [IntKind.wrap_i64]; omega
        have hFr := Lib.hid (from_any sl (q : Int) n wr)
        have hRd := Lib.hid (aread_any (atI sl (q : Int) n) 0 (z - 320 * (q : Int)) wr (HA.out.kept HB.out) (HF.out.kept HB.out) HP.out ⟨by omega, by omega⟩ ⟨by omega, by omega⟩)
        by_cases hh : P.has (atI sl (q : Int) n)
        · have hlen : (aRead S P (atI sl (q : Int) n) 0 (z - 320 * (q : Int))).length = (z - 320 * (q : Int)).toNat := aread_len HOK.out HP.out ⟨hh, by omega, by omega, by omega⟩
          have HE1 := Lib.hid (show img S P sl n z (q + 1) = img S P sl n z q ++ aRead S P (atI sl (q : Int) n) 0 (z - 320 * (q : Int)) by
            show img S P sl n z q ++ aRead S P (atI sl (q : Int) n) 0 (min (z - 320 * (q : Int)) 320) = _
            rw [show min (z - 320 * (q : Int)) 320 = (z - 320 * (q : Int)) by omega])
          have i0 : ¬ (((z - 320 * (q : Int)).toNat : Nat) : Int) = 0 := by omega
          have b0 : ((((z - 320 * (q : Int)).toNat : Nat) : Int) == 0) = false := by simpa using i0
          go_wp2_with (first
            | (go_at_call 16; (with_reducible refine hFr.out.mono ?_); rintro e w1 ⟨rfl, rfl⟩)
            | (go_at_call 41; (with_reducible refine hRd.out.mono ?_); rintro e w2 ⟨A2, c2, rfl, hc2, hr2, _, b2⟩; rw [hlen] at hr2 hc2 ⊢; have HO2 := Lib.hid (HO.out.kept b2); have HB2 := Lib.hid (HB.out.trans (b2.mono HB.out.size)); have HR2 := Lib.hid hr2; clear hr2 b2 hRd hFr)
            | (at_builtin; refine wpList_app rfl _ _ rfl w.heap.size _ _ _ rfl HO2.out _ _ _ _ rfl HR2.out (row_none HR2.out) (by omega) HB2.out.size ?_; intro v3 w3 o3 g3; have HO3 := Lib.hid o3; have HB3 := Lib.hid (below_own HB2.out HO2.out g3 (Nat.le_refl _) HB2.out.size); clear o3 g3))
          go_roundw
          case rel => exact ⟨q + 1, 320 * q + (z - 320 * (q : Int)).toNat, by simp, by rw [HE1.out]; exact HO3.out, by omega, fun j hj => by
              by_cases e : j = q
              · subst e; exact ⟨by omega, hh⟩
              · exact HALL.out j (by omega), HB3.out⟩
          case measure => simp only [intOf]; omega
        · have hnil : aRead S P (atI sl (q : Int) n) 0 (z - 320 * (q : Int)) = [] := aread_no hh
          have HE1 := Lib.hid (show imgL S P sl n z = [] from img_no (img_out (by omega) hh))
          rw [hnil] at hRd
          go_wp2_with (first
            | (go_at_call 16; (with_reducible refine hFr.out.mono ?_); rintro e w1 ⟨rfl, rfl⟩)
            | (go_at_call 41; (with_reducible refine hRd.out.mono ?_); rintro e w2 ⟨A2, c2, rfl, hc2, hr2, _, b2⟩; have HB2 := Lib.hid (HB.out.trans (b2.mono HB.out.size)); clear hr2 b2 hRd hFr))
          go_ret
          rw [HE1.out]
          exact ⟨_, rfl, own_nil _ _, HB2.out⟩
      · have hcut2 : 320 < z - 320 * (q : Int) := by omega
        have q1 : IntKind.i64.wrap (z - 320 * (q : Int)) = z - 320 * (q : Int) := by rw [IntKind.wrap_i64]; have := HI.out.1; have := HI.out.2; omega
        have q2 : IntKind.i64.wrap ((q : Int) + 1) = ((q + 1 : Nat) : Int) := by rw [IntKind.wrap_i64]; omega
        have hFr := Lib.hid (from_any sl (q : Int) n wr)
        have hRd := Lib.hid (aread_any (atI sl (q : Int) n) 0 320 wr (HA.out.kept HB.out) (HF.out.kept HB.out) HP.out ⟨by omega, by omega⟩ ⟨by omega, by omega⟩)
        by_cases hh : P.has (atI sl (q : Int) n)
        · have hlen : (aRead S P (atI sl (q : Int) n) 0 320).length = (320 : Int).toNat := aread_len HOK.out HP.out ⟨hh, by omega, by omega, by omega⟩
          have HE1 := Lib.hid (show img S P sl n z (q + 1) = img S P sl n z q ++ aRead S P (atI sl (q : Int) n) 0 320 by
            show img S P sl n z q ++ aRead S P (atI sl (q : Int) n) 0 (min (z - 320 * (q : Int)) 320) = _
            rw [show min (z - 320 * (q : Int)) 320 = 320 by omega])
          have i0 : ¬ (((320 : Int).toNat : Nat) : Int) = 0 := by omega
          have b0 : ((((320 : Int).toNat : Nat) : Int) == 0) = false := by decide
          go_wp2_with (first
            | (go_at_call 16; (with_reducible refine hFr.out.mono ?_); rintro e w1 ⟨rfl, rfl⟩)
            | (go_at_call 41; (with_reducible refine hRd.out.mono ?_); rintro e w2 ⟨A2, c2, rfl, hc2, hr2, _, b2⟩; rw [hlen] at hr2 hc2 ⊢; have HO2 := Lib.hid (HO.out.kept b2); have HB2 := Lib.hid (HB.out.trans (b2.mono HB.out.size)); have HR2 := Lib.hid hr2; clear hr2 b2 hRd hFr)
            | (at_builtin; refine wpList_app rfl _ _ rfl w.heap.size _ _ _ rfl HO2.out _ _ _ _ rfl HR2.out (row_none HR2.out) (by omega) HB2.out.size ?_; intro v3 w3 o3 g3; have HO3 := Lib.hid o3; have HB3 := Lib.hid (below_own HB2.out HO2.out g3 (Nat.le_refl _) HB2.out.size); clear o3 g3))
          go_roundw
          case rel => exact ⟨q + 1, 320 * q + (320 : Int).toNat, by simp, by rw [HE1.out]; exact HO3.out, by omega, fun j hj => by
              by_cases e : j = q
              · subst e; exact ⟨by omega, hh⟩
              · exact HALL.out j (by omega), HB3.out⟩
          case measure => simp only [intOf]; omega
        · have hnil : aRead S P (atI sl (q : Int) n) 0 320 = [] := aread_no hh
          have HE1 := Lib.hid (show imgL S P sl n z = [] from img_no (img_out (by omega) hh))
          rw [hnil] at hRd
          go_wp2_with (first
            | (go_at_call 16; (with_reducible refine hFr.out.mono ?_); rintro e w1 ⟨rfl, rfl⟩)
            | (go_at_call 41; (with_reducible refine hRd.out.mono ?_); rintro e w2 ⟨A2, c2, rfl, hc2, hr2, _, b2⟩; have HB2 := Lib.hid (HB.out.trans (b2.mono HB.out.size)); clear hr2 b2 hRd hFr))
          go_ret
          rw [HE1.out]
          exact ⟨_, rfl, own_nil _ _, HB2.out⟩
    · have hnz : ¬ 320 * (q : Int) < z := by omega
      have HE1 := Lib.hid (img_end (S := S) hnz HALL.out)
      have hLL := Lib.hid hL
      clear hL
      go_wp2
      go_ret
      rw [HE1.out]
      exact ⟨_, rfl, by rw [HO.out.len]; exact HO.out, HB.out⟩
end Go.Proofs.YtklhmneapegfpaaGreatDoor

namespace Go.Proofs.YtklhmneapegfpaaGreatDoor
set_option linter.unusedVariables false
set_option linter.unusedSimpArgs false

/-- Without a cut, and on. -/
structure Calm (S : Fs) : Prop where
  ok : S.Ok
  off : S.off = false
  cut : S.cut = none
theorem calm_fresh {n : Nat} (h : n ≤ 400) : Calm (fresh n) := ⟨fresh_ok h, rfl, rfl⟩
def secL (S : Fs) (P : Pt) (s : Nat) : List Int := aRead S P (s : Int) 0 320
theorem sec_is {S : Fs} {P : Pt} (hS : S.Ok) (hp : P.Ok S.wear.length) {s : Nat} (hs : s < P.cnt) : secL S P s = (S.mem.drop ((P.fst + s) * 320)).take 320 := by
  have h1 := hp.in'
  have h2 := hS.len
  unfold secL aRead
  rw [if_pos ⟨⟨by omega, by omega⟩, by omega, by omega, by omega⟩]
  have e : P.place (s : Int) 0 = (((P.fst + s) * 320 : Nat) : Int) := by unfold Pt.place; omega
  rw [e]
  unfold read
  rw [if_pos ⟨by omega, by omega, by omega⟩]
  simp only [Int.toNat_natCast]
  rfl
theorem sec_len' {S : Fs} {P : Pt} (hS : S.Ok) (hp : P.Ok S.wear.length) {s : Nat} (hs : s < P.cnt) : (secL S P s).length = 320 := by
  have h1 := hp.in'
  have h2 := hS.len
  rw [sec_is hS hp hs, List.length_take, List.length_drop]
  omega
theorem sec_at {S : Fs} {P : Pt} (hS : S.Ok) (hp : P.Ok S.wear.length) {s : Nat} (hs : s < P.cnt) {j : Nat} (hj : j < 320) : (secL S P s).getD j 0 = S.mem.getD ((P.fst + s) * 320 + j) 0 := by
  rw [sec_is hS hp hs, getD_take _ _ _ hj, getD_drop]
/-- A few bytes of a sector. -/
theorem sec_take {S : Fs} {P : Pt} (hS : S.Ok) (hp : P.Ok S.wear.length) {s : Nat} (hs : s < P.cnt) {n : Nat} (h1 : 1 ≤ n) (hn : n ≤ 320) : aRead S P (s : Int) 0 (n : Int) = (secL S P s).take n := by
  have h1' := hp.in'
  have h2 := hS.len
  rw [sec_is hS hp hs, List.take_take, Nat.min_eq_left hn]
  unfold aRead
  rw [if_pos ⟨⟨by omega, by omega⟩, by omega, by omega, by omega⟩]
  have e : P.place (s : Int) 0 = (((P.fst + s) * 320 : Nat) : Int) := by unfold Pt.place; omega
  rw [e]
  unfold read
  rw [if_pos ⟨by omega, by omega, by omega⟩]
  simp only [Int.toNat_natCast]
theorem ffs_at {j : Nat} (h : j < 320) : ffs.getD j 0 = 255 := by
  unfold ffs
  rw [List.getD_eq_getElem?_getD, List.getElem?_replicate, if_pos h]
  rfl
theorem blank_is {S : Fs} {P : Pt} (hS : S.Ok) (hp : P.Ok S.wear.length) {s : Nat} (hs : s < P.cnt) : aBlank S P (s : Int) = true ↔ secL S P s = ffs := by
  have h1 := hp.in'
  have h2 := hS.len
  unfold aBlank
  rw [if_pos ⟨by omega, by omega⟩]
  unfold blank
  rw [if_pos ⟨by omega, by omega⟩, show ((P.fst : Int) + (s : Int)).toNat = P.fst + s by omega]
  unfold allFF
  rw [List.all_eq_true]
  constructor
  · intro h
    refine list_eq (by rw [sec_len' hS hp hs, ffs_len]) fun j hj => ?_
    rw [sec_len' hS hp hs] at hj
    have := h j (List.mem_range.2 hj)
    rw [sec_at hS hp hs hj, ffs_at hj, Nat.mul_comm]
    simpa using this
  · intro h j hj
    have hj' := List.mem_range.1 hj
    have e := sec_at hS hp hs hj'
    rw [h, ffs_at hj'] at e
    rw [Nat.mul_comm 320, ← e]
    rfl
theorem sg_clear {x : Int} (hx : 0 ≤ x ∧ x ≤ 255) : bits .andNot .u8 x 255 = 0 := by
  rw [u8_andNot x 255 hx.1 (by omega) (by omega) (by omega)]
  simp
theorem work_calm {S : Fs} (h : Calm S) (a : Nat) {b : List Int} (hb : Byt b) : (work S a b).1 = 0 ∧ Calm (work S a b).2 ∧ (work S a b).2.mem = put S.mem a b [] ∧ (work S a b).2.wear = S.wear ∧ (work S a b).2.ops = S.ops + 1 := by
  have h1 := work_ok h.ok a hb
  have h2 := work_wear S a b
  have e : (work S a b).1 = 0 ∧ (work S a b).2.mem = put S.mem a b [] ∧ (work S a b).2.off = S.off ∧ (work S a b).2.cut = none := by
    unfold work
    rw [h.cut]
    exact ⟨rfl, rfl, rfl, rfl⟩
  exact ⟨e.1, ⟨h1, by rw [e.2.2.1, h.off], e.2.2.2⟩, e.2.1, h2.1, h2.2⟩
/-- What lies in a sector behind a row that was laid into it. -/
def over (o zs : List Int) : List Int := zs ++ o.drop zs.length
theorem over_nil (o : List Int) : over o [] = o := rfl
theorem over_len {o zs : List Int} (ho : o.length = 320) (hz : zs.length ≤ 320) : (over o zs).length = 320 := by
  unfold over
  rw [List.length_append, List.length_drop]
  omega
theorem over_at {o zs : List Int} (j : Nat) : (over o zs).getD j 0 = if j < zs.length then zs.getD j 0 else o.getD j 0 := by
  unfold over
  split
  · rename_i h
    exact getD_left _ _ _ h
  · rename_i h
    rw [getD_right _ _ _ (by omega), getD_drop, show zs.length + (j - zs.length) = j by omega]
theorem over_take {o zs : List Int} {n : Nat} (h : n = zs.length) : (over o zs).take n = zs := by
  subst h
  exact List.take_left
/-- What an operation does to its sector, and to the others. -/
theorem put_sec {S R : Fs} {P : Pt} (hS : S.Ok) (hR : R.Ok) (hp : P.Ok S.wear.length) (hl : R.wear.length = S.wear.length) {s : Nat} (hs : s < P.cnt) {b : List Int} (hb : Byt b) (hz : b.length ≤ 320) (hm : R.mem = put S.mem ((P.fst + s) * 320) b []) {t : Nat} (ht : t < P.cnt) :
    secL R P t = if t = s then over (secL S P s) b else secL S P t := by
  have hp' : P.Ok R.wear.length := by rw [hl]; exact hp
  have h1 := hp.in'
  have h2 := hS.len
  have hle : ∀ j, 0 ≤ S.mem.getD j 0 ∧ S.mem.getD j 0 ≤ 255 := byt_at hS.byt
  refine list_eq ?_ fun j hj => ?_
  · rw [sec_len' hR hp' ht]
    split
    · rw [over_len (sec_len' hS hp hs) hz]
    · rw [sec_len' hS hp ht]
  · rw [sec_len' hR hp' ht] at hj
    rw [sec_at hR hp' ht hj, hm, put_at _ _ _ _ _ (by omega)]
    by_cases e : t = s
    · subst e
      rw [if_pos rfl, over_at]
      by_cases hjb : j < b.length
      · rw [if_pos ⟨by omega, by omega⟩, if_pos hjb, mAt_nil, Nat.add_sub_cancel_left, mix_none (hle _) (byt_at hb j)]
      · rw [if_neg (by omega), if_neg hjb, sec_at hS hp ht hj]
    · rw [if_neg e, if_neg (by omega), sec_at hS hp ht hj]
/-- What is laid into a blank sector. -/
theorem lay_sec {S : Fs} {P : Pt} (hc : Calm S) (hp : P.Ok S.wear.length) {s : Nat} (hs : s < P.cnt) (hbl : secL S P s = ffs) {zs : List Int} (hb : Byt zs) (hz : zs.length ≤ 320) :
    (layW S P (s : Int) zs).1 = 0 ∧ Calm (layW S P (s : Int) zs).2 ∧ (layW S P (s : Int) zs).2.wear = S.wear ∧ (∀ t, t < P.cnt → secL (layW S P (s : Int) zs).2 P t = if t = s then over ffs zs else secL S P t) := by
  have hS := hc.ok
  by_cases h0 : zs.length = 0
  · obtain rfl := List.eq_nil_of_length_eq_zero h0
    rw [lay_none rfl]
    refine ⟨rfl, hc, rfl, fun t ht => ?_⟩
    by_cases e : t = s
    · subst e; rw [if_pos rfl, over_nil]; exact hbl
    · rw [if_neg e]
  have h1 := hp.in'
  have h2 := hS.len
  rw [lay_some h0]
  have e : aProg S P (s : Int) 0 zs = work S ((P.fst + s) * 320) zs := by
    unfold aProg
    rw [if_pos ⟨⟨by omega, by omega⟩, by omega, by omega, by omega⟩]
    have e : P.place (s : Int) 0 = (((P.fst + s) * 320 : Nat) : Int) := by unfold Pt.place; omega
    rw [e, prog_ok' hc.off ⟨by omega, by omega⟩ ?_, Int.toNat_natCast]
    rw [Int.toNat_natCast]
    unfold sets setsN
    rw [List.any_eq_false]
    intro i hi
    have hi' := List.mem_range.1 hi
    have q := sec_at hS hp hs (j := i) (by omega)
    rw [hbl, ffs_at (by omega)] at q
    rw [← q, sg_clear (byt_at hb i)]
    decide
  rw [e]
  obtain ⟨w1, w2, w3, w4, w5⟩ := work_calm hc ((P.fst + s) * 320) hb
  refine ⟨w1, w2, w4, fun t ht => ?_⟩
  rw [put_sec hS w2.ok hp (by rw [w4]) hs hb hz w3 ht, hbl]
/-- A sector that is erased. -/
theorem erase_sec {S : Fs} {P : Pt} (hc : Calm S) (hp : P.Ok S.wear.length) {s : Nat} (hs : s < P.cnt) (hl : aLeft S P (s : Int) ≠ 0) :
    (aErase S P (s : Int)).1 = 0 ∧ Calm (aErase S P (s : Int)).2 ∧ (aErase S P (s : Int)).2.wear = S.wear.set (P.fst + s) (S.wear.getD (P.fst + s) 0 + 1) ∧ (∀ t, t < P.cnt → secL (aErase S P (s : Int)).2 P t = if t = s then ffs else secL S P t) := by
  have h1 := hp.in'
  have hS := hc.ok
  have e : aErase S P (s : Int) = work (worn S (P.fst + s)) ((P.fst + s) * 320) ffs := by
    unfold aErase
    rw [if_pos ⟨by omega, by omega⟩, if_neg hl, erase_ok' hc.off ⟨by omega, by omega⟩, show ((P.fst : Int) + (s : Int)).toNat = P.fst + s by omega, Nat.mul_comm]
  rw [e]
  have hw : Calm (worn S (P.fst + s)) := ⟨worn_ok hS _, hc.off, hc.cut⟩
  have hl' : (worn S (P.fst + s)).wear.length = S.wear.length := by simp [worn]
  have hp' : P.Ok (worn S (P.fst + s)).wear.length := by rw [hl']; exact hp
  obtain ⟨w1, w2, w3, w4, w5⟩ := work_calm hw ((P.fst + s) * 320) byt_ffs
  refine ⟨w1, w2, by rw [w4]; rfl, fun t ht => ?_⟩
  rw [put_sec hw.ok w2.ok hp' (by rw [w4]) hs byt_ffs (by rw [ffs_len]; omega) w3 ht]
  have hr : ∀ t, secL (worn S (P.fst + s)) P t = secL S P t := fun _ => rfl
  by_cases et : t = s
  · subst et
    rw [if_pos rfl, if_pos rfl]
    unfold over
    rw [List.drop_eq_nil_of_le (by rw [hr, sec_len' hS hp hs, ffs_len]; omega), List.append_nil]
  · rw [if_neg et, if_neg et, hr]
/-- How often a sector was erased behind a Write. -/
def wearsTo (S : Fs) (P : Pt) (s : Nat) : List Int := if aBlank S P (s : Int) = true then S.wear else S.wear.set (P.fst + s) (S.wear.getD (P.fst + s) 0 + 1)
theorem fill_sec {S : Fs} {P : Pt} (hc : Calm S) (hp : P.Ok S.wear.length) {s : Nat} (hs : s < P.cnt) (hfr : freeS S P (s : Int) = true) {zs : List Int} (hb : Byt zs) (hz : zs.length ≤ 320) :
    (fillW S P (s : Int) zs).1 = 0 ∧ Calm (fillW S P (s : Int) zs).2 ∧ (fillW S P (s : Int) zs).2.wear = wearsTo S P s ∧ (∀ t, t < P.cnt → secL (fillW S P (s : Int) zs).2 P t = if t = s then over ffs zs else secL S P t) := by
  unfold wearsTo
  by_cases hbl : aBlank S P (s : Int) = true
  · rw [fill_blank hbl, if_pos hbl]
    exact lay_sec hc hp hs ((blank_is hc.ok hp hs).1 hbl) hb hz
  · have hb0 : aBlank S P (s : Int) = false := by simpa using hbl
    have hl : aLeft S P (s : Int) ≠ 0 := by
      unfold freeS at hfr
      rw [hb0] at hfr
      have := of_decide_eq_true (by simpa using hfr : decide (0 < aLeft S P (s : Int)) = true)
      omega
    obtain ⟨e1, e2, e3, e4⟩ := erase_sec hc hp hs hl
    rw [if_neg hbl, fill_two hb0 e1]
    have hp' : P.Ok (aErase S P (s : Int)).2.wear.length := by rw [(aErase_wears S P _).1]; exact hp
    obtain ⟨l1, l2, l3, l4⟩ := lay_sec e2 hp' hs (by rw [e4 s hs, if_pos rfl]) hb hz
    refine ⟨l1, l2, by rw [l3, e3], fun t ht => ?_⟩
    rw [l4 t ht]
    by_cases et : t = s
    · rw [if_pos et, if_pos et]
    · rw [if_neg et, if_neg et, e4 t ht, if_neg et]
theorem write_sec {S : Fs} {P : Pt} (hc : Calm S) (hp : P.Ok S.wear.length) {sl k n : Int} {s : Nat} (hat : atI sl k n = (s : Int)) (hs : s < P.cnt) (hfr : freeS S P (s : Int) = true) {zs : List Int} (hb : Byt zs) (hz : zs.length ≤ 320) :
    (writeW S P sl k n zs).1 = 0 ∧ Calm (writeW S P sl k n zs).2 ∧ (writeW S P sl k n zs).2.wear = wearsTo S P s ∧ (∀ t, t < P.cnt → secL (writeW S P sl k n zs).2 P t = if t = s then over ffs zs else secL S P t) := by
  rw [write_does (by rw [hat]; omega) (by rw [hat]; exact hfr), hat]
  exact fill_sec hc hp hs hfr hb hz
theorem sec_fresh {n : Nat} {P : Pt} (hn : n ≤ 400) (hp : P.Ok n) {s : Nat} (hs : s < P.cnt) : secL (fresh n) P s = ffs := by
  have hl : (fresh n).wear.length = n := by simp [fresh]
  have hp' : P.Ok (fresh n).wear.length := by rw [hl]; exact hp
  have h1 := hp.in'
  refine list_eq (by rw [sec_len' (fresh_ok hn) hp' hs, ffs_len]) fun j hj => ?_
  rw [sec_len' (fresh_ok hn) hp' hs] at hj
  rw [sec_at (fresh_ok hn) hp' hs hj, ffs_at hj]
  show (List.replicate (320 * n) 255).getD _ 0 = 255
  rw [List.getD_eq_getElem?_getD, List.getElem?_replicate, if_pos (by omega)]
  rfl
theorem left_is {S : Fs} {P : Pt} (hp : P.Ok S.wear.length) {s : Nat} (hs : s < P.cnt) : aLeft S P (s : Int) = max ((P.bud : Int) - S.wear.getD (P.fst + s) 0) 0 := by
  have h1 := hp.in'
  unfold aLeft
  rw [if_pos ⟨by omega, by omega⟩]
  unfold wearAt
  rw [if_pos ⟨by omega, by omega⟩, show ((P.fst : Int) + (s : Int)).toNat = P.fst + s by omega]
/-- Fewer operations than erases that are left. -/
theorem free_few {S : Fs} {P : Pt} (hp : P.Ok S.wear.length) (hf : Few S) (ho : S.ops < P.bud) {s : Nat} (hs : s < P.cnt) : freeS S P (s : Int) = true := by
  have h1 := hp.in'
  have h2 := hf _ (getD_mem (xs := S.wear) (i := P.fst + s) (by omega))
  unfold freeS
  rw [left_is hp hs, decide_eq_true (by omega), Bool.or_true]
end Go.Proofs.YtklhmneapegfpaaGreatDoor

namespace Go.Proofs.YtklhmneapegfpaaGreatDoor
open Go.RowKit
set_option linter.unusedVariables false
set_option linter.unusedSimpArgs false

/-- A row of bytes as a text. -/
theorem conv_row {w : World} {a : Option Addr} {n c : Nat} {zs : List Int} (h : Row w a n zs) : (convert 34 9 (.slice a n c)).run Tryz.prog w = .ok (.string (strOfNums zs)) w := by
  by_cases hn : 0 < n
  · obtain ⟨b, off, rfl, _, hc⟩ := row_open h hn
    exact run_convert_bytes_arg w 34 5 Tryz.underlying34 Tryz.underlying5 b off n c zs h.1 hc 9 Tryz.underlying9
  · obtain rfl : n = 0 := by omega
    obtain rfl : zs = [] := List.eq_nil_of_length_eq_zero h.1
    cases a with
    | none => exact run_convert_bytes_nil w 34 5 Tryz.underlying34 Tryz.underlying5 0 c 9 Tryz.underlying9
    | some ad =>
      have hl : (loadCells ad 0).run Tryz.prog w = .ok (([] : List Int).map (Value.int .u8)).toArray w := run_loadCells_list (P := Tryz.prog) w ad [] (fun j v hj => by simp at hj)
      rw [run_convert_bytes_string w 34 9 5 _ 0 c Tryz.underlying34 Tryz.underlying5 Tryz.underlying9, run_bytesToString w _ 0 c [] hl]
      rfl
theorem str_same {xs ys : List Int} (hx : Byt xs) (hy : Byt ys) : strOfNums xs = strOfNums ys ↔ xs = ys := by
  constructor
  · intro h
    have h2 : xs.map (fun n => UInt8.ofNat n.toNat) = ys.map (fun n => UInt8.ofNat n.toNat) := by rw [← strOfNums_data, ← strOfNums_data, h]
    have hl : xs.length = ys.length := by simpa using congrArg List.length h2
    refine List.ext_getElem hl fun i h3 h4 => ?_
    have h5 := congrArg (fun l => (l[i]?).map UInt8.toNat) h2
    simp only [List.getElem?_map, List.getElem?_eq_getElem h3, List.getElem?_eq_getElem h4, Option.map_some, Option.some.injEq, UInt8.toNat_ofNat'] at h5
    have b1 := hx _ (List.getElem_mem h3)
    have b2 := hy _ (List.getElem_mem h4)
    omega
  · rintro rfl
    rfl
theorem str_beq {xs ys : List Int} (hx : Byt xs) (hy : Byt ys) : ((strOfNums xs).toList == (strOfNums ys).toList) = decide (xs = ys) := by
  rw [Bool.eq_iff_iff, beq_iff_eq, decide_eq_true_eq, ByteArray.toList_eq, ByteArray.toList_eq, Array.toList_inj]
  exact ⟨fun h => (str_same hx hy).1 (ByteArray.ext h), fun h => by rw [h]⟩
theorem fl_lt {w : World} {T g m k : Nat} {S : Fs} (h : Fl w T g m k S) {b : Nat} (hb : In3 g m k b) : b < w.heap.size := by
  obtain ⟨_, _, _, _, _, a, _⟩ := h
  rcases hb with rfl | rfl | rfl
  · exact a.str.size
  · exact a.mem.size
  · exact a.wear.size
/-- An area of the law's own. -/
structure Rg (w0 w : World) (T x g m k : Nat) (S : Fs) (P : Pt) : Prop where
  ar : Ar w x g P
  fl : Fl w T g m k S
  nin : ¬ In3 g m k x
  hx : w0.heap.size ≤ x
  hg : w0.heap.size ≤ g
  hm : w0.heap.size ≤ m
  hk : w0.heap.size ≤ k
  bel : Below w0.heap.size w0 w
  pok : P.Ok S.wear.length
  few : Few S
theorem Rg.kept {w0 w w' : World} {T x g m k : Nat} {S : Fs} {P : Pt} (h : Rg w0 w T x g m k S P) (b : Below w.heap.size w w') : Rg w0 w' T x g m k S P :=
  ⟨h.ar.kept b, h.fl.kept b, h.nin, h.hx, h.hg, h.hm, h.hk, h.bel.trans (b.mono h.bel.size), h.pok, h.few⟩
theorem Rg.lit {w0 w : World} {T x g m k : Nat} {S : Fs} {P : Pt} (h : Rg w0 w T x g m k S P) (o : Obj) : Rg w0 (w.alloc o) T x g m k S P := h.kept ((Below.refl _ w).alloc (Nat.le_refl _) o)
theorem Rg.drew {w0 w : World} {T x g m k : Nat} {S : Fs} {P : Pt} (h : Rg w0 w T x g m k S P) : Rg w0 w.drew T x g m k S P := h.kept (Below.refl _ w).drew
theorem Rg.to {w0 w w' : World} {T x g m k : Nat} {S S' : Fs} {P : Pt} (h : Rg w0 w T x g m k S P) (t : FlTo T g m k S' w w') (hw : S'.wear.length = S.wear.length) (hf : Few S') : Rg w0 w' T x g m k S' P :=
  ⟨Has.only h.ar t.2 h.nin, t.1, h.nin, h.hx, h.hg, h.hm, h.hk, h.bel.trans (t.2.to_below h.bel.size (by rintro b (rfl | rfl | rfl); exact h.hg; exact h.hm; exact h.hk)), by rw [hw]; exact h.pok, hf⟩
theorem Rg.clear {w0 w : World} {T x g m k : Nat} {S : Fs} {P : Pt} (h : Rg w0 w T x g m k S P) {A : Option Addr} {n : Nat} {zs : List Int} (hr : Row w0 A n zs) : Clear g m k A n := by
  by_cases hn : 0 < n
  · obtain ⟨b, off, rfl, hb, _⟩ := row_open hr hn
    refine .inr ?_
    rintro y hy (e | e | e)
    all_goals (cases hy; simp only [] at e; subst e)
    · have := h.hg; omega
    · have := h.hm; omega
    · have := h.hk; omega
  · exact .inl (by omega)
/-- A row that was made behind the flash. -/
theorem Rg.fresh {w0 w : World} {T x g m k : Nat} {S : Fs} {P : Pt} (h : Rg w0 w T x g m k S P) (b off n : Nat) (hb : w.heap.size ≤ b) : Clear g m k (some ⟨b, off, none⟩) n := by
  refine .inr ?_
  rintro y hy e
  cases hy
  have := fl_lt h.fl e
  simp only [] at this
  omega
/-- What a Write leaves. -/
def WriteTo (w0 : World) (T x g m k : Nat) (S : Fs) (P : Pt) (sl q c : Int) (zs : List Int) (w : World) (e : Ending) (w' : World) : Prop :=
  e = .returned (.int .i64 (writeW S P sl q c zs).1) ∧ Rg w0 w' T x g m k (writeW S P sl q c zs).2 P ∧ Only (In3 g m k) w w'
theorem rg_write {w0 w : World} {T x g m k : Nat} {S : Fs} {P : Pt} (h : Rg w0 w T x g m k S P) (hops : S.ops ≤ 999999) (sl q c : Int) {A : Option Addr} {n : Nat} (z : Nat) {zs : List Int} (hr : Row w A n zs) (hA : Clear g m k A n) :
    Calls Tryz.prog 14 #[.pointer (some ⟨x, 0, none⟩), .int .i64 sl, .int .i64 q, .int .i64 c, .slice A n z] w (WriteTo w0 T x g m k S P sl q c zs w) :=
  (write_any sl q c A n z zs w h.ar h.nin h.fl h.few hops h.pok hr hA).mono fun e w' ⟨he, t⟩ => ⟨he, h.to t (write_wears S P sl q c zs).1 (few_write h.few P sl q c zs), t.2⟩
theorem rg_image {w0 w : World} {T x g m k : Nat} {S : Fs} {P : Pt} (h : Rg w0 w T x g m k S P) (sl n z : Int) (hi : I64 z) : Calls Tryz.prog 21 #[.pointer (some ⟨x, 0, none⟩), .int .i64 sl, .int .i64 n, .int .i64 z] w (GivesO (imgL S P sl n z) w) := image_any sl n z w h.ar h.fl h.pok hi
theorem lnum_any (n : Int) (w : World) : Calls Tryz.prog 13 #[.int .i64 n] w fun e w' => e = .returned (.int .i64 n) ∧ w = w' := by
  go_enter Tryz.func13, Tryz.ntmps13
  go_wp2
  go_ret
  exact ⟨rfl, rfl⟩
theorem rg_len (n : Nat) : (fresh n).wear.length = n := List.length_replicate
theorem sect_of {n : Nat} (h : n ≤ 400) : sect (n : Int) = n := by unfold sect; omega
theorem made_n {n : Nat} {b : Int} (hn : 1 ≤ n) (h : 0 ≤ b ∧ b ≤ 1000) : Pt.made n 0 (n : Int) b = ⟨0, n, b.toNat⟩ := by
  unfold Pt.made
  rw [if_pos ⟨by omega, by omega, by omega⟩, show min (max b 0) 1000 = b by omega, show min (n : Int) ((n : Int) - 0) = (n : Int) by omega]
  rfl
/-- An area of n sectors that is new. -/
theorem rg_made {w0 w1 w2 : World} {g m k x n : Nat} {b : Int} (hn : n ≤ 400) (hb : 0 ≤ b ∧ b ≤ 1000) (hg : w0.heap.size ≤ g) (hm : w0.heap.size ≤ m) (hk : w0.heap.size ≤ k) (f1 : Fl w1 w1.heap.size g m k (fresh n)) (b1 : Below w0.heap.size w0 w1)
    (hx : w1.heap.size ≤ x) (a2 : Ar w2 x g ⟨0, n, b.toNat⟩) (b2 : Below w1.heap.size w1 w2) : Rg w0 w2 w1.heap.size x g m k (fresh n) ⟨0, n, b.toNat⟩ :=
  ⟨a2, f1.kept b2, fun e => by have := fl_lt f1 e; omega, by have := b1.size; omega, hg, hm, hk, b1.trans (b2.mono b1.size), by rw [rg_len]; exact ⟨by simp, by omega, by simp only []; omega⟩, few_fresh n⟩
theorem i64_of {a : Int} (h : -1000000 ≤ a ∧ a ≤ 1000000) : I64 a := ⟨by omega, by omega⟩
theorem row_new (w : World) {x : Int} (hx : 0 ≤ x ∧ x ≤ 255) : Row (w.alloc (.cells #[.int .u8 x] 5)) (some ⟨w.heap.size, 0, none⟩) 1 [x] := row_text w [x] (fun y hy => by simp at hy; omega) 1 rfl (0, 0)
/-- A chunk of an image. -/
def chunkS (b : List Int) (j : Nat) : List Int := (b.drop (320 * j)).take 320
theorem chunk_len (b : List Int) (j : Nat) : (chunkS b j).length = min 320 (b.length - 320 * j) := by unfold chunkS; rw [List.length_take, List.length_drop]
theorem chunk_byt {b : List Int} (h : Byt b) (j : Nat) : Byt (chunkS b j) := byt_take (byt_drop h _) _
/-- An image whose chunks all lie in their sectors. -/
theorem img_put {S : Fs} {P : Pt} (hS : S.Ok) (hp : P.Ok S.wear.length) {sl n : Int} {b : List Int} {base : Nat} : ∀ {k : Nat}, (∀ j : Nat, j < k → 320 * j < b.length ∧ atI sl (j : Int) n = ((base + j : Nat) : Int) ∧ base + j < P.cnt ∧ secL S P (base + j) = over ffs (chunkS b j)) →
    img S P sl n (b.length : Int) k = b.take (320 * k)
  | 0, _ => rfl
  | k + 1, h => by
    have ih := img_put hS hp (k := k) fun j hj => h j (by omega)
    obtain ⟨h1, h2, h3, h4⟩ := h k (by omega)
    have hl := chunk_len b k
    unfold img
    rw [ih, h2]
    obtain ⟨q, hq⟩ : ∃ q : Nat, q = (chunkS b k).length := ⟨_, rfl⟩
    rw [show min ((b.length : Int) - 320 * (k : Int)) 320 = (q : Int) by omega, sec_take hS hp h3 (by omega) (by omega), h4, over_take hq]
    unfold chunkS
    rw [show 320 * (k + 1) = 320 * k + 320 by omega, List.take_add]
/-- All of an image. -/
theorem imgL_put {S : Fs} {P : Pt} (hS : S.Ok) (hp : P.Ok S.wear.length) {sl n : Int} {b : List Int} {base k : Nat} (h0 : 1 ≤ b.length) (hk : k = (b.length - 1) / 320 + 1) (hin : inAt sl 0 n) (hz : (b.length : Int) ≤ n * 320)
    (h : ∀ j : Nat, j < k → atI sl (j : Int) n = ((base + j : Nat) : Int) ∧ base + j < P.cnt ∧ secL S P (base + j) = over ffs (chunkS b j)) : imgL S P sl n (b.length : Int) = b := by
  have hki : ((b.length : Int) - 1) / 320 = ((k - 1 : Nat) : Int) := by omega
  obtain ⟨e1, e2, e3⟩ := h (k - 1) (by omega)
  rw [img_yes ⟨by omega, hin, hz, by rw [hki, e1]; omega⟩, hki, show (((k - 1 : Nat) : Int) + 1).toNat = k by omega, img_put hS hp (fun j hj => ⟨by omega, h j hj⟩), List.take_of_length_le (by omega)]
/-- The rest of a region, under a condition that says more. -/
theorem wpAnyH_strong {P : Program} {md : Region.Mode} {ops : Array Oper} {Q : Exit → Act → World → Prop} {S S' : World → Prop} (hs : ∀ w, S' w → S w) :
    ∀ (fuel : Nat) (listed : Array Bool) (a : Act) (w : World), wpAnyH P md ops Q S' fuel listed a w → wpAnyH P md ops Q S fuel listed a w
  | 0, _, _, _, h => h
  | fuel + 1, _, _, _, h => ⟨h.1, fun i hi => wpOp_mono (fun a' w' h' => ⟨hs w' h'.1, wpAnyH_strong hs fuel _ a' w' h'.2⟩) (h.2 i hi)⟩
end Go.Proofs.YtklhmneapegfpaaGreatDoor

namespace Go.Proofs.YtklhmneapegfpaaGreatDoor
open Go.RowKit
set_option linter.unusedVariables false
set_option linter.unusedSimpArgs false

theorem rchunks_any {n c : Int} (h : 1 ≤ n ∧ n ≤ 100000) (hc : (n - 1) / 320 + 1 = c) (w : World) : Calls Tryz.prog 38 #[.int .i64 n] w fun e w' => e = .returned (.int .i64 c) ∧ w = w' := by
  have d : decide (n < 1) = false := decide_eq_false (by omega)
  have h1 : ¬ n < 1 := by omega
  go_enter Tryz.func38, Tryz.ntmps38
  go_wp2
  go_ret
  exact ⟨ret_int (by first | rfl | omega), rfl⟩
theorem rclen_any {n k c L : Int} (h : 1 ≤ n ∧ n ≤ 100000) (hc : (n - 1) / 320 + 1 = c) (hk : 0 ≤ k ∧ k < c) (hL : min (n - 320 * k) 320 = L) (w : World) : Calls Tryz.prog 40 #[.int .i64 n, .int .i64 k] w fun e w' => e = .returned (.int .i64 L) ∧ w = w' := by
  have HC := Lib.hid (fun w => rchunks_any h hc w)
  have d0 : decide (k < 0) = false := decide_eq_false (by omega)
  have h0 : ¬ k < 0 := by omega
  have d1 : decide (c ≤ k) = false := decide_eq_false (by omega)
  have h1 : ¬ c ≤ k := by omega
  have q1 : IntKind.i64.wrap (c - 1) = c - 1 := by rw [IntKind.wrap_i64]; omega
  by_cases h2 : k < c - 1
  · have e : L = 320 := by omega
    subst e
    have d2 : decide (k < c - 1) = true := decide_eq_true h2
    clear hc hL
    go_enter Tryz.func40, Tryz.ntmps40
    go_wp2_with (go_at_call 38; (with_reducible refine (HC.out _).mono ?_); rintro e w1 ⟨rfl, rfl⟩)
    go_ret
    exact ⟨rfl, rfl⟩
  · have e : L = n - 320 * k := by omega
    have d2 : decide (k < c - 1) = false := decide_eq_false h2
    have q2 : IntKind.i64.wrap (k * 320) = k * 320 := by rw [IntKind.wrap_i64]; omega
    have q3 : IntKind.i64.wrap (n - k * 320) = L := by rw [IntKind.wrap_i64]; omega
    clear hc hL e
    go_enter Tryz.func40, Tryz.ntmps40
    go_wp2_with (go_at_call 38; (with_reducible refine (HC.out _).mono ?_); rintro e w1 ⟨rfl, rfl⟩)
    go_ret
    exact ⟨rfl, rfl⟩
end Go.Proofs.YtklhmneapegfpaaGreatDoor
