/-
  The call Image of package slot; conditions: the area and its flash are there.
-/
import Derived.Test.YtklhmneapegfpaaSc
namespace Go.Proofs.Ytklhmneapegfpaa
open Go.RowKit
set_option linter.unusedVariables false
set_option linter.unusedSimpArgs false

/-- So many chunks are read. -/
def Imaged (w : World) (S : Fs) (P : Pt) (sl n z : Int) (v9 v10 : Value) (wr : World) : Prop :=
  ∃ (k L : Nat), v10 = .int .i64 (k : Int) ∧ Own wr w.heap.size v9 L (img S P sl n z k) ∧ (L : Int) = min (320 * (k : Int)) (max z 0) ∧ (∀ j : Nat, j < k → 320 * (j : Int) < z ∧ P.has (atI sl (j : Int) n)) ∧ Below w.heap.size w wr
theorem has_six {P : Pt} {sl n k : Int} (h : P.has (atI sl k n)) : 0 ≤ k ∧ k ≤ 5 := by
  by_cases hi : inAt sl k n
  · have := hi.2.1; have := hi.2.2; omega
  · rw [at_no hi] at h; have := h.1; omega
theorem img_end {S : Fs} {P : Pt} {sl n z : Int} {k : Nat} (hz : ¬ 320 * (k : Int) < z) (h : ∀ j : Nat, j < k → 320 * (j : Int) < z ∧ P.has (atI sl (j : Int) n)) : imgL S P sl n z = img S P sl n z k := by
  cases k with
  | zero => rw [img_no (fun h => by have := h.1; omega)]; rfl
  | succ q =>
    obtain ⟨h1, h2⟩ := h q (by omega)
    rw [img_yes (img_in h1 (by omega) h2), show ((z - 1) / 320 + 1).toNat = q + 1 by omega]
set_option maxRecDepth 100000 in
set_option maxHeartbeats 2000000 in
theorem image_any {T x g m k : Nat} {S : Fs} {P : Pt} (sl n z : Int) (w : World) (ha : Ar w x g P) (hf : Fl w T g m k S) (hp : P.Ok S.wear.length) (hi : I64 z) :
    Calls Try.prog 13 #[.pointer (some ⟨x, 0, none⟩), .int .i64 sl, .int .i64 n, .int .i64 z] w (GivesO (imgL S P sl n z) w) := by
  have HA := Lib.hid ha
  have HF := Lib.hid hf
  have HP := Lib.hid hp
  have HI := Lib.hid hi
  have HOK := Lib.hid hf.ok
  clear ha hf hp hi
  go_enter Try.func13, Try.ntmps13
  go_wp2
  have hst : Imaged w S P sl n z (.slice none 0 0) (.int .i64 0) w := ⟨0, 0, rfl, own_nil w _, by omega, fun j hj => by omega, Below.refl _ w⟩
  go_loopw [9, 10] (fun v9 v10 wr => Imaged w S P sl n z v9 v10 wr) (fun _ v10 _ => 7 - (intOf v10).toNat)
  case atStart => exact hst
  case round =>
    clear hst
    obtain ⟨q, L, rfl, ho, hL, hall, hB⟩ := hrel
    obtain ⟨A, c, rfl, hc, hr, _⟩ := ho.form
    have HO := Lib.hid ho
    have HB := Lib.hid hB
    have HALL := Lib.hid hall
    have hq6 : q ≤ 6 := by
      cases q with
      | zero => omega
      | succ q => have := has_six (hall q (by omega)).2; omega
    clear ho hr hB hall
    by_cases hlt : (L : Int) < z
    · have hLq : L = 320 * q := by omega
      subst hLq
      have hLL := Lib.hid hL
      clear hL
      by_cases hcut : z - 320 * (q : Int) ≤ 320
      · have hcut2 : ¬ 320 < z - 320 * (q : Int) := by omega
        have q1 : IntKind.i64.wrap (z - 320 * (q : Int)) = z - 320 * (q : Int) := by rw [IntKind.wrap_i64]; have := HI.out.1; have := HI.out.2; omega
        have q2 : IntKind.i64.wrap ((q : Int) + 1) = ((q + 1 : Nat) : Int) := by rw [IntKind.wrap_i64]; omega
        have hFr := Lib.hid (from_any sl (q : Int) n wr)
        have hRd := Lib.hid (aread_any (atI sl (q : Int) n) 0 (z - 320 * (q : Int)) wr (HA.out.kept HB.out) (HF.out.kept HB.out) HP.out ⟨by omega, by omega⟩ ⟨by omega, by omega⟩)
        by_cases hh : P.has (atI sl (q : Int) n)
        · have hlen : (aRead S P (atI sl (q : Int) n) 0 (z - 320 * (q : Int))).length = (z - 320 * (q : Int)).toNat := aread_len HOK.out HP.out ⟨hh, by omega, by omega, by omega⟩
          have HE1 := Lib.hid (show img S P sl n z (q + 1) = img S P sl n z q ++ aRead S P (atI sl (q : Int) n) 0 (z - 320 * (q : Int)) by
            show img S P sl n z q ++ aRead S P (atI sl (q : Int) n) 0 (min (z - 320 * (q : Int)) 320) = _
            rw [show min (z - 320 * (q : Int)) 320 = (z - 320 * (q : Int)) by omega])
          have i0 : ¬ (((z - 320 * (q : Int)).toNat : Nat) : Int) = 0 := by omega
          have b0 : ((((z - 320 * (q : Int)).toNat : Nat) : Int) == 0) = false := by simpa using i0
          go_wp2_with (first
            | (go_at_call 15; (with_reducible refine hFr.out.mono ?_); rintro e w1 ⟨rfl, rfl⟩)
            | (go_at_call 20; (with_reducible refine hRd.out.mono ?_); rintro e w2 ⟨A2, c2, rfl, hc2, hr2, _, b2⟩; rw [hlen] at hr2 hc2 ⊢; have HO2 := Lib.hid (HO.out.kept b2); have HB2 := Lib.hid (HB.out.trans (b2.mono HB.out.size)); have HR2 := Lib.hid hr2; clear hr2 b2 hRd hFr)
            | (at_builtin; refine wpList_app rfl _ _ rfl w.heap.size _ _ _ rfl HO2.out _ _ _ _ rfl HR2.out (row_none HR2.out) (by omega) HB2.out.size ?_; intro v3 w3 o3 g3; have HO3 := Lib.hid o3; have HB3 := Lib.hid (below_own HB2.out HO2.out g3 (Nat.le_refl _) HB2.out.size); clear o3 g3))
          go_roundw
          case rel => exact ⟨q + 1, 320 * q + (z - 320 * (q : Int)).toNat, by simp, by rw [HE1.out]; exact HO3.out, by omega, fun j hj => by
              by_cases e : j = q
              · subst e; exact ⟨by omega, hh⟩
              · exact HALL.out j (by omega), HB3.out⟩
          case measure => simp only [intOf]; omega
        · have hnil : aRead S P (atI sl (q : Int) n) 0 (z - 320 * (q : Int)) = [] := aread_no hh
          have HE1 := Lib.hid (show imgL S P sl n z = [] from img_no (img_out (by omega) hh))
          rw [hnil] at hRd
          go_wp2_with (first
            | (go_at_call 15; (with_reducible refine hFr.out.mono ?_); rintro e w1 ⟨rfl, rfl⟩)
            | (go_at_call 20; (with_reducible refine hRd.out.mono ?_); rintro e w2 ⟨A2, c2, rfl, hc2, hr2, _, b2⟩; have HB2 := Lib.hid (HB.out.trans (b2.mono HB.out.size)); clear hr2 b2 hRd hFr))
          go_ret
          rw [HE1.out]
          exact ⟨_, rfl, own_nil _ _, HB2.out⟩
      · have hcut2 : 320 < z - 320 * (q : Int) := by omega
        have q1 : IntKind.i64.wrap (z - 320 * (q : Int)) = z - 320 * (q : Int) := by rw [IntKind.wrap_i64]; have := HI.out.1; have := HI.out.2; omega
        have q2 : IntKind.i64.wrap ((q : Int) + 1) = ((q + 1 : Nat) : Int) := by rw [IntKind.wrap_i64]; omega
        have hFr := Lib.hid (from_any sl (q : Int) n wr)
        have hRd := Lib.hid (aread_any (atI sl (q : Int) n) 0 320 wr (HA.out.kept HB.out) (HF.out.kept HB.out) HP.out ⟨by omega, by omega⟩ ⟨by omega, by omega⟩)
        by_cases hh : P.has (atI sl (q : Int) n)
        · have hlen : (aRead S P (atI sl (q : Int) n) 0 320).length = (320 : Int).toNat := aread_len HOK.out HP.out ⟨hh, by omega, by omega, by omega⟩
          have HE1 := Lib.hid (show img S P sl n z (q + 1) = img S P sl n z q ++ aRead S P (atI sl (q : Int) n) 0 320 by
            show img S P sl n z q ++ aRead S P (atI sl (q : Int) n) 0 (min (z - 320 * (q : Int)) 320) = _
            rw [show min (z - 320 * (q : Int)) 320 = 320 by omega])
          have i0 : ¬ (((320 : Int).toNat : Nat) : Int) = 0 := by omega
          have b0 : ((((320 : Int).toNat : Nat) : Int) == 0) = false := by decide
          go_wp2_with (first
            | (go_at_call 15; (with_reducible refine hFr.out.mono ?_); rintro e w1 ⟨rfl, rfl⟩)
            | (go_at_call 20; (with_reducible refine hRd.out.mono ?_); rintro e w2 ⟨A2, c2, rfl, hc2, hr2, _, b2⟩; rw [hlen] at hr2 hc2 ⊢; have HO2 := Lib.hid (HO.out.kept b2); have HB2 := Lib.hid (HB.out.trans (b2.mono HB.out.size)); have HR2 := Lib.hid hr2; clear hr2 b2 hRd hFr)
            | (at_builtin; refine wpList_app rfl _ _ rfl w.heap.size _ _ _ rfl HO2.out _ _ _ _ rfl HR2.out (row_none HR2.out) (by omega) HB2.out.size ?_; intro v3 w3 o3 g3; have HO3 := Lib.hid o3; have HB3 := Lib.hid (below_own HB2.out HO2.out g3 (Nat.le_refl _) HB2.out.size); clear o3 g3))
          go_roundw
          case rel => exact ⟨q + 1, 320 * q + (320 : Int).toNat, by simp, by rw [HE1.out]; exact HO3.out, by omega, fun j hj => by
              by_cases e : j = q
              · subst e; exact ⟨by omega, hh⟩
              · exact HALL.out j (by omega), HB3.out⟩
          case measure => simp only [intOf]; omega
        · have hnil : aRead S P (atI sl (q : Int) n) 0 320 = [] := aread_no hh
          have HE1 := Lib.hid (show imgL S P sl n z = [] from img_no (img_out (by omega) hh))
          rw [hnil] at hRd
          go_wp2_with (first
            | (go_at_call 15; (with_reducible refine hFr.out.mono ?_); rintro e w1 ⟨rfl, rfl⟩)
            | (go_at_call 20; (with_reducible refine hRd.out.mono ?_); rintro e w2 ⟨A2, c2, rfl, hc2, hr2, _, b2⟩; have HB2 := Lib.hid (HB.out.trans (b2.mono HB.out.size)); clear hr2 b2 hRd hFr))
          go_ret
          rw [HE1.out]
          exact ⟨_, rfl, own_nil _ _, HB2.out⟩
    · have hnz : ¬ 320 * (q : Int) < z := by omega
      have HE1 := Lib.hid (img_end (S := S) hnz HALL.out)
      have hLL := Lib.hid hL
      clear hL
      go_wp2
      go_ret
      rw [HE1.out]
      exact ⟨_, rfl, by rw [HO.out.len]; exact HO.out, HB.out⟩
end Go.Proofs.Ytklhmneapegfpaa
