/-
  The walk of the law SlotWears: how often a chunk can be written; conditions: none.
-/
import Derived.Test.YtklhmneapegfpaaAl
import Derived.Deep.RegionHeld3
namespace Go.Proofs.Ytklhmneapegfpaa.slotWears
open Go.RowKit
set_option linter.unusedVariables false
set_option linter.unusedSimpArgs false

/-- So many Writes of one byte each are done to sector 5. -/
structure Done (S : Fs) (B j : Nat) : Prop where
  calm : Calm S
  len : S.wear.length = 6
  few : S.ops ≤ 2 * min j (B + 1)
  none : j = 0 → secL S ⟨0, 6, B⟩ 5 = ffs ∧ S.wear.getD 5 0 = 0
  some : 0 < j → secL S ⟨0, 6, B⟩ 5 = over ffs [((min (j - 1) B : Nat) : Int)] ∧ S.wear.getD 5 0 = ((min (j - 1) B : Nat) : Int)
theorem pok {S : Fs} {B : Nat} (hl : S.wear.length = 6) (h : B ≤ 10) : (⟨0, 6, B⟩ : Pt).Ok S.wear.length := by
  rw [hl]; exact ⟨by simp, by omega, by simp only []; omega⟩
theorem first_ne {x : Int} (h : 0 ≤ x ∧ x ≤ 10) : over ffs [x] ≠ ffs := fun e => by
  have := congrArg (fun l => l.getD 0 0) e
  simp only [over_at] at this
  rw [ffs_at (by omega)] at this
  simp at this
  omega
theorem Done.zero {B : Nat} (h : B ≤ 10) : Done (fresh 6) B 0 :=
  ⟨calm_fresh (by omega), rg_len 6, Nat.zero_le _, fun _ => ⟨sec_fresh (by omega) (by have := pok (S := fresh 6) (rg_len 6) h; rw [rg_len] at this; exact this) (show 5 < 6 by omega), rfl⟩, fun h => by omega⟩
theorem Done.free {S : Fs} {B j : Nat} (h : Done S B j) (hB : B ≤ 10) : freeS S ⟨0, 6, B⟩ ((5 : Nat) : Int) = decide (j ≤ B) := by
  have hp := pok h.len hB
  by_cases h0 : j = 0
  · subst h0
    have hb := (blank_is h.calm.ok hp (s := 5) (show 5 < 6 by omega)).2 (h.none rfl).1
    unfold freeS
    rw [hb, Bool.true_or, decide_eq_true (by omega)]
  · obtain ⟨e1, e2⟩ := h.some (by omega)
    have hb : aBlank S ⟨0, 6, B⟩ ((5 : Nat) : Int) = false := by
      cases hb : aBlank S ⟨0, 6, B⟩ ((5 : Nat) : Int) with
      | false => rfl
      | true =>
        have := (blank_is h.calm.ok hp (s := 5) (show 5 < 6 by omega)).1 hb
        rw [e1] at this
        exact absurd this (first_ne (by omega))
    unfold freeS
    rw [hb, left_is hp (show 5 < 6 by omega), show (⟨0, 6, B⟩ : Pt).fst + 5 = 5 from rfl, e2, Bool.false_or]
    by_cases hj : j ≤ B
    · rw [decide_eq_true hj, decide_eq_true]
      simp only []
      omega
    · rw [decide_eq_false hj, decide_eq_false]
      simp only []
      omega
theorem at5 : atI 1 0 1 = ((5 : Nat) : Int) := by decide
theorem Done.step {S : Fs} {B j : Nat} (h : Done S B j) (hB : B ≤ 10) (hj : j ≤ B) : (writeW S ⟨0, 6, B⟩ 1 0 1 [(j : Int)]).1 = 0 ∧ Done (writeW S ⟨0, 6, B⟩ 1 0 1 [(j : Int)]).2 B (j + 1) := by
  have hp := pok h.len hB
  have hw := write_sec h.calm hp at5 (show 5 < 6 by omega) (by rw [h.free hB, decide_eq_true hj]) (byt_x (x := (j : Int)) (by omega)) (by simp)
  have hl := write_wears S ⟨0, 6, B⟩ 1 0 1 [(j : Int)]
  refine ⟨hw.1, hw.2.1, hl.1.trans h.len, ?_, fun e => by omega, fun _ => ⟨?_, ?_⟩⟩
  · have := hl.2; have := h.few; omega
  · rw [hw.2.2.2 5 (show 5 < 6 by omega), if_pos rfl, show min (j + 1 - 1) B = j by omega]
  · rw [hw.2.2.1]
    unfold wearsTo
    have hb := blank_is h.calm.ok hp (s := 5) (show 5 < 6 by omega)
    by_cases h0 : j = 0
    · rw [if_pos (hb.2 (h.none h0).1), (h.none h0).2]
      subst h0
      simp
    · obtain ⟨e1, e2⟩ := h.some (by omega)
      rw [if_neg (fun e => by have := hb.1 e; rw [e1] at this; exact absurd this (first_ne (by omega))), show (⟨0, 6, B⟩ : Pt).fst + 5 = 5 from rfl, getD_set _ _ _ _ (by rw [h.len]; omega), if_pos rfl, e2]
      omega
theorem Done.stop {S : Fs} {B j : Nat} (h : Done S B j) (hB : B ≤ 10) (hj : B < j) (x : Int) : writeW S ⟨0, 6, B⟩ 1 0 1 [x] = (5, S) ∧ Done S B (j + 1) := by
  refine ⟨write_worn (by rw [at5]; simp) (by rw [at5, h.free hB, decide_eq_false (by omega)]), h.calm, h.len, ?_, fun e => by omega, fun _ => ?_⟩
  · have := h.few; omega
  · obtain ⟨e1, e2⟩ := h.some (by omega)
    rw [show min (j + 1 - 1) B = min (j - 1) B by omega]
    exact ⟨e1, e2⟩
theorem Done.image {S : Fs} {B j : Nat} (h : Done S B j) (hB : B ≤ 10) (hj : B < j) : imgL S ⟨0, 6, B⟩ 1 1 1 = [(B : Int)] :=
  imgL_put (b := [(B : Int)]) (base := 5) (k := 1) h.calm.ok (pok h.len hB) (by simp) (by simp) (by decide) (by simp) fun i hi => by
    obtain rfl : i = 0 := by omega
    refine ⟨at5, by show 5 + 0 < 6; omega, ?_⟩
    rw [(h.some (by omega)).1, show min (j - 1) B = B by omega]
    rfl
/-- So many rounds are done. -/
def Turned (w : World) (T x g m k B M : Nat) (i : Value) (wr : World) : Prop := ∃ (j : Nat) (S : Fs), i = .int .i64 (j : Int) ∧ j ≤ B + 1 + M ∧ Rg w wr T x g m k S ⟨0, 6, B⟩ ∧ Done S B j
theorem made_b {B : Nat} (h : B ≤ 1000) : Pt.made 6 0 6 (B : Int) = ⟨0, 6, B⟩ := by
  have := made_n (n := 6) (b := (B : Int)) (by omega) ⟨by omega, by omega⟩
  rw [Int.toNat_natCast] at this
  exact this
set_option maxRecDepth 100000 in
set_option maxHeartbeats 4000000 in
theorem walk (a0 : Int) (a1 : Int) (w0 : (Lit.int .i64 a0).wf = true) (w1 : (Lit.int .i64 a1).wf = true) (w : World) :
    Calls Try.prog 4 #[.int .i64 a0, .int .i64 a1] w fun e w' => e = .returned (.bool true) ∧ Below w.heap.size w w' := by
  have hb0 := bounds_i64 w0
  have hb1 := bounds_i64 w1
  clear w0 w1
  by_cases c0 : a0 < 0
  · clear hb0 hb1
    go_enter Try.func4, Try.ntmps4
    go_wp2_with (go_at_call 6; refine (alive_any _).mono ?_; rintro e w1 ⟨rfl, H1⟩)
    go_ret
    exact ⟨rfl, H1⟩
  by_cases c1 : 10 < a0
  · clear hb0 hb1
    go_enter Try.func4, Try.ntmps4
    go_wp2_with (go_at_call 6; refine (alive_any _).mono ?_; rintro e w1 ⟨rfl, H1⟩)
    go_ret
    exact ⟨rfl, H1⟩
  by_cases c2 : a1 < 1
  · clear hb0 hb1
    go_enter Try.func4, Try.ntmps4
    go_wp2_with (go_at_call 6; refine (alive_any _).mono ?_; rintro e w1 ⟨rfl, H1⟩)
    go_ret
    exact ⟨rfl, H1⟩
  by_cases c3 : 5 < a1
  · clear hb0 hb1
    go_enter Try.func4, Try.ntmps4
    go_wp2_with (go_at_call 6; refine (alive_any _).mono ?_; rintro e w1 ⟨rfl, H1⟩)
    go_ret
    exact ⟨rfl, H1⟩
  clear hb0 hb1
  obtain ⟨B, rfl⟩ := Int.eq_ofNat_of_zero_le (show 0 ≤ a0 by omega)
  obtain ⟨M, rfl⟩ := Int.eq_ofNat_of_zero_le (show 0 ≤ a1 by omega)
  have hB : B ≤ 10 := by omega
  have hM : M ≤ 5 := by omega
  have q1 : IntKind.i64.wrap ((B : Int) + 1) = (B : Int) + 1 := by rw [IntKind.wrap_i64]; omega
  have q3 : IntKind.i64.wrap ((B : Int) + 1 + (M : Int)) = ((B + 1 + M : Nat) : Int) := by rw [IntKind.wrap_i64]; omega
  go_enter Try.func4, Try.ntmps4
  go_wp2_with (first
    | (go_at_call 6; (refine (alive_any _).mono ?_); rintro e u1 ⟨rfl, H1⟩; have hn := Lib.hid (new_any 6 u1))
    | (go_at_call 8; (with_reducible refine hn.out.mono ?_); rintro e u2 ⟨g, m, k, rfl, hg, hm, hk, f2, b2⟩; rw [show sect 6 = 6 from rfl] at f2; have HN := newArea_any 0 0 6 (B : Int) u2 f2 ⟨i64_of (by omega), i64_of (by omega), i64_of (by omega)⟩; rw [rg_len, made_b (by omega)] at HN; unfold capCells at HN)
    | (go_at_call 7; (with_reducible refine HN.mono ?_); rintro e u3 ⟨x, rfl, hx, a3, b3⟩; clear HN; have s1 := H1.size; have R3 := Lib.hid (rg_made (w0 := w) (n := 6) (b := (B : Int)) (by omega) ⟨by omega, by omega⟩ (by omega) (by omega) (by omega) f2 (belowThen H1 b2) hx (by rw [Int.toNat_natCast]; exact a3) b3); rw [Int.toNat_natCast] at R3; clear s1 hg hm hk f2 b2 hx a3 b3 hn H1))
  have HS := Lib.hid (show Turned w u2.heap.size x g m k B M (.int .i64 0) u3 from ⟨0, fresh 6, rfl, by omega, R3.out, Done.zero hB⟩)
  clear R3
  go_loopw [7] (Turned w u2.heap.size x g m k B M) (fun i _ => (B + 1 + M) - (intOf i).toNat)
  case atStart => exact HS.out
  case round =>
    clear HS
    obtain ⟨j, S, rfl, hj, hR, hN⟩ := hrel
    have HR := Lib.hid hR
    have HN := Lib.hid hN
    have hopsS : S.ops ≤ 999000 := by have := hN.few; omega
    have hfr := hN.free hB
    have HMa := Lib.hid (smay_any 1 0 1 wr hR.ar hR.fl hR.few (by omega) hR.pok)
    rw [at5, hfr] at HMa
    clear hR hN hfr
    by_cases hlt : j < B + 1 + M
    · have i1 : (j : Int) < ((B + 1 + M : Nat) : Int) := by omega
      have i2 : IntKind.i64.wrap ((j : Int) + 1) = (j : Int) + 1 := by rw [IntKind.wrap_i64]; omega
      have i3 : IntKind.u8.wrap (j : Int) = (j : Int) := by rw [IntKind.wrap_u8]; omega
      by_cases hq : j ≤ B
      · have i4 : (j : Int) ≤ (B : Int) := by omega
        have h2 := HN.out.step hB hq
        have H2 := Lib.hid h2
        clear h2
        rw [decide_eq_true hq] at HMa
        go_wp2_with (first
          | (go_at_call 14; (with_reducible refine HMa.out.mono ?_); rintro e u3 ⟨rfl, b3⟩; have R1 := Lib.hid (HR.out.kept b3); have HP := Lib.hid (rg_write (R1.out.lit (.cells #[.int .u8 (j : Int)] 5)) (by omega) 1 0 1 1 (row_new u3 (x := (j : Int)) (by omega)) (R1.out.fresh _ 0 1 (Nat.le_refl _))); clear HMa b3)
          | (go_at_call 11; (with_reducible refine HP.out.mono ?_); rintro e u4 ⟨rfl, R4', _⟩; clear HP R1; have R4 := Lib.hid R4'; rw [H2.out.1]; clear R4')
          | (go_at_call 10; (with_reducible refine (lnum_any _ _).mono ?_); rintro e u5 ⟨rfl, rfl⟩))
        go_roundw
        case rel => exact ⟨j + 1, _, by simp, by omega, R4.out, H2.out.2⟩
        case measure => simp only [intOf]; omega
      · have i4 : ¬ (j : Int) ≤ (B : Int) := by omega
        have h2 := HN.out.stop hB (by omega) (j : Int)
        have H2 := Lib.hid h2
        clear h2
        rw [decide_eq_false hq] at HMa
        go_wp2_with (first
          | (go_at_call 14; (with_reducible refine HMa.out.mono ?_); rintro e u3 ⟨rfl, b3⟩; have R1 := Lib.hid (HR.out.kept b3); have HP := Lib.hid (rg_write (R1.out.lit (.cells #[.int .u8 (j : Int)] 5)) (by omega) 1 0 1 1 (row_new u3 (x := (j : Int)) (by omega)) (R1.out.fresh _ 0 1 (Nat.le_refl _))); clear HMa b3)
          | (go_at_call 11; (with_reducible refine HP.out.mono ?_); rintro e u4 ⟨rfl, R4', _⟩; clear HP R1; rw [H2.out.1] at R4' ⊢; have R4 := Lib.hid R4'; clear R4')
          | (go_at_call 10; (with_reducible refine (lnum_any _ _).mono ?_); rintro e u5 ⟨rfl, rfl⟩))
        go_roundw
        case rel => exact ⟨j + 1, S, by simp, by omega, R4.out, H2.out.2⟩
        case measure => simp only [intOf]; omega
    · obtain rfl : j = B + 1 + M := by omega
      have i1 : ¬ ((B + 1 + M : Nat) : Int) < ((B + 1 + M : Nat) : Int) := by omega
      have i3 : IntKind.u8.wrap (B : Int) = (B : Int) := by rw [IntKind.wrap_u8]; omega
      have EI := Lib.hid (HN.out.image hB (by omega))
      clear HMa
      have HI := Lib.hid (fun W (hW : Below wr.heap.size wr W) => rg_image (HR.out.kept hW) 1 1 1 (i64_of (by omega)))
      rw [EI.out] at HI
      have HS0 := Lib.hid (Below.refl wr.drew.heap.size wr.drew)
      go_wp2_with fail
      refine wp_region_held_drew (S := fun W => Below wr.drew.heap.size wr.drew W) (by kernel_rfl) HS0.out ?_
      intro _
      refine wpAnyH_take (i := 0) (v := .pointer (some ⟨x, 0, none⟩)) rfl (by kernel_rfl) (by kernel_rfl) (by kernel_rfl) (fun _ _ _ h => h) (Or.inl ⟨by rfl, (fun W _ => by go_simp)⟩) HS0.out ?_
      simp only [List.getElem_toArray, List.getElem_cons_succ, List.getElem_cons_zero, Act.put, List.setIfInBounds_toArray, List.set_cons_zero, List.set_cons_succ]
      refine wpAnyH_take (i := 3) (v := .int .i64 (B : Int)) rfl (by kernel_rfl) (by kernel_rfl) (by kernel_rfl) (fun _ _ _ h => h) (Or.inl ⟨by rfl, (fun W _ => by go_simp)⟩) HS0.out ?_
      simp only [List.getElem_toArray, List.getElem_cons_succ, List.getElem_cons_zero, Act.put, List.setIfInBounds_toArray, List.set_cons_zero, List.set_cons_succ]
      refine wpAnyH_take (i := 4) (v := .int .u8 (B : Int)) rfl (by kernel_rfl) (by kernel_rfl) (by kernel_rfl) (fun _ _ _ h => h) (Or.inl ⟨by rfl, (fun W _ => by go_simp)⟩) HS0.out ?_
      simp only [List.getElem_toArray, List.getElem_cons_succ, List.getElem_cons_zero, Act.put, List.setIfInBounds_toArray, List.set_cons_zero, List.set_cons_succ]
      refine wpAnyH_ready (rs := [1, 5]) (by kernel_rfl) (by simp) ?_
      refine AllReadyH.cons rfl (fun K hK => ?_) (AllReadyH.cons rfl (fun K hK => ?_) AllReadyH.nil)
      · go_simp
        refine (HI.out _ (Below.refl _ wr).drew).mono ?_
        rintro e w7 ⟨v7, rfl, o7, b7⟩
        obtain ⟨A7, c7, rfl, _, r7, _⟩ := o7.form
        have HV7 := Lib.hid (fun W (hW : Below w7.heap.size w7 W) => conv_row (n := 1) (c := c7) (row_below hW r7))
        have HB7 := Lib.hid b7
        have HS7 := Lib.hid (Below.refl w7.heap.size w7)
        have HE7 := Lib.hid ((HR.out.kept (Below.refl _ wr).drew).kept b7)
        refine hK.out _ _ HB7.out (fun _ => ?_)
        clear hK K b7 r7 o7
        refine wpAnyH_strong (S' := fun W => Below w7.heap.size w7 W) (fun W h => HB7.out.trans (h.mono HB7.out.size)) _ _ _ _ ?_
        refine wpAnyH_take (i := 2) (v := .string (strOfNums [(B : Int)])) rfl (by kernel_rfl) (by kernel_rfl) (by kernel_rfl) (fun _ _ _ h => h) (Or.inl ⟨by rfl, (fun W hW => by have q9 := HV7.out W hW; go_simp)⟩) HS7.out ?_
        simp only [List.getElem_toArray, List.getElem_cons_succ, List.getElem_cons_zero, Act.put, List.setIfInBounds_toArray, List.set_cons_zero, List.set_cons_succ]
        refine wpAnyH_ready (rs := [5]) (by kernel_rfl) (by simp) ?_
        refine AllReadyH.cons rfl (fun K hK => ?_) AllReadyH.nil
        go_simp
        have HS9 := Lib.hid (Below.refl (w7.alloc (.cells #[.int .u8 (B : Int)] 5)).heap.size (w7.alloc (.cells #[.int .u8 (B : Int)] 5)))
        have HV9 := Lib.hid (fun W (hW : Below (w7.alloc (.cells #[.int .u8 (B : Int)] 5)).heap.size (w7.alloc (.cells #[.int .u8 (B : Int)] 5)) W) => conv_row (n := 1) (c := 1) (row_below hW (row_new w7 (x := (B : Int)) (by omega))))
        have HE := Lib.hid ((HE7.out.lit (.cells #[.int .u8 (B : Int)] 5)).bel)
        have HA9 := Lib.hid ((Below.refl w7.heap.size w7).alloc (Nat.le_refl _) (.cells #[.int .u8 (B : Int)] 5))
        refine hK.out _ _ HA9.out (fun _ => ?_)
        clear hK K
        refine wpAnyH_strong (S' := fun W => Below (w7.alloc (.cells #[.int .u8 (B : Int)] 5)).heap.size (w7.alloc (.cells #[.int .u8 (B : Int)] 5)) W) (fun W h => HA9.out.trans (h.mono HA9.out.size)) _ _ _ _ ?_
        refine wpAnyH_take (i := 6) (v := .string (strOfNums [(B : Int)])) rfl (by kernel_rfl) (by kernel_rfl) (by kernel_rfl) (fun _ _ _ h => h) (Or.inl ⟨by rfl, (fun W hW => by have q9 := HV9.out W hW; go_simp)⟩) HS9.out ?_
        simp only [List.getElem_toArray, List.getElem_cons_succ, List.getElem_cons_zero, Act.put, List.setIfInBounds_toArray, List.set_cons_zero, List.set_cons_succ]
        refine wpAnyH_take (i := 7) (v := .bool true) rfl (by kernel_rfl) (by kernel_rfl) (by kernel_rfl) (fun _ _ _ h => h) (Or.inl ⟨by rfl, (fun W _ => by go_simp)⟩) HS9.out ?_
        simp only [List.getElem_toArray, List.getElem_cons_succ, List.getElem_cons_zero, Act.put, List.setIfInBounds_toArray, List.set_cons_zero, List.set_cons_succ]
        refine wpAnyH_take (i := 8) (v := .bool true) rfl (by kernel_rfl) (by kernel_rfl) (by kernel_rfl) (fun _ _ _ h => h) (Or.inl ⟨by rfl, (fun W _ => by go_simp)⟩) HS9.out ?_
        simp only [List.getElem_toArray, List.getElem_cons_succ, List.getElem_cons_zero, Act.put, List.setIfInBounds_toArray, List.set_cons_zero, List.set_cons_succ]
        refine wpAnyH_done (by kernel_rfl) ?_ _
        go_wp2
        go_ret
        exact ⟨rfl, HE.out⟩
      · go_simp
        have HW0 := Lib.hid (show Below wr.heap.size wr (wr.alloc (.cells #[.int .u8 (B : Int)] 5)).drew from ((Below.refl _ wr).alloc (Nat.le_refl _) _).drew)
        have HS5 := Lib.hid (Below.refl (wr.alloc (.cells #[.int .u8 (B : Int)] 5)).drew.heap.size (wr.alloc (.cells #[.int .u8 (B : Int)] 5)).drew)
        have HV9 := Lib.hid (fun W (hW : Below (wr.alloc (.cells #[.int .u8 (B : Int)] 5)).drew.heap.size (wr.alloc (.cells #[.int .u8 (B : Int)] 5)).drew W) => conv_row (n := 1) (c := 1) (row_below (w := (wr.alloc (.cells #[.int .u8 (B : Int)] 5)).drew) hW (row_new wr (x := (B : Int)) (by omega))))
        have HW1 := Lib.hid (show Below wr.drew.heap.size wr.drew (wr.alloc (.cells #[.int .u8 (B : Int)] 5)).drew from (Below.refl wr.drew.heap.size wr.drew).alloc (Nat.le_refl _) (.cells #[.int .u8 (B : Int)] 5))
        refine hK.out _ _ HW1.out (fun _ => ?_)
        clear hK K
        refine wpAnyH_strong (S' := fun W => Below (wr.alloc (.cells #[.int .u8 (B : Int)] 5)).drew.heap.size (wr.alloc (.cells #[.int .u8 (B : Int)] 5)).drew W) (fun W h => HW1.out.trans (h.mono HW1.out.size)) _ _ _ _ ?_
        refine wpAnyH_take (i := 6) (v := .string (strOfNums [(B : Int)])) rfl (by kernel_rfl) (by kernel_rfl) (by kernel_rfl) (fun _ _ _ h => h) (Or.inl ⟨by rfl, (fun W hW => by have q9 := HV9.out W hW; go_simp)⟩) HS5.out ?_
        simp only [List.getElem_toArray, List.getElem_cons_succ, List.getElem_cons_zero, Act.put, List.setIfInBounds_toArray, List.set_cons_zero, List.set_cons_succ]
        refine wpAnyH_ready (rs := [1]) (by kernel_rfl) (by simp) ?_
        refine AllReadyH.cons rfl (fun K hK => ?_) AllReadyH.nil
        go_simp
        refine (HI.out _ HW0.out).mono ?_
        rintro e w7 ⟨v7, rfl, o7, b7⟩
        obtain ⟨A7, c7, rfl, _, r7, _⟩ := o7.form
        have HV7 := Lib.hid (fun W (hW : Below w7.heap.size w7 W) => conv_row (n := 1) (c := c7) (row_below hW r7))
        have HS9 := Lib.hid (Below.refl w7.heap.size w7)
        have HB7 := Lib.hid (HW0.out.trans (b7.mono HW0.out.size))
        have HE := Lib.hid ((HR.out.kept HB7.out).bel)
        have HC7 := Lib.hid b7
        refine hK.out _ _ HC7.out (fun _ => ?_)
        clear hK K b7 r7 o7
        refine wpAnyH_strong (S' := fun W => Below w7.heap.size w7 W) (fun W h => HC7.out.trans (h.mono HC7.out.size)) _ _ _ _ ?_
        refine wpAnyH_take (i := 2) (v := .string (strOfNums [(B : Int)])) rfl (by kernel_rfl) (by kernel_rfl) (by kernel_rfl) (fun _ _ _ h => h) (Or.inl ⟨by rfl, (fun W hW => by have q9 := HV7.out W hW; go_simp)⟩) HS9.out ?_
        simp only [List.getElem_toArray, List.getElem_cons_succ, List.getElem_cons_zero, Act.put, List.setIfInBounds_toArray, List.set_cons_zero, List.set_cons_succ]
        refine wpAnyH_take (i := 7) (v := .bool true) rfl (by kernel_rfl) (by kernel_rfl) (by kernel_rfl) (fun _ _ _ h => h) (Or.inl ⟨by rfl, (fun W _ => by go_simp)⟩) HS9.out ?_
        simp only [List.getElem_toArray, List.getElem_cons_succ, List.getElem_cons_zero, Act.put, List.setIfInBounds_toArray, List.set_cons_zero, List.set_cons_succ]
        refine wpAnyH_take (i := 8) (v := .bool true) rfl (by kernel_rfl) (by kernel_rfl) (by kernel_rfl) (fun _ _ _ h => h) (Or.inl ⟨by rfl, (fun W _ => by go_simp)⟩) HS9.out ?_
        simp only [List.getElem_toArray, List.getElem_cons_succ, List.getElem_cons_zero, Act.put, List.setIfInBounds_toArray, List.set_cons_zero, List.set_cons_succ]
        refine wpAnyH_done (by kernel_rfl) ?_ _
        go_wp2
        go_ret
        exact ⟨rfl, HE.out⟩
end Go.Proofs.Ytklhmneapegfpaa.slotWears
