/-
  What is proved: for all numbers the law AreaSector answers true: nothing is written over a sector's end, and nothing read (1 to 400 bytes; others the law lets by). Conditions: none.
-/
import Derived.Test.YtgignmjojlolfaaLive
import Derived.Test.YtgignmjojlolfaaRows
import Derived.WalkKit
import Derived.ProofKit
import Derived.OpenShut
import Derived.ShutString
namespace Go.Proofs.Ytgignmjojlolfaa.areaSector
open Go.ChangeShapes Go.WideShapes Go.ChangeAt Go.RowKit
open Go.ChangeMaps (open_string shut_string)
set_option linter.unusedVariables false      -- a walk need not use every 'w<i>' (that an integer argument fits its kind)

theorem own : ownKnob Try.prog.godebug = none := by kernel_rfl

theorem sect5 : sect 5 = 5 := rfl
theorem made5 : Pt.made 5 1 3 2 = ⟨1, 3, 2⟩ := rfl
theorem sector_in {s a : Int} {n : Nat} (h1 : 1 ≤ n) (h : Pt.in ⟨1, 3, 2⟩ s a n) : (aProg (fresh 5) ⟨1, 3, 2⟩ s a (List.replicate n 0)).1 = 0 ∧ (aRead (aProg (fresh 5) ⟨1, 3, 2⟩ s a (List.replicate n 0)).2 ⟨1, 3, 2⟩ s a n).length = n := by
  have h' := h
  obtain ⟨⟨hs0, hs3⟩, ha0, hn0, hna⟩ := h
  simp only [] at hs3
  obtain ⟨p, hp⟩ := Int.eq_ofNat_of_zero_le (show 0 ≤ Pt.place ⟨1, 3, 2⟩ s a by unfold Pt.place; simp only []; omega)
  have hle : p + n ≤ 320 * 5 := by unfold Pt.place at hp; simp only [] at hp; omega
  have e : aProg (fresh 5) ⟨1, 3, 2⟩ s a (List.replicate n 0) = prog (fresh 5) p (List.replicate n 0) := by unfold aProg; rw [List.length_replicate, if_pos h', hp]
  obtain ⟨b1, b2, b3⟩ := bounds_in (n := 5) h1 hle
  rw [e]
  refine ⟨b1, ?_⟩
  unfold aRead
  rw [if_pos h', hp]
  exact b3
theorem sector_out {s a : Int} {n : Nat} (h : ¬ Pt.in ⟨1, 3, 2⟩ s a n) : aProg (fresh 5) ⟨1, 3, 2⟩ s a (List.replicate n 0) = (2, fresh 5) ∧ aRead (fresh 5) ⟨1, 3, 2⟩ s a n = [] := by
  unfold aProg aRead
  rw [List.length_replicate, if_neg h, if_neg h]
  exact ⟨rfl, rfl⟩
set_option maxRecDepth 100000 in
set_option maxHeartbeats 1000000 in
theorem walk (a0 : Int) (a1 : Int) (a2 : Int) (w0 : (Lit.int .i64 a0).wf = true) (w1 : (Lit.int .i64 a1).wf = true) (w2 : (Lit.int .i64 a2).wf = true) (w : World) :
    Calls Try.prog 4 #[.int .i64 a0, .int .i64 a1, .int .i64 a2] w fun e w' => e = .returned (.bool true) ∧ Below w.heap.size w w' := by
  have hat : I64 a1 := by have := bounds_i64 w1; exact ⟨by omega, by omega⟩
  have hsz := bounds_i64 w2
  clear w0 w1 w2
  by_cases h2 : a2 < 1
  · have d2 : decide (a2 < 1) = true := by simpa using h2
    go_enter Try.func4, Try.ntmps4
    go_wp2_with (go_at_call 5; refine (alive_any _).mono ?_; rintro e w1 ⟨rfl, H1⟩)
    go_ret
    exact ⟨rfl, H1⟩
  have d2 : decide (a2 < 1) = false := by simpa using h2
  by_cases h3 : 400 < a2
  · have d3 : decide (400 < a2) = true := by simpa using h3
    go_enter Try.func4, Try.ntmps4
    go_wp2_with (go_at_call 5; refine (alive_any _).mono ?_; rintro e w1 ⟨rfl, H1⟩)
    go_ret
    exact ⟨rfl, H1⟩
  have d3 : decide (400 < a2) = false := by simpa using h3
  obtain ⟨sz, rfl⟩ := Int.eq_ofNat_of_zero_le (show 0 ≤ a2 by omega)
  have hs1 : 1 ≤ sz := by omega
  have hs7 : sz ≤ 400 := by omega
  have s0 : (0 : Int) ≤ (sz : Int) := by omega
  have HAT := Lib.hid hat
  clear hsz
  by_cases hin : Pt.in ⟨1, 3, 2⟩ a0 a1 sz
  · obtain ⟨e1, e2⟩ := sector_in hs1 hin
    have E1 := Lib.hid e1
    have E2 := Lib.hid e2
    obtain ⟨⟨i0, i1⟩, i2, _, i3⟩ := hin
    simp only [] at i1
    have i1 : a0 < 3 := i1
    have i4 : a1 ≤ 320 := by omega
    have q : IntKind.i64.wrap (320 - a1) = 320 - a1 := by rw [IntKind.wrap_i64]; omega
    have j3 : decide ((sz : Int) ≤ 320 - a1) = true := by simpa using i3
    clear e1 e2 hat
    go_enter Try.func4, Try.ntmps4
    go_wp2_with (first
      | (go_at_call 5; refine (alive_any _).mono ?_; rintro e w1 ⟨rfl, H1⟩; have hn := Lib.hid (new_any 5 w1))
      | (go_at_call 6; (with_reducible refine hn.out.mono ?_); rintro e w2 ⟨g, m, k, rfl, hg, hm, hk, f2, b2⟩; rw [sect5] at f2; have HN := newArea_any 0 1 3 2 w2 f2 ⟨i64_small (by omega), i64_small (by omega), i64_small (by omega)⟩; rw [fresh_wear, made5] at HN; unfold capCells at HN)
      | (go_at_call 7; (with_reducible refine HN.mono ?_); rintro e w3 ⟨x, rfl, hx, a3, b3⟩; clear HN; have NI := Lib.hid (not_in f2 hx); have A3 := Lib.hid a3; have F3 := Lib.hid (f2.kept b3); have B3 := Lib.hid (b2.trans (b3.mono b2.size)); have hmk := make_bytes sz (by omega) w3; clear a3 f2 b2 b3; have PR := Lib.hid (aprogram_any a0 a1 (some ⟨w3.heap.size, 0, none⟩) sz sz (List.replicate sz 0) (w3.alloc (.cells (zeroBytes sz) 5)) (A3.out.kept ((Below.refl _ w3).alloc (Nat.le_refl _) _)) (F3.out.lit _) (by rw [fresh_wear]; exact ⟨by decide, by decide, by decide⟩) HAT.out (row_text w3 (List.replicate sz 0) (byt_same _ _ (by omega)) sz List.length_replicate (0, 0)) (F3.out.away (Nat.le_refl _)) (by simp [fresh])))
      | (go_at_call 12; (with_reducible refine PR.out.mono ?_); rintro e w5 ⟨rfl, f5, o5⟩; have F5 := Lib.hid f5; have A5 := Lib.hid ((A3.out.kept ((Below.refl _ w3).alloc (Nat.le_refl _) _)).only o5 NI.out); have B5 := Lib.hid (below_to (below_lit B3.out _) hg hm hk o5); clear f5 o5 PR hmk; rw [E1.out])
      | (go_at_call 13; (with_reducible refine (aread_any a0 a1 sz _ A5.out F5.out (by rw [(aProg_wears _ _ _ _ _).1, fresh_wear]; exact ⟨by decide, by decide, by decide⟩) HAT.out (i64_small (by omega))).mono ?_); rintro e w6 ⟨A6, c6, rfl, hc6, r6, hb6, b6⟩; have B6 := Lib.hid (B5.out.trans (b6.mono B5.out.size)); clear b6 hb6; rw [E2.out])
      | (go_at_call 9; (with_reducible refine (num_any _ _).mono ?_); rintro e w7 ⟨rfl, rfl⟩))
    go_ret
    exact ⟨rfl, H1.trans (B6.out.mono H1.size)⟩
  · obtain ⟨e1, e2⟩ := sector_out hin
    have E1 := Lib.hid e1
    have E2 := Lib.hid e2
    have z0 : ¬ sz = 0 := by omega
    have z1 : ¬ 0 = sz := by omega
    have z2 : ((0 : Int) == (sz : Int)) = false := by simpa using (show ¬ (0 : Int) = (sz : Int) by omega)
    clear e1 e2
    by_cases i0 : 0 ≤ a0
    · by_cases i1 : a0 < 3
      · by_cases i2 : 0 ≤ a1
        · by_cases i4 : a1 ≤ 320
          · have i3 : ¬ (sz : Int) ≤ 320 - a1 := fun i3 => hin ⟨⟨i0, i1⟩, i2, by omega, i3⟩
            have q : IntKind.i64.wrap (320 - a1) = 320 - a1 := by rw [IntKind.wrap_i64]; omega
            have j3 : decide ((sz : Int) ≤ 320 - a1) = false := by simpa using i3
            clear hin hat
            go_enter Try.func4, Try.ntmps4
            go_wp2_with (first
              | (go_at_call 5; refine (alive_any _).mono ?_; rintro e w1 ⟨rfl, H1⟩; have hn := Lib.hid (new_any 5 w1))
              | (go_at_call 6; (with_reducible refine hn.out.mono ?_); rintro e w2 ⟨g, m, k, rfl, hg, hm, hk, f2, b2⟩; rw [sect5] at f2; have HN := newArea_any 0 1 3 2 w2 f2 ⟨i64_small (by omega), i64_small (by omega), i64_small (by omega)⟩; rw [fresh_wear, made5] at HN; unfold capCells at HN)
              | (go_at_call 7; (with_reducible refine HN.mono ?_); rintro e w3 ⟨x, rfl, hx, a3, b3⟩; clear HN; have NI := Lib.hid (not_in f2 hx); have A3 := Lib.hid a3; have F3 := Lib.hid (f2.kept b3); have B3 := Lib.hid (b2.trans (b3.mono b2.size)); have hmk := make_bytes sz (by omega) w3; clear a3 f2 b2 b3; have PR := Lib.hid (aprogram_any a0 a1 (some ⟨w3.heap.size, 0, none⟩) sz sz (List.replicate sz 0) (w3.alloc (.cells (zeroBytes sz) 5)) (A3.out.kept ((Below.refl _ w3).alloc (Nat.le_refl _) _)) (F3.out.lit _) (by rw [fresh_wear]; exact ⟨by decide, by decide, by decide⟩) HAT.out (row_text w3 (List.replicate sz 0) (byt_same _ _ (by omega)) sz List.length_replicate (0, 0)) (F3.out.away (Nat.le_refl _)) (by simp [fresh])))
              | (go_at_call 12; (with_reducible refine PR.out.mono ?_); rintro e w5 ⟨rfl, f5, o5⟩; have F5 := Lib.hid f5; have A5 := Lib.hid ((A3.out.kept ((Below.refl _ w3).alloc (Nat.le_refl _) _)).only o5 NI.out); have B5 := Lib.hid (below_to (below_lit B3.out _) hg hm hk o5); clear f5 o5 PR hmk; rw [E1.out] at F5 ⊢)
              | (go_at_call 13; (with_reducible refine (aread_any a0 a1 sz _ A5.out F5.out (by rw [fresh_wear]; exact ⟨by decide, by decide, by decide⟩) HAT.out (i64_small (by omega))).mono ?_); rintro e w6 ⟨A6, c6, rfl, hc6, r6, hb6, b6⟩; have B6 := Lib.hid (B5.out.trans (b6.mono B5.out.size)); clear b6 hb6; rw [E2.out] at r6 ⊢)
              | (go_at_call 9; (with_reducible refine (num_any _ _).mono ?_); rintro e w7 ⟨rfl, rfl⟩))
            go_ret
            exact ⟨rfl, H1.trans (B6.out.mono H1.size)⟩
          · have j4 : decide (a1 ≤ 320) = false := by simpa using i4
            clear hin hat
            go_enter Try.func4, Try.ntmps4
            go_wp2_with (first
              | (go_at_call 5; refine (alive_any _).mono ?_; rintro e w1 ⟨rfl, H1⟩; have hn := Lib.hid (new_any 5 w1))
              | (go_at_call 6; (with_reducible refine hn.out.mono ?_); rintro e w2 ⟨g, m, k, rfl, hg, hm, hk, f2, b2⟩; rw [sect5] at f2; have HN := newArea_any 0 1 3 2 w2 f2 ⟨i64_small (by omega), i64_small (by omega), i64_small (by omega)⟩; rw [fresh_wear, made5] at HN; unfold capCells at HN)
              | (go_at_call 7; (with_reducible refine HN.mono ?_); rintro e w3 ⟨x, rfl, hx, a3, b3⟩; clear HN; have NI := Lib.hid (not_in f2 hx); have A3 := Lib.hid a3; have F3 := Lib.hid (f2.kept b3); have B3 := Lib.hid (b2.trans (b3.mono b2.size)); have hmk := make_bytes sz (by omega) w3; clear a3 f2 b2 b3; have PR := Lib.hid (aprogram_any a0 a1 (some ⟨w3.heap.size, 0, none⟩) sz sz (List.replicate sz 0) (w3.alloc (.cells (zeroBytes sz) 5)) (A3.out.kept ((Below.refl _ w3).alloc (Nat.le_refl _) _)) (F3.out.lit _) (by rw [fresh_wear]; exact ⟨by decide, by decide, by decide⟩) HAT.out (row_text w3 (List.replicate sz 0) (byt_same _ _ (by omega)) sz List.length_replicate (0, 0)) (F3.out.away (Nat.le_refl _)) (by simp [fresh])))
              | (go_at_call 12; (with_reducible refine PR.out.mono ?_); rintro e w5 ⟨rfl, f5, o5⟩; have F5 := Lib.hid f5; have A5 := Lib.hid ((A3.out.kept ((Below.refl _ w3).alloc (Nat.le_refl _) _)).only o5 NI.out); have B5 := Lib.hid (below_to (below_lit B3.out _) hg hm hk o5); clear f5 o5 PR hmk; rw [E1.out] at F5 ⊢)
              | (go_at_call 13; (with_reducible refine (aread_any a0 a1 sz _ A5.out F5.out (by rw [fresh_wear]; exact ⟨by decide, by decide, by decide⟩) HAT.out (i64_small (by omega))).mono ?_); rintro e w6 ⟨A6, c6, rfl, hc6, r6, hb6, b6⟩; have B6 := Lib.hid (B5.out.trans (b6.mono B5.out.size)); clear b6 hb6; rw [E2.out] at r6 ⊢)
              | (go_at_call 9; (with_reducible refine (num_any _ _).mono ?_); rintro e w7 ⟨rfl, rfl⟩))
            go_ret
            exact ⟨rfl, H1.trans (B6.out.mono H1.size)⟩
        · have j2 : decide (0 ≤ a1) = false := by simpa using i2
          clear hin hat
          go_enter Try.func4, Try.ntmps4
          go_wp2_with (first
            | (go_at_call 5; refine (alive_any _).mono ?_; rintro e w1 ⟨rfl, H1⟩; have hn := Lib.hid (new_any 5 w1))
            | (go_at_call 6; (with_reducible refine hn.out.mono ?_); rintro e w2 ⟨g, m, k, rfl, hg, hm, hk, f2, b2⟩; rw [sect5] at f2; have HN := newArea_any 0 1 3 2 w2 f2 ⟨i64_small (by omega), i64_small (by omega), i64_small (by omega)⟩; rw [fresh_wear, made5] at HN; unfold capCells at HN)
            | (go_at_call 7; (with_reducible refine HN.mono ?_); rintro e w3 ⟨x, rfl, hx, a3, b3⟩; clear HN; have NI := Lib.hid (not_in f2 hx); have A3 := Lib.hid a3; have F3 := Lib.hid (f2.kept b3); have B3 := Lib.hid (b2.trans (b3.mono b2.size)); have hmk := make_bytes sz (by omega) w3; clear a3 f2 b2 b3; have PR := Lib.hid (aprogram_any a0 a1 (some ⟨w3.heap.size, 0, none⟩) sz sz (List.replicate sz 0) (w3.alloc (.cells (zeroBytes sz) 5)) (A3.out.kept ((Below.refl _ w3).alloc (Nat.le_refl _) _)) (F3.out.lit _) (by rw [fresh_wear]; exact ⟨by decide, by decide, by decide⟩) HAT.out (row_text w3 (List.replicate sz 0) (byt_same _ _ (by omega)) sz List.length_replicate (0, 0)) (F3.out.away (Nat.le_refl _)) (by simp [fresh])))
            | (go_at_call 12; (with_reducible refine PR.out.mono ?_); rintro e w5 ⟨rfl, f5, o5⟩; have F5 := Lib.hid f5; have A5 := Lib.hid ((A3.out.kept ((Below.refl _ w3).alloc (Nat.le_refl _) _)).only o5 NI.out); have B5 := Lib.hid (below_to (below_lit B3.out _) hg hm hk o5); clear f5 o5 PR hmk; rw [E1.out] at F5 ⊢)
            | (go_at_call 13; (with_reducible refine (aread_any a0 a1 sz _ A5.out F5.out (by rw [fresh_wear]; exact ⟨by decide, by decide, by decide⟩) HAT.out (i64_small (by omega))).mono ?_); rintro e w6 ⟨A6, c6, rfl, hc6, r6, hb6, b6⟩; have B6 := Lib.hid (B5.out.trans (b6.mono B5.out.size)); clear b6 hb6; rw [E2.out] at r6 ⊢)
            | (go_at_call 9; (with_reducible refine (num_any _ _).mono ?_); rintro e w7 ⟨rfl, rfl⟩))
          go_ret
          exact ⟨rfl, H1.trans (B6.out.mono H1.size)⟩
      · have j1 : decide (a0 < 3) = false := by simpa using i1
        clear hin hat
        go_enter Try.func4, Try.ntmps4
        go_wp2_with (first
          | (go_at_call 5; refine (alive_any _).mono ?_; rintro e w1 ⟨rfl, H1⟩; have hn := Lib.hid (new_any 5 w1))
          | (go_at_call 6; (with_reducible refine hn.out.mono ?_); rintro e w2 ⟨g, m, k, rfl, hg, hm, hk, f2, b2⟩; rw [sect5] at f2; have HN := newArea_any 0 1 3 2 w2 f2 ⟨i64_small (by omega), i64_small (by omega), i64_small (by omega)⟩; rw [fresh_wear, made5] at HN; unfold capCells at HN)
          | (go_at_call 7; (with_reducible refine HN.mono ?_); rintro e w3 ⟨x, rfl, hx, a3, b3⟩; clear HN; have NI := Lib.hid (not_in f2 hx); have A3 := Lib.hid a3; have F3 := Lib.hid (f2.kept b3); have B3 := Lib.hid (b2.trans (b3.mono b2.size)); have hmk := make_bytes sz (by omega) w3; clear a3 f2 b2 b3; have PR := Lib.hid (aprogram_any a0 a1 (some ⟨w3.heap.size, 0, none⟩) sz sz (List.replicate sz 0) (w3.alloc (.cells (zeroBytes sz) 5)) (A3.out.kept ((Below.refl _ w3).alloc (Nat.le_refl _) _)) (F3.out.lit _) (by rw [fresh_wear]; exact ⟨by decide, by decide, by decide⟩) HAT.out (row_text w3 (List.replicate sz 0) (byt_same _ _ (by omega)) sz List.length_replicate (0, 0)) (F3.out.away (Nat.le_refl _)) (by simp [fresh])))
          | (go_at_call 12; (with_reducible refine PR.out.mono ?_); rintro e w5 ⟨rfl, f5, o5⟩; have F5 := Lib.hid f5; have A5 := Lib.hid ((A3.out.kept ((Below.refl _ w3).alloc (Nat.le_refl _) _)).only o5 NI.out); have B5 := Lib.hid (below_to (below_lit B3.out _) hg hm hk o5); clear f5 o5 PR hmk; rw [E1.out] at F5 ⊢)
          | (go_at_call 13; (with_reducible refine (aread_any a0 a1 sz _ A5.out F5.out (by rw [fresh_wear]; exact ⟨by decide, by decide, by decide⟩) HAT.out (i64_small (by omega))).mono ?_); rintro e w6 ⟨A6, c6, rfl, hc6, r6, hb6, b6⟩; have B6 := Lib.hid (B5.out.trans (b6.mono B5.out.size)); clear b6 hb6; rw [E2.out] at r6 ⊢)
          | (go_at_call 9; (with_reducible refine (num_any _ _).mono ?_); rintro e w7 ⟨rfl, rfl⟩))
        go_ret
        exact ⟨rfl, H1.trans (B6.out.mono H1.size)⟩
    · have j0 : decide (0 ≤ a0) = false := by simpa using i0
      clear hin hat
      go_enter Try.func4, Try.ntmps4
      go_wp2_with (first
        | (go_at_call 5; refine (alive_any _).mono ?_; rintro e w1 ⟨rfl, H1⟩; have hn := Lib.hid (new_any 5 w1))
        | (go_at_call 6; (with_reducible refine hn.out.mono ?_); rintro e w2 ⟨g, m, k, rfl, hg, hm, hk, f2, b2⟩; rw [sect5] at f2; have HN := newArea_any 0 1 3 2 w2 f2 ⟨i64_small (by omega), i64_small (by omega), i64_small (by omega)⟩; rw [fresh_wear, made5] at HN; unfold capCells at HN)
        | (go_at_call 7; (with_reducible refine HN.mono ?_); rintro e w3 ⟨x, rfl, hx, a3, b3⟩; clear HN; have NI := Lib.hid (not_in f2 hx); have A3 := Lib.hid a3; have F3 := Lib.hid (f2.kept b3); have B3 := Lib.hid (b2.trans (b3.mono b2.size)); have hmk := make_bytes sz (by omega) w3; clear a3 f2 b2 b3; have PR := Lib.hid (aprogram_any a0 a1 (some ⟨w3.heap.size, 0, none⟩) sz sz (List.replicate sz 0) (w3.alloc (.cells (zeroBytes sz) 5)) (A3.out.kept ((Below.refl _ w3).alloc (Nat.le_refl _) _)) (F3.out.lit _) (by rw [fresh_wear]; exact ⟨by decide, by decide, by decide⟩) HAT.out (row_text w3 (List.replicate sz 0) (byt_same _ _ (by omega)) sz List.length_replicate (0, 0)) (F3.out.away (Nat.le_refl _)) (by simp [fresh])))
        | (go_at_call 12; (with_reducible refine PR.out.mono ?_); rintro e w5 ⟨rfl, f5, o5⟩; have F5 := Lib.hid f5; have A5 := Lib.hid ((A3.out.kept ((Below.refl _ w3).alloc (Nat.le_refl _) _)).only o5 NI.out); have B5 := Lib.hid (below_to (below_lit B3.out _) hg hm hk o5); clear f5 o5 PR hmk; rw [E1.out] at F5 ⊢)
        | (go_at_call 13; (with_reducible refine (aread_any a0 a1 sz _ A5.out F5.out (by rw [fresh_wear]; exact ⟨by decide, by decide, by decide⟩) HAT.out (i64_small (by omega))).mono ?_); rintro e w6 ⟨A6, c6, rfl, hc6, r6, hb6, b6⟩; have B6 := Lib.hid (B5.out.trans (b6.mono B5.out.size)); clear b6 hb6; rw [E2.out] at r6 ⊢)
        | (go_at_call 9; (with_reducible refine (num_any _ _).mono ?_); rintro e w7 ⟨rfl, rfl⟩))
      go_ret
      exact ⟨rfl, H1.trans (B6.out.mono H1.size)⟩

/-! ### THE ROW's STEP: WRITTEN OUT: LEAVE IT -/
set_option maxRecDepth 100000 in
theorem lifted (os : Os) (started : os.Started) (H : Type) (enc : TypeId × Value → H) :
    ReturnsInHanded {} Try.checked os 4 .any (Rows.areaSectorSpec.pre6 enc Try.prog Try.f4 Rows.areaSectorRow.domain false) (Rows.areaSectorSpec.post enc Try.prog Try.f4 false true false false) := by
  refine returnsInHanded_of_change (C := Try.checked) own started (by kernel_rfl) Try.func4
    (ChangeSpec.witness6 (enc := enc) (C := Try.checked) false ⟨#[], #[.int .i64 0, .int .i64 0, .int .i64 0], []⟩ 8 (by kernel_rfl) (by kernel_rfl) (by kernel_rfl) (by kernel_rfl)) ?_
  intro W base args ds gs before hval0 hW hcnd _
  have hval : ∀ (j : Nat) t v, Try.f4.params[j]? = some t → args[j]? = some v → Value.okWide Try.prog W .any base t v := hval0
  have hW' := hW
  obtain ⟨p, q, hA0, hV, rfl, hfz, hnd⟩ := hW
  have hA : DataW.TrodAll enc Try.prog W 0 (fun _ => true) true Try.f4.params.toList args.toList ds p := hA0
  rw [Try.params4] at hA hval
  obtain ⟨v0, vs0, d0, ds0, p0, q0, hargs, rfl, rfl, h0, r0⟩ := trodAll_cons hA
  obtain ⟨v1, vs1, d1, ds1, p1, q1, rfl, rfl, rfl, h1, r1⟩ := trodAll_cons r0
  obtain ⟨v2, vs2, d2, ds2, p2, q2, rfl, rfl, rfl, h2, r2⟩ := trodAll_cons r1
  obtain ⟨rfl, rfl, rfl⟩ := trodAll_nil r2
  obtain rfl : args = #[v0, v1, v2] := by cases args; simp_all
  obtain ⟨rfl, rfl⟩ := trodVars_none hV
  obtain ⟨a0, rfl, rfl, rfl, w0⟩ := open_int Try.underlying3 (hval 0 3 v0 rfl rfl) h0
  obtain ⟨a1, rfl, rfl, rfl, w1⟩ := open_int Try.underlying3 (hval 1 3 v1 rfl rfl) h1
  obtain ⟨a2, rfl, rfl, rfl, w2⟩ := open_int Try.underlying3 (hval 2 3 v2 rfl rfl) h2
  clear hA0 hval0
  simp only [List.append_nil] at hW'
  refine (walk a0 a1 a2 w0 w1 w2 W).mono fun e W' ⟨he, hg⟩ => ?_
  subst he
  exact ⟨_, rfl, ⟨_, _, _, [], [], [], hW', trodAll_cons_mk (shut_bool Try.underlying4 _) trodAll_mk0, (trodAll_cons_mk (shut_int Try.underlying3 w0) (trodAll_cons_mk (shut_int Try.underlying3 w1) (trodAll_cons_mk (shut_int Try.underlying3 w2) trodAll_mk0))), rfl, hg.frame _, fun h => by cases h⟩⟩

theorem over : Rows.areaSectorRow.holds Try.pinned (OpenSpec.ofChange Rows.areaSectorSpec) :=
  OpenClaim.holds_of_wide 4 Try.f4 rfl rfl rfl rfl rfl rfl rfl ⟨rfl, rfl, rfl, rfl, rfl⟩ rfl rfl rfl rfl rfl (by kernel_rfl) Try.func4 (by kernel_rfl)
    (of_decide_eq_true (by kernel_rfl)) (by unfold Func.isWrapper; first | (rw [if_pos (by decide +kernel)]; kernel_rfl) | (rw [if_neg (by decide +kernel)]; exact ⟨rfl, rfl⟩))
    (fun os started H enc _ => lifted os started H enc)

/-- ████ THE STATEMENT ████ -/
theorem proved : Rows.AreaSectorSaid :=
  over
end Go.Proofs.Ytgignmjojlolfaa.areaSector
namespace Go.Proofs.Ytgignmjojlolfaa
theorem AreaSector_holds : Rows.AreaSectorSaid := areaSector.proved
#print axioms AreaSector_holds
end Go.Proofs.Ytgignmjojlolfaa
