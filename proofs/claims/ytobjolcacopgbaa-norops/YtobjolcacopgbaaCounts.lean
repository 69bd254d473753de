/-
  What is proved: for all numbers and rows of numbers the law NorOps answers true: a cut is for the operation that was said, counted from when it was said, and those that fail do not count (cuts of 0 to 20, up to 40 calls; others the law lets by). Conditions: none.
-/
import Derived.Test.YtobjolcacopgbaaOpsf
import Derived.Test.YtobjolcacopgbaaRows
import Derived.WalkKit
import Derived.ProofKit
import Derived.OpenShut
import Derived.ShutString
import Derived.ChangeOld
import Derived.Below
namespace Go.Proofs.Ytobjolcacopgbaa.norOps
open Go.ChangeShapes Go.WideShapes Go.ChangeAt Go.RowKit
open Go.ChangeMaps (open_string shut_string)
set_option linter.unusedVariables false

theorem own : ownKnob Try.prog.godebug = none := by kernel_rfl
theorem laidOut : laidOutB Try.prog = true := by kernel_rfl

/-- WHAT THE WALK IS TOLD OF A SLICE OF INTEGERS THAT CAME IN: it is nil; or it leads to a row of 'cap' cells, the numbers 'zs' (the first 'len' are its elements, the rest its spare room), each fitting its kind. -/
def IsRow (k : IntKind) (w : World) (a : Option Addr) (len cap : Nat) (zs : List Int) : Prop :=
  (a = none ∧ len = 0 ∧ cap = 0 ∧ zs = []) ∨
  ∃ x, a = some x ∧ len ≤ cap ∧ cap ≤ maxLen ∧ zs.length = cap ∧ (∀ i, i < zs.length → w.cell? (x.add i) = some (.int k (zs.getD i 0))) ∧ ∀ n ∈ zs, (Lit.int k n).wf = true

/-- What stands ahead of each call. -/
def Going (w w1 : World) (T g m k len : Nat) (v7 v8 v9 : Value) (wr : World) : Prop :=
  ∃ (S : Fs) (left : Int) (d j : Nat), v7 = .int .i64 left ∧ v8 = .int .i64 (d : Int) ∧ v9 = .int .i64 (j : Int) ∧ j ≤ len ∧ d ≤ j + 1 ∧ left ≤ 20 ∧ Ops S left d ∧ Fl wr T g m k S ∧ Below w1.heap.size w1 wr
set_option maxRecDepth 100000 in
set_option maxHeartbeats 4000000 in
theorem walk (a0 : Int) (a1 : Option Addr) (len1 cap1 : Nat) (z1 : List Int) (w : World) (w0 : (Lit.int .i64 a0).wf = true) (w1 : IsRow .i64 w a1 len1 cap1 z1) :
    Calls Try.prog 6 #[.int .i64 a0, .slice a1 len1 cap1] w fun e w' => e = .returned (.bool true) ∧ Below w.heap.size w w' := by
  have hn := bounds_i64 w0
  have hrow : len1 = 0 ∨ ∃ b off, a1 = some ⟨b, off, none⟩ ∧ b < w.heap.size ∧ ∀ j, j < len1 → w.cell? ⟨b, off + j, none⟩ = some (.int .i64 (z1.getD j 0)) := by
    rcases w1 with ⟨rfl, rfl, rfl, rfl⟩ | ⟨x, rfl, hlc, hm, hz, hc, hwf⟩
    · exact .inl rfl
    · by_cases h0 : len1 = 0
      · exact .inl h0
      · obtain ⟨b, off, rfl, hcell⟩ := ints_at hc (by omega)
        exact .inr ⟨b, off, rfl, World.block_lt_of_cell? _ _ (hcell 0 (by omega)), fun j hj => hcell j (by omega)⟩
  clear w0 w1
  by_cases h0 : a0 < 0
  · have d0 : decide (a0 < 0) = true := by simpa using h0
    go_enter Try.func6, Try.ntmps6
    go_wp2_with (go_at_call 8; refine (alive_any _).mono ?_; rintro e w1 ⟨rfl, H1⟩)
    go_ret
    exact ⟨rfl, H1⟩
  have d0 : decide (a0 < 0) = false := by simpa using h0
  by_cases h1 : 20 < a0
  · have d1 : decide (20 < a0) = true := by simpa using h1
    go_enter Try.func6, Try.ntmps6
    go_wp2_with (go_at_call 8; refine (alive_any _).mono ?_; rintro e w1 ⟨rfl, H1⟩)
    go_ret
    exact ⟨rfl, H1⟩
  have d1 : decide (20 < a0) = false := by simpa using h1
  by_cases h2 : 40 < len1
  · have d2 : decide (40 < len1) = true := by simpa using h2
    go_enter Try.func6, Try.ntmps6
    go_wp2_with (go_at_call 8; refine (alive_any _).mono ?_; rintro e w1 ⟨rfl, H1⟩)
    go_ret
    exact ⟨rfl, H1⟩
  have d2 : decide (40 < len1) = false := by simpa using h2
  have d3 : ¬ (40 : Int) < (len1 : Int) := by omega
  obtain ⟨n, rfl⟩ := Int.eq_ofNat_of_zero_le (show 0 ≤ a0 by omega)
  have hn20 : n ≤ 20 := by omega
  have HROW := Lib.hid hrow
  have HQ := Lib.hid (show (max (n : Int) 0).toNat = n by omega)
  have HO := Lib.hid (ops_first n)
  have HE2 := Lib.hid (show (erase (fresh 2) 0).2.ops ≤ 1000000 by have := (ops_first n).ops; have e : (cutAt (erase (fresh 2) 0).2 n []).ops = (erase (fresh 2) 0).2.ops := rfl; omega)
  clear hrow hn h2 d0 d1
  go_enter Try.func6, Try.ntmps6
  go_wp2_with (first
    | (go_at_call 8; refine (alive_any _).mono ?_; rintro e w1 ⟨rfl, H1⟩)
    | (go_at_call 9; refine (new_any _ _).mono ?_; rintro e w2 ⟨g, m, k, rfl, hg, hm, hk, f2, b2⟩; rw [show sect 2 = 2 from rfl] at f2; have F2 := Lib.hid f2; have B2 := Lib.hid b2; clear b2 f2)
    | (go_at_call 11; refine (erase_any 0 _ F2.out (by simp [fresh]) (few_fresh 2)).mono ?_; rintro e w3 ⟨rfl, f3, o3⟩; have B3 := Lib.hid (below_to B2.out hg hm hk o3); have F3 := Lib.hid f3; have T3 := Lib.hid o3.size; clear f3 o3)
    | (go_at_call 16; refine (cut_any (n : Int) none 0 0 [] _ (i64_small (by omega)) F3.out (row_nil _) (Nat.le_refl _) (by omega) T3.out).mono ?_; rintro e w4 ⟨rfl, f4, o4⟩; rw [HQ.out, List.take_nil] at f4; have B4 := Lib.hid (below_to B3.out hg hm hk o4); have F4 := Lib.hid f4; clear f4 o4))
  have hst : Going w w1 w2.heap.size g m k len1 (.int .i64 (n : Int)) (.int .i64 1) (.int .i64 0) w4 := ⟨_, n, 1, 0, rfl, rfl, rfl, by omega, by omega, by omega, HO.out, F4.out, B4.out⟩
  have HB1 := Lib.hid H1
  clear F2 F3 F4 B2 B3 B4 T3 H1 HO HE2 HQ
  go_loopw [7, 8, 9] (fun v7 v8 v9 wr => Going w w1 w2.heap.size g m k len1 v7 v8 v9 wr) (fun _ _ v9 _ => len1 - (intOf v9).toNat)
  case atStart => exact hst
  case round =>
    clear hst
    obtain ⟨S, left, d, j, rfl, rfl, rfl, hj, hdj, hl20, hO, hf, hb⟩ := hrel
    have j0 : (0 : Int) ≤ (j : Int) := by omega
    have dd : (d : Int) ≤ 1000 := by omega
    by_cases hlt : j < len1
    · have j1 : (j : Int) < (len1 : Int) := by omega
      obtain ⟨x, b, off, rfl, qx⟩ : ∃ x b off, a1 = some ⟨b, off, none⟩ ∧ wr.cell? ⟨b, off + j, none⟩ = some (.int .i64 x) := by
        rcases HROW.out with h | ⟨b, off, h1, h2, h3⟩
        · omega
        · exact ⟨_, b, off, h1, ((HB1.out.trans (hb.mono HB1.out.size)).cell (p := ⟨b, off + j, none⟩) h2).trans (h3 j hlt)⟩
      have hL : left = -1 ∨ left = 0 ∨ ∃ q : Nat, left = ((q + 1 : Nat) : Int) := by
        rcases hO.st with ⟨q, e, _⟩ | ⟨e, _⟩
        · cases q with
          | zero => exact .inr (.inl e)
          | succ q => exact .inr (.inr ⟨q, e⟩)
        · exact .inl e
      have hx3 := and3 x
      have hm4 : x % 4 = 0 ∨ x % 4 = 1 ∨ x % 4 = 2 ∨ x % 4 = 3 := by omega
      rcases hm4 with hm4 | hm4 | hm4 | hm4 <;> rw [hm4] at hx3 <;> clear hm4
      · rcases and4 x with hx4 | hx4
        · rcases hL with rfl | rfl | ⟨q, hLe⟩
          · have E := Lib.hid (show erase S 0 = (4, S) from erase_off hO.of_off _)
            have HO := Lib.hid hO
            have HC := Lib.hid (erase_any (S := S) 0 wr hf (ops_small hO (by omega)) hO.few)
            have HBB := Lib.hid hb
            clear hO hf hb
            go_wp2_with (first
              | (go_at_call 11; refine HC.out.mono ?_; rintro e w9 ⟨rfl, f9, o9⟩; rw [E.out] at f9 ⊢; have F9 := Lib.hid f9; have B9 := Lib.hid (below_to HBB.out hg hm hk o9); clear f9 o9 HC)
              | (go_at_call 12; refine (num_any _ _).mono ?_; rintro e w8 ⟨rfl, rfl⟩)
              | (go_at_call 20; refine (off_any _ F9.out).mono ?_; rintro e w8 ⟨rfl, rfl⟩; skip))
            go_roundw
            case rel => exact ⟨S, -1, d, j + 1, rfl, rfl, by go_num, by omega, by omega, by omega, HO.out, F9.out, B9.out⟩
            case measure => simp [intOf]; omega
          · obtain ⟨r1, r2, r3⟩ := ops_now hO (show Does S (erase S 0) from does_erase (s := 0) hO.of_on.1 (by have := hO.wear; omega)) (few_erase hO.few 0)
            have E := Lib.hid r1
            have E2 := Lib.hid r2
            have HO := Lib.hid r3
            clear r1 r2 r3
            have HC := Lib.hid (erase_any (S := S) 0 wr hf (ops_small hO (by omega)) hO.few)
            have HBB := Lib.hid hb
            clear hO hf hb
            go_wp2_with (first
              | (go_at_call 11; refine HC.out.mono ?_; rintro e w9 ⟨rfl, f9, o9⟩; rw [E.out]; have F9 := Lib.hid f9; have B9 := Lib.hid (below_to HBB.out hg hm hk o9); clear f9 o9 HC)
              | (go_at_call 12; refine (num_any _ _).mono ?_; rintro e w8 ⟨rfl, rfl⟩)
              | (go_at_call 20; refine (off_any _ F9.out).mono ?_; rintro e w8 ⟨rfl, rfl⟩; rw [E2.out]))
            go_roundw
            case rel => exact ⟨_, -1, d + 1, j + 1, by go_num, by go_num, by go_num, by omega, by omega, by omega, HO.out, F9.out, B9.out⟩
            case measure => simp [intOf]; omega
          · have HL := Lib.hid hLe
            have HL1 := Lib.hid (show left - 1 = (q : Int) by omega)
            have l1 : 1 ≤ left := by omega
            have l2 : left ≤ 20 := by omega
            have l3 : ¬ left < 0 := by omega
            have l4 : ¬ left = 0 := by omega
            have l5 : (left == 0) = false := by simpa using l4
            rw [hLe] at hO
            clear hLe
            obtain ⟨r1, r2, r3⟩ := ops_later hO (show Does S (erase S 0) from does_erase (s := 0) (Ops.of_on hO).1 (by have := hO.wear; omega)) (few_erase hO.few 0)
            have E := Lib.hid r1
            have E2 := Lib.hid r2
            have HO := Lib.hid r3
            clear r1 r2 r3
            have HC := Lib.hid (erase_any (S := S) 0 wr hf (ops_small hO (by omega)) hO.few)
            have HBB := Lib.hid hb
            clear hO hf hb
            go_wp2_with (first
              | (go_at_call 11; refine HC.out.mono ?_; rintro e w9 ⟨rfl, f9, o9⟩; rw [E.out]; have F9 := Lib.hid f9; have B9 := Lib.hid (below_to HBB.out hg hm hk o9); clear f9 o9 HC)
              | (go_at_call 12; refine (num_any _ _).mono ?_; rintro e w8 ⟨rfl, rfl⟩)
              | (go_at_call 20; refine (off_any _ F9.out).mono ?_; rintro e w8 ⟨rfl, rfl⟩; rw [E2.out]))
            go_roundw
            case rel => exact ⟨_, left - 1, d + 1, j + 1, by go_num, by go_num, by go_num, by omega, by omega, by omega, by rw [HL1.out]; exact HO.out, F9.out, B9.out⟩
            case measure => simp [intOf]; omega
        · rcases hL with rfl | rfl | ⟨q, hLe⟩
          · have E := Lib.hid (show erase S 1 = (4, S) from erase_off hO.of_off _)
            have HO := Lib.hid hO
            have HC := Lib.hid (erase_any (S := S) 1 wr hf (ops_small hO (by omega)) hO.few)
            have HBB := Lib.hid hb
            clear hO hf hb
            go_wp2_with (first
              | (go_at_call 11; refine HC.out.mono ?_; rintro e w9 ⟨rfl, f9, o9⟩; rw [E.out] at f9 ⊢; have F9 := Lib.hid f9; have B9 := Lib.hid (below_to HBB.out hg hm hk o9); clear f9 o9 HC)
              | (go_at_call 12; refine (num_any _ _).mono ?_; rintro e w8 ⟨rfl, rfl⟩)
              | (go_at_call 20; refine (off_any _ F9.out).mono ?_; rintro e w8 ⟨rfl, rfl⟩; skip))
            go_roundw
            case rel => exact ⟨S, -1, d, j + 1, rfl, rfl, by go_num, by omega, by omega, by omega, HO.out, F9.out, B9.out⟩
            case measure => simp [intOf]; omega
          · obtain ⟨r1, r2, r3⟩ := ops_now hO (show Does S (erase S 1) from does_erase (s := 1) hO.of_on.1 (by have := hO.wear; omega)) (few_erase hO.few 1)
            have E := Lib.hid r1
            have E2 := Lib.hid r2
            have HO := Lib.hid r3
            clear r1 r2 r3
            have HC := Lib.hid (erase_any (S := S) 1 wr hf (ops_small hO (by omega)) hO.few)
            have HBB := Lib.hid hb
            clear hO hf hb
            go_wp2_with (first
              | (go_at_call 11; refine HC.out.mono ?_; rintro e w9 ⟨rfl, f9, o9⟩; rw [E.out]; have F9 := Lib.hid f9; have B9 := Lib.hid (below_to HBB.out hg hm hk o9); clear f9 o9 HC)
              | (go_at_call 12; refine (num_any _ _).mono ?_; rintro e w8 ⟨rfl, rfl⟩)
              | (go_at_call 20; refine (off_any _ F9.out).mono ?_; rintro e w8 ⟨rfl, rfl⟩; rw [E2.out]))
            go_roundw
            case rel => exact ⟨_, -1, d + 1, j + 1, by go_num, by go_num, by go_num, by omega, by omega, by omega, HO.out, F9.out, B9.out⟩
            case measure => simp [intOf]; omega
          · have HL := Lib.hid hLe
            have HL1 := Lib.hid (show left - 1 = (q : Int) by omega)
            have l1 : 1 ≤ left := by omega
            have l2 : left ≤ 20 := by omega
            have l3 : ¬ left < 0 := by omega
            have l4 : ¬ left = 0 := by omega
            have l5 : (left == 0) = false := by simpa using l4
            rw [hLe] at hO
            clear hLe
            obtain ⟨r1, r2, r3⟩ := ops_later hO (show Does S (erase S 1) from does_erase (s := 1) (Ops.of_on hO).1 (by have := hO.wear; omega)) (few_erase hO.few 1)
            have E := Lib.hid r1
            have E2 := Lib.hid r2
            have HO := Lib.hid r3
            clear r1 r2 r3
            have HC := Lib.hid (erase_any (S := S) 1 wr hf (ops_small hO (by omega)) hO.few)
            have HBB := Lib.hid hb
            clear hO hf hb
            go_wp2_with (first
              | (go_at_call 11; refine HC.out.mono ?_; rintro e w9 ⟨rfl, f9, o9⟩; rw [E.out]; have F9 := Lib.hid f9; have B9 := Lib.hid (below_to HBB.out hg hm hk o9); clear f9 o9 HC)
              | (go_at_call 12; refine (num_any _ _).mono ?_; rintro e w8 ⟨rfl, rfl⟩)
              | (go_at_call 20; refine (off_any _ F9.out).mono ?_; rintro e w8 ⟨rfl, rfl⟩; rw [E2.out]))
            go_roundw
            case rel => exact ⟨_, left - 1, d + 1, j + 1, by go_num, by go_num, by go_num, by omega, by omega, by omega, by rw [HL1.out]; exact HO.out, F9.out, B9.out⟩
            case measure => simp [intOf]; omega
      · rcases hL with rfl | rfl | ⟨q, hLe⟩
        · have E := Lib.hid (show prog S 0 [0] = (4, S) from prog_off hO.of_off _ _)
          have HO := Lib.hid hO
          have HC := Lib.hid (program_any (S := S) 0 (some ⟨wr.heap.size, 0, none⟩) 1 1 [0] (wr.alloc (.cells #[.int .u8 0] 5)) (i64_small (by omega)) (hf.lit _) (row_text wr [0] (byt_one (by omega)) 1 rfl (0, 0)) (hf.away (Nat.le_refl _)) (ops_small hO (by omega)))
          have HBB := Lib.hid (below_lit hb (.cells #[.int .u8 0] 5))
          clear hO hf hb
          go_wp2_with (first
            | (go_at_call 13; refine HC.out.mono ?_; rintro e w9 ⟨rfl, f9, o9⟩; rw [E.out] at f9 ⊢; have F9 := Lib.hid f9; have B9 := Lib.hid (below_to HBB.out hg hm hk o9); clear f9 o9 HC)
            | (go_at_call 12; refine (num_any _ _).mono ?_; rintro e w8 ⟨rfl, rfl⟩)
            | (go_at_call 20; refine (off_any _ F9.out).mono ?_; rintro e w8 ⟨rfl, rfl⟩; skip))
          go_roundw
          case rel => exact ⟨S, -1, d, j + 1, rfl, rfl, by go_num, by omega, by omega, by omega, HO.out, F9.out, B9.out⟩
          case measure => simp [intOf]; omega
        · obtain ⟨r1, r2, r3⟩ := ops_now hO (show Does S (prog S 0 [0]) from does_prog hf.ok hO.of_on.1 (by have := hO.wear; omega)) (few_prog hO.few 0 [0])
          have E := Lib.hid r1
          have E2 := Lib.hid r2
          have HO := Lib.hid r3
          clear r1 r2 r3
          have HC := Lib.hid (program_any (S := S) 0 (some ⟨wr.heap.size, 0, none⟩) 1 1 [0] (wr.alloc (.cells #[.int .u8 0] 5)) (i64_small (by omega)) (hf.lit _) (row_text wr [0] (byt_one (by omega)) 1 rfl (0, 0)) (hf.away (Nat.le_refl _)) (ops_small hO (by omega)))
          have HBB := Lib.hid (below_lit hb (.cells #[.int .u8 0] 5))
          clear hO hf hb
          go_wp2_with (first
            | (go_at_call 13; refine HC.out.mono ?_; rintro e w9 ⟨rfl, f9, o9⟩; rw [E.out]; have F9 := Lib.hid f9; have B9 := Lib.hid (below_to HBB.out hg hm hk o9); clear f9 o9 HC)
            | (go_at_call 12; refine (num_any _ _).mono ?_; rintro e w8 ⟨rfl, rfl⟩)
            | (go_at_call 20; refine (off_any _ F9.out).mono ?_; rintro e w8 ⟨rfl, rfl⟩; rw [E2.out]))
          go_roundw
          case rel => exact ⟨_, -1, d + 1, j + 1, by go_num, by go_num, by go_num, by omega, by omega, by omega, HO.out, F9.out, B9.out⟩
          case measure => simp [intOf]; omega
        · have HL := Lib.hid hLe
          have HL1 := Lib.hid (show left - 1 = (q : Int) by omega)
          have l1 : 1 ≤ left := by omega
          have l2 : left ≤ 20 := by omega
          have l3 : ¬ left < 0 := by omega
          have l4 : ¬ left = 0 := by omega
          have l5 : (left == 0) = false := by simpa using l4
          rw [hLe] at hO
          clear hLe
          obtain ⟨r1, r2, r3⟩ := ops_later hO (show Does S (prog S 0 [0]) from does_prog hf.ok (Ops.of_on hO).1 (by have := hO.wear; omega)) (few_prog hO.few 0 [0])
          have E := Lib.hid r1
          have E2 := Lib.hid r2
          have HO := Lib.hid r3
          clear r1 r2 r3
          have HC := Lib.hid (program_any (S := S) 0 (some ⟨wr.heap.size, 0, none⟩) 1 1 [0] (wr.alloc (.cells #[.int .u8 0] 5)) (i64_small (by omega)) (hf.lit _) (row_text wr [0] (byt_one (by omega)) 1 rfl (0, 0)) (hf.away (Nat.le_refl _)) (ops_small hO (by omega)))
          have HBB := Lib.hid (below_lit hb (.cells #[.int .u8 0] 5))
          clear hO hf hb
          go_wp2_with (first
            | (go_at_call 13; refine HC.out.mono ?_; rintro e w9 ⟨rfl, f9, o9⟩; rw [E.out]; have F9 := Lib.hid f9; have B9 := Lib.hid (below_to HBB.out hg hm hk o9); clear f9 o9 HC)
            | (go_at_call 12; refine (num_any _ _).mono ?_; rintro e w8 ⟨rfl, rfl⟩)
            | (go_at_call 20; refine (off_any _ F9.out).mono ?_; rintro e w8 ⟨rfl, rfl⟩; rw [E2.out]))
          go_roundw
          case rel => exact ⟨_, left - 1, d + 1, j + 1, by go_num, by go_num, by go_num, by omega, by omega, by omega, by rw [HL1.out]; exact HO.out, F9.out, B9.out⟩
          case measure => simp [intOf]; omega
      · rcases hL with rfl | rfl | ⟨q, hLe⟩
        · have E := Lib.hid (show erase S 2 = (4, S) from erase_off hO.of_off _)
          have HO := Lib.hid hO
          have HC := Lib.hid (erase_any (S := S) 2 wr hf (ops_small hO (by omega)) hO.few)
          have HBB := Lib.hid hb
          clear hO hf hb
          go_wp2_with (first
            | (go_at_call 11; refine HC.out.mono ?_; rintro e w9 ⟨rfl, f9, o9⟩; rw [E.out] at f9 ⊢; have F9 := Lib.hid f9; have B9 := Lib.hid (below_to HBB.out hg hm hk o9); clear f9 o9 HC)
            | (go_at_call 12; refine (num_any _ _).mono ?_; rintro e w8 ⟨rfl, rfl⟩)
            | (go_at_call 20; refine (off_any _ F9.out).mono ?_; rintro e w8 ⟨rfl, rfl⟩; skip))
          go_roundw
          case rel => exact ⟨S, -1, d, j + 1, rfl, rfl, by go_num, by omega, by omega, by omega, HO.out, F9.out, B9.out⟩
          case measure => simp [intOf]; omega
        · have E := Lib.hid (show erase S 2 = (2, S) from out_erase hO)
          have HO := Lib.hid hO
          have HC := Lib.hid (erase_any (S := S) 2 wr hf (ops_small hO (by omega)) hO.few)
          have HBB := Lib.hid hb
          clear hO hf hb
          go_wp2_with (first
            | (go_at_call 11; refine HC.out.mono ?_; rintro e w9 ⟨rfl, f9, o9⟩; rw [E.out] at f9 ⊢; have F9 := Lib.hid f9; have B9 := Lib.hid (below_to HBB.out hg hm hk o9); clear f9 o9 HC)
            | (go_at_call 12; refine (num_any _ _).mono ?_; rintro e w8 ⟨rfl, rfl⟩)
            | (go_at_call 20; refine (off_any _ F9.out).mono ?_; rintro e w8 ⟨rfl, rfl⟩; skip))
          go_roundw
          case rel => exact ⟨S, 0, d, j + 1, rfl, rfl, by go_num, by omega, by omega, by omega, HO.out, F9.out, B9.out⟩
          case measure => simp [intOf]; omega
        · have HL := Lib.hid hLe
          have HL1 := Lib.hid (show left - 1 = (q : Int) by omega)
          have l1 : 1 ≤ left := by omega
          have l2 : left ≤ 20 := by omega
          have l3 : ¬ left < 0 := by omega
          have l4 : ¬ left = 0 := by omega
          have l5 : (left == 0) = false := by simpa using l4
          rw [hLe] at hO
          clear hLe
          have E := Lib.hid (show erase S 2 = (2, S) from out_erase hO)
          have HO := Lib.hid hO
          have HC := Lib.hid (erase_any (S := S) 2 wr hf (ops_small hO (by omega)) hO.few)
          have HBB := Lib.hid hb
          clear hO hf hb
          go_wp2_with (first
            | (go_at_call 11; refine HC.out.mono ?_; rintro e w9 ⟨rfl, f9, o9⟩; rw [E.out] at f9 ⊢; have F9 := Lib.hid f9; have B9 := Lib.hid (below_to HBB.out hg hm hk o9); clear f9 o9 HC)
            | (go_at_call 12; refine (num_any _ _).mono ?_; rintro e w8 ⟨rfl, rfl⟩)
            | (go_at_call 20; refine (off_any _ F9.out).mono ?_; rintro e w8 ⟨rfl, rfl⟩; skip))
          go_roundw
          case rel => exact ⟨S, left, d, j + 1, rfl, rfl, by go_num, by omega, by omega, by omega, by rw [HL.out]; exact HO.out, F9.out, B9.out⟩
          case measure => simp [intOf]; omega
      · rcases hL with rfl | rfl | ⟨q, hLe⟩
        · have E := Lib.hid (show prog S 640 [0] = (4, S) from prog_off hO.of_off _ _)
          have HO := Lib.hid hO
          have HC := Lib.hid (program_any (S := S) 640 (some ⟨wr.heap.size, 0, none⟩) 1 1 [0] (wr.alloc (.cells #[.int .u8 0] 5)) (i64_small (by omega)) (hf.lit _) (row_text wr [0] (byt_one (by omega)) 1 rfl (0, 0)) (hf.away (Nat.le_refl _)) (ops_small hO (by omega)))
          have HBB := Lib.hid (below_lit hb (.cells #[.int .u8 0] 5))
          clear hO hf hb
          go_wp2_with (first
            | (go_at_call 13; refine HC.out.mono ?_; rintro e w9 ⟨rfl, f9, o9⟩; rw [E.out] at f9 ⊢; have F9 := Lib.hid f9; have B9 := Lib.hid (below_to HBB.out hg hm hk o9); clear f9 o9 HC)
            | (go_at_call 12; refine (num_any _ _).mono ?_; rintro e w8 ⟨rfl, rfl⟩)
            | (go_at_call 20; refine (off_any _ F9.out).mono ?_; rintro e w8 ⟨rfl, rfl⟩; skip))
          go_roundw
          case rel => exact ⟨S, -1, d, j + 1, rfl, rfl, by go_num, by omega, by omega, by omega, HO.out, F9.out, B9.out⟩
          case measure => simp [intOf]; omega
        · have E := Lib.hid (show prog S 640 [0] = (2, S) from out_prog hO hf.ok)
          have HO := Lib.hid hO
          have HC := Lib.hid (program_any (S := S) 640 (some ⟨wr.heap.size, 0, none⟩) 1 1 [0] (wr.alloc (.cells #[.int .u8 0] 5)) (i64_small (by omega)) (hf.lit _) (row_text wr [0] (byt_one (by omega)) 1 rfl (0, 0)) (hf.away (Nat.le_refl _)) (ops_small hO (by omega)))
          have HBB := Lib.hid (below_lit hb (.cells #[.int .u8 0] 5))
          clear hO hf hb
          go_wp2_with (first
            | (go_at_call 13; refine HC.out.mono ?_; rintro e w9 ⟨rfl, f9, o9⟩; rw [E.out] at f9 ⊢; have F9 := Lib.hid f9; have B9 := Lib.hid (below_to HBB.out hg hm hk o9); clear f9 o9 HC)
            | (go_at_call 12; refine (num_any _ _).mono ?_; rintro e w8 ⟨rfl, rfl⟩)
            | (go_at_call 20; refine (off_any _ F9.out).mono ?_; rintro e w8 ⟨rfl, rfl⟩; skip))
          go_roundw
          case rel => exact ⟨S, 0, d, j + 1, rfl, rfl, by go_num, by omega, by omega, by omega, HO.out, F9.out, B9.out⟩
          case measure => simp [intOf]; omega
        · have HL := Lib.hid hLe
          have HL1 := Lib.hid (show left - 1 = (q : Int) by omega)
          have l1 : 1 ≤ left := by omega
          have l2 : left ≤ 20 := by omega
          have l3 : ¬ left < 0 := by omega
          have l4 : ¬ left = 0 := by omega
          have l5 : (left == 0) = false := by simpa using l4
          rw [hLe] at hO
          clear hLe
          have E := Lib.hid (show prog S 640 [0] = (2, S) from out_prog hO hf.ok)
          have HO := Lib.hid hO
          have HC := Lib.hid (program_any (S := S) 640 (some ⟨wr.heap.size, 0, none⟩) 1 1 [0] (wr.alloc (.cells #[.int .u8 0] 5)) (i64_small (by omega)) (hf.lit _) (row_text wr [0] (byt_one (by omega)) 1 rfl (0, 0)) (hf.away (Nat.le_refl _)) (ops_small hO (by omega)))
          have HBB := Lib.hid (below_lit hb (.cells #[.int .u8 0] 5))
          clear hO hf hb
          go_wp2_with (first
            | (go_at_call 13; refine HC.out.mono ?_; rintro e w9 ⟨rfl, f9, o9⟩; rw [E.out] at f9 ⊢; have F9 := Lib.hid f9; have B9 := Lib.hid (below_to HBB.out hg hm hk o9); clear f9 o9 HC)
            | (go_at_call 12; refine (num_any _ _).mono ?_; rintro e w8 ⟨rfl, rfl⟩)
            | (go_at_call 20; refine (off_any _ F9.out).mono ?_; rintro e w8 ⟨rfl, rfl⟩; skip))
          go_roundw
          case rel => exact ⟨S, left, d, j + 1, rfl, rfl, by go_num, by omega, by omega, by omega, by rw [HL.out]; exact HO.out, F9.out, B9.out⟩
          case measure => simp [intOf]; omega
    · obtain rfl : j = len1 := by omega
      have HOP := Lib.hid hO.ops
      have HF := Lib.hid hf
      clear hf
      go_wp2_with (go_at_call 22; refine (ops_any _ HF.out).mono ?_; rintro e w8 ⟨rfl, rfl⟩; rw [HOP.out])
      go_ret
      exact ⟨rfl, HB1.out.trans (hb.mono HB1.out.size)⟩

/-! ### THE ROW's STEP: WRITTEN OUT: LEAVE IT -/
set_option maxRecDepth 100000 in
theorem lifted (os : Os) (started : os.Started) (H : Type) (enc : TypeId × Value → H) :
    ReturnsInHanded {} Try.checked os 6 .any (Rows.norOpsSpec.pre6 enc Try.prog Try.f6 Rows.norOpsRow.domain false) (Rows.norOpsSpec.post enc Try.prog Try.f6 false true false false) := by
  refine returnsInHanded_of_change (C := Try.checked) own started (by kernel_rfl) Try.func6
    (ChangeSpec.witness6 (enc := enc) (C := Try.checked) false ⟨#[], #[.int .i64 0, .slice none 0 0], []⟩ 8 (by kernel_rfl) (by kernel_rfl) (by kernel_rfl) (by kernel_rfl)) ?_
  intro W base args ds gs before hval0 hW hcnd _
  have hval : ∀ (j : Nat) t v, Try.f6.params[j]? = some t → args[j]? = some v → Value.okWide Try.prog W .any base t v := hval0
  have hW' := hW
  obtain ⟨p, q, hA0, hV, rfl, hfz, hnd⟩ := hW
  have hA : DataW.TrodAll enc Try.prog W 0 (fun _ => true) true Try.f6.params.toList args.toList ds p := hA0
  rw [Try.params6] at hA hval
  obtain ⟨v0, vs0, d0, ds0, p0, q0, hargs, rfl, rfl, h0, r0⟩ := trodAll_cons hA
  obtain ⟨v1, vs1, d1, ds1, p1, q1, rfl, rfl, rfl, h1, r1⟩ := trodAll_cons r0
  obtain ⟨rfl, rfl, rfl⟩ := trodAll_nil r1
  obtain rfl : args = #[v0, v1] := by cases args; simp_all
  obtain ⟨rfl, rfl⟩ := trodVars_none hV
  obtain ⟨a0, rfl, rfl, rfl, w0⟩ := open_int Try.underlying3 (hval 0 3 v0 rfl rfl) h0
  obtain ⟨a1, len1, cap1, rfl⟩ := okWide_slice Try.underlying39 (hval 1 39 v1 rfl rfl)
  have k1 := h1
  have lt1 : ∀ x ∈ p1, x.block < W.heap.size := by obtain ⟨m, hm⟩ := k1; exact DataW.trod_lt m _ _ _ hm
  obtain ⟨z1, w1⟩ : ∃ zs, IsRow .i64 W a1 len1 cap1 zs := by
    obtain ⟨fuel, hf⟩ := h1
    rcases open_ints Try.underlying39 Try.underlying3 (by kernel_rfl) hf with ⟨hcs, _⟩ | ⟨x, l, c, zs, hcs, _, hl, hm, hz, _, hcell, hwz⟩
    · simp [Value.cells] at hcs
      obtain ⟨rfl, rfl, rfl⟩ := hcs
      exact ⟨[], .inl ⟨rfl, rfl, rfl, rfl⟩⟩
    · simp [Value.cells] at hcs
      obtain ⟨rfl, rfl, rfl⟩ := hcs
      exact ⟨zs, .inr ⟨_, rfl, hl, hm, by simpa using hz, hcell, hwz⟩⟩
  clear hA0 hval0
  refine (walk a0 a1 len1 cap1 z1 W w0 w1).mono fun e W' ⟨he, bel⟩ => ?_
  subst he
  exact ⟨_, rfl, _, _, _, [], _, [], hW', trodAll_mk1 (shut_bool Try.underlying4 _), (trodAll_cons_mk (shut_int Try.underlying3 w0) (trodAll_cons_mk (Below.trod laidOut (by kernel_rfl) (of_decide_eq_true (by kernel_rfl)) k1 bel lt1) trodAll_mk0)), rfl, bel.frame _, fun h => by cases h⟩

theorem over : Rows.norOpsRow.holds Try.pinned (OpenSpec.ofChange Rows.norOpsSpec) :=
  OpenClaim.holds_of_wide 6 Try.f6 rfl rfl rfl rfl rfl rfl rfl ⟨rfl, rfl, rfl, rfl, rfl⟩ rfl rfl rfl rfl rfl (by kernel_rfl) Try.func6 (by kernel_rfl)
    (of_decide_eq_true (by kernel_rfl)) (by unfold Func.isWrapper; first | (rw [if_pos (by decide +kernel)]; kernel_rfl) | (rw [if_neg (by decide +kernel)]; exact ⟨rfl, rfl⟩))
    (fun os started H enc _ => lifted os started H enc)

/-- ████ THE STATEMENT ████ -/
theorem proved : Rows.NorOpsSaid := over
end Go.Proofs.Ytobjolcacopgbaa.norOps
namespace Go.Proofs.Ytobjolcacopgbaa
theorem NorOps_holds : Rows.NorOpsSaid := norOps.proved
#print axioms NorOps_holds
end Go.Proofs.Ytobjolcacopgbaa
