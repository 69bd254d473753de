/-
  The schedule of a block's words, as the program makes it; conditions: the block reads as 64 bytes.
-/
import Derived.Test.YtklhmneapegfpaaGreatDoorShaMem
import Derived.StillTailTactics
import Derived.Laws.CopyOwn
import Derived.Deep.WholeRow
namespace Go.Proofs.YtklhmneapegfpaaGreatDoor.Sha
open Go.RowKit
set_option linter.unusedVariables false

def SW (w wr : World) (l : List Int) : Prop :=
  Below w.heap.size w wr ∧ wr.heap.size = w.heap.size + 2 ∧ Has wr w.heap.size 113 (wcells []) ∧ Has wr (w.heap.size + 1) 113 (wcells l)
theorem SW.start (w : World) : SW w ((w.alloc (.cells (wcells []) 113)).alloc (.cells (wcells []) 113)) [] := by
  refine ⟨((Below.refl _ _).alloc (Nat.le_refl _) _).alloc (by simp) _, by simp, (has_new w 113 _).more _, ?_⟩
  have := has_new (w.alloc (.cells (wcells []) 113)) 113 (wcells [])
  simpa using this
theorem SW.step {w wr : World} {l : List Int} (h : SW w wr l) (hl : l.length < 64) (x : Int) (k : Nat) (hk : k = l.length) : SW w (wr.setCell ⟨w.heap.size + 1, k, none⟩ (.int .u32 x)) (l ++ [x]) := by
  subst hk
  obtain ⟨h1, h2, h3, h4⟩ := h
  refine ⟨h1.setCell (by simp) _, by simpa using h2, h3.by (by simp) _, ?_⟩
  have := h4.put l.length (.int .u32 x)
  rwa [wcells_put hl] at this
theorem SW.drew {w wr : World} {l : List Int} (h : SW w wr l) : SW w wr.drew l := ⟨h.1.drew, h.2.1, h.2.2.1, h.2.2.2⟩
theorem SW.cell {w wr : World} {l : List Int} (h : SW w wr l) (hl : l.length ≤ 64) (i : Nat) (hi : i < 64) : wr.cell? ⟨w.heap.size + 1, i, none⟩ = some (.int .u32 (l.getD i 0)) := by
  rw [h.2.2.2.at, wcells_at hl hi]

theorem sched_low (zs : List Int) (k : Nat) (h : k < 16) : sched zs (k + 1) = sched zs k ++ [bigI (zs.drop (k * 4))] := by
  simp only [sched, next, sched_len, h, if_true, Nat.mul_comm 4 k]
theorem add_three (a b c d : Int) : add32 (add32 (add32 a b) c) d = (a + b + c + d) % 4294967296 := by unfold add32; omega
theorem sched_high (zs : List Int) (k : Nat) (h : 16 ≤ k) : sched zs (k + 1) = sched zs k ++ [((sched zs k)[k - 16]?.getD 0 + spreadLow ((sched zs k)[k - 15]?.getD 0) + (sched zs k)[k - 7]?.getD 0 + spreadHigh ((sched zs k)[k - 2]?.getD 0)) % 4294967296] := by
  rw [← add_three]
  simp only [sched, next, sched_len, if_neg (show ¬ k < 16 by omega), List.getD_eq_getElem?_getD]
theorem minus (k m : Nat) (q : Int) (hq : q = (m : Int)) (h : m ≤ k) (h2 : k < 64) : IntKind.i64.wrap ((k : Int) - q) = (k : Int) - q ∧ ((k : Int) - q).toNat = k - m ∧ (0 : Int) ≤ (k : Int) - q ∧ (k : Int) - q < 64 := by
  subst hq
  refine ⟨?_, by omega, by omega, by omega⟩
  rw [IntKind.wrap_i64]; omega
theorem all_words (l : List Int) : (wcells l).all (·.oneCell') = true := by
  rw [Array.all_eq_true_iff_forall_mem]
  intro v hv
  simp only [wcells, List.mem_toArray, List.mem_map] at hv
  obtain ⟨x, _, rfl⟩ := hv
  rfl
theorem size61 {l : List Int} (h : l.length ≤ 64) : (Tryz.prog.info? 113).map (·.size) = some (wcells l).size := by
  rw [wcells_size h]; kernel_rfl
theorem still_of {P : Program} {f : FuncId} {args : Array Value} {w : World} {v : Value} (h : Calls P f args w fun e w' => e = .returned v ∧ w = w') : Calls P f args w (fun e w'' => e = .returned v ∧ w'' = w) :=
  h.mono fun _ _ ⟨h1, h2⟩ => ⟨h1, h2.symm⟩

set_option maxRecDepth 100000 in
set_option maxHeartbeats 1000000 in
theorem sched_any (b off cap : Nat) (zs : List Int) (w : World) (hcap : 64 ≤ cap) (hr : Row w (some ⟨b, off, none⟩) 64 zs) :
    Calls Tryz.prog 94 #[.slice (some ⟨b, off, none⟩) 64 cap] w fun e w' => e = .returned (.agg (wcells (sched zs 64))) ∧ Below w.heap.size w w' := by
  go_enter Tryz.func94, Tryz.ntmps94
  go_wp2
  go_loopw [6] (fun i wr => ∃ k : Nat, k ≤ 16 ∧ i = .int .i64 k ∧ SW w wr (sched zs k)) (fun i _ => 16 - (intOf i).toNat)
  case atStart => exact ⟨0, by omega, rfl, SW.start w⟩
  case round =>
    obtain ⟨k, hk, rfl, hsw⟩ := hrel
    by_cases hlt : k < 16
    · rename_i wr
      have hl := Lib.hid (sched_len zs k)
      have hc := hsw.cell (by have := hl.out; omega) k (by omega)
      have hf := hsw.2.2.2.soft k
      have hr1 := row_from (row_below hsw.1 hr) (k * 4) (by omega)
      go_wp2_with ((go_at_call 101; (with_reducible refine (big_any _ _ _ _ _ hr1).mono ?_); rintro e w1 ⟨rfl, rfl⟩))
      go_roundw
      case rel =>
        refine ⟨k + 1, by omega, by go_num, ?_⟩
        have := hsw.step (by have := hl.out; omega) (bigI (zs.drop (k * 4))) k hl.out.symm
        rw [← sched_low zs k hlt] at this
        exact this
      case measure => simp [intOf]; omega
    · have hk16 := Lib.hid (show k = 16 by omega)
      rename_i wr
      have hd : decide ((k : Int) < 16) = false := by simp; omega
      go_wp2
      go_loopw [5] (fun i wr => ∃ k : Nat, 16 ≤ k ∧ k ≤ 64 ∧ i = .int .i64 k ∧ SW w wr (sched zs k)) (fun i _ => 64 - (intOf i).toNat)
      case atStart => exact ⟨16, by omega, by omega, rfl, by rw [hk16.out] at hsw; exact hsw⟩
      case round =>
        clear hsw hk hlt
        rename_i k0 _ _ _
        obtain ⟨k, hk, hk2, rfl, hsw⟩ := hrel
        by_cases hlt : k < 64
        · rename_i wr
          have hl := Lib.hid (sched_len zs k)
          have hc := hsw.cell (by have := hl.out; omega) k (by omega)
          have hf := hsw.2.2.2.soft k
          have hc16 := hsw.cell (by have := hl.out; omega) (k - 16) (by omega)
          have hc15 := hsw.cell (by have := hl.out; omega) (k - 15) (by omega)
          have hc7 := hsw.cell (by have := hl.out; omega) (k - 7) (by omega)
          have hc2 := hsw.cell (by have := hl.out; omega) (k - 2) (by omega)
          have w15 := wds_at (sched_wd hr.2.1 k) (k - 15)
          have w2 := wds_at (sched_wd hr.2.1 k) (k - 2)
          obtain ⟨e16, t16, p16, q16⟩ := minus k 16 16 rfl hk hlt
          obtain ⟨e15, t15, p15, q15⟩ := minus k 15 15 rfl (by omega) hlt
          obtain ⟨e7, t7, p7, q7⟩ := minus k 7 7 rfl (by omega) hlt
          obtain ⟨e2, t2, p2, q2⟩ := minus k 2 2 rfl (by omega) hlt
          have i16 : (16 : Int) ≤ (k : Int) := by omega
          have i15 : (15 : Int) ≤ (k : Int) := by omega
          have i7 : (7 : Int) ≤ (k : Int) := by omega
          have i2 : (2 : Int) ≤ (k : Int) := by omega
          go_wp2_with fail
          refine wp_region_still_tail 23 (by kernel_rfl) (by kernel_rfl) ?_
          change wpStill _ _ wr.drew (fun a' => wpList _ _ _ _ a' wr.drew) _ _
          simp only [List.take_succ_cons, List.take_zero, List.drop_succ_cons, List.drop_zero]
          repeat still_step
          still_call (still_of (spreadLow_any _ _ w15))
          repeat still_step
          still_call (still_of (spreadHigh_any _ _ w2))
          repeat still_step
          refine wpStill_nil ?_
          clear e16 t16 p16 q16 e15 t15 p15 q15 e7 t7 p7 q7 e2 t2 p2 q2
          go_wp2
          go_roundw
          case rel =>
            refine ⟨k + 1, by omega, by omega, by go_num, ?_⟩
            have := hsw.drew.step (by have := hl.out; omega) (((sched zs k)[k - 16]?.getD 0 + spreadLow ((sched zs k)[k - 15]?.getD 0) + (sched zs k)[k - 7]?.getD 0 + spreadHigh ((sched zs k)[k - 2]?.getD 0)) % 4294967296) k hl.out.symm
            rw [← sched_high zs k hk] at this
            exact this
          case measure => simp [intOf]; omega
        · obtain rfl : k = 64 := by omega
          rename_i wr
          have h61 := Lib.hid (size61 (l := sched zs 64) (by rw [sched_len]; omega))
          have hz := Lib.hid (show (wcells []).size = (wcells (sched zs 64)).size by rw [wcells_size (by simp), wcells_size (by rw [sched_len]; omega)])
          go_wp2_with (first
            | (refine wpList_load_row rfl 113 _ rfl (w.heap.size + 1) rfl 113 _ (0, 0) _ hsw.2.2.2 Tryz.underlying113 rfl h61.out ?_)
            | (refine wpList_store_row rfl 113 _ _ rfl w.heap.size _ rfl rfl 113 _ hsw.2.2.1 h61.out hz.out (all_words _) ?_))
          refine bodyPost_ret (results_cell_row rfl _ _ w.heap.size 113 (wcells (sched zs 64)) (0, 0) _ rfl (setRow_heap _ _ _ _ _ _ hsw.2.2.1) Tryz.underlying113 rfl h61.out) rfl ⟨rfl, below_setRow hsw.1 (Nat.le_refl _) _⟩
end Go.Proofs.YtklhmneapegfpaaGreatDoor.Sha
