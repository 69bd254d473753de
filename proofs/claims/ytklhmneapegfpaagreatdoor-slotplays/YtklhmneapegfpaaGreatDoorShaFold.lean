/-
  What the program's fold does with a block: the words of the next state; conditions: the block reads as 64 bytes, the words have 32 bits, the table of constants lies where its initialiser lays it.
-/
import Derived.Test.YtklhmneapegfpaaGreatDoorShaSched
namespace Go.Proofs.YtklhmneapegfpaaGreatDoor.Sha
open Go.RowKit
set_option linter.unusedVariables false

/-- The package's two tables, as they were laid. -/
def Tabs (w : World) : Prop := 2 < w.heap.size ∧ (∀ i, i < 64 → w.cell? ⟨2, i, none⟩ = some (.int .u32 (kI i))) ∧
  w.cell? ⟨0, 0, none⟩ = some (.int .u32 st0.a) ∧ w.cell? ⟨0, 1, none⟩ = some (.int .u32 st0.b) ∧ w.cell? ⟨0, 2, none⟩ = some (.int .u32 st0.c) ∧ w.cell? ⟨0, 3, none⟩ = some (.int .u32 st0.d) ∧
  w.cell? ⟨0, 4, none⟩ = some (.int .u32 st0.e) ∧ w.cell? ⟨0, 5, none⟩ = some (.int .u32 st0.f) ∧ w.cell? ⟨0, 6, none⟩ = some (.int .u32 st0.g) ∧ w.cell? ⟨0, 7, none⟩ = some (.int .u32 st0.h)
theorem Tabs.below {w w' : World} {B : Nat} (h : Tabs w) (hb : Below B w w') (hB : 2 < B) : Tabs w' := by
  obtain ⟨h0, h1, h2⟩ := h
  have c : ∀ j, w'.cell? ⟨0, j, none⟩ = w.cell? ⟨0, j, none⟩ := fun j => hb.cell (p := ⟨0, j, none⟩) (by show 0 < B; omega)
  refine ⟨Nat.lt_of_lt_of_le h0 hb.size, fun i hi => (hb.cell (p := ⟨2, i, none⟩) (by show 2 < B; omega)).trans (h1 i hi), ?_⟩
  simp only [c]
  exact h2
theorem Tabs.kept {w w' : World} (h : Tabs w) (hb : Below w.heap.size w w') : Tabs w' := h.below hb h.1

/-- The cells of eight words. -/
def stCells (s : St) : Array Value := #[.int .u32 s.a, .int .u32 s.b, .int .u32 s.c, .int .u32 s.d, .int .u32 s.e, .int .u32 s.f, .int .u32 s.g, .int .u32 s.h]
theorem run_index_word (k : Nat) (cs : Array Value) (v : Value) (hk : k < 64) (h : cs[k]? = some v) (w : World) : (Instr.index 113 (.agg cs) (.int .i64 (k : Int))).run Tryz.prog w = .ok v w := by
  have hi : Tryz.prog.info? 87 = some (Tryz.prog.info? 87).get! := by kernel_rfl
  simp [Instr.index, run_underlying Tryz.underlying113, asIntOf, hk, go_sem, h]

theorem st_all (t : St) : (stCells t).all (·.oneCell') = true := by simp [stCells, Value.oneCell']
theorem size45 : (Tryz.prog.info? 92).map (·.size) = some 8 := by kernel_rfl
def zeroSt : St := ⟨0, 0, 0, 0, 0, 0, 0, 0⟩
def FW (s : St) (w wr : World) : Prop := Below w.heap.size w wr ∧ Has wr w.heap.size 92 (stCells s) ∧ Has wr (w.heap.size + 1) 92 (stCells zeroSt)
theorem FW.start (s : St) (w w1 : World) (h : Below ((w.alloc (.cells (stCells s) 92)).alloc (.cells (stCells zeroSt) 92)).drew.drew.heap.size ((w.alloc (.cells (stCells s) 92)).alloc (.cells (stCells zeroSt) 92)).drew.drew w1) : FW s w w1 := by
  have h1 : Below w.heap.size w ((w.alloc (.cells (stCells s) 92)).alloc (.cells (stCells zeroSt) 92)).drew.drew := ((((Below.refl _ _).alloc (Nat.le_refl _) _).alloc (by simp) _).drew).drew
  have h2 : Has ((w.alloc (.cells (stCells s) 92)).alloc (.cells (stCells zeroSt) 92)).drew.drew w.heap.size 92 (stCells s) := (has_new w 92 _).more _
  have h3 : Has ((w.alloc (.cells (stCells s) 92)).alloc (.cells (stCells zeroSt) 92)).drew.drew (w.heap.size + 1) 92 (stCells zeroSt) := by
    have := has_new (w.alloc (.cells (stCells s) 92)) 92 (stCells zeroSt)
    rw [World.size_alloc] at this
    exact this
  exact ⟨h1.trans (h.mono h1.size), h2.kept h, h3.kept h⟩
def AtRound (t : St) (a b c d e f g h : Value) : Prop := a = .int .u32 t.a ∧ b = .int .u32 t.b ∧ c = .int .u32 t.c ∧ d = .int .u32 t.d ∧ e = .int .u32 t.e ∧ f = .int .u32 t.f ∧ g = .int .u32 t.g ∧ h = .int .u32 t.h

set_option maxRecDepth 100000 in
set_option maxHeartbeats 1000000 in
theorem fold_any (s : St) (b off cap : Nat) (zs : List Int) (w : World) (hs : s.Ok) (hcap : 64 ≤ cap) (hr : Row w (some ⟨b, off, none⟩) 64 zs) (ht : Tabs w) :
    Calls Tryz.prog 82 #[.agg (stCells s), .slice (some ⟨b, off, none⟩) 64 cap] w fun e w' => e = .returned (.agg (stCells (foldI s zs))) ∧ Below w.heap.size w w' := by
  unfold stCells
  go_enter Tryz.func82, Tryz.ntmps82
  go_wp2_with fail
  refine wp_region_still_lit (by kernel_rfl) (by kernel_rfl) ?_
  simp only [World.drew_eq]
  repeat still_step
  refine wpStill_nil ?_
  go_wp2_with fail
  refine wp_region_still_lit (by kernel_rfl) (by kernel_rfl) ?_
  simp only [World.drew_eq]
  repeat still_step
  refine wpStill_nil ?_
  go_wp2_with fail
  refine (sched_any b off cap zs _ hcap (row_below (((((Below.refl _ _).alloc (Nat.le_refl _) _).alloc (by simp) _).drew).drew) hr)).mono ?_
  rintro e w1 ⟨rfl, H1⟩
  have hfw := FW.start s w w1 H1
  clear H1
  have hlen := Lib.hid (sched_len zs 64)
  obtain ⟨ws, hws⟩ : ∃ ws, ws = sched zs 64 := ⟨_, rfl⟩
  have HWS := Lib.hid hws
  rw [← hws] at hlen
  rw [← hws]
  clear hws
  go_wp2_with fail
  go_loopw [5, 6, 7, 8, 9, 10, 11, 12, 35] (fun a b c d e f g h i wr => ∃ k : Nat, k ≤ 64 ∧ i = .int .i64 k ∧ AtRound (rounds ws s k) a b c d e f g h ∧ FW s w wr) (fun _ _ _ _ _ _ _ _ i _ => 64 - (intOf i).toNat)
  case atStart => exact ⟨0, by omega, rfl, ⟨rfl, rfl, rfl, rfl, rfl, rfl, rfl, rfl⟩, hfw⟩
  case round =>
    clear hfw
    rename_i wr
    obtain ⟨k, hk, rfl, ⟨rfl, rfl, rfl, rfl, rfl, rfl, rfl, rfl⟩, hfw⟩ := hrel
    have tok := rounds_ok hs ws k
    by_cases hlt : k < 64
    · have hnx := Lib.hid (show rounds ws s (k + 1) = rnd (kI k) (ws.getD k 0) (rounds ws s k) from rfl)
      have hidx := run_index_word k (wcells ws) (.int .u32 (ws.getD k 0)) hlt (wcells_at (by have := hlen.out; omega) hlt)
      have hkc := (ht.kept hfw.1).2.1 k hlt
      generalize rounds ws s k = t at *
      obtain ⟨oa, ob, oc, od, oe, of, og, oh⟩ := tok
      have ik : (k : Int) < 64 := by omega
      have ik0 : (0 : Int) ≤ (k : Int) := by omega
      go_wp2_with fail
      refine wp_region_still_lit (by kernel_rfl) (by kernel_rfl) ?_
      simp only [World.drew_eq]
      repeat still_step
      still_call (still_of (mixHigh_any _ _ oe))
      repeat still_step
      still_call (still_of (choose_any _ _ _ _ oe of og))
      repeat still_step
      refine wpStill_nil ?_
      go_wp2_with (first
        | (go_at_call 97; refine (mixLow_any _ _ oa).mono ?_; rintro e w' ⟨rfl, rfl⟩)
        | (go_at_call 98; refine (majority_any _ _ _ _ oa ob oc).mono ?_; rintro e w' ⟨rfl, rfl⟩))
      go_roundw
      case rel =>
        refine ⟨k + 1, by omega, by go_num, ?_, hfw.1.drew, hfw.2.1, hfw.2.2⟩
        rw [hnx.out]
        exact ⟨rfl, rfl, rfl, rfl, rfl, rfl, rfl, rfl⟩
      case measure => simp [intOf]; omega
    · obtain rfl : k = 64 := by omega
      have c0 : wr.cell? ⟨w.heap.size, 0, none⟩ = some (.int .u32 s.a) := hfw.2.1.at 0
      have c1 : wr.cell? ⟨w.heap.size, 1, none⟩ = some (.int .u32 s.b) := hfw.2.1.at 1
      have c2 : wr.cell? ⟨w.heap.size, 2, none⟩ = some (.int .u32 s.c) := hfw.2.1.at 2
      have c3 : wr.cell? ⟨w.heap.size, 3, none⟩ = some (.int .u32 s.d) := hfw.2.1.at 3
      have c4 : wr.cell? ⟨w.heap.size, 4, none⟩ = some (.int .u32 s.e) := hfw.2.1.at 4
      have c5 : wr.cell? ⟨w.heap.size, 5, none⟩ = some (.int .u32 s.f) := hfw.2.1.at 5
      have c6 : wr.cell? ⟨w.heap.size, 6, none⟩ = some (.int .u32 s.g) := hfw.2.1.at 6
      have c7 : wr.cell? ⟨w.heap.size, 7, none⟩ = some (.int .u32 s.h) := hfw.2.1.at 7
      have hend := Lib.hid (show foldI s zs = sumSt s (rounds ws s 64) by rw [HWS.out]; rfl)
      generalize rounds ws s 64 = t at *
      go_wp2_with (refine wpList_store_row rfl 92 _ _ rfl (w.heap.size + 1) (stCells (sumSt s t)) rfl rfl 92 _ hfw.2.2 size45 rfl (st_all _) ?_)
      rw [hend.out]
      refine bodyPost_ret (results_cell_row rfl _ _ (w.heap.size + 1) 92 (stCells (sumSt s t)) (0, 0) _ rfl (setRow_heap _ _ _ _ _ _ hfw.2.2) Tryz.underlying92 rfl (by kernel_rfl)) rfl ⟨rfl, below_setRow hfw.1 (by omega) _⟩
end Go.Proofs.YtklhmneapegfpaaGreatDoor.Sha
