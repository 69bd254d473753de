/-
  A new flash, the program's and the document's; conditions: none.
-/
import Derived.Test.YtklhmneapegfpaaGreatDoorRep
import Derived.Deep.RegionWith
namespace Go.Proofs.YtklhmneapegfpaaGreatDoor
open Go.RowKit
set_option linter.unusedVariables false
set_option linter.unusedSimpArgs false

theorem info3 : (Tryz.prog.info? 3).map (fun i => (i.zero, i.size, i.bytes)) = some (some (.int .i64 0), 1, 8) := by kernel_rfl
def zeroInts (c : Nat) : Array Value := (ints (List.replicate c 0)).toArray
def zeroBytes (c : Nat) : Array Value := (nums (List.replicate c 0)).toArray
theorem make_ints (l : Nat) (hc : l ≤ 1000000) (w : World) : (Instr.makeSlice 53 (.int .i64 (l : Int)) (.int .i64 (l : Int))).run Tryz.prog w = .ok (.slice (some ⟨w.heap.size, 0, none⟩) l l) (w.alloc (.cells (zeroInts l) 3)) := by
  obtain ⟨i, hi, hz0, hz1, hz2⟩ := info_parts info3
  have h := run_make (P := Tryz.prog) w 53 3 i (.int .i64 0) Tryz.underlying53 hi hz0 .i64 .i64 l l (by omega) (by omega) (by rw [hz2]; omega) (by omega)
  rw [h, hz1]
  have e : madeCells (Value.int .i64 0).cells (((l : Int)).toNat * 1) = zeroInts l := by
    unfold zeroInts
    apply Array.ext'
    rw [show (Value.int .i64 0).cells = #[Value.int .i64 0] from rfl, toList_madeCells_one]
    simp [ints]
  rw [e]
  simp
theorem make_bytes (l : Nat) (hc : l ≤ 1000000) (w : World) : (Instr.makeSlice 34 (.int .i64 (l : Int)) (.int .i64 (l : Int))).run Tryz.prog w = .ok (.slice (some ⟨w.heap.size, 0, none⟩) l l) (w.alloc (.cells (zeroBytes l) 5)) := by
  obtain ⟨i, hi, hz0, hz1, hz2⟩ := info_parts info5
  have h := run_make (P := Tryz.prog) w 34 5 i (.int .u8 0) Tryz.underlying34 hi hz0 .i64 .i64 l l (by omega) (by omega) (by rw [hz2]; omega) (by omega)
  rw [h, hz1]
  have e : madeCells (Value.int .u8 0).cells (((l : Int)).toNat * 1) = zeroBytes l := by
    unfold zeroBytes
    apply Array.ext'
    rw [show (Value.int .u8 0).cells = #[Value.int .u8 0] from rfl, toList_madeCells_one]
    simp [nums]
  rw [e]
  simp
theorem bk_all {m : Nat} (w : World) (t : TypeId) (vs : List Value) (h : Has w m t vs.toArray) : Bk w m t vs := ⟨_, h, List.take_of_length_le (Nat.le_refl _)⟩
set_option maxRecDepth 100000 in
theorem erased_any (n : Nat) (w : World) (hn : n ≤ 1000000) : Calls Tryz.prog 26 #[.int .i64 (n : Int)] w (Made n w) := by
  have hr : Row (w.alloc (.cells #[.int .u8 255] 5)) (some ⟨w.heap.size, 0, none⟩) 1 [255] := row_text w [255] (byt_same 1 255 (by omega)) 1 rfl (0, 0)
  have hc := repeat_any w.heap.size 0 1 n (w.alloc (.cells #[.int .u8 255] 5)) hn hr
  go_enter Tryz.func26, Tryz.ntmps26
  go_wp2_with (go_at_call 55; refine hc.mono ?_; rintro e w1 ⟨G, rfl, hG, hB, hbel⟩)
  go_ret
  exact ⟨G, rfl, by simp at hG; omega, hB, ((Below.refl _ w).alloc (Nat.le_refl _) _).trans (hbel.mono (by simp))⟩
/-- A new flash of n sectors, in blocks of its own. -/
def NewFl (n : Int) (w : World) (e : Ending) (w' : World) : Prop := ∃ g m k, e = .returned (.pointer (some ⟨g, 0, none⟩)) ∧ w.heap.size ≤ g ∧ w.heap.size ≤ m ∧ w.heap.size ≤ k ∧ Fl w' w'.heap.size g m k (fresh (sect n)) ∧ Below w.heap.size w w'
def NewRl (n : Int) (w : World) (e : Ending) (w' : World) : Prop := ∃ g m k, e = .returned (.pointer (some ⟨g, 0, none⟩)) ∧ w.heap.size ≤ g ∧ w.heap.size ≤ m ∧ w.heap.size ≤ k ∧ Rl w' w'.heap.size g m k (fresh (sect n)) ∧ Below w.heap.size w w'
theorem sect_if (n : Int) : (if (400 : Int) < (if n < 0 then 0 else n) then (400 : Int) else (if n < 0 then 0 else n)) = ((sect n : Nat) : Int) := by
  unfold sect
  split <;> split at * <;> omega
theorem fl_new {w W : World} {G K s : Nat} (hs : s ≤ 400) (hG : Bk W G 5 (nums (List.replicate (320 * s) 255))) (hK : Bk W K 3 (ints (List.replicate s 0))) (h1 : w.heap.size ≤ G) (h2 : w.heap.size ≤ K) (hb : Below w.heap.size w W) :
    ∃ g m k, Ending.returned (.pointer (some ⟨W.heap.size, 0, none⟩)) = .returned (.pointer (some ⟨g, 0, none⟩)) ∧ w.heap.size ≤ g ∧ w.heap.size ≤ m ∧ w.heap.size ≤ k ∧
      Fl (W.alloc (.cells #[.slice (some ⟨G, 0, none⟩) (320 * s) (320 * s), .slice (some ⟨K, 0, none⟩) s s, .int .i64 0, .bool false, .bool false, .int .i64 0, .slice none 0 0] 57))
        (W.alloc (.cells #[.slice (some ⟨G, 0, none⟩) (320 * s) (320 * s), .slice (some ⟨K, 0, none⟩) s s, .int .i64 0, .bool false, .bool false, .int .i64 0, .slice none 0 0] 57)).heap.size g m k (fresh s) ∧
      Below w.heap.size w (W.alloc (.cells #[.slice (some ⟨G, 0, none⟩) (320 * s) (320 * s), .slice (some ⟨K, 0, none⟩) s s, .int .i64 0, .bool false, .bool false, .int .i64 0, .slice none 0 0] 57)) := by
  refine ⟨W.heap.size, G, K, rfl, hb.size, h1, h2, ⟨false, 0, none, 0, 0, ⟨fresh_ok hs, ?_, ?_, ?_, ?_, ?_, ?_⟩, rfl⟩, hb.alloc hb.size _⟩
  · simp
  · have := hG.size; simp; omega
  · have := hK.size; simp; omega
  · have e1 : (fresh s).mem.length = 320 * s := List.length_replicate
    have e2 : (fresh s).wear.length = s := List.length_replicate
    rw [e1, e2]
    exact has_new W 57 _
  · exact hG.keep (Below.heap_alloc _ _ _ hG.size)
  · exact hK.keep (Below.heap_alloc _ _ _ hK.size)
theorem below_drew {B : Nat} {w w1 : World} (h : Below B w.drew w1) : Below B w w1 := ⟨h.os, h.tape, h.output, h.size, h.block⟩
theorem fl_side {w w1 : World} {G s : Nat} (hbel : Below (w.alloc (.cells (zeroInts s) 3)).heap.size (w.alloc (.cells (zeroInts s) 3)) w1) (hG : (w.alloc (.cells (zeroInts s) 3)).drew.heap.size ≤ G) :
    Bk w1 w.heap.size 3 (ints (List.replicate s 0)) ∧ w.heap.size ≤ G ∧ Below w.heap.size w w1 :=
  ⟨(bk_all (w.alloc (.cells (zeroInts s) 3)) 3 (ints (List.replicate s 0)) (has_new w 3 _)).keep (hbel.block _ (by rw [World.size_alloc]; omega)), by have h : (w.alloc (.cells (zeroInts s) 3)).heap.size ≤ G := hG; rw [World.size_alloc] at h; omega,
    ((Below.refl _ w).alloc (Nat.le_refl _) (.cells (zeroInts s) 3)).trans (hbel.mono (by rw [World.size_alloc]; omega))⟩
set_option maxRecDepth 100000 in
set_option maxHeartbeats 1000000 in
theorem new_any (n : Int) (w : World) : Calls Tryz.prog 5 #[.int .i64 n] w (NewFl n w) := by
  obtain ⟨s, hs⟩ : ∃ s, sect n = s := ⟨_, rfl⟩
  have hs4 : s ≤ 400 := by have := sect_le n; omega
  have hmk := make_ints s (by omega)
  have her : ∀ w, Calls Tryz.prog 26 #[.int .i64 (IntKind.i64.wrap ((s : Int) * 320))] w (Made (320 * s) w) := fun w => by
    have := erased_any (320 * s) w (by omega)
    rw [show ((320 * s : Nat) : Int) = IntKind.i64.wrap ((s : Int) * 320) by rw [IntKind.wrap_i64]; omega] at this
    exact this
  have HER := Lib.hid her
  clear her
  have hif := sect_if n
  rw [hs] at hif
  unfold NewFl
  rw [hs]
  clear hs
  have i0 : (0 : Int) ≤ (s : Int) := by omega
  have i1 : (s : Int) ≤ 400 := by omega
  go_enter Tryz.func5, Tryz.ntmps5
  go_wp2_with fail
  all_goals
    clear hif
    go_region_with ((go_at_call 26; refine (HER.out _).mono ?_; rintro e w1 ⟨G, rfl, hG, hB, hbel⟩))
  all_goals
    go_wp2
    go_ret
    first
      | (have hb1 : Below w.heap.size w w1 := below_drew hbel
         have F := fl_new (w := w) (W := w1.alloc (.cells (zeroInts s) 3)) (G := G) (K := w1.heap.size) hs4 (hB.keep (Below.heap_alloc _ _ _ hB.size)) (bk_all _ _ _ (has_new w1 3 _)) hG hb1.size (hb1.alloc hb1.size _)
         simp only [World.size_alloc] at F ⊢
         exact F)
      | (have hb1 : Below (w.alloc (.cells (zeroInts s) 3)).heap.size (w.alloc (.cells (zeroInts s) 3)) w1 := below_drew hbel
         obtain ⟨x1, x2, x3⟩ := fl_side hb1 hG
         have F := fl_new (w := w) (W := w1) (G := G) (K := w.heap.size) hs4 hB x1 x2 (Nat.le_refl _) x3
         simp only [World.size_alloc] at F ⊢
         exact F)
end Go.Proofs.YtklhmneapegfpaaGreatDoor
