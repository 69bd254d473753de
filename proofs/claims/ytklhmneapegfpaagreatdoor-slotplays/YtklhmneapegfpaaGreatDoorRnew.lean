/-
  A new flash of the document's; conditions: none.
-/
import Derived.Test.YtklhmneapegfpaaGreatDoorNew
namespace Go.Proofs.YtklhmneapegfpaaGreatDoor
open Go.RowKit
set_option linter.unusedVariables false
set_option linter.unusedSimpArgs false

theorem getD_rep (n j : Nat) (x : Int) (h : j < n) : (List.replicate n x).getD j 0 = x := by simp [List.getD_eq_getElem?_getD, List.getElem?_replicate, h]
def fillc (N k : Nat) : List Int := List.replicate k 255 ++ List.replicate (N - k) 0
theorem fillc_len {N k : Nat} (h : k ≤ N) : (fillc N k).length = N := by simp [fillc]; omega
theorem fillc_next {N k : Nat} (h : k < N) : (fillc N k).set k 255 = fillc N (k + 1) := by
  refine list_eq (by rw [List.length_set, fillc_len (by omega), fillc_len (by omega)]) fun j hj => ?_
  rw [List.length_set] at hj
  rw [getD_set _ _ _ _ hj]
  rw [fillc_len (by omega)] at hj
  unfold fillc
  by_cases e : k = j
  · subst e
    rw [if_pos rfl, getD_left _ _ _ (by simp), getD_rep _ _ _ (by omega)]
  · rw [if_neg e]
    by_cases h2 : j < k
    · rw [getD_left _ _ _ (by simpa using h2), getD_left _ _ _ (by simp; omega), getD_rep _ _ _ h2, getD_rep _ _ _ (by omega)]
    · rw [getD_right _ _ _ (by simp; omega), getD_right _ _ _ (by simp; omega), getD_rep _ _ _ (by simp; omega), getD_rep _ _ _ (by simp; omega)]
theorem fillc_all (N : Nat) : fillc N N = List.replicate N 255 := by simp [fillc]
theorem fillc_none (N : Nat) : fillc N 0 = List.replicate N 0 := by simp [fillc]
def rnew (G K s : Nat) : Array Value := #[.slice (some ⟨G, 0, none⟩) (320 * s) (320 * s), .slice (some ⟨K, 0, none⟩) s s, .bool false, .bool false, .int .i64 0, .slice none 0 0, .int .i64 0]
theorem rl_new {w W : World} {g G K s : Nat} (hs : s ≤ 400) (hg : Has W g 59 (rnew G K s)) (hG : Bk W G 5 (nums (List.replicate (320 * s) 255))) (hK : Bk W K 3 (ints (List.replicate s 0))) (h0 : w.heap.size ≤ g) (h1 : w.heap.size ≤ G) (h2 : w.heap.size ≤ K) (hb : Below w.heap.size w W) :
    ∃ g' m k, Ending.returned (.pointer (some ⟨g, 0, none⟩)) = .returned (.pointer (some ⟨g', 0, none⟩)) ∧ w.heap.size ≤ g' ∧ w.heap.size ≤ m ∧ w.heap.size ≤ k ∧ Rl W W.heap.size g' m k (fresh s) ∧ Below w.heap.size w W := by
  refine ⟨g, G, K, rfl, h0, h1, h2, ⟨false, 0, none, 0, 0, ⟨fresh_ok hs, hg.size, hG.size, hK.size, ?_, hG, hK⟩, rfl⟩, hb⟩
  have e1 : (fresh s).mem.length = 320 * s := List.length_replicate
  have e2 : (fresh s).wear.length = s := List.length_replicate
  rw [e1, e2]
  exact hg
/-- Behind the struct's making. -/
def Start (w W : World) (g G K s : Nat) : Prop := w.heap.size ≤ g ∧ w.heap.size ≤ G ∧ w.heap.size ≤ K ∧ Has W g 59 (rnew G K s) ∧ Bk W G 5 (nums (fillc (320 * s) 0)) ∧ Bk W K 3 (ints (List.replicate s 0)) ∧ Below w.heap.size w W
theorem start_a (w : World) (s : Nat) : Start w (((w.alloc (.cells (zeroBytes (320 * s)) 5)).alloc (.cells (zeroInts s) 3)).alloc (.cells (rnew w.heap.size (w.heap.size + 1) s) 59)).drew (w.heap.size + 1 + 1) w.heap.size (w.heap.size + 1) s := by
  have hg := has_new ((w.alloc (.cells (zeroBytes (320 * s)) 5)).alloc (.cells (zeroInts s) 3)) 59 (rnew w.heap.size (w.heap.size + 1) s)
  simp only [World.size_alloc] at hg
  have hK := (has_new (w.alloc (.cells (zeroBytes (320 * s)) 5)) 3 (zeroInts s)).more (.cells (rnew w.heap.size (w.heap.size + 1) s) 59)
  simp only [World.size_alloc] at hK
  have hG := ((has_new w 5 (zeroBytes (320 * s))).more (.cells (zeroInts s) 3)).more (.cells (rnew w.heap.size (w.heap.size + 1) s) 59)
  refine ⟨by omega, Nat.le_refl _, by omega, hg, ?_, bk_all _ _ _ hK, ((((Below.refl _ w).alloc (Nat.le_refl _) _).alloc (by simp) _).alloc (by simp; omega) _).drew⟩
  rw [fillc_none]
  exact bk_all _ _ _ hG
theorem start_b (w : World) (s : Nat) : Start w (((w.alloc (.cells (zeroInts s) 3)).alloc (.cells (zeroBytes (320 * s)) 5)).alloc (.cells (rnew (w.heap.size + 1) w.heap.size s) 59)).drew (w.heap.size + 1 + 1) (w.heap.size + 1) w.heap.size s := by
  have hg := has_new ((w.alloc (.cells (zeroInts s) 3)).alloc (.cells (zeroBytes (320 * s)) 5)) 59 (rnew (w.heap.size + 1) w.heap.size s)
  simp only [World.size_alloc] at hg
  have hG := (has_new (w.alloc (.cells (zeroInts s) 3)) 5 (zeroBytes (320 * s))).more (.cells (rnew (w.heap.size + 1) w.heap.size s) 59)
  simp only [World.size_alloc] at hG
  have hK := ((has_new w 3 (zeroInts s)).more (.cells (zeroBytes (320 * s)) 5)).more (.cells (rnew (w.heap.size + 1) w.heap.size s) 59)
  refine ⟨by omega, by omega, Nat.le_refl _, hg, ?_, bk_all _ _ _ hK, ((((Below.refl _ w).alloc (Nat.le_refl _) _).alloc (by simp) _).alloc (by simp; omega) _).drew⟩
  rw [fillc_none]
  exact bk_all _ _ _ hG
def Filling (G N : Nat) (w2 : World) (i : Value) (wr : World) : Prop := ∃ k : Nat, i = .int .i64 (k : Int) ∧ k ≤ N ∧ Bk wr G 5 (nums (fillc N k)) ∧ Only (fun b => b = G) w2 wr
set_option maxRecDepth 100000 in
set_option maxHeartbeats 2000000 in
theorem rnew_any (n : Int) (w : World) : Calls Tryz.prog 6 #[.int .i64 n] w (NewRl n w) := by
  obtain ⟨s, hs⟩ : ∃ s, sect n = s := ⟨_, rfl⟩
  have hs4 : s ≤ 400 := by have := sect_le n; omega
  have hmk := make_ints s (by omega)
  have hmk2 : ∀ w, (Instr.makeSlice 34 (.int .i64 (IntKind.i64.wrap ((s : Int) * 320))) (.int .i64 (IntKind.i64.wrap ((s : Int) * 320)))).run Tryz.prog w = .ok (.slice (some ⟨w.heap.size, 0, none⟩) (320 * s) (320 * s)) (w.alloc (.cells (zeroBytes (320 * s)) 5)) := fun w => by
    have := make_bytes (320 * s) (by omega) w
    rw [show ((320 * s : Nat) : Int) = IntKind.i64.wrap ((s : Int) * 320) by rw [IntKind.wrap_i64]; omega] at this
    exact this
  have hcut := rcut_any n 0 400 w (by omega)
  rw [show min (max n 0) 400 = ((sect n : Nat) : Int) by unfold sect; omega, hs] at hcut
  have HC := Lib.hid hcut
  unfold NewRl
  rw [hs]
  clear hs hcut
  have i0 : (0 : Int) ≤ (s : Int) := by omega
  have i1 : (s : Int) ≤ 400 := by omega
  go_enter Tryz.func6, Tryz.ntmps6
  go_wp2_with (go_at_call 27; refine HC.out.mono ?_; rintro e w1 ⟨rfl, rfl⟩)
  go_region
  · have F := start_a w s
    unfold rnew at F
    generalize (((w.alloc (.cells (zeroBytes (320 * s)) 5)).alloc (.cells (zeroInts s) 3)).alloc (.cells #[.slice (some ⟨w.heap.size, 0, none⟩) (320 * s) (320 * s), .slice (some ⟨w.heap.size + 1, 0, none⟩) s s, .bool false, .bool false, .int .i64 0, .slice none 0 0, .int .i64 0] 59)).drew = W at F ⊢
    obtain ⟨l1, l2, l3, hg, hG, hK, hb⟩ := F
    clear hmk hmk2
    simp only [List.getElem_toArray, List.getElem_cons_succ, List.getElem_cons_zero, Act.put, List.setIfInBounds_toArray, List.set_cons_zero, List.set_cons_succ]
    go_wp2_with fail
    go_loopw [4] (fun i wr => Filling (w.heap.size) (320 * s) W i wr) (fun i _ => 320 * s - (intOf i).toNat)
    case atStart => exact ⟨0, rfl, by omega, hG, Only.refl _ _⟩
    case round =>
      obtain ⟨k, rfl, hk, hGr, ho⟩ := hrel
      have hgr := hg.only ho (by show ¬ (w.heap.size + 1 + 1 = w.heap.size); omega)
      have hKr := hK.only ho (by show ¬ (w.heap.size + 1 = w.heap.size); omega)
      have hbr : Below w.heap.size w wr := hb.trans (ho.to_below hb.size (fun b e => by omega))
      have c0 : wr.cell? ⟨w.heap.size + 1 + 1, 0, none⟩ = some (.slice (some ⟨w.heap.size, 0, none⟩) (320 * s) (320 * s)) := hgr.at 0
      by_cases hlt : k < 320 * s
      · have q := bk_byte hGr k (by rw [fillc_len hk]; exact hlt)
        have qf := hGr.soft k
        have hG2 := bk_put_byte hGr k (by rw [fillc_len hk]; exact hlt) 255
        rw [fillc_next hlt] at hG2
        have ho2 := ho.setCell (q := ⟨w.heap.size, k, none⟩) rfl (.int .u8 255)
        have i2 : (0 : Int) ≤ (k : Int) := by omega
        have i3 : k ≤ 128000 := by omega
        generalize (fillc (320 * s) k).getD k 0 = z at *
        go_wp2
        go_roundw
        case rel => exact ⟨k + 1, by go_num, by omega, hG2, ho2⟩
        case measure => simp [intOf]; omega
      · obtain rfl : k = 320 * s := by omega
        go_wp2
        go_ret
        rw [fillc_all] at hGr
        exact rl_new hs4 hgr hGr hKr l1 l2 l3 hbr
  · have F := start_b w s
    unfold rnew at F
    generalize (((w.alloc (.cells (zeroInts s) 3)).alloc (.cells (zeroBytes (320 * s)) 5)).alloc (.cells #[.slice (some ⟨w.heap.size + 1, 0, none⟩) (320 * s) (320 * s), .slice (some ⟨w.heap.size, 0, none⟩) s s, .bool false, .bool false, .int .i64 0, .slice none 0 0, .int .i64 0] 59)).drew = W at F ⊢
    obtain ⟨l1, l2, l3, hg, hG, hK, hb⟩ := F
    clear hmk hmk2
    simp only [List.getElem_toArray, List.getElem_cons_succ, List.getElem_cons_zero, Act.put, List.setIfInBounds_toArray, List.set_cons_zero, List.set_cons_succ]
    go_wp2_with fail
    go_loopw [4] (fun i wr => Filling (w.heap.size + 1) (320 * s) W i wr) (fun i _ => 320 * s - (intOf i).toNat)
    case atStart => exact ⟨0, rfl, by omega, hG, Only.refl _ _⟩
    case round =>
      obtain ⟨k, rfl, hk, hGr, ho⟩ := hrel
      have hgr := hg.only ho (by show ¬ (w.heap.size + 1 + 1 = w.heap.size + 1); omega)
      have hKr := hK.only ho (by show ¬ (w.heap.size = w.heap.size + 1); omega)
      have hbr : Below w.heap.size w wr := hb.trans (ho.to_below hb.size (fun b e => by omega))
      have c0 : wr.cell? ⟨w.heap.size + 1 + 1, 0, none⟩ = some (.slice (some ⟨w.heap.size + 1, 0, none⟩) (320 * s) (320 * s)) := hgr.at 0
      by_cases hlt : k < 320 * s
      · have q := bk_byte hGr k (by rw [fillc_len hk]; exact hlt)
        have qf := hGr.soft k
        have hG2 := bk_put_byte hGr k (by rw [fillc_len hk]; exact hlt) 255
        rw [fillc_next hlt] at hG2
        have ho2 := ho.setCell (q := ⟨w.heap.size + 1, k, none⟩) rfl (.int .u8 255)
        have i2 : (0 : Int) ≤ (k : Int) := by omega
        have i3 : k ≤ 128000 := by omega
        generalize (fillc (320 * s) k).getD k 0 = z at *
        go_wp2
        go_roundw
        case rel => exact ⟨k + 1, by go_num, by omega, hG2, ho2⟩
        case measure => simp [intOf]; omega
      · obtain rfl : k = 320 * s := by omega
        go_wp2
        go_ret
        rw [fillc_all] at hGr
        exact rl_new hs4 hgr hGr hKr l1 l2 l3 hbr
end Go.Proofs.YtklhmneapegfpaaGreatDoor
