/-
  The document's example is kept; conditions: none.
-/
import Derived.Test.YtfglbkhmdapibaaGet
namespace Go.Proofs.Ytfglbkhmdapibaa
open Go.RowKit
set_option linter.unusedVariables false
set_option linter.unusedSimpArgs false

theorem put_a : putL [97] = [97, 158] := by decide
set_option maxRecDepth 100000 in
theorem alive_any (w : World) : Calls Try.prog 6 #[] w fun e w' => e = .returned (.bool true) ∧ Below w.heap.size w w' := by
  have hcv := Lib.run_convert_bytes_const (P := Try.prog) w 22 5 #[.int .u8 97] 1 1 Try.underlying22 Try.underlying5
  have hr : Row (w.alloc (.cells #[.int .u8 97] 5 (1, 2))) (some ⟨w.heap.size, 0, none⟩) 1 [97] := row_text w [97] (byt_one (by omega)) 1 rfl (1, 2)
  have HP := Lib.hid (put_any (some ⟨w.heap.size, 0, none⟩) 1 1 [97] _ hr (by omega))
  have hb0 : Below w.heap.size w (w.alloc (.cells #[.int .u8 97] 5 (1, 2))) := (Below.refl _ _).alloc (Nat.le_refl _) _
  clear hr
  go_enter Try.func6, Try.ntmps6
  go_wp2_with (go_at_call 7; (with_reducible refine HP.out.mono ?_); rintro e w1 ⟨v, rfl, ho, hb⟩; obtain ⟨A, c, rfl, hc, hr1, _⟩ := ho.form; rw [put_a] at hr1; obtain ⟨b, off, rfl, _, hcell⟩ := row_open hr1 (by omega); have q0 : w1.cell? ⟨b, off, none⟩ = some (.int .u8 97) := hcell 0 (by omega); have q1 : w1.cell? ⟨b, off + 1, none⟩ = some (.int .u8 158) := hcell 1 (by omega); clear hcell ho hr1)
  go_ret
  exact ⟨rfl, hb0.trans (hb.mono hb0.size)⟩
theorem nums_at {L : List Int} {j : Nat} (h : j < L.length) : (nums L).toArray[j]? = some (.int .u8 (L.getD j 0)) := by
  simp only [nums, List.getElem?_toArray, List.getElem?_map, List.getD_eq_getElem?_getD]
  rw [List.getElem?_eq_getElem h]
  rfl
theorem has_at {w : World} {G : Nat} {L : List Int} (h : Has w G 5 (nums L).toArray) {j : Nat} (hj : j < L.length) : w.cell? ⟨G, j, none⟩ = some (.int .u8 (L.getD j 0)) := by rw [h.at, nums_at hj]
theorem has_set {w : World} {G : Nat} {L : List Int} (h : Has w G 5 (nums L).toArray) (j : Nat) (y : Int) : Has (w.setCell ⟨G, j, none⟩ (.int .u8 y)) G 5 (nums (L.set j y)).toArray := by
  have := h.put j (.int .u8 y)
  rwa [show (nums L).toArray.setIfInBounds j (.int .u8 y) = (nums (L.set j y)).toArray by simp [nums, List.map_set]] at this
theorem has_row {w : World} {G : Nat} {L : List Int} (h : Has w G 5 (nums L).toArray) (hb : Byt L) : Row w (some ⟨G, 0, none⟩) L.length L :=
  row_mk rfl hb h.size (fun j hj => by rw [Nat.zero_add]; exact has_at h hj)
theorem belowThen {w w1 w2 : World} (h : Below w.heap.size w w1) (h2 : Below w1.heap.size w1 w2) : Below w.heap.size w w2 := h.trans (h2.mono h.size)
/-- A row that a call made, laid open: its block. -/
theorem own_block {w : World} {base : Nat} {v : Value} {n : Nat} {zs : List Int} (h : Own w base v n zs) (hn : 0 < n) : ∃ g cap cur, v = .slice (some ⟨g, 0, none⟩) n cap ∧ base ≤ g ∧ Has w g 5 cur ∧ n ≤ cap ∧ cur.toList.take n = nums zs ∧ ∀ j, j < n → w.cell? ⟨g, j, none⟩ = some (.int .u8 (zs.getD j 0)) := by
  have hl := h.len
  rcases h.1.2 with ⟨_, e⟩ | ⟨g, cap, cur, e1, e2, e3, e4, e5, e6, e7⟩
  · omega
  · have e7' : cur.toList.take n = nums zs := by simpa using e7
    refine ⟨g, cap, cur, e1, e2, e3, e4, e7', fun j hj => ?_⟩
    rw [cell_of_row w g j cur 5 (0, 0) e3]
    have q1 : cur[j]? = (cur.toList.take n)[j]? := by rw [List.getElem?_take, if_pos hj]; simp
    rw [q1, e7']
    simp only [nums, List.getElem?_map, List.getD_eq_getElem?_getD]
    rw [List.getElem?_eq_getElem (by omega)]
    rfl
theorem get_not (a : Option Addr) (n cap : Nat) (zs : List Int) (w : World) (hr : Row w a n zs) (hn : n ≤ 100000) (h : ¬ Whole zs) :
    Calls Try.prog 8 #[.slice a n cap] w fun e w' => (∃ v, e = .returned (.tuple #[v, .bool false])) ∧ Below w.heap.size w w' :=
  (get_any a n cap zs w hr hn).mono fun e w' ⟨v, rs, b, h1, h2, h3, h4⟩ => ⟨⟨v, by rw [h1, (h2.none h).2]⟩, h4⟩
theorem get_nil (w : World) : Calls Try.prog 8 #[.slice none 0 0] w fun e w' => (∃ v, e = .returned (.tuple #[v, .bool true])) ∧ Below w.heap.size w w' :=
  (get_any none 0 0 [] w (row_nil w) (by omega)).mono fun e w' ⟨v, rs, b, h1, h2, h3, h4⟩ => ⟨⟨v, by rw [h1, (h2.some whole_nil).2]⟩, h4⟩
end Go.Proofs.Ytfglbkhmdapibaa
