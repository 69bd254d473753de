/-
  The bytes that a manifest says, the program's Body and the document's own; conditions: its digest is of 32 bytes, its numbers are of 64 bits.
-/
import Derived.Test.YtjfalnhmmofdfaaDoorWk
import Derived.Lib.SlBytesConst
namespace Go.Proofs.YtjfalnhmmofdfaaDoor
open Go.RowKit
set_option linter.unusedVariables false
set_option linter.unusedSimpArgs false

def markC : Array Value := #[.int .u8 87, .int .u8 76, .int .u8 77, .int .u8 49]
theorem mark_row (w : World) : Row (w.alloc (.cells #[.int .u8 87, .int .u8 76, .int .u8 77, .int .u8 49] 5 (4, 5))) (some ⟨w.heap.size, 0, none⟩) 4 markL := row_text w markL byt_mark 4 rfl (4, 5)
theorem cut4 : cutN 4 1000 = 4 := by decide
theorem cut16 : cutN 16 1000 = 16 := by decide
theorem cut32 : cutN 32 1000 = 32 := by decide
theorem cut8_4 : cutN 4 8 = 4 := by decide
theorem bodyL_is (m : Mn) : bodyL m = [] ++ rawL markL 4 ++ rawL (txtL m.name) 16 ++ numL m.ver 4 ++ numL m.size 4 ++ rawL m.dig 32 := rfl
/-- How much of a name is copied. -/
theorem head_long (s : ByteArray) (h : 16 < (s.size : Int)) : ∃ nm : ByteArray, (∀ w : World, (convert 9 22 (.string (s.extract 0 16))).run Tryd.prog w = .ok (.slice (some ⟨w.heap.size, 0, none⟩) nm.size (txtC w nm)) (txtW w nm)) ∧ rawL (txtL nm) 16 = rawL (txtL s) 16 :=
  ⟨s.extract 0 16, fun w => txt_run w _, by rw [txt_cap s 16 (by omega), raw_take]⟩
theorem head_short (s : ByteArray) : ∃ nm : ByteArray, (∀ w : World, (convert 9 22 (.string s)).run Tryd.prog w = .ok (.slice (some ⟨w.heap.size, 0, none⟩) nm.size (txtC w nm)) (txtW w nm)) ∧ rawL (txtL nm) 16 = rawL (txtL s) 16 :=
  ⟨s, fun w => txt_run w _, rfl⟩
set_option maxRecDepth 100000 in
set_option maxHeartbeats 1000000 in
theorem body_any (m : Mn) (w : World) (hm : m.Ok) : Calls Tryd.prog 10 #[.agg m.cells] w (Gives 60 (bodyL m) w) := by
  obtain ⟨hl, hd, hv, hs⟩ := hm
  have ba : Below w.heap.size w (w.alloc (.cells m.cells 27)) := (Below.refl _ _).alloc (Nat.le_refl _) _
  have h0 := (has_new w 27 m.cells).more (.cells #[.pointer none, .int .i64 0] 57)
  have kw0 := wk_new w (w.alloc (.cells m.cells 27)) ba
  rw [World.size_alloc] at kw0
  have kw1 := kw0.kept ((Below.refl _ _).alloc (Nat.le_refl _) (.cells #[.int .u8 87, .int .u8 76, .int .u8 77, .int .u8 49] 5 (4, 5)))
  have h1 := h0.more (.cells #[.int .u8 87, .int .u8 76, .int .u8 77, .int .u8 49] 5 (4, 5))
  have hr1 := mark_row ((w.alloc (.cells m.cells 27)).alloc (.cells #[.pointer none, .int .i64 0] 57))
  rw [World.size_alloc, World.size_alloc] at hr1
  have hcv := Lib.run_convert_bytes_const (P := Tryd.prog) ((w.alloc (.cells m.cells 27)).alloc (.cells #[.pointer none, .int .i64 0] 57)) 22 5 #[.int .u8 87, .int .u8 76, .int .u8 77, .int .u8 49] 4 4 Tryd.underlying22 Tryd.underlying5
  simp only [World.size_alloc] at hcv
  have HW1 := Lib.hid (wk_raw _ 4 4 markL 4 _ hr1 kw1 (by simp))
  rw [cut4] at HW1
  have c0 : (w.alloc (.cells m.cells 27)).cell? ⟨w.heap.size, 0, none⟩ = some (.string m.name) := (has_new w 27 m.cells).at 0
  clear kw0 h0 kw1 hr1
  by_cases hlt : 16 < (m.name.size : Int)
  · obtain ⟨nm, htx, hkr⟩ := head_long m.name hlt
    have HKR := Lib.hid hkr
    clear hkr
    go_enter Tryd.func10, Tryd.ntmps10
    go_wp2_with (first
      | (go_at_call 29; (with_reducible refine HW1.out.mono ?_); rintro e w3 ⟨rfl, k3, o3⟩; clear HW1; have h3 := h1.only o3 (by omega); have kt := k3.kept (txt_below w3 nm); have ht := h3.kept (txt_below w3 nm); have hrt := txt_row w3 nm; have HW2 := Lib.hid (wk_raw _ nm.size (txtC w3 nm) _ 16 _ hrt kt (by simp [raw_len])); rw [cut16, HKR.out] at HW2)
      | (go_at_call 29; (with_reducible refine HW2.out.mono ?_); rintro e w4 ⟨rfl, k4, o4⟩; clear HW2; have h4 := ht.only o4 (by omega); have d4 : w4.cell? ⟨w.heap.size, 1, none⟩ = some (.int .i64 m.ver) := h4.at 1; have HN1 := Lib.hid (wk_num m.ver 4 w4 hv k4 (by simp [raw_len])); rw [cut8_4] at HN1)
      | (go_at_call 30; (with_reducible refine HN1.out.mono ?_); rintro e w5 ⟨rfl, k5, o5⟩; clear HN1; have h5 := h4.only o5 (by omega); have d5 : w5.cell? ⟨w.heap.size, 2, none⟩ = some (.int .i64 m.size) := h5.at 2; have HN2 := Lib.hid (wk_num m.size 4 w5 hs k5 (by simp [raw_len, num_len])); rw [cut8_4] at HN2)
      | (go_at_call 30; (with_reducible refine HN2.out.mono ?_); rintro e w6 ⟨rfl, k6, o6⟩; clear HN2; have h6 := h5.only o6 (by omega); have HW3 := Lib.hid (wk_raw _ 32 32 m.dig 32 w6 (dig_row h6 hl hd) k6 (by simp [raw_len, num_len])); rw [cut32] at HW3)
      | (go_at_call 29; (with_reducible refine HW3.out.mono ?_); rintro e w7 ⟨rfl, k7, o7⟩; clear HW3; have HB := Lib.hid (wk_bytes w7 k7); rw [← bodyL_is, body_len] at HB)
      | (go_at_call 31; (with_reducible refine HB.out.mono ?_); rintro e w8 ⟨v8, rfl, o8, b8⟩))
    go_ret
    have b7 := k7.2.1
    exact ⟨v8, rfl, o8.lower b7.size, b7.trans (b8.mono b7.size)⟩
  · obtain ⟨nm, htx, hkr⟩ := head_short m.name
    have HKR := Lib.hid hkr
    clear hkr
    go_enter Tryd.func10, Tryd.ntmps10
    go_wp2_with (first
      | (go_at_call 29; (with_reducible refine HW1.out.mono ?_); rintro e w3 ⟨rfl, k3, o3⟩; clear HW1; have h3 := h1.only o3 (by omega); have kt := k3.kept (txt_below w3 nm); have ht := h3.kept (txt_below w3 nm); have hrt := txt_row w3 nm; have HW2 := Lib.hid (wk_raw _ nm.size (txtC w3 nm) _ 16 _ hrt kt (by simp [raw_len])); rw [cut16, HKR.out] at HW2)
      | (go_at_call 29; (with_reducible refine HW2.out.mono ?_); rintro e w4 ⟨rfl, k4, o4⟩; clear HW2; have h4 := ht.only o4 (by omega); have d4 : w4.cell? ⟨w.heap.size, 1, none⟩ = some (.int .i64 m.ver) := h4.at 1; have HN1 := Lib.hid (wk_num m.ver 4 w4 hv k4 (by simp [raw_len])); rw [cut8_4] at HN1)
      | (go_at_call 30; (with_reducible refine HN1.out.mono ?_); rintro e w5 ⟨rfl, k5, o5⟩; clear HN1; have h5 := h4.only o5 (by omega); have d5 : w5.cell? ⟨w.heap.size, 2, none⟩ = some (.int .i64 m.size) := h5.at 2; have HN2 := Lib.hid (wk_num m.size 4 w5 hs k5 (by simp [raw_len, num_len])); rw [cut8_4] at HN2)
      | (go_at_call 30; (with_reducible refine HN2.out.mono ?_); rintro e w6 ⟨rfl, k6, o6⟩; clear HN2; have h6 := h5.only o6 (by omega); have HW3 := Lib.hid (wk_raw _ 32 32 m.dig 32 w6 (dig_row h6 hl hd) k6 (by simp [raw_len, num_len])); rw [cut32] at HW3)
      | (go_at_call 29; (with_reducible refine HW3.out.mono ?_); rintro e w7 ⟨rfl, k7, o7⟩; clear HW3; have HB := Lib.hid (wk_bytes w7 k7); rw [← bodyL_is, body_len] at HB)
      | (go_at_call 31; (with_reducible refine HB.out.mono ?_); rintro e w8 ⟨v8, rfl, o8, b8⟩))
    go_ret
    have b7 := k7.2.1
    exact ⟨v8, rfl, o8.lower b7.size, b7.trans (b8.mono b7.size)⟩
set_option maxRecDepth 100000 in
set_option maxHeartbeats 1000000 in
theorem rbody_any (m : Mn) (w : World) (hm : m.Ok) : Calls Tryd.prog 11 #[.agg m.cells] w (Gives 60 (bodyL m) w) := by
  obtain ⟨hl, hd, hv, hs⟩ := hm
  have ba : Below w.heap.size w (w.alloc (.cells m.cells 27)) := (Below.refl _ _).alloc (Nat.le_refl _) _
  have h0 := (has_new w 27 m.cells).more (.cells #[.slice none 0 0] 63)
  have kw0 := rk_new w (w.alloc (.cells m.cells 27)) ba
  rw [World.size_alloc] at kw0
  have kw1 := kw0.kept ((Below.refl _ _).alloc (Nat.le_refl _) (.cells #[.int .u8 87, .int .u8 76, .int .u8 77, .int .u8 49] 5 (4, 5)))
  have h1 := h0.more (.cells #[.int .u8 87, .int .u8 76, .int .u8 77, .int .u8 49] 5 (4, 5))
  have c1 : (((w.alloc (.cells m.cells 27)).alloc (.cells #[.slice none 0 0] 63)).alloc (.cells #[.int .u8 87, .int .u8 76, .int .u8 77, .int .u8 49] 5 (4, 5))).cell? ⟨w.heap.size, 0, none⟩ = some (.string m.name) := h1.at 0
  have hr1 := mark_row ((w.alloc (.cells m.cells 27)).alloc (.cells #[.slice none 0 0] 63))
  rw [World.size_alloc, World.size_alloc] at hr1
  have hcv := Lib.run_convert_bytes_const (P := Tryd.prog) ((w.alloc (.cells m.cells 27)).alloc (.cells #[.slice none 0 0] 63)) 22 5 #[.int .u8 87, .int .u8 76, .int .u8 77, .int .u8 49] 4 4 Tryd.underlying22 Tryd.underlying5
  simp only [World.size_alloc] at hcv
  have HW1 := Lib.hid (rk_raw _ 4 4 markL 4 _ hr1 (fun x hx => by cases hx; simp) (by omega) kw1 (by simp))
  rw [cut4] at HW1
  have htx := fun w => txt_run w m.name
  clear kw0 h0 kw1 hr1
  go_enter Tryd.func11, Tryd.ntmps11
  go_wp2_with (first
    | (go_at_call 32; (with_reducible refine HW1.out.mono ?_); rintro e w3 ⟨rfl, k3, o3⟩; clear HW1; have h3 := h1.only o3 (by omega); have d3 : w3.cell? ⟨w.heap.size, 0, none⟩ = some (.string m.name) := h3.at 0; have s3 := o3.size; simp only [World.size_alloc] at s3; have kt := k3.kept (txt_below w3 m.name); have ht := h3.kept (txt_below w3 m.name); have hrt := txt_row w3 m.name; have HW2 := Lib.hid (rk_raw _ m.name.size (txtC w3 m.name) _ 16 _ hrt (fun x hx => by cases hx; exact .inr (Nat.le_refl _)) (by omega) kt (by simp [raw_len])); rw [cut16] at HW2)
    | (go_at_call 32; (with_reducible refine HW2.out.mono ?_); rintro e w4 ⟨rfl, k4, o4⟩; clear HW2; have h4 := ht.only o4 (by omega); have d4 : w4.cell? ⟨w.heap.size, 1, none⟩ = some (.int .i64 m.ver) := h4.at 1; have HN1 := Lib.hid (rk_num m.ver 4 w4 k4 (by simp [raw_len])); rw [cut8_4] at HN1)
    | (go_at_call 33; (with_reducible refine HN1.out.mono ?_); rintro e w5 ⟨rfl, k5, o5⟩; clear HN1; have h5 := h4.only o5 (by omega); have d5 : w5.cell? ⟨w.heap.size, 2, none⟩ = some (.int .i64 m.size) := h5.at 2; have HN2 := Lib.hid (rk_num m.size 4 w5 k5 (by simp [raw_len, num_len])); rw [cut8_4] at HN2)
    | (go_at_call 33; (with_reducible refine HN2.out.mono ?_); rintro e w6 ⟨rfl, k6, o6⟩; clear HN2; have h6 := h5.only o6 (by omega); have s6 := txt_size w3 m.name; have s61 := o4.size; have s62 := o5.size; have s63 := o6.size; have HW3 := Lib.hid (rk_raw _ 32 32 m.dig 32 w6 (dig_row h6 hl hd) (fun x hx => by cases hx; exact .inl (by simp)) (by omega) k6 (by simp [raw_len, num_len])); rw [cut32] at HW3)
    | (go_at_call 32; (with_reducible refine HW3.out.mono ?_); rintro e w7 ⟨rfl, k7, o7⟩; clear HW3; obtain ⟨v7, q7, own7, b7⟩ := rk_row k7; rw [← bodyL_is, body_len] at own7; obtain ⟨A7, c7, rfl, _, _, _⟩ := own7.form))
  go_ret
  exact ⟨_, rfl, own7, b7⟩
end Go.Proofs.YtjfalnhmmofdfaaDoor
