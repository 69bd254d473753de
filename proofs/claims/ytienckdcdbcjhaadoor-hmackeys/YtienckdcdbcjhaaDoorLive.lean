/-
  The document's example holds: the call that every law makes first answers true; conditions: the tables lie as they were laid.
-/
import Derived.Test.YtienckdcdbcjhaaDoorTag
import Derived.Test.YtienckdcdbcjhaaDoorSame
import Derived.Test.YtienckdcdbcjhaaDoorLaid
namespace Go.Proofs.YtienckdcdbcjhaaDoor
open Go.RowKit
set_option linter.unusedVariables false
set_option linter.unusedSimpArgs false

theorem row_nil (w : World) : Row w none 0 [] := ⟨rfl, fun n hn => by simp at hn, .inl rfl⟩
def key4 : List Int := [74, 101, 102, 101]
def txt28 : List Int := [119, 104, 97, 116, 32, 100, 111, 32, 121, 97, 32, 119, 97, 110, 116, 32, 102, 111, 114, 32, 110, 111, 116, 104, 105, 110, 103, 63]
def tag32 : List Int := [91, 220, 193, 70, 191, 96, 117, 78, 106, 4, 36, 38, 8, 149, 117, 199, 90, 0, 63, 8, 157, 39, 57, 131, 157, 236, 88, 185, 100, 236, 56, 67]
set_option maxRecDepth 100000 in
theorem known_tag : tagI key4 txt28 = tag32 := by decide +kernel
theorem byt_key4 : Byt key4 := by
  intro n hn
  simp only [key4, List.mem_cons, List.not_mem_nil, or_false] at hn
  omega
theorem byt_txt28 : Byt txt28 := by
  have h : ∀ n ∈ txt28, 0 ≤ n ∧ n ≤ 255 := by decide
  exact h
set_option maxRecDepth 100000 in
set_option maxHeartbeats 1000000 in
theorem live_any (w : World) (ht : Tabs w) : Calls Tryd.prog 7 #[] w fun e w' => e = .returned (.bool true) ∧ Below w.heap.size w w' := by
  have hz2 := zero24_run
  have hcv := Lib.run_convert_bytes_const (P := Tryd.prog) w 22 5 #[.int .u8 74, .int .u8 101, .int .u8 102, .int .u8 101] 4 4 Tryd.underlying22 Tryd.underlying5
  have hcv2 := Lib.run_convert_bytes_const (P := Tryd.prog) (w.alloc (.cells #[.int .u8 74, .int .u8 101, .int .u8 102, .int .u8 101] 5 (4, 5))) 22 5 #[.int .u8 119, .int .u8 104, .int .u8 97, .int .u8 116, .int .u8 32, .int .u8 100, .int .u8 111, .int .u8 32, .int .u8 121, .int .u8 97, .int .u8 32, .int .u8 119, .int .u8 97, .int .u8 110, .int .u8 116, .int .u8 32, .int .u8 102, .int .u8 111, .int .u8 114, .int .u8 32, .int .u8 110, .int .u8 111, .int .u8 116, .int .u8 104, .int .u8 105, .int .u8 110, .int .u8 103, .int .u8 63] 28 28 Tryd.underlying22 Tryd.underlying5
  have hba : Below w.heap.size w (w.alloc (.cells #[.int .u8 74, .int .u8 101, .int .u8 102, .int .u8 101] 5 (4, 5))) := (Below.refl _ _).alloc (Nat.le_refl _) _
  have hbb : Below w.heap.size w ((w.alloc (.cells #[.int .u8 74, .int .u8 101, .int .u8 102, .int .u8 101] 5 (4, 5))).alloc (.cells #[.int .u8 119, .int .u8 104, .int .u8 97, .int .u8 116, .int .u8 32, .int .u8 100, .int .u8 111, .int .u8 32, .int .u8 121, .int .u8 97, .int .u8 32, .int .u8 119, .int .u8 97, .int .u8 110, .int .u8 116, .int .u8 32, .int .u8 102, .int .u8 111, .int .u8 114, .int .u8 32, .int .u8 110, .int .u8 111, .int .u8 116, .int .u8 104, .int .u8 105, .int .u8 110, .int .u8 103, .int .u8 63] 5 (28, 29))) := hba.alloc (by simp) _
  have hr1 : Row ((w.alloc (.cells #[.int .u8 74, .int .u8 101, .int .u8 102, .int .u8 101] 5 (4, 5))).alloc (.cells #[.int .u8 119, .int .u8 104, .int .u8 97, .int .u8 116, .int .u8 32, .int .u8 100, .int .u8 111, .int .u8 32, .int .u8 121, .int .u8 97, .int .u8 32, .int .u8 119, .int .u8 97, .int .u8 110, .int .u8 116, .int .u8 32, .int .u8 102, .int .u8 111, .int .u8 114, .int .u8 32, .int .u8 110, .int .u8 111, .int .u8 116, .int .u8 104, .int .u8 105, .int .u8 110, .int .u8 103, .int .u8 63] 5 (28, 29))) (some ⟨w.heap.size, 0, none⟩) 4 key4 := row_below ((Below.refl _ _).alloc (Nat.le_refl _) _) (row_text w key4 byt_key4 4 rfl (4, 5))
  have hr2 : Row ((w.alloc (.cells #[.int .u8 74, .int .u8 101, .int .u8 102, .int .u8 101] 5 (4, 5))).alloc (.cells #[.int .u8 119, .int .u8 104, .int .u8 97, .int .u8 116, .int .u8 32, .int .u8 100, .int .u8 111, .int .u8 32, .int .u8 121, .int .u8 97, .int .u8 32, .int .u8 119, .int .u8 97, .int .u8 110, .int .u8 116, .int .u8 32, .int .u8 102, .int .u8 111, .int .u8 114, .int .u8 32, .int .u8 110, .int .u8 111, .int .u8 116, .int .u8 104, .int .u8 105, .int .u8 110, .int .u8 103, .int .u8 63] 5 (28, 29))) (some ⟨w.heap.size + 1, 0, none⟩) 28 txt28 := by
    have h := row_text (w.alloc (.cells #[.int .u8 74, .int .u8 101, .int .u8 102, .int .u8 101] 5 (4, 5))) txt28 byt_txt28 28 rfl (28, 29)
    rw [World.size_alloc] at h
    exact h
  simp only [World.size_alloc] at hcv2
  go_enter Tryd.func7, Tryd.ntmps7
  go_wp2_with fail
  refine (tag_any _ 4 4 key4 _ 28 28 txt28 _ hr1 hr2 (Nat.le_refl _) (Nat.le_refl _) (ht.kept hbb) (by omega) (by omega)).mono ?_
  rintro e w1 ⟨rfl, H1⟩
  have hb1 := hbb.trans (H1.mono hbb.size)
  clear hr1 hr2 hba hbb hcv hcv2 H1
  have hne := has_new w1 24 zero24
  have hbc := hb1.alloc hb1.size (.cells zero24 24)
  have hsl := Lib.hid (tag_len key4 txt28)
  have hkn := Lib.hid known_tag
  generalize tagI key4 txt28 = dig at *
  go_wp2_with (first
    | (refine wpList_row rfl 24 _ _ rfl w1.heap.size (nums dig).toArray rfl rfl 24 _ hne (size24 hsl.out) (by rw [zero24_size, List.size_toArray, nums_len, hsl.out]) (nums_all _) ?_; intro w2 hs2 hon2)
    | (go_at_call 10; (with_reducible refine (same_any none 0 0 [] none 0 0 [] _ (row_nil _) (row_nil _) (Nat.le_refl _) (Nat.le_refl _) (by omega)).mono ?_); rintro e w3 ⟨rfl, H3⟩; have hs3 := hs2.kept H3; have d0 : w3.cell? ⟨w1.heap.size, 0, none⟩ = some (.int .u8 91) := (by rw [hs3.at, hkn.out]; rfl); have d31 : w3.cell? ⟨w1.heap.size, 31, none⟩ = some (.int .u8 67) := (by rw [hs3.at, hkn.out]; rfl)))
  go_ret
  have hb2 := below_only hbc hon2 hb1.size hbc.size
  exact ⟨rfl, hb2.trans (H3.mono hb2.size)⟩
end Go.Proofs.YtienckdcdbcjhaaDoor
