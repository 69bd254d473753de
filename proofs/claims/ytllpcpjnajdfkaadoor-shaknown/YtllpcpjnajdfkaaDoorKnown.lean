/-
  What is proved: for every number the law ShaKnown answers true: the hashes of the three known texts are those that are known. Conditions: the two tables of package sha hold what their initialisers lay (the card ties that to the program's text).
-/
import Derived.Test.YtllpcpjnajdfkaaDoorLaid
import Derived.Test.YtllpcpjnajdfkaaDoorCards
import Derived.Lib.ConvBytes
import Derived.Laws.BytesArg
namespace Go.Proofs.YtllpcpjnajdfkaaDoor.shaKnown
open Go.ChangeShapes Go.WideShapes Go.ChangeAt Go.RowKit
set_option linter.unusedVariables false
set_option linter.unusedSimpArgs false

def numsOf (s : ByteArray) : List Int := s.data.toList.map fun b => (b.toNat : Int)
theorem below_text (w : World) (s : ByteArray) : Below w.heap.size w (Lib.bytesWorld w 5 s) := by
  refine ⟨?_, ?_, ?_, by rw [Lib.bytesWorld_size]; omega, fun k hk => Lib.bytesWorld_at_old w 5 s k hk⟩ <;> (unfold Lib.bytesWorld World.freeze; rw [if_neg (by decide)]; rfl)
theorem row_str (w : World) (s : ByteArray) : Row (Lib.bytesWorld w 5 s) (some ⟨w.heap.size, 0, none⟩) s.size (numsOf s) := by
  refine row_mk (by simp [numsOf]) ?_ (by rw [Lib.bytesWorld_size]; omega) (fun j hj => ?_)
  · intro n hn
    simp only [numsOf, List.mem_map] at hn
    obtain ⟨b, _, rfl⟩ := hn
    have := b.toNat_lt
    omega
  · rw [Nat.zero_add, Lib.bytesWorld_cell w 5 s j hj]
    have hj' : j < s.data.toList.length := by simpa using hj
    simp [numsOf, List.getD_eq_getElem?_getD, List.getElem?_eq_getElem hj']
def text0 : ByteArray := ⟨#[]⟩
def want0 : List Int := [227, 176, 196, 66, 152, 252, 28, 20, 154, 251, 244, 200, 153, 111, 185, 36, 39, 174, 65, 228, 100, 155, 147, 76, 164, 149, 153, 27, 120, 82, 184, 85]
set_option maxRecDepth 100000 in
theorem known0 : shaI (numsOf text0) = want0 := by decide +kernel
def text1 : ByteArray := ⟨#[97, 98, 99]⟩
def want1 : List Int := [186, 120, 22, 191, 143, 1, 207, 234, 65, 65, 64, 222, 93, 174, 34, 35, 176, 3, 97, 163, 150, 23, 122, 156, 180, 16, 255, 97, 242, 0, 21, 173]
set_option maxRecDepth 100000 in
theorem known1 : shaI (numsOf text1) = want1 := by decide +kernel
def text2 : ByteArray := ⟨#[97, 98, 99, 100, 98, 99, 100, 101, 99, 100, 101, 102, 100, 101, 102, 103, 101, 102, 103, 104, 102, 103, 104, 105, 103, 104, 105, 106, 104, 105, 106, 107, 105, 106, 107, 108, 106, 107, 108, 109, 107, 108, 109, 110, 108, 109, 110, 111, 109, 110, 111, 112, 110, 111, 112, 113]⟩
def want2 : List Int := [36, 141, 106, 97, 210, 6, 56, 184, 229, 192, 38, 147, 12, 62, 96, 57, 163, 60, 228, 89, 100, 255, 33, 103, 246, 236, 237, 212, 25, 219, 6, 193]
set_option maxRecDepth 100000 in
theorem known2 : shaI (numsOf text2) = want2 := by decide +kernel
def texts : Array Value := #[.string text0, .string text1, .string text2]
def wants (b : Nat) : Array Value := #[.slice (some ⟨b + 1, 0, none⟩) 32 32, .slice (some ⟨b + 1 + 1, 0, none⟩) 32 32, .slice (some ⟨b + 1 + 1 + 1, 0, none⟩) 32 32]
/-- The two tables of the law, laid. -/
def lay (w : World) : World := ((((w.alloc (.cells texts 9)).alloc (.cells (nums want0).toArray 5)).alloc (.cells (nums want1).toArray 5)).alloc (.cells (nums want2).toArray 5)).alloc (.cells (wants w.heap.size) 22)
theorem lay_facts (w : World) : Below w.heap.size w (lay w) ∧ (lay w).heap.size = w.heap.size + 1 + 1 + 1 + 1 + 1 ∧ Has (lay w) (w.heap.size + 1) 5 (nums want0).toArray ∧ Has (lay w) (w.heap.size + 1 + 1) 5 (nums want1).toArray ∧ Has (lay w) (w.heap.size + 1 + 1 + 1) 5 (nums want2).toArray ∧ Has (lay w) (w.heap.size + 1 + 1 + 1 + 1) 22 (wants w.heap.size) := by
  have n0 := has_new (w.alloc (.cells texts 9)) 5 (nums want0).toArray
  have n1 := has_new ((w.alloc (.cells texts 9)).alloc (.cells (nums want0).toArray 5)) 5 (nums want1).toArray
  have n2 := has_new (((w.alloc (.cells texts 9)).alloc (.cells (nums want0).toArray 5)).alloc (.cells (nums want1).toArray 5)) 5 (nums want2).toArray
  have n3 := has_new ((((w.alloc (.cells texts 9)).alloc (.cells (nums want0).toArray 5)).alloc (.cells (nums want1).toArray 5)).alloc (.cells (nums want2).toArray 5)) 22 (wants w.heap.size)
  simp only [World.size_alloc] at n0 n1 n2 n3
  exact ⟨(((((Below.refl _ _).alloc (Nat.le_refl _) _).alloc (by simp) _).alloc (by simp; omega) _).alloc (by simp; omega) _).alloc (by simp; omega) _, by simp [lay], ((n0.more _).more _).more _, (n1.more _).more _, n2.more _, n3⟩
theorem conv_at (w : World) (b : Nat) (zs : List Int) (t : TypeId) (hl : zs.length = 32) (h : Has w b t (nums zs).toArray) : (convert 22 9 (.slice (some ⟨b, 0, none⟩) 32 32)).run Tryd.prog w = .ok (.string (strOfNums zs)) w :=
  run_convert_bytes_arg w 22 5 Tryd.underlying22 Tryd.underlying5 b 0 32 32 zs hl (fun i hi => by
    rw [h.at, Nat.zero_add]
    simp only [nums, List.getElem?_toArray, List.getElem?_map, List.getD_eq_getElem?_getD]
    rw [List.getElem?_eq_getElem (by omega)]; rfl) 9 Tryd.underlying9
set_option maxRecDepth 100000 in
set_option maxHeartbeats 4000000 in
theorem walk_out (n : Int) (w : World) (ht : Tabs w) (h : n < 0 ∨ 3 ≤ n) : Calls Tryd.prog 5 #[.int .i64 n] w fun e w' => e = .returned (.bool true) ∧ Below w.heap.size w w' := by
  rcases h with h | h
  all_goals
    go_enter Tryd.func5, Tryd.ntmps5
    go_wp2_with (go_at_call 7; refine (alive_any _ ht).mono ?_; rintro e w1 ⟨rfl, H1⟩)
    go_ret
    exact ⟨rfl, H1.trans ((lay_facts w1).1.mono H1.size)⟩
set_option maxRecDepth 100000 in
set_option maxHeartbeats 4000000 in
theorem walk0 (w : World) (ht : Tabs w) : Calls Tryd.prog 5 #[.int .i64 0] w fun e w' => e = .returned (.bool true) ∧ Below w.heap.size w w' := by
  have hcv := fun (w : World) (s : ByteArray) => Lib.run_convert_string_bytes (P := Tryd.prog) w 9 22 5 s Tryd.underlying9 Tryd.underlying22 Tryd.underlying5
  have hz2 := zero24_run
  go_enter Tryd.func5, Tryd.ntmps5
  go_wp2_with (go_at_call 7; refine (alive_any _ ht).mono ?_; rintro e w1 ⟨rfl, H1⟩)
  obtain ⟨l1, l2, l3, l4, l5, l6⟩ := lay_facts w1
  have hbs := below_text (lay w1) text0
  have hrs := row_str (lay w1) text0
  have hge := grownCap_ge (lay w1) 0 0 5
  change Calls Tryd.prog 8 #[.slice (some ⟨w1.heap.size + 1 + 1 + 1 + 1 + 1, 0, none⟩) 0 (grownCap (lay w1) 0 0 5)] (Lib.bytesWorld (lay w1) 5 text0) _
  rw [← l2]
  have hwb : Below w.heap.size w (Lib.bytesWorld (lay w1) 5 text0) := H1.trans ((l1.trans (hbs.mono l1.size)).mono H1.size)
  have q1 := (l3 : Has (lay w1) (w1.heap.size + 1) 5 (nums want0).toArray).kept hbs
  have q2 := l6.kept hbs
  refine (shaSum_any _ 0 _ (numsOf text0) _ hrs hge (ht.kept hwb) (by omega)).mono ?_
  rintro e w6 ⟨rfl, H6⟩
  have hw6 := hwb.trans (H6.mono hwb.size)
  have q3 := q1.kept H6
  have q4 := q2.kept H6
  rw [known0]
  have hne := has_new w6 24 zero24
  have hsl : want0.length = 32 := rfl
  have HS := Lib.hid hsl
  clear hsl
  generalize grownCap (lay w1) 0 0 5 = gc at *
  generalize (lay w1).heap.size = ls at *
  clear hcv hge hrs hbs q1 q2 l1 l2 l3 l4 l5 l6
  go_wp2_with ((refine wpList_row rfl 24 _ _ rfl w6.heap.size (nums want0).toArray rfl rfl 24 _ hne (size24 HS.out) (by rw [zero24_size, List.size_toArray, nums_len, HS.out]) (nums_all _) ?_; intro w8 hs8 hon8))
  have q5 := (q3.more (.cells zero24 24))
  have q6 := (q4.more (.cells zero24 24))
  have q7 : Has w8 (w1.heap.size + 1) 5 (nums want0).toArray := (hon8.block _ q5.size (by have := q3.size; intro e; injection e; omega)).trans q5
  have q8 : Has w8 (w1.heap.size + 1 + 1 + 1 + 1) 22 (wants w1.heap.size) := (hon8.block _ q6.size (by have := q4.size; intro e; injection e; omega)).trans q6
  have q9 : w8.cell? ⟨w1.heap.size + 1 + 1 + 1 + 1, 0, none⟩ = some (.slice (some ⟨w1.heap.size + 1, 0, none⟩) 32 32) := q8.at 0
  have c1 := conv_at w8.drew w6.heap.size want0 24 HS.out hs8
  have c2 := conv_at w8.drew (w1.heap.size + 1) want0 5 HS.out q7
  have hfin := below_only (hw6.alloc hw6.size (.cells zero24 24)) hon8 hw6.size (hw6.alloc hw6.size (.cells zero24 24)).size
  generalize strOfNums want0 = str at *
  refine wp_region_still_lit (by kernel_rfl) (by kernel_rfl) ?_
  simp only [World.drew_eq]
  repeat still_step
  refine wpStill_nil ?_
  go_wp2
  go_ret
  exact ⟨rfl, hfin.drew⟩
set_option maxRecDepth 100000 in
set_option maxHeartbeats 4000000 in
theorem walk1 (w : World) (ht : Tabs w) : Calls Tryd.prog 5 #[.int .i64 1] w fun e w' => e = .returned (.bool true) ∧ Below w.heap.size w w' := by
  have hcv := fun (w : World) (s : ByteArray) => Lib.run_convert_string_bytes (P := Tryd.prog) w 9 22 5 s Tryd.underlying9 Tryd.underlying22 Tryd.underlying5
  have hz2 := zero24_run
  go_enter Tryd.func5, Tryd.ntmps5
  go_wp2_with (go_at_call 7; refine (alive_any _ ht).mono ?_; rintro e w1 ⟨rfl, H1⟩)
  obtain ⟨l1, l2, l3, l4, l5, l6⟩ := lay_facts w1
  have hbs := below_text (lay w1) text1
  have hrs := row_str (lay w1) text1
  have hge := grownCap_ge (lay w1) 3 0 5
  change Calls Tryd.prog 8 #[.slice (some ⟨w1.heap.size + 1 + 1 + 1 + 1 + 1, 0, none⟩) 3 (grownCap (lay w1) 3 0 5)] (Lib.bytesWorld (lay w1) 5 text1) _
  rw [← l2]
  have hwb : Below w.heap.size w (Lib.bytesWorld (lay w1) 5 text1) := H1.trans ((l1.trans (hbs.mono l1.size)).mono H1.size)
  have q1 := (l4 : Has (lay w1) (w1.heap.size + 1 + 1) 5 (nums want1).toArray).kept hbs
  have q2 := l6.kept hbs
  refine (shaSum_any _ 3 _ (numsOf text1) _ hrs hge (ht.kept hwb) (by omega)).mono ?_
  rintro e w6 ⟨rfl, H6⟩
  have hw6 := hwb.trans (H6.mono hwb.size)
  have q3 := q1.kept H6
  have q4 := q2.kept H6
  rw [known1]
  have hne := has_new w6 24 zero24
  have hsl : want1.length = 32 := rfl
  have HS := Lib.hid hsl
  clear hsl
  generalize grownCap (lay w1) 3 0 5 = gc at *
  generalize (lay w1).heap.size = ls at *
  clear hcv hge hrs hbs q1 q2 l1 l2 l3 l4 l5 l6
  go_wp2_with ((refine wpList_row rfl 24 _ _ rfl w6.heap.size (nums want1).toArray rfl rfl 24 _ hne (size24 HS.out) (by rw [zero24_size, List.size_toArray, nums_len, HS.out]) (nums_all _) ?_; intro w8 hs8 hon8))
  have q5 := (q3.more (.cells zero24 24))
  have q6 := (q4.more (.cells zero24 24))
  have q7 : Has w8 (w1.heap.size + 1 + 1) 5 (nums want1).toArray := (hon8.block _ q5.size (by have := q3.size; intro e; injection e; omega)).trans q5
  have q8 : Has w8 (w1.heap.size + 1 + 1 + 1 + 1) 22 (wants w1.heap.size) := (hon8.block _ q6.size (by have := q4.size; intro e; injection e; omega)).trans q6
  have q9 : w8.cell? ⟨w1.heap.size + 1 + 1 + 1 + 1, 1, none⟩ = some (.slice (some ⟨w1.heap.size + 1 + 1, 0, none⟩) 32 32) := q8.at 1
  have c1 := conv_at w8.drew w6.heap.size want1 24 HS.out hs8
  have c2 := conv_at w8.drew (w1.heap.size + 1 + 1) want1 5 HS.out q7
  have hfin := below_only (hw6.alloc hw6.size (.cells zero24 24)) hon8 hw6.size (hw6.alloc hw6.size (.cells zero24 24)).size
  generalize strOfNums want1 = str at *
  refine wp_region_still_lit (by kernel_rfl) (by kernel_rfl) ?_
  simp only [World.drew_eq]
  repeat still_step
  refine wpStill_nil ?_
  go_wp2
  go_ret
  exact ⟨rfl, hfin.drew⟩
set_option maxRecDepth 100000 in
set_option maxHeartbeats 4000000 in
theorem walk2 (w : World) (ht : Tabs w) : Calls Tryd.prog 5 #[.int .i64 2] w fun e w' => e = .returned (.bool true) ∧ Below w.heap.size w w' := by
  have hcv := fun (w : World) (s : ByteArray) => Lib.run_convert_string_bytes (P := Tryd.prog) w 9 22 5 s Tryd.underlying9 Tryd.underlying22 Tryd.underlying5
  have hz2 := zero24_run
  go_enter Tryd.func5, Tryd.ntmps5
  go_wp2_with (go_at_call 7; refine (alive_any _ ht).mono ?_; rintro e w1 ⟨rfl, H1⟩)
  obtain ⟨l1, l2, l3, l4, l5, l6⟩ := lay_facts w1
  have hbs := below_text (lay w1) text2
  have hrs := row_str (lay w1) text2
  have hge := grownCap_ge (lay w1) 56 0 5
  change Calls Tryd.prog 8 #[.slice (some ⟨w1.heap.size + 1 + 1 + 1 + 1 + 1, 0, none⟩) 56 (grownCap (lay w1) 56 0 5)] (Lib.bytesWorld (lay w1) 5 text2) _
  rw [← l2]
  have hwb : Below w.heap.size w (Lib.bytesWorld (lay w1) 5 text2) := H1.trans ((l1.trans (hbs.mono l1.size)).mono H1.size)
  have q1 := (l5 : Has (lay w1) (w1.heap.size + 1 + 1 + 1) 5 (nums want2).toArray).kept hbs
  have q2 := l6.kept hbs
  refine (shaSum_any _ 56 _ (numsOf text2) _ hrs hge (ht.kept hwb) (by omega)).mono ?_
  rintro e w6 ⟨rfl, H6⟩
  have hw6 := hwb.trans (H6.mono hwb.size)
  have q3 := q1.kept H6
  have q4 := q2.kept H6
  rw [known2]
  have hne := has_new w6 24 zero24
  have hsl : want2.length = 32 := rfl
  have HS := Lib.hid hsl
  clear hsl
  generalize grownCap (lay w1) 56 0 5 = gc at *
  generalize (lay w1).heap.size = ls at *
  clear hcv hge hrs hbs q1 q2 l1 l2 l3 l4 l5 l6
  go_wp2_with ((refine wpList_row rfl 24 _ _ rfl w6.heap.size (nums want2).toArray rfl rfl 24 _ hne (size24 HS.out) (by rw [zero24_size, List.size_toArray, nums_len, HS.out]) (nums_all _) ?_; intro w8 hs8 hon8))
  have q5 := (q3.more (.cells zero24 24))
  have q6 := (q4.more (.cells zero24 24))
  have q7 : Has w8 (w1.heap.size + 1 + 1 + 1) 5 (nums want2).toArray := (hon8.block _ q5.size (by have := q3.size; intro e; injection e; omega)).trans q5
  have q8 : Has w8 (w1.heap.size + 1 + 1 + 1 + 1) 22 (wants w1.heap.size) := (hon8.block _ q6.size (by have := q4.size; intro e; injection e; omega)).trans q6
  have q9 : w8.cell? ⟨w1.heap.size + 1 + 1 + 1 + 1, 2, none⟩ = some (.slice (some ⟨w1.heap.size + 1 + 1 + 1, 0, none⟩) 32 32) := q8.at 2
  have c1 := conv_at w8.drew w6.heap.size want2 24 HS.out hs8
  have c2 := conv_at w8.drew (w1.heap.size + 1 + 1 + 1) want2 5 HS.out q7
  have hfin := below_only (hw6.alloc hw6.size (.cells zero24 24)) hon8 hw6.size (hw6.alloc hw6.size (.cells zero24 24)).size
  generalize strOfNums want2 = str at *
  refine wp_region_still_lit (by kernel_rfl) (by kernel_rfl) ?_
  simp only [World.drew_eq]
  repeat still_step
  refine wpStill_nil ?_
  go_wp2
  go_ret
  exact ⟨rfl, hfin.drew⟩
theorem walk (n : Int) (w : World) (_w0 : (Lit.int .i64 n).wf = true) (ht : Tabs w) : Calls Tryd.prog 5 #[.int .i64 n] w fun e w' => e = .returned (.bool true) ∧ Below w.heap.size w w' := by
  by_cases h : n < 0 ∨ 3 ≤ n
  · exact walk_out n w ht h
  · rcases (by omega : n = 0 ∨ n = 1 ∨ n = 2) with rfl | rfl | rfl
    · exact walk0 w ht
    · exact walk1 w ht
    · exact walk2 w ht
end Go.Proofs.YtllpcpjnajdfkaaDoor.shaKnown
