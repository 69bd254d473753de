/-
  What is proved: for all numbers and all sizes the law FieldOrder answers true: of two numbers of one size the less has the bytes that are ahead (sizes of 1 to 7, numbers that fit; others the law lets by). Conditions: none.
-/
import Derived.Test.YtjocpfkobojchaaLive
import Derived.Test.YtjocpfkobojchaaFc
import Derived.Deep.RegionHeld3
import Derived.Test.YtjocpfkobojchaaRows
import Derived.WalkKit
import Derived.ProofKit
import Derived.OpenShut
import Derived.ShutString
namespace Go.Proofs.Ytjocpfkobojchaa.fieldOrder
open Go.ChangeShapes Go.WideShapes Go.ChangeAt Go.RowKit
open Go.ChangeMaps (open_string shut_string)
set_option linter.unusedVariables false
set_option linter.unusedSimpArgs false

theorem own : ownKnob Try.prog.godebug = none := by kernel_rfl

set_option maxRecDepth 100000 in
set_option maxHeartbeats 2000000 in
theorem walk (a0 : Int) (a1 : Int) (a2 : Int) (w0 : (Lit.int .i64 a0).wf = true) (w1 : (Lit.int .i64 a1).wf = true) (w2 : (Lit.int .i64 a2).wf = true) (w : World) :
    Calls Try.prog 6 #[.int .i64 a0, .int .i64 a1, .int .i64 a2] w fun e w' => e = .returned (.bool true) ∧ Below w.heap.size w w' := by
  have hn0 := bounds_i64 w0
  have hn1 := bounds_i64 w1
  have hs := bounds_i64 w2
  clear w0 w1 w2
  by_cases h0 : a2 < 1
  · go_enter Try.func6, Try.ntmps6
    go_wp2_with (go_at_call 7; refine (alive_any _).mono ?_; rintro e w1 ⟨rfl, H1⟩)
    go_ret
    exact ⟨rfl, H1⟩
  by_cases h1 : 7 < a2
  · go_enter Try.func6, Try.ntmps6
    go_wp2_with (go_at_call 7; refine (alive_any _).mono ?_; rintro e w1 ⟨rfl, H1⟩)
    go_ret
    exact ⟨rfl, H1⟩
  obtain ⟨k, rfl⟩ := Int.eq_ofNat_of_zero_le (show 0 ≤ a2 by omega)
  by_cases h2 : a0 < 0
  · go_enter Try.func6, Try.ntmps6
    go_wp2_with (go_at_call 7; refine (alive_any _).mono ?_; rintro e w1 ⟨rfl, H1⟩)
    go_ret
    exact ⟨rfl, H1⟩
  by_cases h3 : a1 < 0
  · go_enter Try.func6, Try.ntmps6
    go_wp2_with (go_at_call 7; refine (alive_any _).mono ?_; rintro e w1 ⟨rfl, H1⟩)
    go_ret
    exact ⟨rfl, H1⟩
  have hk1 : 1 ≤ k := by omega
  have hk7 : k ≤ 7 := by omega
  have hsh := shl_one k hk7
  have i4 : ¬ (k : Int) < 1 := by omega
  have i5 : ¬ (7 : Int) < (k : Int) := by omega
  by_cases h4 : (256 : Int) ^ k ≤ a0
  · clear hn0 hn1 hs
    go_enter Try.func6, Try.ntmps6
    go_wp2_with (go_at_call 7; refine (alive_any _).mono ?_; rintro e w1 ⟨rfl, H1⟩)
    go_ret
    exact ⟨rfl, H1⟩
  by_cases h5 : (256 : Int) ^ k ≤ a1
  · clear hn0 hn1 hs
    go_enter Try.func6, Try.ntmps6
    go_wp2_with (go_at_call 7; refine (alive_any _).mono ?_; rintro e w1 ⟨rfl, H1⟩)
    go_ret
    exact ⟨rfl, H1⟩
  have HC := Lib.hid (show cutN (k : Int) 8 = k by unfold cutN; omega)
  have HLS := Lib.hid (str_less (a := a0) (b := a1) (k := k) ⟨by omega, by omega⟩ ⟨by omega, by omega⟩)
  clear hs
  go_enter Try.func6, Try.ntmps6
  go_wp2_with (go_at_call 7; refine (alive_any _).mono ?_; rintro e w1 ⟨rfl, H1⟩)
  have hw0 := wnew w1
  have b0 : Below w1.heap.size w1 (w1.alloc (.cells #[.pointer none, .int .i64 0] 27)) := (Below.refl _ w1).alloc (Nat.le_refl _) _
  have hsA : (w1.alloc (.cells #[.pointer none, .int .i64 0] 27)).heap.size = w1.heap.size + 1 := by simp
  have hv0 := wnew (w1.alloc (.cells #[.pointer none, .int .i64 0] 27))
  have b1 := (Below.refl (w1.alloc (.cells #[.pointer none, .int .i64 0] 27)).heap.size (w1.alloc (.cells #[.pointer none, .int .i64 0] 27))).alloc (Nat.le_refl _) (.cells #[.pointer none, .int .i64 0] 27)
  have hw1 := hw0.kept b1
  have hsB : ((w1.alloc (.cells #[.pointer none, .int .i64 0] 27)).alloc (.cells #[.pointer none, .int .i64 0] 27)).heap.size = w1.heap.size + 2 := by simp
  have c1 := belowThen H1 (belowThen b0 b1)
  rw [hsA] at hv0
  clear hw0 b0 b1 hsA
  generalize (w1.alloc (.cells #[.pointer none, .int .i64 0] 27)).alloc (.cells #[.pointer none, .int .i64 0] 27) = wB at *
  refine (wnum_any a0 (k : Int) wB hn0 hw1 (by simp)).mono ?_
  rintro e w2 ⟨rfl, h2⟩
  rw [HC.out, List.nil_append] at h2
  have hv2 := hv0.only h2.2 (fun b e => ⟨by omega, fun x => x⟩)
  have hlt2 := h2.lt (fun b hb => hb.elim)
  go_wp2_with fail
  refine (wnum_any a1 (k : Int) w2 hn1 hv2 (by simp)).mono ?_
  rintro e w3 ⟨rfl, h3⟩
  rw [HC.out, List.nil_append] at h3
  have hlt3 := h3.lt (fun b hb => hb.elim)
  have hv3 := h2.1.only h3.2 (fun b e => ⟨by omega, fun x => by rcases x with x | x; exact x; omega⟩)
  have s2 := h2.2.size
  have s3 := h3.2.size
  have s1 := H1.size
  have c2 : Below w.heap.size w w2 := c1.trans (h2.2.to_below (by omega) (fun b e => by omega))
  have c3 : Below w.heap.size w w3 := c2.trans (h3.2.to_below (by omega) (fun b e => by omega))
  go_wp2_with fail
  have bd : Below w3.heap.size w3 w3.drew := (Below.refl _ w3).drew
  have HB1 := Lib.hid (fun W (hW : Below w3.heap.size w3.drew W) => bytes_any W ((hv3.kept bd).kept hW) (fun b hb => Nat.lt_of_lt_of_le (hlt2 b hb) (Nat.le_trans s3 hW.size)))
  have HB2 := Lib.hid (fun W (hW : Below w3.heap.size w3.drew W) => bytes_any W ((h3.1.kept bd).kept hW) (fun b hb => Nat.lt_of_lt_of_le (hlt3 b hb) hW.size))
  rw [num_len] at HB1 HB2
  have b7 : Below w3.heap.size w3.drew w3.drew := Below.refl _ _
  have HC3 := Lib.hid c3
  clear hv3 h3 h2 hv2 hv0 hw1 c1 c2 c3 hlt2 hlt3 bd H1 hn0 hn1
  refine wp_region_held_drew (S := fun w' => Below w3.heap.size w3.drew w') (by kernel_rfl) b7 ?_
  intro hS7
  refine wpAnyH_take (i := 0) (v := .pointer (some ⟨w1.heap.size, 0, none⟩)) rfl (by kernel_rfl) (by kernel_rfl) (by kernel_rfl) (fun _ _ _ h => h) (Or.inl ⟨by rfl, (fun W _ => by go_simp)⟩) hS7 ?_
  simp only [List.getElem_toArray, List.getElem_cons_succ, List.getElem_cons_zero, Act.put, List.setIfInBounds_toArray, List.set_cons_zero, List.set_cons_succ]
  refine wpAnyH_take (i := 3) (v := .pointer (some ⟨w1.heap.size + 1, 0, none⟩)) rfl (by kernel_rfl) (by kernel_rfl) (by kernel_rfl) (fun _ _ _ h => h) (Or.inl ⟨by rfl, (fun W _ => by go_simp)⟩) hS7 ?_
  simp only [List.getElem_toArray, List.getElem_cons_succ, List.getElem_cons_zero, Act.put, List.setIfInBounds_toArray, List.set_cons_zero, List.set_cons_succ]
  refine wpAnyH_take (i := 7) (v := .int .i64 a0) rfl (by kernel_rfl) (by kernel_rfl) (by kernel_rfl) (fun _ _ _ h => h) (Or.inl ⟨by rfl, (fun W _ => by go_simp)⟩) hS7 ?_
  simp only [List.getElem_toArray, List.getElem_cons_succ, List.getElem_cons_zero, Act.put, List.setIfInBounds_toArray, List.set_cons_zero, List.set_cons_succ]
  refine wpAnyH_take (i := 8) (v := .int .i64 a1) rfl (by kernel_rfl) (by kernel_rfl) (by kernel_rfl) (fun _ _ _ h => h) (Or.inl ⟨by rfl, (fun W _ => by go_simp)⟩) hS7 ?_
  simp only [List.getElem_toArray, List.getElem_cons_succ, List.getElem_cons_zero, Act.put, List.setIfInBounds_toArray, List.set_cons_zero, List.set_cons_succ]
  refine wpAnyH_take (i := 9) (v := .bool (decide (a0 < a1))) rfl (by kernel_rfl) (by kernel_rfl) (by kernel_rfl) (fun _ _ _ h => h) (Or.inl ⟨by rfl, (fun W _ => by go_simp)⟩) hS7 ?_
  simp only [List.getElem_toArray, List.getElem_cons_succ, List.getElem_cons_zero, Act.put, List.setIfInBounds_toArray, List.set_cons_zero, List.set_cons_succ]
  refine wpAnyH_ready (rs := [1]) (by kernel_rfl) (by simp) ?_
  refine AllReadyH.cons rfl (fun K hK => ?_) AllReadyH.nil
  go_simp
  refine (HB1.out _ hS7).mono ?_
  rintro e w8 ⟨v8, rfl, o8, b8⟩; obtain ⟨A8, c8, rfl, hc8, hx8, _⟩ := o8.form; have hS8 : Below w3.heap.size w3.drew w8 := hS7.trans (b8.mono hS7.size)
  refine hK.out _ _ hS8 (fun _ => ?_)
  clear hK K
  have HS8 := Lib.hid hS8
  have HC8 := Lib.hid (fun W (hW : Below w8.heap.size w8 W) => conv_row (c := c8) (row_below hW hx8))
  refine wpAnyH_strong (S' := fun W => Below w8.heap.size w8 W) (fun W h => HS8.out.trans (h.mono HS8.out.size)) _ _ _ _ ?_
  have hT8 : Below w8.heap.size w8 w8 := Below.refl _ _
  refine wpAnyH_take (i := 2) (v := .string (strOfNums (numL a0 k))) rfl (by kernel_rfl) (by kernel_rfl) (by kernel_rfl) (fun _ _ _ h => h) (Or.inl ⟨by rfl, (fun W hW => by have hcv := HC8.out W hW; go_simp)⟩) hT8 ?_
  simp only [List.getElem_toArray, List.getElem_cons_succ, List.getElem_cons_zero, Act.put, List.setIfInBounds_toArray, List.set_cons_zero, List.set_cons_succ]
  refine wpAnyH_ready (rs := [4]) (by kernel_rfl) (by simp) ?_
  refine AllReadyH.cons rfl (fun K hK => ?_) AllReadyH.nil
  go_simp
  refine (HB2.out _ HS8.out).mono ?_
  rintro e w9 ⟨v9, rfl, o9, b9⟩; obtain ⟨A9, c9, rfl, hc9, hx9, _⟩ := o9.form; have hT9 : Below w8.heap.size w8 w9 := b9
  refine hK.out _ _ hT9 (fun _ => ?_)
  clear hK K
  have hcv := conv_row (c := c9) hx9
  refine wpAnyH_ready (rs := [5]) (by kernel_rfl) (by simp) ?_
  refine AllReadyH.cons rfl (fun K hK => ?_) AllReadyH.nil
  go_simp
  refine hK.out _ _ hT9 (fun _ => ?_)
  clear hK K hcv
  refine wpAnyH_take (i := 6) (v := .bool (decide (a0 < a1))) rfl (by kernel_rfl) (by kernel_rfl) (by kernel_rfl) (fun _ _ _ h => h) (Or.inl ⟨by rfl, (fun W _ => by have hl := HLS.out; go_simp)⟩) hT9 ?_
  simp only [List.getElem_toArray, List.getElem_cons_succ, List.getElem_cons_zero, Act.put, List.setIfInBounds_toArray, List.set_cons_zero, List.set_cons_succ]
  refine wpAnyH_take (i := 10) (v := .bool true) rfl (by kernel_rfl) (by kernel_rfl) (by kernel_rfl) (fun _ _ _ h => h) (Or.inl ⟨by rfl, (fun W _ => by go_simp)⟩) hT9 ?_
  simp only [List.getElem_toArray, List.getElem_cons_succ, List.getElem_cons_zero, Act.put, List.setIfInBounds_toArray, List.set_cons_zero, List.set_cons_succ]
  refine wpAnyH_take (i := 11) (v := .bool true) rfl (by kernel_rfl) (by kernel_rfl) (by kernel_rfl) (fun _ _ _ h => h) (Or.inl ⟨by rfl, (fun W _ => by go_simp)⟩) hT9 ?_
  simp only [List.getElem_toArray, List.getElem_cons_succ, List.getElem_cons_zero, Act.put, List.setIfInBounds_toArray, List.set_cons_zero, List.set_cons_succ]
  refine wpAnyH_done (by kernel_rfl) ?_ _
  have T8 : Below w.heap.size w w9 := HC3.out.drew.trans ((HS8.out.trans (hT9.mono HS8.out.size)).mono HC3.out.size)
  clear hS7 hT9 hT8 HB1 HB2 HC8 HS8
  go_wp2
  go_ret
  exact ⟨rfl, T8⟩

/-! ### THE ROW's STEP: WRITTEN OUT: LEAVE IT -/
set_option maxRecDepth 100000 in
theorem lifted (os : Os) (started : os.Started) (H : Type) (enc : TypeId × Value → H) :
    ReturnsInHanded {} Try.checked os 6 .any (Rows.fieldOrderSpec.pre6 enc Try.prog Try.f6 Rows.fieldOrderRow.domain false) (Rows.fieldOrderSpec.post enc Try.prog Try.f6 false true false false) := by
  refine returnsInHanded_of_change (C := Try.checked) own started (by kernel_rfl) Try.func6
    (ChangeSpec.witness6 (enc := enc) (C := Try.checked) false ⟨#[], #[.int .i64 0, .int .i64 0, .int .i64 0], []⟩ 8 (by kernel_rfl) (by kernel_rfl) (by kernel_rfl) (by kernel_rfl)) ?_
  intro W base args ds gs before hval0 hW hcnd _
  have hval : ∀ (j : Nat) t v, Try.f6.params[j]? = some t → args[j]? = some v → Value.okWide Try.prog W .any base t v := hval0
  have hW' := hW
  obtain ⟨p, q, hA0, hV, rfl, hfz, hnd⟩ := hW
  have hA : DataW.TrodAll enc Try.prog W 0 (fun _ => true) true Try.f6.params.toList args.toList ds p := hA0
  rw [Try.params6] at hA hval
  obtain ⟨v0, vs0, d0, ds0, p0, q0, hargs, rfl, rfl, h0, r0⟩ := trodAll_cons hA
  obtain ⟨v1, vs1, d1, ds1, p1, q1, rfl, rfl, rfl, h1, r1⟩ := trodAll_cons r0
  obtain ⟨v2, vs2, d2, ds2, p2, q2, rfl, rfl, rfl, h2, r2⟩ := trodAll_cons r1
  obtain ⟨rfl, rfl, rfl⟩ := trodAll_nil r2
  obtain rfl : args = #[v0, v1, v2] := by cases args; simp_all
  obtain ⟨rfl, rfl⟩ := trodVars_none hV
  obtain ⟨a0, rfl, rfl, rfl, w0⟩ := open_int Try.underlying3 (hval 0 3 v0 rfl rfl) h0
  obtain ⟨a1, rfl, rfl, rfl, w1⟩ := open_int Try.underlying3 (hval 1 3 v1 rfl rfl) h1
  obtain ⟨a2, rfl, rfl, rfl, w2⟩ := open_int Try.underlying3 (hval 2 3 v2 rfl rfl) h2
  clear hA0 hval0
  simp only [List.append_nil] at hW'
  refine (walk a0 a1 a2 w0 w1 w2 W).mono fun e W' ⟨he, hg⟩ => ?_
  subst he
  exact ⟨_, rfl, ⟨_, _, _, [], [], [], hW', trodAll_cons_mk (shut_bool Try.underlying4 _) trodAll_mk0, (trodAll_cons_mk (shut_int Try.underlying3 w0) (trodAll_cons_mk (shut_int Try.underlying3 w1) (trodAll_cons_mk (shut_int Try.underlying3 w2) trodAll_mk0))), rfl, hg.frame _, fun h => by cases h⟩⟩

theorem over : Rows.fieldOrderRow.holds Try.pinned (OpenSpec.ofChange Rows.fieldOrderSpec) :=
  OpenClaim.holds_of_wide 6 Try.f6 rfl rfl rfl rfl rfl rfl rfl ⟨rfl, rfl, rfl, rfl, rfl⟩ rfl rfl rfl rfl rfl (by kernel_rfl) Try.func6 (by kernel_rfl)
    (of_decide_eq_true (by kernel_rfl)) (by unfold Func.isWrapper; first | (rw [if_pos (by decide +kernel)]; kernel_rfl) | (rw [if_neg (by decide +kernel)]; exact ⟨rfl, rfl⟩))
    (fun os started H enc _ => lifted os started H enc)

/-- ████ THE STATEMENT ████ -/
theorem proved : Rows.FieldOrderSaid :=
  over
end Go.Proofs.Ytjocpfkobojchaa.fieldOrder
namespace Go.Proofs.Ytjocpfkobojchaa
theorem FieldOrder_holds : Rows.FieldOrderSaid := fieldOrder.proved
#print axioms FieldOrder_holds
end Go.Proofs.Ytjocpfkobojchaa
