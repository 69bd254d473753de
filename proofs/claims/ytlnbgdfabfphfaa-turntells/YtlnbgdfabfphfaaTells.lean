/-
  What is proved: for every word, number and row of bytes the law TurnTells answers true: the program turns words, reads them and writes them as the document's own answer does (rows of up to 100 bytes; longer ones the law lets by). Conditions: none.
-/
import Derived.Test.YtlnbgdfabfphfaaAlive
import Derived.Test.YtlnbgdfabfphfaaRows
import Derived.WalkKit
import Derived.ProofKit
import Derived.OpenShut
import Derived.ShutString
import Derived.ChangeOld
import Derived.Below
import Derived.Deep.RegionWith
import Derived.Laws.BytesArg
namespace Go.Proofs.Ytlnbgdfabfphfaa.turnTells
open Go.ChangeShapes Go.WideShapes Go.ChangeAt Go.RowKit
open Go.ChangeMaps (open_string shut_string)
set_option linter.unusedVariables false

theorem own : ownKnob Try.prog.godebug = none := by kernel_rfl
theorem laidOut : laidOutB Try.prog = true := by kernel_rfl

/-- WHAT THE WALK IS TOLD OF A SLICE OF INTEGERS THAT CAME IN: it is nil; or it leads to a row of 'cap' cells, the numbers 'zs' (the first 'len' are its elements, the rest its spare room), each fitting its kind. -/
def IsRow (k : IntKind) (w : World) (a : Option Addr) (len cap : Nat) (zs : List Int) : Prop :=
  (a = none ∧ len = 0 ∧ cap = 0 ∧ zs = []) ∨
  ∃ x, a = some x ∧ len ≤ cap ∧ cap ≤ maxLen ∧ zs.length = cap ∧ (∀ i, i < zs.length → w.cell? (x.add i) = some (.int k (zs.getD i 0))) ∧ ∀ n ∈ zs, (Lit.int k n).wf = true

theorem row_of {w : World} {a : Option Addr} {len cap : Nat} {zs : List Int} (h : IsRow .u8 w a len cap zs) : Row w a len (zs.take len) := by
  rcases h with ⟨rfl, rfl, rfl, rfl⟩ | ⟨x, rfl, hlc, hm, hz, hc, hwf⟩
  · exact ⟨rfl, fun n hn => by simp at hn, .inl rfl⟩
  · refine ⟨by simp; omega, fun n hn => bounds_u8 (hwf n (List.mem_of_mem_take hn)), ?_⟩
    by_cases h0 : len = 0
    · exact .inl h0
    · obtain ⟨b, off, rfl, hcell⟩ := ints_at hc (by omega)
      refine .inr ⟨b, off, rfl, ?_, fun j hj => ?_⟩
      · have := hcell 0 (by omega)
        exact World.block_lt_of_cell? _ _ this
      · rw [hcell j (by omega)]
        simp [List.getD_eq_getElem?_getD, hj]

theorem row_below {w w' : World} {a : Option Addr} {n : Nat} {zs : List Int} (hb : Below w.heap.size w w') (h : Row w a n zs) : Row w' a n zs := by
  obtain ⟨h1, h2, h3⟩ := h
  refine ⟨h1, h2, ?_⟩
  rcases h3 with h0 | ⟨b, off, ha, hbw, hc⟩
  · exact .inl h0
  · exact .inr ⟨b, off, ha, Nat.lt_of_lt_of_le hbw hb.size, fun j hj => (hb.cell (p := ⟨b, off + j, none⟩) hbw).trans (hc j hj)⟩
theorem row_drew {w : World} {a : Option Addr} {n : Nat} {zs : List Int} (h : Row w a n zs) : Row w.drew a n zs := row_below ((Below.refl _ w).drew) h

/-- Block b holds the four bytes of x. -/
def Four (w : World) (b : Nat) (x : Int) : Prop := ∀ i, i < 4 → w.cell? ⟨b, 0 + i, none⟩ = some (.int .u8 ((bytes4 x).getD i 0))
theorem conv_at (w : World) (b : Nat) (x : Int) (h : Four w b x) : (convert 23 9 (.slice (some ⟨b, 0, none⟩) 4 4)).run Try.prog w = .ok (.string (strOfNums (bytes4 x))) w :=
  run_convert_bytes_arg w 23 5 Try.underlying23 Try.underlying5 b 0 4 4 (bytes4 x) rfl h 9 Try.underlying9
theorem four_new (w : World) (x : Int) : Four (w.alloc (.cells ((bytes4 x).map (Value.int .u8)).toArray 5)).drew w.heap.size x := by
  intro i hi
  rcases (by omega : i = 0 ∨ i = 1 ∨ i = 2 ∨ i = 3) with rfl | rfl | rfl | rfl <;> simp [bytes4]
theorem four_old (w : World) (x : Int) : Four ((w.alloc (.cells ((bytes4 x).map (Value.int .u8)).toArray 5)).alloc (.cells ((bytes4 x).map (Value.int .u8)).toArray 5)).drew w.heap.size x := by
  intro i hi
  rcases (by omega : i = 0 ∨ i = 1 ∨ i = 2 ∨ i = 3) with rfl | rfl | rfl | rfl <;> simp [bytes4]
theorem four_next (w : World) (x : Int) : Four ((w.alloc (.cells ((bytes4 x).map (Value.int .u8)).toArray 5)).alloc (.cells ((bytes4 x).map (Value.int .u8)).toArray 5)).drew (w.heap.size + 1) x := by
  intro i hi
  rcases (by omega : i = 0 ∨ i = 1 ∨ i = 2 ∨ i = 3) with rfl | rfl | rfl | rfl <;> simp [bytes4]

theorem four_last (w : World) (x : Int) : Four (((w.alloc (.cells ((bytes4 x).map (Value.int .u8)).toArray 5)).alloc (.cells ((bytes4 x).map (Value.int .u8)).toArray 5)).alloc (.cells ((bytes4 x).map (Value.int .u8)).toArray 5)).drew (w.heap.size + 1 + 1) x := by
  have := four_new ((w.alloc (.cells ((bytes4 x).map (Value.int .u8)).toArray 5)).alloc (.cells ((bytes4 x).map (Value.int .u8)).toArray 5)) x
  rw [show ((w.alloc (.cells ((bytes4 x).map (Value.int .u8)).toArray 5)).alloc (.cells ((bytes4 x).map (Value.int .u8)).toArray 5)).heap.size = w.heap.size + 1 + 1 by simp] at this
  exact this
theorem back_any (w : World) (b : Nat) (x : Int) (hx : 0 ≤ x ∧ x ≤ 4294967295) (hb : b < w.heap.size) (h : Four w b x) :
    Calls Try.prog 9 #[.slice (some ⟨b, 0, none⟩) 4 4] w fun e w' => e = .returned (.int .u32 x) ∧ w = w' := by
  have := big_any (some ⟨b, 0, none⟩) 4 4 (bytes4 x) w ⟨rfl, bytes4_bd hx, .inr ⟨b, 0, rfl, hb, h⟩⟩
  rw [big_bytes4] at this
  exact this

/-! ### STEP 1: THE WALK: the Go text returns true, AND WRITES NOTHING THAT WAS THERE: 'Below w.heap.size w w'' (Derived/Below.lean: '.refl', '.alloc', '.drew', '.setCell' at a new block, '.trans'). Open each 'IsRow' by 'rcases' AHEAD of 'go_enter'; part every test ahead of the walk. -/
set_option maxHeartbeats 4000000 in
set_option maxRecDepth 100000 in
theorem walk (a0 : Int) (a1 : Int) (a2 : Option Addr) (len2 cap2 : Nat) (z2 : List Int) (w : World) (w0 : (Lit.int .u32 a0).wf = true) (w1 : (Lit.int .i64 a1).wf = true) (w2 : IsRow .u8 w a2 len2 cap2 z2) :
    Calls Try.prog 3 #[.int .u32 a0, .int .i64 a1, .slice a2 len2 cap2] w fun e w' => e = .returned (.bool true) ∧ Below w.heap.size w w' := by
  have hx := word_bd w0
  have b1 := rotI_bd a0 a1
  by_cases hl : len2 ≤ 100
  · have hr := row_of w2
    go_enter Try.func3, Try.ntmps3
    go_wp2_with (go_at_call 6; refine (alive_any _).mono ?_; rintro e w1 ⟨rfl, _, H1⟩)
    have hr1 := row_below H1 hr
    have c1 := conv_at ((w1.alloc (.cells ((bytes4 a0).map (Value.int .u8)).toArray 5)).drew) w1.heap.size a0 (four_new w1 a0)
    have c2 := conv_at (((w1.alloc (.cells ((bytes4 a0).map (Value.int .u8)).toArray 5)).alloc (.cells ((bytes4 a0).map (Value.int .u8)).toArray 5)).drew) w1.heap.size a0 (four_old w1 a0)
    have c3 := conv_at (((w1.alloc (.cells ((bytes4 a0).map (Value.int .u8)).toArray 5)).alloc (.cells ((bytes4 a0).map (Value.int .u8)).toArray 5)).drew) (w1.heap.size + 1) a0 (four_next w1 a0)
    go_region_with (first
      | (go_at_call 7; refine (right_any _ _ _ hx).mono ?_; rintro e w1 ⟨rfl, rfl⟩)
      | (go_at_call 8; refine (rright_any _ _ _ hx).mono ?_; rintro e w1 ⟨rfl, rfl⟩)
      | (go_at_call_of 9 (Value.slice a2 len2 cap2); refine (big_any _ _ _ (z2.take len2) _ (row_drew hr1)).mono ?_; rintro e w1 ⟨rfl, rfl⟩)
      | (go_at_call 10; refine (rbig_any _ _ _ (z2.take len2) _ (row_drew hr1)).mono ?_; rintro e w1 ⟨rfl, rfl⟩)
      | (go_at_call 9; refine (back_any _ _ a0 hx (by simp) (four_last w1 a0)).mono ?_; rintro e w1 ⟨rfl, rfl⟩)
      | (go_at_call 11; refine (bytes_any _ _ hx).mono ?_; rintro e w1 ⟨rfl, rfl⟩)
      | (go_at_call 12; refine (rbytes_any _ _ hx).mono ?_; rintro e w1 ⟨rfl, rfl⟩))
    all_goals
      clear c1 c2 c3
      go_wp2
      go_ret
      exact ⟨rfl, (((H1.alloc H1.size _).alloc (by have := H1.size; simp; omega) _).alloc (by have := H1.size; simp; omega) _).drew⟩
  · go_enter Try.func3, Try.ntmps3
    go_wp2_with (go_at_call 6; refine (alive_any _).mono ?_; rintro e w1 ⟨rfl, _, H1⟩)
    go_ret
    exact ⟨rfl, H1⟩

/-! ### THE ROW's STEP: WRITTEN OUT: LEAVE IT -/
set_option maxRecDepth 100000 in
theorem lifted (os : Os) (started : os.Started) (H : Type) (enc : TypeId × Value → H) :
    ReturnsInHanded {} Try.checked os 3 .any (Rows.turnTellsSpec.pre6 enc Try.prog Try.f3 Rows.turnTellsRow.domain false) (Rows.turnTellsSpec.post enc Try.prog Try.f3 false true false false) := by
  refine returnsInHanded_of_change (C := Try.checked) own started (by kernel_rfl) Try.func3
    (ChangeSpec.witness6 (enc := enc) (C := Try.checked) false ⟨#[], #[.int .u32 0, .int .i64 0, .slice none 0 0], []⟩ 8 (by kernel_rfl) (by kernel_rfl) (by kernel_rfl) (by kernel_rfl)) ?_
  intro W base args ds gs before hval0 hW hcnd _
  have hval : ∀ (j : Nat) t v, Try.f3.params[j]? = some t → args[j]? = some v → Value.okWide Try.prog W .any base t v := hval0
  have hW' := hW
  obtain ⟨p, q, hA0, hV, rfl, hfz, hnd⟩ := hW
  have hA : DataW.TrodAll enc Try.prog W 0 (fun _ => true) true Try.f3.params.toList args.toList ds p := hA0
  rw [Try.params3] at hA hval
  obtain ⟨v0, vs0, d0, ds0, p0, q0, hargs, rfl, rfl, h0, r0⟩ := trodAll_cons hA
  obtain ⟨v1, vs1, d1, ds1, p1, q1, rfl, rfl, rfl, h1, r1⟩ := trodAll_cons r0
  obtain ⟨v2, vs2, d2, ds2, p2, q2, rfl, rfl, rfl, h2, r2⟩ := trodAll_cons r1
  obtain ⟨rfl, rfl, rfl⟩ := trodAll_nil r2
  obtain rfl : args = #[v0, v1, v2] := by cases args; simp_all
  obtain ⟨rfl, rfl⟩ := trodVars_none hV
  obtain ⟨a0, rfl, rfl, rfl, w0⟩ := open_int Try.underlying22 (hval 0 22 v0 rfl rfl) h0
  obtain ⟨a1, rfl, rfl, rfl, w1⟩ := open_int Try.underlying3 (hval 1 3 v1 rfl rfl) h1
  obtain ⟨a2, len2, cap2, rfl⟩ := okWide_slice Try.underlying23 (hval 2 23 v2 rfl rfl)
  have k2 := h2
  have lt2 : ∀ x ∈ p2, x.block < W.heap.size := by obtain ⟨m, hm⟩ := k2; exact DataW.trod_lt m _ _ _ hm
  obtain ⟨z2, w2⟩ : ∃ zs, IsRow .u8 W a2 len2 cap2 zs := by
    obtain ⟨fuel, hf⟩ := h2
    rcases open_ints Try.underlying23 Try.underlying5 (by kernel_rfl) hf with ⟨hcs, _⟩ | ⟨x, l, c, zs, hcs, _, hl, hm, hz, _, hcell, hwz⟩
    · simp [Value.cells] at hcs
      obtain ⟨rfl, rfl, rfl⟩ := hcs
      exact ⟨[], .inl ⟨rfl, rfl, rfl, rfl⟩⟩
    · simp [Value.cells] at hcs
      obtain ⟨rfl, rfl, rfl⟩ := hcs
      exact ⟨zs, .inr ⟨_, rfl, hl, hm, by simpa using hz, hcell, hwz⟩⟩
  clear hA0 hval0
  refine (walk a0 a1 a2 len2 cap2 z2 W w0 w1 w2).mono fun e W' ⟨he, bel⟩ => ?_
  subst he
  exact ⟨_, rfl, _, _, _, [], _, [], hW', trodAll_mk1 (shut_bool Try.underlying4 _), (trodAll_cons_mk (shut_int Try.underlying22 w0) (trodAll_cons_mk (shut_int Try.underlying3 w1) (trodAll_cons_mk (Below.trod laidOut (by kernel_rfl) (of_decide_eq_true (by kernel_rfl)) k2 bel lt2) trodAll_mk0))), rfl, bel.frame _, fun h => by cases h⟩

theorem over : Rows.turnTellsRow.holds Try.pinned (OpenSpec.ofChange Rows.turnTellsSpec) :=
  OpenClaim.holds_of_wide 3 Try.f3 rfl rfl rfl rfl rfl rfl rfl ⟨rfl, rfl, rfl, rfl, rfl⟩ rfl rfl rfl rfl rfl (by kernel_rfl) Try.func3 (by kernel_rfl)
    (of_decide_eq_true (by kernel_rfl)) (by unfold Func.isWrapper; first | (rw [if_pos (by decide +kernel)]; kernel_rfl) | (rw [if_neg (by decide +kernel)]; exact ⟨rfl, rfl⟩))
    (fun os started H enc _ => lifted os started H enc)

/-- ████ THE STATEMENT ████ -/
theorem proved : Rows.TurnTellsSaid := over
end Go.Proofs.Ytlnbgdfabfphfaa.turnTells
namespace Go.Proofs.Ytlnbgdfabfphfaa
theorem TurnTells_holds : Rows.TurnTellsSaid := turnTells.proved
#print axioms TurnTells_holds
end Go.Proofs.Ytlnbgdfabfphfaa
