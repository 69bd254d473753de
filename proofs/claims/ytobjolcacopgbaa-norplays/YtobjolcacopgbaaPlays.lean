/-
  What is proved: for all numbers and rows of calls the law NorPlays answers true: what any row of calls answers, every byte, and how often each sector was erased is as the document says, whatever is cut (up to 6 sectors, 60 calls, rows of 700 bytes and masks of 50; others the law lets by). Conditions: none.
-/
import Derived.Test.YtobjolcacopgbaaPlay
import Derived.Deep.Slices
import Derived.Deep.Fields
import Derived.Test.YtobjolcacopgbaaRows
import Derived.WalkKit
import Derived.ProofKit
import Derived.OpenShut
import Derived.ShutString
import Derived.ChangeOld
import Derived.Below
namespace Go.Proofs.Ytobjolcacopgbaa.norPlays
open Go.ChangeShapes Go.WideShapes Go.ChangeAt Go.RowKit
open Go.ChangeMaps (open_string shut_string)
set_option linter.unusedVariables false

theorem own : ownKnob Try.prog.godebug = none := by kernel_rfl
theorem laidOut : laidOutB Try.prog = true := by kernel_rfl

theorem add_plain (b off i : Nat) : (⟨b, off, none⟩ : Addr).add i = ⟨b, off + i, none⟩ := by unfold Addr.add; split <;> simp_all
theorem plain_at {w : World} {a : Addr} {v : Value} (h : w.cell? (a.add 0) = some v) : ∃ b off, a = ⟨b, off, none⟩ := by
  obtain ⟨b, off, spot⟩ := a
  have hspot : spot = none := by simpa [Addr.add] using World.cell?_spot h
  subst hspot
  exact ⟨b, off, rfl⟩
/-- A number that came in. -/
theorem num_of {H : Type} {enc : TypeId × Value → H} {w : World} {n : Nat} {v : Value} {y : DataW H × List MemPlace} (h : DataW.trod enc Try.prog w 0 (fun _ => true) true n 3 [v] = some y) : ∃ i, v = .int .i64 i ∧ I64 i := by
  obtain ⟨i, e, _, hw⟩ := DataW.trod_int Try.underlying3 h
  simp only [List.cons.injEq, and_true] at e
  have := bounds_i64 hw
  exact ⟨i, e, by omega, by omega⟩
/-- A row that came in. -/
theorem bytes_of {H : Type} {enc : TypeId × Value → H} {w : World} {n : Nat} {v : Value} {y : DataW H × List MemPlace} (h : DataW.trod enc Try.prog w 0 (fun _ => true) true n 28 [v] = some y) : ∃ A L C zs, v = .slice A L C ∧ Row w A L zs ∧ L ≤ C := by
  rcases open_ints Try.underlying28 Try.underlying5 (by kernel_rfl) h with ⟨hcs, _⟩ | ⟨x, l, c, zs, hcs, _, hl, hm, hz, _, hcell, hwz⟩
  · simp only [List.cons.injEq, and_true] at hcs
    exact ⟨none, 0, 0, [], hcs, row_nil w, Nat.le_refl _⟩
  · simp only [List.cons.injEq, and_true] at hcs
    exact ⟨some x, l, c, zs.take l, hcs, row_of (cap := c) (.inr ⟨x, rfl, hl, hm, by simpa using hz, hcell, hwz⟩), hl⟩
/-- The calls that came in. -/
theorem acts_of {H : Type} {enc : TypeId × Value → H} {w : World} {fuel : Nat} {a : Option Addr} {len cap : Nat} {x : DataW H × List MemPlace} (h : DataW.trod enc Try.prog w 0 (fun _ => true) true fuel 22 [.slice a len cap] = some x) : Acts w a len := by
  have h5 : Try.prog.cellsOf 30 = 5 := by kernel_rfl
  have e3 : Try.prog.cellsOf 3 = 1 := by kernel_rfl
  have e28 : Try.prog.cellsOf 28 = 1 := by kernel_rfl
  by_cases h0 : len = 0
  · exact .inl h0
  rcases Deep.open_slice Try.underlying22 h with ⟨hcs, _⟩ | ⟨p, l, c, m, n, D, Pl, hcs, _, hl, hm, hmm, _, hi⟩
  · simp only [List.cons.injEq, Value.slice.injEq, and_true] at hcs
    exact absurd hcs.2.1 h0
  · simp only [List.cons.injEq, Value.slice.injEq, and_true] at hcs
    obtain ⟨rfl, rfl, rfl⟩ := hcs
    rw [if_pos rfl] at hmm
    subst hmm
    rw [h5] at hi
    have each : ∀ i, i < len → ∃ v0 v1 v2 v3 v4, (∀ j, j < 5 → w.cell? ((p.add (i * 5)).add j) = [v0, v1, v2, v3, v4][j]?) ∧ (∃ k, v0 = .int .i64 k ∧ I64 k) ∧ (∃ k, v1 = .int .i64 k ∧ I64 k) ∧ (∃ k, v2 = .int .i64 k ∧ I64 k) ∧ (∃ A L C zs, v3 = .slice A L C ∧ Row w A L zs ∧ L ≤ C) ∧ ∃ A L C zs, v4 = .slice A L C ∧ Row w A L zs ∧ L ≤ C := by
      intro i hil
      obtain ⟨cs', hc, ht⟩ := hi i (by omega)
      obtain ⟨_, hcl, hat⟩ := World.cells?_some hc
      obtain ⟨xs, n', _, _, _, hxl, hf⟩ := DataW.trod_struct Try.underlying30 ht
      match cs', hcl, xs, hxl with
      | [v0, v1, v2, v3, v4], _, [y0, y1, y2, y3, y4], _ =>
        have f0 : DataW.trod enc Try.prog w 0 (fun _ => true) true n' 3 (List.take (Try.prog.cellsOf 3) [v0, v1, v2, v3, v4]) = some y0 := hf 0 _ rfl
        have f1 : DataW.trod enc Try.prog w 0 (fun _ => true) true n' 3 (List.take (Try.prog.cellsOf 3) [v1, v2, v3, v4]) = some y1 := hf 1 _ rfl
        have f2 : DataW.trod enc Try.prog w 0 (fun _ => true) true n' 3 (List.take (Try.prog.cellsOf 3) [v2, v3, v4]) = some y2 := hf 2 _ rfl
        have f3 : DataW.trod enc Try.prog w 0 (fun _ => true) true n' 28 (List.take (Try.prog.cellsOf 28) [v3, v4]) = some y3 := hf 3 _ rfl
        have f4 : DataW.trod enc Try.prog w 0 (fun _ => true) true n' 28 (List.take (Try.prog.cellsOf 28) [v4]) = some y4 := hf 4 _ rfl
        rw [e3] at f0 f1 f2
        rw [e28] at f3 f4
        exact ⟨v0, v1, v2, v3, v4, hat, num_of (y := y0) f0, num_of (y := y1) f1, num_of (y := y2) f2, bytes_of (y := y3) f3, bytes_of (y := y4) f4⟩
    obtain ⟨v0, v1, v2, v3, v4, hat0, _⟩ := each 0 (by omega)
    have hc0 := hat0 0 (by omega)
    rw [Deep.add_add] at hc0
    obtain ⟨b, off, rfl⟩ := plain_at (v := v0) hc0
    refine .inr ⟨b, off, rfl, fun i hil => ?_⟩
    obtain ⟨v0, v1, v2, v3, v4, hat, ⟨k0, rfl, _⟩, ⟨k1, rfl, i1⟩, ⟨k2, rfl, i2⟩, ⟨A, L, C, zs, rfl, r1, l1⟩, ⟨A', L', C', zs', rfl, r2, l2⟩⟩ := each i hil
    have c0 := hat 0 (by omega)
    have c1 := hat 1 (by omega)
    have c2 := hat 2 (by omega)
    have c3 := hat 3 (by omega)
    have c4 := hat 4 (by omega)
    rw [Deep.add_add, add_plain] at c0 c1 c2 c3 c4
    exact ⟨k0, k1, k2, A, L, C, zs, A', L', C', zs', c0, c1, c2, c3, c4, i1, i2, r1, l1, r2, l2⟩
set_option maxRecDepth 100000 in
set_option maxHeartbeats 1000000 in
theorem walk (a0 : Int) (a1 : Option Addr) (len1 cap1 : Nat) (w : World) (w0 : (Lit.int .i64 a0).wf = true) (w1 : Acts w a1 len1) :
    Calls Try.prog 3 #[.int .i64 a0, .slice a1 len1 cap1] w fun e w' => e = .returned (.bool true) ∧ Below w.heap.size w w' := by
  by_cases h0 : 6 < a0
  · have d0 : decide (6 < a0) = true := by simpa using h0
    go_enter Try.func3, Try.ntmps3
    go_wp2_with (go_at_call 8; refine (alive_any _).mono ?_; rintro e w1 ⟨rfl, H1⟩)
    go_ret
    exact ⟨rfl, H1⟩
  by_cases h1 : 60 < len1
  · have d0 : decide (6 < a0) = false := by simpa using h0
    have d1 : decide (60 < len1) = true := by simpa using h1
    have d2 : (60 : Int) < (len1 : Int) := by omega
    go_enter Try.func3, Try.ntmps3
    go_wp2_with (go_at_call 8; refine (alive_any _).mono ?_; rintro e w1 ⟨rfl, H1⟩)
    go_ret
    exact ⟨rfl, H1⟩
  exact plays_within a0 a1 len1 cap1 w w1 (by omega) (by omega)

/-! ### THE ROW's STEP: WRITTEN OUT: LEAVE IT -/
set_option maxRecDepth 100000 in
theorem lifted (os : Os) (started : os.Started) (H : Type) (enc : TypeId × Value → H) :
    ReturnsInHanded {} Try.checked os 3 .any (Rows.norPlaysSpec.pre6 enc Try.prog Try.f3 Rows.norPlaysRow.domain false) (Rows.norPlaysSpec.post enc Try.prog Try.f3 false true false false) := by
  refine returnsInHanded_of_change (C := Try.checked) own started (by kernel_rfl) Try.func3
    (ChangeSpec.witness6 (enc := enc) (C := Try.checked) false ⟨#[], #[.int .i64 0, .slice none 0 0], []⟩ 8 (by kernel_rfl) (by kernel_rfl) (by kernel_rfl) (by kernel_rfl)) ?_
  intro W base args ds gs before hval0 hW hcnd _
  have hval : ∀ (j : Nat) t v, Try.f3.params[j]? = some t → args[j]? = some v → Value.okWide Try.prog W .any base t v := hval0
  have hW' := hW
  obtain ⟨p, q, hA0, hV, rfl, hfz, hnd⟩ := hW
  have hA : DataW.TrodAll enc Try.prog W 0 (fun _ => true) true Try.f3.params.toList args.toList ds p := hA0
  rw [Try.params3] at hA hval
  obtain ⟨v0, vs0, d0, ds0, p0, q0, hargs, rfl, rfl, h0, r0⟩ := trodAll_cons hA
  obtain ⟨v1, vs1, d1, ds1, p1, q1, rfl, rfl, rfl, h1, r1⟩ := trodAll_cons r0
  obtain ⟨rfl, rfl, rfl⟩ := trodAll_nil r1
  obtain rfl : args = #[v0, v1] := by cases args; simp_all
  obtain ⟨rfl, rfl⟩ := trodVars_none hV
  obtain ⟨a0, rfl, rfl, rfl, w0⟩ := open_int Try.underlying3 (hval 0 3 v0 rfl rfl) h0
  obtain ⟨a1, len1, cap1, rfl⟩ := okWide_slice Try.underlying22 (hval 1 22 v1 rfl rfl)
  have k1 := h1
  have lt1 : ∀ x ∈ p1, x.block < W.heap.size := by obtain ⟨m, hm⟩ := k1; exact DataW.trod_lt m _ _ _ hm
  have w1 : Acts W a1 len1 := by
    obtain ⟨fuel, hf⟩ := h1
    exact acts_of hf
  clear hA0 hval0
  refine (walk a0 a1 len1 cap1 W w0 w1).mono fun e W' ⟨he, bel⟩ => ?_
  subst he
  exact ⟨_, rfl, _, _, _, [], _, [], hW', trodAll_mk1 (shut_bool Try.underlying4 _), (trodAll_cons_mk (shut_int Try.underlying3 w0) (trodAll_cons_mk (Below.trod laidOut (by kernel_rfl) (of_decide_eq_true (by kernel_rfl)) k1 bel lt1) trodAll_mk0)), rfl, bel.frame _, fun h => by cases h⟩

theorem over : Rows.norPlaysRow.holds Try.pinned (OpenSpec.ofChange Rows.norPlaysSpec) :=
  OpenClaim.holds_of_wide 3 Try.f3 rfl rfl rfl rfl rfl rfl rfl ⟨rfl, rfl, rfl, rfl, rfl⟩ rfl rfl rfl rfl rfl (by kernel_rfl) Try.func3 (by kernel_rfl)
    (of_decide_eq_true (by kernel_rfl)) (by unfold Func.isWrapper; first | (rw [if_pos (by decide +kernel)]; kernel_rfl) | (rw [if_neg (by decide +kernel)]; exact ⟨rfl, rfl⟩))
    (fun os started H enc _ => lifted os started H enc)

/-- ████ THE STATEMENT ████ -/
theorem proved : Rows.NorPlaysSaid := over
end Go.Proofs.Ytobjolcacopgbaa.norPlays
namespace Go.Proofs.Ytobjolcacopgbaa
theorem NorPlays_holds : Rows.NorPlaysSaid := norPlays.proved
#print axioms NorPlays_holds
end Go.Proofs.Ytobjolcacopgbaa
