/-
  What is proved: for all rows of bytes and all masks the law DualCuts answers true: of bytes that are being written over blank ones, or being erased, whatever bits are turned so far, what is read is what was written, whole, or nothing (rows of up to 300 bytes, masks that are long enough; others the law lets by). Conditions: none.
-/
import Derived.Test.YtfglbkhmdapibaaLive
import Derived.Test.YtfglbkhmdapibaaRows
import Derived.WalkKit
import Derived.ProofKit
import Derived.OpenShut
import Derived.ShutString
import Derived.ChangeOld
import Derived.Below
namespace Go.Proofs.Ytfglbkhmdapibaa.dualCuts
open Go.ChangeShapes Go.WideShapes Go.ChangeAt Go.RowKit
open Go.ChangeMaps (open_string shut_string)
set_option linter.unusedVariables false
set_option linter.unusedSimpArgs false

theorem own : ownKnob Try.prog.godebug = none := by kernel_rfl
theorem laidOut : laidOutB Try.prog = true := by kernel_rfl

/-- WHAT THE WALK IS TOLD OF A SLICE OF INTEGERS THAT CAME IN: it is nil; or it leads to a row of 'cap' cells, the numbers 'zs' (the first 'len' are its elements, the rest its spare room), each fitting its kind. -/
def IsRow (k : IntKind) (w : World) (a : Option Addr) (len cap : Nat) (zs : List Int) : Prop :=
  (a = none ∧ len = 0 ∧ cap = 0 ∧ zs = []) ∨
  ∃ x, a = some x ∧ len ≤ cap ∧ cap ≤ maxLen ∧ zs.length = cap ∧ (∀ i, i < zs.length → w.cell? (x.add i) = some (.int k (zs.getD i 0))) ∧ ∀ n ∈ zs, (Lit.int k n).wf = true

/-- So many bytes are laid down, with the mask's bits set beside. -/
def Masking (w2 : World) (G n : Nat) (xs ms : List Int) (v i : Value) (wr : World) : Prop := ∃ (j : Nat) (sm : Bool), j ≤ n ∧ i = .int .i64 (j : Int) ∧ v = .bool sm ∧ (sm = true ↔ sameTo xs ms j) ∧ Has wr G 5 (nums (orL xs ms n j)).toArray ∧ Below w2.heap.size w2 wr
set_option maxRecDepth 100000 in
set_option maxHeartbeats 1000000 in
theorem walk (a0 : Option Addr) (len0 cap0 : Nat) (z0 : List Int) (a1 : Option Addr) (len1 cap1 : Nat) (z1 : List Int) (w : World) (w0 : IsRow .u8 w a0 len0 cap0 z0) (w1 : IsRow .u8 w a1 len1 cap1 z1) :
    Calls Try.prog 4 #[.slice a0 len0 cap0, .slice a1 len1 cap1] w fun e w' => e = .returned (.bool true) ∧ Below w.heap.size w w' := by
  have hr := row_of w0
  have hm := row_of w1
  clear w0 w1
  generalize z0.take len0 = zs at *
  generalize z1.take len1 = ms at *
  by_cases h0 : 300 < len0
  · have i0 : (300 : Int) < (len0 : Int) := by omega
    go_enter Try.func4, Try.ntmps4
    go_wp2_with (go_at_call 6; refine (alive_any _).mono ?_; rintro e w1 ⟨rfl, H1⟩)
    go_ret
    exact ⟨rfl, H1⟩
  have i0 : ¬ (300 : Int) < (len0 : Int) := by omega
  have e3 : IntKind.i64.wrap (2 * (len0 : Int)) = 2 * (len0 : Int) := by rw [IntKind.wrap_i64]; omega
  by_cases h1 : len1 < 2 * len0
  · have i1 : (len1 : Int) < 2 * (len0 : Int) := by omega
    go_enter Try.func4, Try.ntmps4
    go_wp2_with (go_at_call 6; refine (alive_any _).mono ?_; rintro e w1 ⟨rfl, H1⟩)
    go_ret
    exact ⟨rfl, H1⟩
  have i1 : ¬ (len1 : Int) < 2 * (len0 : Int) := by omega
  obtain ⟨n, hn⟩ : ∃ n, 2 * len0 = n := ⟨_, rfl⟩
  have i2 : 2 * (len0 : Int) = (n : Int) := by omega
  have HPL := Lib.hid (show (putL zs).length = n by rw [put_len, hr.1, hn])
  have HPB := Lib.hid (put_byt hr.2.1)
  have HMB := Lib.hid hm.2.1
  have HNO := Lib.hid (show ¬ sameTo (putL zs) ms n → ¬ Whole (orL (putL zs) ms n n) from cut_no hr.2.1 hm.2.1 (by rw [hr.1, hn]))
  have HYE := Lib.hid (show sameTo (putL zs) ms n → orL (putL zs) ms n n = putL zs from fun h => by have := same_all (xs := putL zs) (ms := ms) (by rw [put_len, hr.1, hn]; exact h); rw [put_len, hr.1, hn] at this; exact this)
  go_enter Try.func4, Try.ntmps4
  go_wp2_with (first
    | (go_at_call 6; refine (alive_any _).mono ?_; rintro e w1 ⟨rfl, H1⟩; have HP := Lib.hid (put_any a0 len0 cap0 zs w1 (row_below H1 hr) (by omega)))
    | (go_at_call 7; (with_reducible refine HP.out.mono ?_); rintro e w2 ⟨v2, rfl, o2, b2⟩; rw [hn] at o2; obtain ⟨A2, c2, rfl, hc2, hx2, _⟩ := o2.form; clear o2; have hmk : (Instr.makeSlice 22 (.int .i64 (n : Int)) (.int .i64 (n : Int))).run Try.prog w2 = .ok (.slice (some ⟨w2.heap.size, 0, none⟩) n n) (w2.alloc (.cells (zeroBytes n) 5)) := make_bytes .i64 .i64 n n (Nat.le_refl _) (by omega) w2))
  have T2 := belowThen H1 b2
  have hm2 := row_below T2 hm
  have HST := Lib.hid (show Has (w2.alloc (.cells (zeroBytes n) 5)) w2.heap.size 5 (nums (orL (putL zs) ms n 0)).toArray ∧ Below w2.heap.size w2 (w2.alloc (.cells (zeroBytes n) 5)) from ⟨by rw [or_none]; exact has_new w2 5 _, (Below.refl _ _).alloc (Nat.le_refl _) _⟩)
  have HPZ := Lib.hid (show ∀ rs b, Read (putL zs) rs b → rs = zs ∧ b = true from fun rs b h => read_put h)
  have HR := Lib.hid hr
  clear hmk HP hm hr
  generalize putL zs = xs at *
  go_loopw [7, 9] (fun v i wr => Masking w2 w2.heap.size n xs ms v i wr) (fun _ i _ => n - (intOf i).toNat)
  case atStart => exact ⟨0, true, by omega, rfl, rfl, ⟨fun _ => same_zero _ _, fun _ => rfl⟩, HST.out.1, HST.out.2⟩
  case round =>
    clear HST
    obtain ⟨j, sm, hj, rfl, rfl, hsm, hG, hb⟩ := hrel
    by_cases hlt : j < n
    · obtain ⟨bx, ox, rfl, hbx, hcx⟩ := row_open hx2 (by omega)
      obtain ⟨bm, om, rfl, hbm, hcm⟩ := row_open hm2 (by omega)
      have qx := (hb.cell (p := ⟨bx, ox + j, none⟩) hbx).trans (hcx j (by omega))
      have qm := (hb.cell (p := ⟨bm, om + j, none⟩) hbm).trans (hcm j (by omega))
      have qc := has_at hG (j := j) (by rw [or_len]; exact hlt)
      have qf := hG.soft j
      have hne : ¬ bx = w2.heap.size := by omega
      have j0 : (0 : Int) ≤ (j : Int) := by omega
      have j1 : (j : Int) < (n : Int) := by omega
      have j2 : (j : Int) < (len1 : Int) := by omega
      have HM := Lib.hid (@same_more xs ms j)
      have HO := Lib.hid (@or_more xs ms n j)
      have hG2 := has_set hG j (bits .or .u8 (xs.getD j 0) (ms.getD j 0))
      rw [HO.out] at hG2
      have hb2 := hb.setCell (p := ⟨w2.heap.size, j, none⟩) (Nat.le_refl _) (.int .u8 (bits .or .u8 (xs.getD j 0) (ms.getD j 0)))
      have hxc : (orL xs ms n (j + 1)).getD j 0 = bits .or .u8 (xs.getD j 0) (ms.getD j 0) := or_at _ _ hlt (by omega)
      have qc2 := has_at hG2 (j := j) (by rw [or_len]; exact hlt)
      rw [hxc] at qc2
      have qx2 := (hb2.cell (p := ⟨bx, ox + j, none⟩) hbx).trans (hcx j (by omega))
      clear hcx hcm hxc HO
      generalize xs.getD j 0 = x at *
      generalize ms.getD j 0 = m at *
      generalize (orL xs ms n j).getD j 0 = c at *
      go_wp2
      go_region
      obtain ⟨W, hW⟩ : ∃ W, (wr.setCell ⟨w2.heap.size, j, none⟩ (.int .u8 (bits .or .u8 x m))).drew = W := ⟨_, rfl⟩
      have qc3 : W.cell? ⟨w2.heap.size, j, none⟩ = some (.int .u8 (bits .or .u8 x m)) := by rw [← hW]; exact qc2
      have qx3 : W.cell? ⟨bx, ox + j, none⟩ = some (.int .u8 x) := by rw [← hW]; exact qx2
      have HG := Lib.hid (show Has W.drew w2.heap.size 5 (nums (orL xs ms n (j + 1))).toArray ∧ Below w2.heap.size w2 W.drew from ⟨by rw [← hW]; exact hG2, by rw [← hW]; exact hb2.drew.drew⟩)
      rw [hW]
      clear hW qx qm qc qf hG hb hG2 hb2 qc2 qx2
      generalize bits .or .u8 x m = y at *
      have HSM := Lib.hid hsm
      clear hsm
      cases sm with
      | false =>
        have hno : ¬ sameTo xs ms j := fun h => Bool.noConfusion (HSM.out.2 h)
        have HN := Lib.hid hno
        clear hno
        go_wp2
        go_region
        all_goals
          go_wp2
          go_roundw
          case rel => exact ⟨j + 1, false, by omega, by go_num, rfl, ⟨fun h => Bool.noConfusion h, fun h => absurd (HM.out.1 h).1 HN.out⟩, HG.out.1, HG.out.2⟩
          case measure => simp [intOf]; omega
      | true =>
        have HY := Lib.hid (HSM.out.1 rfl)
        by_cases hyx : y = x
        · have HX := Lib.hid hyx
          have hq : (y == x) = true := by simpa using hyx
          clear hyx
          go_wp2
          go_region
          all_goals
            go_wp2
            go_roundw
            case rel => exact ⟨j + 1, true, by omega, by go_num, rfl, ⟨fun _ => HM.out.2 ⟨HY.out, HX.out⟩, fun _ => rfl⟩, HG.out.1, HG.out.2⟩
            case measure => simp [intOf]; omega
        · have HX := Lib.hid hyx
          have hq : (y == x) = false := by simpa using hyx
          clear hyx
          go_wp2
          go_region
          all_goals
            go_wp2
            go_roundw
            case rel => exact ⟨j + 1, false, by omega, by go_num, rfl, ⟨fun h => Bool.noConfusion h, fun h => absurd (HM.out.1 h).2 HX.out⟩, HG.out.1, HG.out.2⟩
            case measure => simp [intOf]; omega
    · have j1 : ¬ (j : Int) < (n : Int) := by omega
      rw [show j = n by omega] at hsm hG
      have hc := has_row hG (or_byt HPB.out HMB.out n n)
      rw [or_len] at hc
      have HG := Lib.hid (get_any (some ⟨w2.heap.size, 0, none⟩) n n _ wr hc (by omega))
      have T3 := belowThen T2 hb
      have HSM := Lib.hid hsm
      clear hc hG hsm hb
      cases sm with
      | true =>
        have HEQ := Lib.hid (HYE.out (HSM.out.1 rfl))
        go_wp2_with (go_at_call 8; (with_reducible refine HG.out.mono ?_); rintro e w5 ⟨v5, rs, b, rfl, hrd, o5, b5⟩; rw [HEQ.out] at hrd; obtain ⟨h5, h6⟩ := HPZ.out _ _ hrd; subst h6; rw [h5, HR.out.1] at o5; obtain ⟨A5, c5, rfl, hc5, hx5, _⟩ := o5.form; have hv1 := conv_row (c := c5) hx5; have T5 := belowThen T3 b5; have hv2 := conv_row (c := cap0) (row_below T5 HR.out); clear o5 hx5)
        go_ret
        exact ⟨rfl, T5⟩
      | false =>
        have HWH := Lib.hid (HNO.out (fun h => Bool.noConfusion (HSM.out.2 h)))
        go_wp2_with (go_at_call 8; (with_reducible refine HG.out.mono ?_); rintro e w5 ⟨v5, rs, b, rfl, hrd, o5, b5⟩; obtain ⟨h5, h6⟩ := hrd.none HWH.out; subst h6; rw [h5] at o5; obtain ⟨A5, c5, rfl, hc5, hx5, _⟩ := o5.form; have T5 := belowThen T3 b5; clear o5 hx5)
        go_ret
        exact ⟨rfl, T5⟩

/-! ### THE ROW's STEP: WRITTEN OUT: LEAVE IT -/
set_option maxRecDepth 100000 in
theorem lifted (os : Os) (started : os.Started) (H : Type) (enc : TypeId × Value → H) :
    ReturnsInHanded {} Try.checked os 4 .any (Rows.dualCutsSpec.pre6 enc Try.prog Try.f4 Rows.dualCutsRow.domain false) (Rows.dualCutsSpec.post enc Try.prog Try.f4 false true false false) := by
  refine returnsInHanded_of_change (C := Try.checked) own started (by kernel_rfl) Try.func4
    (ChangeSpec.witness6 (enc := enc) (C := Try.checked) false ⟨#[], #[.slice none 0 0, .slice none 0 0], []⟩ 8 (by kernel_rfl) (by kernel_rfl) (by kernel_rfl) (by kernel_rfl)) ?_
  intro W base args ds gs before hval0 hW hcnd _
  have hval : ∀ (j : Nat) t v, Try.f4.params[j]? = some t → args[j]? = some v → Value.okWide Try.prog W .any base t v := hval0
  have hW' := hW
  obtain ⟨p, q, hA0, hV, rfl, hfz, hnd⟩ := hW
  have hA : DataW.TrodAll enc Try.prog W 0 (fun _ => true) true Try.f4.params.toList args.toList ds p := hA0
  rw [Try.params4] at hA hval
  obtain ⟨v0, vs0, d0, ds0, p0, q0, hargs, rfl, rfl, h0, r0⟩ := trodAll_cons hA
  obtain ⟨v1, vs1, d1, ds1, p1, q1, rfl, rfl, rfl, h1, r1⟩ := trodAll_cons r0
  obtain ⟨rfl, rfl, rfl⟩ := trodAll_nil r1
  obtain rfl : args = #[v0, v1] := by cases args; simp_all
  obtain ⟨rfl, rfl⟩ := trodVars_none hV
  obtain ⟨a0, len0, cap0, rfl⟩ := okWide_slice Try.underlying22 (hval 0 22 v0 rfl rfl)
  have k0 := h0
  have lt0 : ∀ x ∈ p0, x.block < W.heap.size := by obtain ⟨m, hm⟩ := k0; exact DataW.trod_lt m _ _ _ hm
  obtain ⟨z0, w0⟩ : ∃ zs, IsRow .u8 W a0 len0 cap0 zs := by
    obtain ⟨fuel, hf⟩ := h0
    rcases open_ints Try.underlying22 Try.underlying5 (by kernel_rfl) hf with ⟨hcs, _⟩ | ⟨x, l, c, zs, hcs, _, hl, hm, hz, _, hcell, hwz⟩
    · simp [Value.cells] at hcs
      obtain ⟨rfl, rfl, rfl⟩ := hcs
      exact ⟨[], .inl ⟨rfl, rfl, rfl, rfl⟩⟩
    · simp [Value.cells] at hcs
      obtain ⟨rfl, rfl, rfl⟩ := hcs
      exact ⟨zs, .inr ⟨_, rfl, hl, hm, by simpa using hz, hcell, hwz⟩⟩
  obtain ⟨a1, len1, cap1, rfl⟩ := okWide_slice Try.underlying22 (hval 1 22 v1 rfl rfl)
  have k1 := h1
  have lt1 : ∀ x ∈ p1, x.block < W.heap.size := by obtain ⟨m, hm⟩ := k1; exact DataW.trod_lt m _ _ _ hm
  obtain ⟨z1, w1⟩ : ∃ zs, IsRow .u8 W a1 len1 cap1 zs := by
    obtain ⟨fuel, hf⟩ := h1
    rcases open_ints Try.underlying22 Try.underlying5 (by kernel_rfl) hf with ⟨hcs, _⟩ | ⟨x, l, c, zs, hcs, _, hl, hm, hz, _, hcell, hwz⟩
    · simp [Value.cells] at hcs
      obtain ⟨rfl, rfl, rfl⟩ := hcs
      exact ⟨[], .inl ⟨rfl, rfl, rfl, rfl⟩⟩
    · simp [Value.cells] at hcs
      obtain ⟨rfl, rfl, rfl⟩ := hcs
      exact ⟨zs, .inr ⟨_, rfl, hl, hm, by simpa using hz, hcell, hwz⟩⟩
  clear hA0 hval0
  refine (walk a0 len0 cap0 z0 a1 len1 cap1 z1 W w0 w1).mono fun e W' ⟨he, bel⟩ => ?_
  subst he
  exact ⟨_, rfl, _, _, _, [], _, [], hW', trodAll_mk1 (shut_bool Try.underlying4 _), (trodAll_cons_mk (Below.trod laidOut (by kernel_rfl) (of_decide_eq_true (by kernel_rfl)) k0 bel lt0) (trodAll_cons_mk (Below.trod laidOut (by kernel_rfl) (of_decide_eq_true (by kernel_rfl)) k1 bel lt1) trodAll_mk0)), rfl, bel.frame _, fun h => by cases h⟩

theorem over : Rows.dualCutsRow.holds Try.pinned (OpenSpec.ofChange Rows.dualCutsSpec) :=
  OpenClaim.holds_of_wide 4 Try.f4 rfl rfl rfl rfl rfl rfl rfl ⟨rfl, rfl, rfl, rfl, rfl⟩ rfl rfl rfl rfl rfl (by kernel_rfl) Try.func4 (by kernel_rfl)
    (of_decide_eq_true (by kernel_rfl)) (by unfold Func.isWrapper; first | (rw [if_pos (by decide +kernel)]; kernel_rfl) | (rw [if_neg (by decide +kernel)]; exact ⟨rfl, rfl⟩))
    (fun os started H enc _ => lifted os started H enc)

/-- ████ THE STATEMENT ████ -/
theorem proved : Rows.DualCutsSaid := over
end Go.Proofs.Ytfglbkhmdapibaa.dualCuts
namespace Go.Proofs.Ytfglbkhmdapibaa
theorem DualCuts_holds : Rows.DualCutsSaid := dualCuts.proved
#print axioms DualCuts_holds
end Go.Proofs.Ytfglbkhmdapibaa
