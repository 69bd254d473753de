/-
  What is proved: for all numbers, all rows of bytes and all masks the law CellCuts answers true: a cell that is being written over blank bytes, or being erased, is itself, or none, whatever bits are turned so far (seqs that may be, rows of up to 156 bytes, masks of 1 to 400 bytes that go round; others the law lets by). Conditions: none.
-/
import Derived.Test.YtdlbdhamlmladaaAlive
import Derived.Test.YtdlbdhamlmladaaMix
import Derived.Test.YtdlbdhamlmladaaRows
import Derived.WalkKit
import Derived.ProofKit
import Derived.OpenShut
import Derived.ShutString
import Derived.ChangeOld
import Derived.Below
namespace Go.Proofs.Ytdlbdhamlmladaa.cellCuts
open Go.ChangeShapes Go.WideShapes Go.ChangeAt Go.RowKit
open Go.ChangeMaps (open_string shut_string)
set_option linter.unusedVariables false
set_option linter.unusedSimpArgs false

theorem own : ownKnob Try.prog.godebug = none := by kernel_rfl
theorem laidOut : laidOutB Try.prog = true := by kernel_rfl

/-- WHAT THE WALK IS TOLD OF A SLICE OF INTEGERS THAT CAME IN: it is nil; or it leads to a row of 'cap' cells, the numbers 'zs' (the first 'len' are its elements, the rest its spare room), each fitting its kind. -/
def IsRow (k : IntKind) (w : World) (a : Option Addr) (len cap : Nat) (zs : List Int) : Prop :=
  (a = none ∧ len = 0 ∧ cap = 0 ∧ zs = []) ∨
  ∃ x, a = some x ∧ len ≤ cap ∧ cap ≤ maxLen ∧ zs.length = cap ∧ (∀ i, i < zs.length → w.cell? (x.add i) = some (.int k (zs.getD i 0))) ∧ ∀ n ∈ zs, (Lit.int k n).wf = true

/-- So many bytes are laid down, with the mask's bits set beside. -/
def Masking (w2 : World) (G n : Nat) (xs ms : List Int) (v i : Value) (wr : World) : Prop := ∃ (j : Nat) (sm : Bool), j ≤ n ∧ i = .int .i64 (j : Int) ∧ v = .bool sm ∧ (sm = true ↔ sameTo xs ms j) ∧ Full wr G n (mixL xs ms n j) ∧ Below w2.heap.size w2 wr
set_option maxRecDepth 100000 in
set_option maxHeartbeats 1000000 in
theorem walk (a0 : Int) (a1 : Option Addr) (len1 cap1 : Nat) (z1 : List Int) (a2 : Option Addr) (len2 cap2 : Nat) (z2 : List Int) (w : World) (w0 : (Lit.int .i64 a0).wf = true) (w1 : IsRow .u8 w a1 len1 cap1 z1) (w2 : IsRow .u8 w a2 len2 cap2 z2) :
    Calls Try.prog 4 #[.int .i64 a0, .slice a1 len1 cap1, .slice a2 len2 cap2] w fun e w' => e = .returned (.bool true) ∧ Below w.heap.size w w' := by
  have hr := row_of w1
  have hm := row_of w2
  have hn := bounds_i64 w0
  clear w0 w1 w2
  generalize z1.take len1 = zs at *
  generalize z2.take len2 = ms at *
  by_cases u0 : a0 < 1
  · go_enter Try.func4, Try.ntmps4
    go_wp2_with (go_at_call 6; refine (alive_any _).mono ?_; rintro e w1 ⟨rfl, H1⟩)
    go_ret
    exact ⟨rfl, H1⟩
  by_cases u1 : 2147483647 < a0
  · go_enter Try.func4, Try.ntmps4
    go_wp2_with (go_at_call 6; refine (alive_any _).mono ?_; rintro e w1 ⟨rfl, H1⟩)
    go_ret
    exact ⟨rfl, H1⟩
  by_cases u2 : 156 < len1
  · have i0 : (156 : Int) < (len1 : Int) := by omega
    go_enter Try.func4, Try.ntmps4
    go_wp2_with (go_at_call 6; refine (alive_any _).mono ?_; rintro e w1 ⟨rfl, H1⟩)
    go_ret
    exact ⟨rfl, H1⟩
  have i0 : ¬ (156 : Int) < (len1 : Int) := by omega
  by_cases u3 : len2 < 1
  · have i1 : (len2 : Int) < 1 := by omega
    go_enter Try.func4, Try.ntmps4
    go_wp2_with (go_at_call 6; refine (alive_any _).mono ?_; rintro e w1 ⟨rfl, H1⟩)
    go_ret
    exact ⟨rfl, H1⟩
  have i1 : ¬ (len2 : Int) < 1 := by omega
  by_cases u4 : 400 < len2
  · have i2 : (400 : Int) < (len2 : Int) := by omega
    go_enter Try.func4, Try.ntmps4
    go_wp2_with (go_at_call 6; refine (alive_any _).mono ?_; rintro e w1 ⟨rfl, H1⟩)
    go_ret
    exact ⟨rfl, H1⟩
  have i2 : ¬ (400 : Int) < (len2 : Int) := by omega
  have HQ := Lib.hid (show Seq a0 from ⟨by omega, by omega⟩)
  have HMB := Lib.hid (round_byt hm.2.1 len2 320)
  have HPB := Lib.hid (cell_byt a0 hr.2.1)
  have HNO := Lib.hid (show ¬ sameTo (cellL a0 zs) (roundL ms len2 320) 320 → ¬ Good (orL (cellL a0 zs) (roundL ms len2 320) 320 320) from fun h g => cut_no (bare_byt a0 hr.2.1) (round_byt hm.2.1 len2 320) (by rw [bare_len]) h g.2.1)
  have HYE := Lib.hid (show sameTo (cellL a0 zs) (roundL ms len2 320) 320 → orL (cellL a0 zs) (roundL ms len2 320) 320 320 = cellL a0 zs from fun h => by have := same_all (xs := cellL a0 zs) (ms := roundL ms len2 320) (by rw [cell_len]; exact h); rw [cell_len] at this; exact this)
  have HBK := Lib.hid (show ∀ n rs b, Cell (cellL a0 zs) n rs b → n = a0 ∧ rs = rawL zs 156 ∧ b = true from fun n rs b h => cell_back HQ.out h)
  have hlb : ((len2 : Int) == 0) = false := by simp; omega
  have hmod := fun j => mod_nat j len2
  have HLT := Lib.hid (show ∀ j, j % len2 < len2 from fun j => Nat.mod_lt _ (by omega))
  have HRD := Lib.hid (fun j (h : j < 320) => round_at ms len2 (n := 320) h)
  have HOU := Lib.hid (show outL a0 zs len1 = cellL a0 zs ∧ errN a0 len1 = 0 from ⟨out_some HQ.out (by omega), err_none HQ.out (by omega)⟩)
  have HCL := Lib.hid (cell_len a0 zs)
  go_enter Try.func4, Try.ntmps4
  go_wp2_with (first
    | (go_at_call 6; refine (alive_any _).mono ?_; rintro e w1 ⟨rfl, H1⟩; have HP := Lib.hid (cput_any a0 a1 len1 cap1 zs w1 hn (row_below H1 hr)); rw [HOU.out.1, HOU.out.2] at HP)
    | (go_at_call 7; (with_reducible refine HP.out.mono ?_); rintro e w2 ⟨v2, rfl, o2, b2⟩; rw [HCL.out] at o2; obtain ⟨A2, c2, rfl, hc2, hx2, _⟩ := o2.form; clear o2 HP; have hn2 := own_nil w2 w2.heap.size)
    | (go_at_call 11; (with_reducible refine (lnum_any _ _).mono ?_); rintro e w7 ⟨rfl, rfl⟩)
    | (at_builtin; (with_reducible refine wpList_app rfl _ _ rfl w2.heap.size (.slice none 0 0) 0 [] rfl hn2 _ _ _ (cellL a0 zs) rfl hx2 (row_none hx2) (by omega) (Nat.le_refl _) ?_); intro v3 w3 o3 g3; rw [Nat.zero_add, List.nil_append] at o3; have b3 := below_own (Below.refl _ w2) hn2 g3 (Nat.le_refl _) (Nat.le_refl _); obtain ⟨G, cp, rfl, hG, hcp, hF⟩ := full_own o3 (by omega); clear o3 g3 hn2))
  have T2 := belowThen H1 b2
  have hm2 := row_below T2 hm
  have HST := Lib.hid (show Full w3 G 320 (mixL (cellL a0 zs) (roundL ms len2 320) 320 0) by rw [mix_none _ _ HCL.out]; exact hF)
  have HB3 := Lib.hid b3
  clear hm hr hF b3 HOU hn
  generalize cellL a0 zs = xs at *
  generalize hrm : roundL ms len2 320 = rm at *
  clear hrm
  go_loopw [10, 12] (fun v i wr => Masking w2 G 320 xs rm v i wr) (fun _ i _ => 320 - (intOf i).toNat)
  case atStart => exact ⟨0, true, by omega, rfl, rfl, ⟨fun _ => same_zero _ _, fun _ => rfl⟩, HST.out, HB3.out⟩
  case round =>
    clear HST HB3
    obtain ⟨j, sm, hj, rfl, rfl, hsm, hF, hb⟩ := hrel
    by_cases hlt : j < 320
    · obtain ⟨bx, ox, rfl, hbx, hcx⟩ := row_open hx2 (by omega)
      obtain ⟨bm, om, rfl, hbm, hcm⟩ := row_open hm2 (by omega)
      have hjm := hmod j
      have hjl := HLT.out j
      have hrd := HRD.out j hlt
      obtain ⟨K, hK⟩ : ∃ K, j % len2 = K := ⟨_, rfl⟩
      rw [hK] at hjm hjl hrd
      have qx := (hb.cell (p := ⟨bx, ox + j, none⟩) hbx).trans (hcx j (by omega))
      have qm := (hb.cell (p := ⟨bm, om + K, none⟩) hbm).trans (hcm K (by omega))
      rw [← hrd] at qm
      have qc := hF.at hlt
      have qf := hF.soft j
      have hne : ¬ bx = G := by omega
      have j0 : (0 : Int) ≤ (j : Int) := by omega
      have j1 : (j : Int) < 320 := by omega
      have j2 : (K : Int) < (len2 : Int) := by omega
      have j3 : (0 : Int) ≤ (K : Int) := by omega
      have HM := Lib.hid (@same_more xs rm j)
      have HO := Lib.hid (@mix_more xs rm 320 j)
      have hG2 := hF.set hlt (bits .or .u8 (xs.getD j 0) (rm.getD j 0))
      rw [HO.out] at hG2
      have hb2 := hb.setCell (p := ⟨G, j, none⟩) hG (.int .u8 (bits .or .u8 (xs.getD j 0) (rm.getD j 0)))
      have hxc : (mixL xs rm 320 (j + 1)).getD j 0 = bits .or .u8 (xs.getD j 0) (rm.getD j 0) := by rw [mix_get _ _ hlt, if_pos (by omega)]
      have qc2 := hG2.at hlt
      rw [hxc] at qc2
      have qx2 := (hb2.cell (p := ⟨bx, ox + j, none⟩) hbx).trans (hcx j (by omega))
      clear hcx hcm hxc HO hrd hK hmod hjl
      generalize xs.getD j 0 = x at *
      generalize rm.getD j 0 = m at *
      generalize (mixL xs rm 320 j).getD j 0 = c at *
      go_wp2
      go_region
      obtain ⟨W, hW⟩ : ∃ W, (wr.setCell ⟨G, j, none⟩ (.int .u8 (bits .or .u8 x m))).drew = W := ⟨_, rfl⟩
      have qc3 : W.cell? ⟨G, j, none⟩ = some (.int .u8 (bits .or .u8 x m)) := by rw [← hW]; exact qc2
      have qx3 : W.cell? ⟨bx, ox + j, none⟩ = some (.int .u8 x) := by rw [← hW]; exact qx2
      have HG := Lib.hid (show Full W.drew G 320 (mixL xs rm 320 (j + 1)) ∧ Below w2.heap.size w2 W.drew from ⟨by rw [← hW]; exact hG2, by rw [← hW]; exact hb2.drew.drew⟩)
      rw [hW]
      clear hW qx qm qc qf hF hb hG2 hb2 qc2 qx2
      generalize bits .or .u8 x m = y at *
      have HSM := Lib.hid hsm
      clear hsm
      cases sm with
      | false =>
        have hno : ¬ sameTo xs rm j := fun h => Bool.noConfusion (HSM.out.2 h)
        have HN := Lib.hid hno
        clear hno
        go_wp2
        go_region
        all_goals
          go_wp2
          go_roundw
          case rel => exact ⟨j + 1, false, by omega, by go_num, rfl, ⟨fun h => Bool.noConfusion h, fun h => absurd (HM.out.1 h).1 HN.out⟩, HG.out.1, HG.out.2⟩
          case measure => simp [intOf]; omega
      | true =>
        have HY := Lib.hid (HSM.out.1 rfl)
        by_cases hyx : y = x
        · have HX := Lib.hid hyx
          have hq : (y == x) = true := by simpa using hyx
          clear hyx
          go_wp2
          go_region
          all_goals
            go_wp2
            go_roundw
            case rel => exact ⟨j + 1, true, by omega, by go_num, rfl, ⟨fun _ => HM.out.2 ⟨HY.out, HX.out⟩, fun _ => rfl⟩, HG.out.1, HG.out.2⟩
            case measure => simp [intOf]; omega
        · have HX := Lib.hid hyx
          have hq : (y == x) = false := by simpa using hyx
          clear hyx
          go_wp2
          go_region
          all_goals
            go_wp2
            go_roundw
            case rel => exact ⟨j + 1, false, by omega, by go_num, rfl, ⟨fun h => Bool.noConfusion h, fun h => absurd (HM.out.1 h).2 HX.out⟩, HG.out.1, HG.out.2⟩
            case measure => simp [intOf]; omega
    · have j1 : ¬ (j : Int) < 320 := by omega
      rw [show j = 320 by omega] at hsm hF
      rw [mix_all] at hF
      have hc := hF.row (or_byt HPB.out HMB.out 320 320)
      have HG := Lib.hid (cget_any (some ⟨G, 0, none⟩) 320 cp _ wr hc)
      have T3 := belowThen T2 hb
      have HSM := Lib.hid hsm
      clear hc hF hsm hb hmod
      cases sm with
      | true =>
        have HEQ := Lib.hid (HYE.out (HSM.out.1 rfl))
        go_wp2_with (go_at_call 9; (with_reducible refine HG.out.mono ?_); rintro e w5 ⟨n5, v5, rs, b, rfl, hrd, o5, b5⟩; rw [HEQ.out] at hrd; obtain ⟨rfl, _, rfl⟩ := HBK.out _ _ _ hrd; clear o5 hrd)
        go_ret
        exact ⟨rfl, belowThen T3 b5⟩
      | false =>
        have HWH := Lib.hid (HNO.out (fun h => Bool.noConfusion (HSM.out.2 h)))
        go_wp2_with (go_at_call 9; (with_reducible refine HG.out.mono ?_); rintro e w5 ⟨n5, v5, rs, b, rfl, hrd, o5, b5⟩; obtain ⟨rfl, rfl, rfl⟩ := hrd.none HWH.out; obtain ⟨A5, c5, rfl, hc5, hx5, _⟩ := o5.form; clear o5 hx5 hrd)
        go_ret
        exact ⟨rfl, belowThen T3 b5⟩

/-! ### THE ROW's STEP: WRITTEN OUT: LEAVE IT -/
set_option maxRecDepth 100000 in
theorem lifted (os : Os) (started : os.Started) (H : Type) (enc : TypeId × Value → H) :
    ReturnsInHanded {} Try.checked os 4 .any (Rows.cellCutsSpec.pre6 enc Try.prog Try.f4 Rows.cellCutsRow.domain false) (Rows.cellCutsSpec.post enc Try.prog Try.f4 false true false false) := by
  refine returnsInHanded_of_change (C := Try.checked) own started (by kernel_rfl) Try.func4
    (ChangeSpec.witness6 (enc := enc) (C := Try.checked) false ⟨#[], #[.int .i64 0, .slice none 0 0, .slice none 0 0], []⟩ 8 (by kernel_rfl) (by kernel_rfl) (by kernel_rfl) (by kernel_rfl)) ?_
  intro W base args ds gs before hval0 hW hcnd _
  have hval : ∀ (j : Nat) t v, Try.f4.params[j]? = some t → args[j]? = some v → Value.okWide Try.prog W .any base t v := hval0
  have hW' := hW
  obtain ⟨p, q, hA0, hV, rfl, hfz, hnd⟩ := hW
  have hA : DataW.TrodAll enc Try.prog W 0 (fun _ => true) true Try.f4.params.toList args.toList ds p := hA0
  rw [Try.params4] at hA hval
  obtain ⟨v0, vs0, d0, ds0, p0, q0, hargs, rfl, rfl, h0, r0⟩ := trodAll_cons hA
  obtain ⟨v1, vs1, d1, ds1, p1, q1, rfl, rfl, rfl, h1, r1⟩ := trodAll_cons r0
  obtain ⟨v2, vs2, d2, ds2, p2, q2, rfl, rfl, rfl, h2, r2⟩ := trodAll_cons r1
  obtain ⟨rfl, rfl, rfl⟩ := trodAll_nil r2
  obtain rfl : args = #[v0, v1, v2] := by cases args; simp_all
  obtain ⟨rfl, rfl⟩ := trodVars_none hV
  obtain ⟨a0, rfl, rfl, rfl, w0⟩ := open_int Try.underlying3 (hval 0 3 v0 rfl rfl) h0
  obtain ⟨a1, len1, cap1, rfl⟩ := okWide_slice Try.underlying22 (hval 1 22 v1 rfl rfl)
  have k1 := h1
  have lt1 : ∀ x ∈ p1, x.block < W.heap.size := by obtain ⟨m, hm⟩ := k1; exact DataW.trod_lt m _ _ _ hm
  obtain ⟨z1, w1⟩ : ∃ zs, IsRow .u8 W a1 len1 cap1 zs := by
    obtain ⟨fuel, hf⟩ := h1
    rcases open_ints Try.underlying22 Try.underlying5 (by kernel_rfl) hf with ⟨hcs, _⟩ | ⟨x, l, c, zs, hcs, _, hl, hm, hz, _, hcell, hwz⟩
    · simp [Value.cells] at hcs
      obtain ⟨rfl, rfl, rfl⟩ := hcs
      exact ⟨[], .inl ⟨rfl, rfl, rfl, rfl⟩⟩
    · simp [Value.cells] at hcs
      obtain ⟨rfl, rfl, rfl⟩ := hcs
      exact ⟨zs, .inr ⟨_, rfl, hl, hm, by simpa using hz, hcell, hwz⟩⟩
  obtain ⟨a2, len2, cap2, rfl⟩ := okWide_slice Try.underlying22 (hval 2 22 v2 rfl rfl)
  have k2 := h2
  have lt2 : ∀ x ∈ p2, x.block < W.heap.size := by obtain ⟨m, hm⟩ := k2; exact DataW.trod_lt m _ _ _ hm
  obtain ⟨z2, w2⟩ : ∃ zs, IsRow .u8 W a2 len2 cap2 zs := by
    obtain ⟨fuel, hf⟩ := h2
    rcases open_ints Try.underlying22 Try.underlying5 (by kernel_rfl) hf with ⟨hcs, _⟩ | ⟨x, l, c, zs, hcs, _, hl, hm, hz, _, hcell, hwz⟩
    · simp [Value.cells] at hcs
      obtain ⟨rfl, rfl, rfl⟩ := hcs
      exact ⟨[], .inl ⟨rfl, rfl, rfl, rfl⟩⟩
    · simp [Value.cells] at hcs
      obtain ⟨rfl, rfl, rfl⟩ := hcs
      exact ⟨zs, .inr ⟨_, rfl, hl, hm, by simpa using hz, hcell, hwz⟩⟩
  clear hA0 hval0
  refine (walk a0 a1 len1 cap1 z1 a2 len2 cap2 z2 W w0 w1 w2).mono fun e W' ⟨he, bel⟩ => ?_
  subst he
  exact ⟨_, rfl, _, _, _, [], _, [], hW', trodAll_mk1 (shut_bool Try.underlying4 _), (trodAll_cons_mk (shut_int Try.underlying3 w0) (trodAll_cons_mk (Below.trod laidOut (by kernel_rfl) (of_decide_eq_true (by kernel_rfl)) k1 bel lt1) (trodAll_cons_mk (Below.trod laidOut (by kernel_rfl) (of_decide_eq_true (by kernel_rfl)) k2 bel lt2) trodAll_mk0))), rfl, bel.frame _, fun h => by cases h⟩

theorem over : Rows.cellCutsRow.holds Try.pinned (OpenSpec.ofChange Rows.cellCutsSpec) :=
  OpenClaim.holds_of_wide 4 Try.f4 rfl rfl rfl rfl rfl rfl rfl ⟨rfl, rfl, rfl, rfl, rfl⟩ rfl rfl rfl rfl rfl (by kernel_rfl) Try.func4 (by kernel_rfl)
    (of_decide_eq_true (by kernel_rfl)) (by unfold Func.isWrapper; first | (rw [if_pos (by decide +kernel)]; kernel_rfl) | (rw [if_neg (by decide +kernel)]; exact ⟨rfl, rfl⟩))
    (fun os started H enc _ => lifted os started H enc)

/-- ████ THE STATEMENT ████ -/
theorem proved : Rows.CellCutsSaid := over
end Go.Proofs.Ytdlbdhamlmladaa.cellCuts
namespace Go.Proofs.Ytdlbdhamlmladaa
theorem CellCuts_holds : Rows.CellCutsSaid := cellCuts.proved
#print axioms CellCuts_holds
end Go.Proofs.Ytdlbdhamlmladaa
