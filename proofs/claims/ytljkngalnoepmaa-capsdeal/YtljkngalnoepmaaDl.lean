/-
  The walk of the law CapsDeal: which tenants there may be, which part each has, and what it may; conditions: the row and the part came in.
-/
import Derived.Test.YtljkngalnoepmaaLv
import Derived.Test.YtljkngalnoepmaaRd
import Derived.Test.YtljkngalnoepmaaMay
namespace Go.Proofs.Ytljkngalnoepmaa.capsDeal
open Go.RowKit
set_option linter.unusedVariables false
set_option linter.unusedSimpArgs false

/-- A row that is copied by append. -/
theorem copy_any (a : Option Addr) (n cap : Nat) (cs : List Cf) (w : World) (hr : Cfs w w.heap.size a n cs) (hn : n ≤ 1000) :
    ∃ A c w', (Builtin.append_ #[22, 22] 22 #[.slice none 0 0, .slice a n cap]).run Try.prog w = .ok (.slice A n c) w' ∧ Cfs w' w'.heap.size A n cs ∧ n ≤ c ∧ Below w.heap.size w w' := by
  obtain ⟨i, hi, hz, hs, hb⟩ := parts_info info38
  cases a with
  | none =>
    obtain rfl : n = 0 := by rcases hr.1.2 with h | ⟨_, _, e, _⟩; exact h; cases e
    have e := hr.2
    refine ⟨none, 0, w, ?_, hr, Nat.le_refl _, Below.refl _ _⟩
    simp [Builtin.append_, run_underlying Try.underlying22, sizeOf, typeInfo, hi, Builtin.lenOf, Builtin.firstCells]
  | some ad =>
    obtain ⟨v', w', h1, h2, h3, _⟩ := run_append_own_at (P := Try.prog) w w.heap.size 22 22 38 i _ 7 96 Try.underlying22 hi hz hs hb rfl (by decide) _ 0 [] (World.ownsRow_nil w w.heap.size 38 7) ad n cap (cfs cs) hr.1.1
      (fun j u hu => by
        have hj : j < n * 7 := by have := (List.getElem?_eq_some_iff.1 hu).1; rw [hr.1.1] at this; exact this
        obtain ⟨b, off, e, _, hc⟩ := hr.1.open (by omega)
        cases e
        rw [show (⟨b, off, none⟩ : Addr).add j = ⟨b, off + j, none⟩ by unfold Addr.add; split <;> simp_all]
        exact hc j u hu) (cfs_one cs) (by unfold maxLen; omega) (by omega) (Nat.le_refl _)
    rw [Nat.zero_add, List.nil_append] at h2
    obtain ⟨A, c, rfl, hc, hcf⟩ := ownC_cfs h2
    exact ⟨A, c, w', h1, hcf, hc, (Below.refl _ w).grown h3 (Nat.le_refl _) (fun k hk => by cases hk)⟩
theorem yields_neq24 {ops : Array Oper} {S : World → Prop} {o : Oper} {a : Act} (hw : Region.wanted o (yielded ops a.tmps) = true) (x y : Operand) (ho : o.op = .binOp .neq 24 x y 24) (p : Cp)
    (hx : a.eval x = .agg p.cells) (hy : a.eval y = .agg p.cells) : YieldsIf Try.prog ops S o (.bool false) a :=
  Or.inl ⟨hw, fun W _ => by
    have h1 := run_eqGuard_agg (P := Try.prog) W .neq 24 x y p.cells p.cells (by kernel_rfl)
    have h2 := run_neq_struct (P := Try.prog) W 24 p.cells p.cells
    rw [same24 p W] at h2
    unfold execOp
    simp only [ho, hx, hy, Sem.run_bind, h1, Result.andThen_ok]
    simp [h1, h2]⟩
theorem rright_is {c : Cf} {b : Bool} (w : World) (hc : c.Ok) (h : rightB c = b) : Calls Try.prog 15 #[.agg c.cells] w fun e w' => e = .returned (.bool b) ∧ Below w.heap.size w w' := by
  rw [← h]
  exact rright_any c w hc
theorem right_is {c : Cf} {b : Bool} (w : World) (hc : c.Ok) (h : rightB c = b) : Calls Try.prog 14 #[.agg c.cells] w fun e w' => e = .returned (.bool b) ∧ Below w.heap.size w w' := by
  rw [← h]
  exact right_any c w hc
set_option maxRecDepth 100000 in
set_option maxHeartbeats 8000000 in
theorem main (a : Option Addr) (n cap : Nat) (cs : List Cf) (p : Cp) (k : Int) (w : World) (hr : Cfs w w.heap.size a n cs) (hok : ∀ c ∈ cs, c.Ok) (hcc : n ≤ cap) (hm : n ≤ maxLen) (wk : (Lit.int .i64 k).wf = true) :
    Calls Try.prog 3 #[.slice a n cap, .agg p.cells, .int .i64 k] w fun e w' => e = .returned (.bool true) ∧ Below w.heap.size w w' := by
  clear wk
  have HR := Lib.hid hr
  have HL := Lib.hid hr.2
  have HOK := Lib.hid hok
  have HFW := Lib.hid (fun W (h : Below w.heap.size w W) => few_any a n cap cs w.heap.size W (hr.kept h) hm)
  have HB0 : Hid (Below w.heap.size w (w.alloc (.cells p.cells 24))) := Lib.hid ((Below.refl _ _).alloc (Nat.le_refl _) _)
  have HP0 := Lib.hid (has_new w 24 p.cells)
  cases e0 : fewB cs with
  | false =>
    rw [e0] at HFW
    clear e0 hr hok hm
    go_enter Try.func3, Try.ntmps3
    go_wp2_with (first
      | (go_at_call 7; (with_reducible refine (alive_any _).mono ?_); rintro e w1 ⟨rfl, H1⟩; have B1 := Lib.hid (belowThen HB0.out H1 HB0.out.size); clear H1)
      | (go_at_call 8; (with_reducible refine (HFW.out _ B1.out).mono ?_); rintro e w2 ⟨rfl, rfl⟩))
    go_ret
    exact ⟨rfl, B1.out⟩
  | true =>
  rw [e0] at HFW
  have n10 : n ≤ 10 := by
    unfold fewB at e0
    rw [Bool.and_eq_true, decide_eq_true_eq] at e0
    have := hr.2
    omega
  clear e0
  have HCP := Lib.hid (fun W (h : Below w.heap.size w W) => copy_any a n cap cs W ((hr.kept h).up h.size) (by omega))
  have HRD := Lib.hid (fun W (h : Below w.heap.size w W) => rdeal_any a n cap cs w.heap.size W (hr.kept h) h.size hok hm)
  have HDD := Lib.hid (fun (A : Option Addr) (c : Nat) (W : World) (h : Cfs W W.heap.size A n cs) (hc : n ≤ c) => deal_any A n c cs W.heap.size W h (Nat.le_refl _) hc hok hm)
  obtain ⟨z, hz⟩ : ∃ z, errN cs = z := ⟨_, rfl⟩
  obtain ⟨ps, hps⟩ : ∃ ps, dealL cs = ps := ⟨_, rfl⟩
  obtain ⟨m, hml⟩ : ∃ m, ps.length = m := ⟨_, rfl⟩
  have HM8 : Hid (m ≤ 10) := Lib.hid (by
    obtain ⟨_, h2, h3⟩ := err_any cs
    by_cases h : errN cs = 0
    · have := (h2 h).1; rw [← hml, ← hps, this, layL_len]; have := hr.2; omega
    · have := h3 h; rw [← hml, ← hps, this]; simp)
  have HZ := Lib.hid (show errN cs = z ∧ dealL cs = ps ∧ ps.length = m from ⟨hz, hps, hml⟩)
  clear hr hok hm hz hps hml
  go_enter Try.func3, Try.ntmps3
  go_wp2_with (first
    | (go_at_call 7; (with_reducible refine (alive_any _).mono ?_); rintro e w1 ⟨rfl, H1⟩; have B1 := Lib.hid (belowThen HB0.out H1 HB0.out.size); have P1 := Lib.hid (HP0.out.kept H1); clear H1)
    | (go_at_call 8; (with_reducible refine (HFW.out _ B1.out).mono ?_); rintro e w1' ⟨rfl, rfl⟩; obtain ⟨A2, c2, w2, hrun, cf2, hc2, b2⟩ := HCP.out _ B1.out; have R2 := Lib.hid hrun; have B2 := Lib.hid (belowThen B1.out b2 B1.out.size); have P2 := Lib.hid (P1.out.kept b2); have D2 := Lib.hid (HDD.out _ _ _ cf2 hc2); clear hrun cf2 hc2 b2)
    | (at_builtin; (with_reducible refine wpList_app 22 _ _ rfl _ _ _ _ R2.out rfl rfl rfl ?_); clear R2)
    | (go_at_call 9; (with_reducible refine D2.out.mono ?_); rintro e w3 ⟨⟨v3, rfl, o3⟩, b3⟩; rw [HZ.out.1]; rw [HZ.out.2.1, HZ.out.2.2] at o3; obtain ⟨ax, cx, rfl, hcx, hp3⟩ := ownP_cps o3; have B3 := Lib.hid (belowThen B2.out b3 B2.out.size); have P3 := Lib.hid (P2.out.kept b3); have X3 := Lib.hid hp3; have D3 := Lib.hid (HRD.out _ B3.out); clear o3 b3 hp3 D2)
    | (go_at_call 10; (with_reducible refine D3.out.mono ?_); rintro e w4 ⟨⟨v4, rfl, o4⟩, b4⟩; rw [HZ.out.1]; rw [HZ.out.2.1, HZ.out.2.2] at o4; obtain ⟨ay, cy, rfl, hcy, hp4⟩ := ownP_cps o4; have B4 := Lib.hid (belowThen B3.out b4 B3.out.size); have P4 := Lib.hid (P3.out.kept b4); have X4 := Lib.hid (X3.out.kept b4); have LX := Lib.hid b4.size; have Y4 := Lib.hid hp4; clear o4 b4 hp4 D3))
  have S0 := Lib.hid (Below.refl w4.heap.size w4.drew)
  have HSB := Lib.hid (fun W (hW : Below w4.heap.size w4.drew W) => see_p (Has.run (cs := p.list) (P4.out.kept (((Below.refl w4.heap.size w4).drew).trans hW))))
  refine wp_region_held_drew (S := fun W => Below w4.heap.size w4.drew W) (by kernel_rfl) S0.out ?_
  intro _
  refine wpAnyH_take (i := 0) (v := .int .i64 z) rfl (by kernel_rfl) (by kernel_rfl) (by kernel_rfl) (fun _ _ _ h => h) (Or.inl ⟨by rfl, (fun W _ => by go_simp)⟩) S0.out ?_
  simp only [List.getElem_toArray, List.getElem_cons_succ, List.getElem_cons_zero, Act.put, List.setIfInBounds_toArray, List.set_cons_zero, List.set_cons_succ]
  refine wpAnyH_take (i := 2) (v := .int .i64 z) rfl (by kernel_rfl) (by kernel_rfl) (by kernel_rfl) (fun _ _ _ h => h) (Or.inl ⟨by rfl, (fun W _ => by go_simp)⟩) S0.out ?_
  simp only [List.getElem_toArray, List.getElem_cons_succ, List.getElem_cons_zero, Act.put, List.setIfInBounds_toArray, List.set_cons_zero, List.set_cons_succ]
  refine wpAnyH_ready (rs := [1]) (by kernel_rfl) (by simp) ?_
  refine AllReadyH.cons rfl (fun K hK => ?_) AllReadyH.nil
  go_simp
  refine (num_any z _).mono ?_
  rintro e w5 ⟨rfl, rfl⟩
  refine hK.out _ _ S0.out (fun _ => ?_)
  clear hK K
  refine wpAnyH_take (i := 3) (v := .bool false) rfl (by kernel_rfl) (by kernel_rfl) (by kernel_rfl) (fun _ _ _ h => h) (Or.inl ⟨by rfl, (fun W _ => by go_simp)⟩) S0.out ?_
  simp only [List.getElem_toArray, List.getElem_cons_succ, List.getElem_cons_zero, Act.put, List.setIfInBounds_toArray, List.set_cons_zero, List.set_cons_succ]
  refine wpAnyH_take (i := 4) (v := .bool false) rfl (by kernel_rfl) (by kernel_rfl) (by kernel_rfl) (fun _ _ _ h => h) (Or.inl ⟨by rfl, (fun W _ => by go_simp)⟩) S0.out ?_
  simp only [List.getElem_toArray, List.getElem_cons_succ, List.getElem_cons_zero, Act.put, List.setIfInBounds_toArray, List.set_cons_zero, List.set_cons_succ]
  refine wpAnyH_take (i := 5) (v := .slice ax m cx) rfl (by kernel_rfl) (by kernel_rfl) (by kernel_rfl) (fun _ _ _ h => h) (Or.inl ⟨by rfl, (fun W _ => by go_simp)⟩) S0.out ?_
  simp only [List.getElem_toArray, List.getElem_cons_succ, List.getElem_cons_zero, Act.put, List.setIfInBounds_toArray, List.set_cons_zero, List.set_cons_succ]
  refine wpAnyH_take (i := 6) (v := .int .i64 (m : Int)) rfl (by kernel_rfl) (by kernel_rfl) (by kernel_rfl) (fun _ _ _ h => h) (Or.inl ⟨by rfl, (fun W _ => by go_simp)⟩) S0.out ?_
  simp only [List.getElem_toArray, List.getElem_cons_succ, List.getElem_cons_zero, Act.put, List.setIfInBounds_toArray, List.set_cons_zero, List.set_cons_succ]
  refine wpAnyH_take (i := 7) (v := .slice ay m cy) rfl (by kernel_rfl) (by kernel_rfl) (by kernel_rfl) (fun _ _ _ h => h) (Or.inl ⟨by rfl, (fun W _ => by go_simp)⟩) S0.out ?_
  simp only [List.getElem_toArray, List.getElem_cons_succ, List.getElem_cons_zero, Act.put, List.setIfInBounds_toArray, List.set_cons_zero, List.set_cons_succ]
  refine wpAnyH_take (i := 8) (v := .int .i64 (m : Int)) rfl (by kernel_rfl) (by kernel_rfl) (by kernel_rfl) (fun _ _ _ h => h) (Or.inl ⟨by rfl, (fun W _ => by go_simp)⟩) S0.out ?_
  simp only [List.getElem_toArray, List.getElem_cons_succ, List.getElem_cons_zero, Act.put, List.setIfInBounds_toArray, List.set_cons_zero, List.set_cons_succ]
  refine wpAnyH_take (i := 9) (v := .bool false) rfl (by kernel_rfl) (by kernel_rfl) (by kernel_rfl) (fun _ _ _ h => h) (Or.inl ⟨by rfl, (fun W _ => by go_simp)⟩) S0.out ?_
  simp only [List.getElem_toArray, List.getElem_cons_succ, List.getElem_cons_zero, Act.put, List.setIfInBounds_toArray, List.set_cons_zero, List.set_cons_succ]
  refine wpAnyH_take (i := 10) (v := .bool false) rfl (by kernel_rfl) (by kernel_rfl) (by kernel_rfl) (fun _ _ _ h => h) (Or.inl ⟨by rfl, (fun W _ => by go_simp)⟩) S0.out ?_
  simp only [List.getElem_toArray, List.getElem_cons_succ, List.getElem_cons_zero, Act.put, List.setIfInBounds_toArray, List.set_cons_zero, List.set_cons_succ]
  refine wpAnyH_take (i := 11) (v := .bool false) rfl (by kernel_rfl) (by kernel_rfl) (by kernel_rfl) (fun _ _ _ h => h) (Or.inl ⟨by rfl, (fun W _ => by go_simp)⟩) S0.out ?_
  simp only [List.getElem_toArray, List.getElem_cons_succ, List.getElem_cons_zero, Act.put, List.setIfInBounds_toArray, List.set_cons_zero, List.set_cons_succ]
  refine wpAnyH_take (i := 12) (v := .agg p.cells) rfl (by kernel_rfl) (by kernel_rfl) (by kernel_rfl) (fun _ _ _ h => h) (yields_ld (by rfl) 24 (.tmp 4) rfl _ _ (fun W hW => (HSB.out W hW).ld) rfl) S0.out ?_
  simp only [List.getElem_toArray, List.getElem_cons_succ, List.getElem_cons_zero, Act.put, List.setIfInBounds_toArray, List.set_cons_zero, List.set_cons_succ]
  refine wpAnyH_take (i := 13) (v := .int .i64 k) rfl (by kernel_rfl) (by kernel_rfl) (by kernel_rfl) (fun _ _ _ h => h) (Or.inl ⟨by rfl, (fun W _ => by go_simp)⟩) S0.out ?_
  simp only [List.getElem_toArray, List.getElem_cons_succ, List.getElem_cons_zero, Act.put, List.setIfInBounds_toArray, List.set_cons_zero, List.set_cons_succ]
  refine wpAnyH_take (i := 15) (v := .agg p.cells) rfl (by kernel_rfl) (by kernel_rfl) (by kernel_rfl) (fun _ _ _ h => h) (yields_ld (by rfl) 24 (.tmp 4) rfl _ _ (fun W hW => (HSB.out W hW).ld) rfl) S0.out ?_
  simp only [List.getElem_toArray, List.getElem_cons_succ, List.getElem_cons_zero, Act.put, List.setIfInBounds_toArray, List.set_cons_zero, List.set_cons_succ]
  refine wpAnyH_take (i := 16) (v := .int .i64 k) rfl (by kernel_rfl) (by kernel_rfl) (by kernel_rfl) (fun _ _ _ h => h) (Or.inl ⟨by rfl, (fun W _ => by go_simp)⟩) S0.out ?_
  simp only [List.getElem_toArray, List.getElem_cons_succ, List.getElem_cons_zero, Act.put, List.setIfInBounds_toArray, List.set_cons_zero, List.set_cons_succ]
  refine wpAnyH_ready (rs := [14]) (by kernel_rfl) (by simp) ?_
  refine AllReadyH.cons rfl (fun K hK => ?_) AllReadyH.nil
  go_simp
  refine (may_any p k _).mono ?_
  rintro e w6 ⟨rfl, b6⟩
  have S6 := Lib.hid (show Below w4.heap.size w4.drew w6 from b6)
  clear b6
  refine hK.out _ _ S6.out (fun _ => ?_)
  clear hK K
  refine wpAnyH_ready (rs := [17]) (by kernel_rfl) (by simp) ?_
  refine AllReadyH.cons rfl (fun K hK => ?_) AllReadyH.nil
  go_simp
  refine (rmay_any p k _).mono ?_
  rintro e w7 ⟨rfl, b7⟩
  have S7 := Lib.hid (belowThen S6.out b7 S6.out.size)
  clear b7
  refine hK.out _ _ S7.out (fun _ => ?_)
  clear hK K
  refine wpAnyH_take (i := 18) (v := .bool false) rfl (by kernel_rfl) (by kernel_rfl) (by kernel_rfl) (fun _ _ _ h => h) (Or.inl ⟨by rfl, (fun W _ => by go_simp)⟩) S7.out ?_
  simp only [List.getElem_toArray, List.getElem_cons_succ, List.getElem_cons_zero, Act.put, List.setIfInBounds_toArray, List.set_cons_zero, List.set_cons_succ]
  refine wpAnyH_take (i := 19) (v := .bool false) rfl (by kernel_rfl) (by kernel_rfl) (by kernel_rfl) (fun _ _ _ h => h) (Or.inl ⟨by rfl, (fun W _ => by go_simp)⟩) S7.out ?_
  simp only [List.getElem_toArray, List.getElem_cons_succ, List.getElem_cons_zero, Act.put, List.setIfInBounds_toArray, List.set_cons_zero, List.set_cons_succ]
  refine wpAnyH_done (by kernel_rfl) ?_ _
  have B7 := Lib.hid (((Below.refl w4.heap.size w4).drew).trans S7.out)
  clear S0 HSB S6 S7
  go_wp2
  go_loopw [12] (fun i wr => ∃ i' : Nat, Below w7.heap.size w7 wr ∧ i = .int .i64 (i' : Int) ∧ i' ≤ m) (fun i _ => m - (intOf i).toNat)
  case atStart => exact ⟨0, Below.refl _ _, rfl, Nat.zero_le _⟩
  case round =>
    obtain ⟨i, hb, rfl, hi⟩ := hrel
    have HB := Lib.hid hb
    have B8 := Lib.hid (B7.out.trans (hb.mono B7.out.size))
    clear hb
    by_cases h : i < m
    case pos =>
      obtain ⟨bx, ox, rfl, hbx, hrx⟩ := (X4.out.1.kept (B8.out.mono LX.out)).open (by omega)
      obtain ⟨bz, oz, rfl, hbz, hrz⟩ := (Y4.out.1.kept B8.out).open (by omega)
      obtain ⟨q, hq⟩ : ∃ q, ps[i]? = some q := ⟨_, List.getElem?_eq_getElem (by have := HZ.out.2.2; omega)⟩
      have HQ := Lib.hid hq
      have S0 := Lib.hid (show wr.drew.rangeAt bx ox (cps ps) ∧ wr.drew.rangeAt bz oz (cps ps) from ⟨hrx, hrz⟩)
      have x1 : (i : Int) < (m : Int) := by omega
      have HB' := Lib.hid HB.out.drew
      have m10 := HM8.out
      clear hrx hrz hbx hbz hq
      go_wp2_with fail
      refine wp_region_held_drew (S := fun W => W.rangeAt bx ox (cps ps) ∧ W.rangeAt bz oz (cps ps)) (by kernel_rfl) S0.out ?_
      intro _
      refine wpAnyH_take (i := 0) (v := .slice (some ⟨bx, ox, none⟩) m cx) rfl (by kernel_rfl) (by kernel_rfl) (by kernel_rfl) (fun _ _ _ h => h) (Or.inl ⟨by rfl, (fun W _ => by go_simp)⟩) S0.out ?_
      simp only [List.getElem_toArray, List.getElem_cons_succ, List.getElem_cons_zero, Act.put, List.setIfInBounds_toArray, List.set_cons_zero, List.set_cons_succ]
      refine wpAnyH_take (i := 1) (v := .int .i64 (i : Int)) rfl (by kernel_rfl) (by kernel_rfl) (by kernel_rfl) (fun _ _ _ h => h) (Or.inl ⟨by rfl, (fun W _ => by go_simp)⟩) S0.out ?_
      simp only [List.getElem_toArray, List.getElem_cons_succ, List.getElem_cons_zero, Act.put, List.setIfInBounds_toArray, List.set_cons_zero, List.set_cons_succ]
      refine wpAnyH_take (i := 2) (v := .pointer (some ⟨bx, ox + i * 3, none⟩)) rfl (by kernel_rfl) (by kernel_rfl) (by kernel_rfl) (fun _ _ _ h => h) (Or.inl ⟨by rfl, (fun W _ => by go_simp)⟩) S0.out ?_
      simp only [List.getElem_toArray, List.getElem_cons_succ, List.getElem_cons_zero, Act.put, List.setIfInBounds_toArray, List.set_cons_zero, List.set_cons_succ]
      refine wpAnyH_take (i := 3) (v := .agg q.cells) rfl (by kernel_rfl) (by kernel_rfl) (by kernel_rfl) (fun _ _ _ h => h) (yields_ld (by rfl) 24 (.tmp 62) rfl _ _ (fun W hW => (cps_see hW.1 HQ.out).ld) rfl) S0.out ?_
      simp only [List.getElem_toArray, List.getElem_cons_succ, List.getElem_cons_zero, Act.put, List.setIfInBounds_toArray, List.set_cons_zero, List.set_cons_succ]
      refine wpAnyH_take (i := 4) (v := .slice (some ⟨bz, oz, none⟩) m cy) rfl (by kernel_rfl) (by kernel_rfl) (by kernel_rfl) (fun _ _ _ h => h) (Or.inl ⟨by rfl, (fun W _ => by go_simp)⟩) S0.out ?_
      simp only [List.getElem_toArray, List.getElem_cons_succ, List.getElem_cons_zero, Act.put, List.setIfInBounds_toArray, List.set_cons_zero, List.set_cons_succ]
      refine wpAnyH_take (i := 5) (v := .int .i64 (i : Int)) rfl (by kernel_rfl) (by kernel_rfl) (by kernel_rfl) (fun _ _ _ h => h) (Or.inl ⟨by rfl, (fun W _ => by go_simp)⟩) S0.out ?_
      simp only [List.getElem_toArray, List.getElem_cons_succ, List.getElem_cons_zero, Act.put, List.setIfInBounds_toArray, List.set_cons_zero, List.set_cons_succ]
      refine wpAnyH_take (i := 6) (v := .pointer (some ⟨bz, oz + i * 3, none⟩)) rfl (by kernel_rfl) (by kernel_rfl) (by kernel_rfl) (fun _ _ _ h => h) (Or.inl ⟨by rfl, (fun W _ => by go_simp)⟩) S0.out ?_
      simp only [List.getElem_toArray, List.getElem_cons_succ, List.getElem_cons_zero, Act.put, List.setIfInBounds_toArray, List.set_cons_zero, List.set_cons_succ]
      refine wpAnyH_take (i := 7) (v := .agg q.cells) rfl (by kernel_rfl) (by kernel_rfl) (by kernel_rfl) (fun _ _ _ h => h) (yields_ld (by rfl) 24 (.tmp 66) rfl _ _ (fun W hW => (cps_see hW.2 HQ.out).ld) rfl) S0.out ?_
      simp only [List.getElem_toArray, List.getElem_cons_succ, List.getElem_cons_zero, Act.put, List.setIfInBounds_toArray, List.set_cons_zero, List.set_cons_succ]
      refine wpAnyH_take (i := 8) (v := .bool false) rfl (by kernel_rfl) (by kernel_rfl) (by kernel_rfl) (fun _ _ _ h => h) (yields_neq24 (by rfl) (.tmp 63) (.tmp 67) rfl q rfl rfl) S0.out ?_
      simp only [List.getElem_toArray, List.getElem_cons_succ, List.getElem_cons_zero, Act.put, List.setIfInBounds_toArray, List.set_cons_zero, List.set_cons_succ]
      refine wpAnyH_done (by kernel_rfl) ?_ _
      clear S0
      go_wp2
      go_roundw
      case rel => exact ⟨i + 1, HB'.out, by go_num, by omega⟩
      case measure => simp [intOf]; omega
    case neg =>
      obtain ⟨wo, rfl⟩ : ∃ x, x = wr := ⟨_, rfl⟩
      go_wp2
      clear h hi
      go_loopw [13] (fun i wr => ∃ i' : Nat, Below w7.heap.size w7 wr ∧ i = .int .i64 (i' : Int) ∧ i' ≤ n) (fun i _ => n - (intOf i).toNat)
      case atStart => exact ⟨0, HB.out, rfl, Nat.zero_le _⟩
      case round =>
      clear HB B8
      obtain ⟨i, hb, rfl, hi⟩ := hrel
      have HB := Lib.hid hb
      have B8 := Lib.hid (B4.out.trans ((B7.out.trans (hb.mono B7.out.size)).mono B4.out.size))
      clear hb
      by_cases h : i < n
      case neg =>
        go_wp2
        go_ret
        exact ⟨rfl, B8.out⟩
      case pos =>
      obtain ⟨b, off, rfl, hbB, hrun⟩ := (HR.out.1.kept B8.out).open (by omega)
      obtain ⟨c, hc⟩ : ∃ c, cs[i]? = some c := ⟨_, List.getElem?_eq_getElem (by have := HL.out; omega)⟩
      have hcok := HOK.out c (List.mem_of_getElem? hc)
      obtain ⟨d, hd⟩ : ∃ d, needN c = d := ⟨_, rfl⟩
      obtain ⟨e, he⟩ : ∃ e, rightB c = e := ⟨_, rfl⟩
      have HN1 := Lib.hid (fun W => need_is hd W)
      have HN2 := Lib.hid (fun W => rneed_is hd W)
      have HR1 := Lib.hid (fun W => right_is W hcok he)
      have HR2 := Lib.hid (fun W => rright_is W hcok he)
      have HC := Lib.hid hc
      have HU := Lib.hid hrun
      have LB : Hid (b < wr.heap.size) := Lib.hid (Nat.lt_of_lt_of_le hbB B8.out.size)
      have S0 := Lib.hid (Below.refl wr.heap.size wr.drew)
      have HSC := Lib.hid (fun W (hW : Below wr.heap.size wr.drew W) => cfs_see (run_below HU.out (((Below.refl wr.heap.size wr).drew).trans hW) LB.out) HC.out)
      have x1 : (i : Int) < (n : Int) := by omega
      clear hrun hbB hc hcok hd he
      go_wp2_with fail
      refine wp_region_held_drew (S := fun W => Below wr.heap.size wr.drew W) (by kernel_rfl) S0.out ?_
      intro _
      refine wpAnyH_take (i := 0) (v := .slice (some ⟨b, off, none⟩) n cap) rfl (by kernel_rfl) (by kernel_rfl) (by kernel_rfl) (fun _ _ _ h => h) (Or.inl ⟨by rfl, (fun W _ => by go_simp)⟩) S0.out ?_
      simp only [List.getElem_toArray, List.getElem_cons_succ, List.getElem_cons_zero, Act.put, List.setIfInBounds_toArray, List.set_cons_zero, List.set_cons_succ]
      refine wpAnyH_take (i := 1) (v := .int .i64 (i : Int)) rfl (by kernel_rfl) (by kernel_rfl) (by kernel_rfl) (fun _ _ _ h => h) (Or.inl ⟨by rfl, (fun W _ => by go_simp)⟩) S0.out ?_
      simp only [List.getElem_toArray, List.getElem_cons_succ, List.getElem_cons_zero, Act.put, List.setIfInBounds_toArray, List.set_cons_zero, List.set_cons_succ]
      refine wpAnyH_take (i := 2) (v := .pointer (some ⟨b, off + i * 7, none⟩)) rfl (by kernel_rfl) (by kernel_rfl) (by kernel_rfl) (fun _ _ _ h => h) (Or.inl ⟨by rfl, (fun W _ => by go_simp)⟩) S0.out ?_
      simp only [List.getElem_toArray, List.getElem_cons_succ, List.getElem_cons_zero, Act.put, List.setIfInBounds_toArray, List.set_cons_zero, List.set_cons_succ]
      refine wpAnyH_take (i := 3) (v := .agg c.cells) rfl (by kernel_rfl) (by kernel_rfl) (by kernel_rfl) (fun _ _ _ h => h) (yields_ld (by rfl) 38 (.tmp 77) rfl _ _ (fun W hW => (HSC.out W hW).ld) rfl) S0.out ?_
      simp only [List.getElem_toArray, List.getElem_cons_succ, List.getElem_cons_zero, Act.put, List.setIfInBounds_toArray, List.set_cons_zero, List.set_cons_succ]
      refine wpAnyH_take (i := 5) (v := .slice (some ⟨b, off, none⟩) n cap) rfl (by kernel_rfl) (by kernel_rfl) (by kernel_rfl) (fun _ _ _ h => h) (Or.inl ⟨by rfl, (fun W _ => by go_simp)⟩) S0.out ?_
      simp only [List.getElem_toArray, List.getElem_cons_succ, List.getElem_cons_zero, Act.put, List.setIfInBounds_toArray, List.set_cons_zero, List.set_cons_succ]
      refine wpAnyH_take (i := 6) (v := .int .i64 (i : Int)) rfl (by kernel_rfl) (by kernel_rfl) (by kernel_rfl) (fun _ _ _ h => h) (Or.inl ⟨by rfl, (fun W _ => by go_simp)⟩) S0.out ?_
      simp only [List.getElem_toArray, List.getElem_cons_succ, List.getElem_cons_zero, Act.put, List.setIfInBounds_toArray, List.set_cons_zero, List.set_cons_succ]
      refine wpAnyH_take (i := 7) (v := .pointer (some ⟨b, off + i * 7, none⟩)) rfl (by kernel_rfl) (by kernel_rfl) (by kernel_rfl) (fun _ _ _ h => h) (Or.inl ⟨by rfl, (fun W _ => by go_simp)⟩) S0.out ?_
      simp only [List.getElem_toArray, List.getElem_cons_succ, List.getElem_cons_zero, Act.put, List.setIfInBounds_toArray, List.set_cons_zero, List.set_cons_succ]
      refine wpAnyH_take (i := 8) (v := .agg c.cells) rfl (by kernel_rfl) (by kernel_rfl) (by kernel_rfl) (fun _ _ _ h => h) (yields_ld (by rfl) 38 (.tmp 82) rfl _ _ (fun W hW => (HSC.out W hW).ld) rfl) S0.out ?_
      simp only [List.getElem_toArray, List.getElem_cons_succ, List.getElem_cons_zero, Act.put, List.setIfInBounds_toArray, List.set_cons_zero, List.set_cons_succ]
      refine wpAnyH_ready (rs := [4]) (by kernel_rfl) (by simp) ?_
      refine AllReadyH.cons rfl (fun K hK => ?_) AllReadyH.nil
      go_simp
      refine (HR1.out _).mono ?_
      rintro e x1 ⟨rfl, y1⟩
      have S1 := Lib.hid (show Below wr.heap.size wr.drew x1 from y1)
      clear y1
      refine hK.out _ _ S1.out (fun _ => ?_)
      clear hK K
      refine wpAnyH_ready (rs := [9]) (by kernel_rfl) (by simp) ?_
      refine AllReadyH.cons rfl (fun K hK => ?_) AllReadyH.nil
      go_simp
      refine (HR2.out _).mono ?_
      rintro e x2 ⟨rfl, y2⟩
      have S2 := Lib.hid (belowThen S1.out y2 S1.out.size)
      clear y2
      refine hK.out _ _ S2.out (fun _ => ?_)
      clear hK K
      refine wpAnyH_take (i := 10) (v := .bool false) rfl (by kernel_rfl) (by kernel_rfl) (by kernel_rfl) (fun _ _ _ h => h) (Or.inl ⟨by rfl, (fun W _ => by go_simp)⟩) S2.out ?_
      simp only [List.getElem_toArray, List.getElem_cons_succ, List.getElem_cons_zero, Act.put, List.setIfInBounds_toArray, List.set_cons_zero, List.set_cons_succ]
      refine wpAnyH_take (i := 11) (v := .bool false) rfl (by kernel_rfl) (by kernel_rfl) (by kernel_rfl) (fun _ _ _ h => h) (Or.inl ⟨by rfl, (fun W _ => by go_simp)⟩) S2.out ?_
      simp only [List.getElem_toArray, List.getElem_cons_succ, List.getElem_cons_zero, Act.put, List.setIfInBounds_toArray, List.set_cons_zero, List.set_cons_succ]
      refine wpAnyH_take (i := 12) (v := .slice (some ⟨b, off, none⟩) n cap) rfl (by kernel_rfl) (by kernel_rfl) (by kernel_rfl) (fun _ _ _ h => h) (Or.inl ⟨by rfl, (fun W _ => by go_simp)⟩) S2.out ?_
      simp only [List.getElem_toArray, List.getElem_cons_succ, List.getElem_cons_zero, Act.put, List.setIfInBounds_toArray, List.set_cons_zero, List.set_cons_succ]
      refine wpAnyH_take (i := 13) (v := .int .i64 (i : Int)) rfl (by kernel_rfl) (by kernel_rfl) (by kernel_rfl) (fun _ _ _ h => h) (Or.inl ⟨by rfl, (fun W _ => by go_simp)⟩) S2.out ?_
      simp only [List.getElem_toArray, List.getElem_cons_succ, List.getElem_cons_zero, Act.put, List.setIfInBounds_toArray, List.set_cons_zero, List.set_cons_succ]
      refine wpAnyH_take (i := 14) (v := .pointer (some ⟨b, off + i * 7, none⟩)) rfl (by kernel_rfl) (by kernel_rfl) (by kernel_rfl) (fun _ _ _ h => h) (Or.inl ⟨by rfl, (fun W _ => by go_simp)⟩) S2.out ?_
      simp only [List.getElem_toArray, List.getElem_cons_succ, List.getElem_cons_zero, Act.put, List.setIfInBounds_toArray, List.set_cons_zero, List.set_cons_succ]
      refine wpAnyH_take (i := 15) (v := .agg c.cells) rfl (by kernel_rfl) (by kernel_rfl) (by kernel_rfl) (fun _ _ _ h => h) (yields_ld (by rfl) 38 (.tmp 89) rfl _ _ (fun W hW => (HSC.out W hW).ld) rfl) S2.out ?_
      simp only [List.getElem_toArray, List.getElem_cons_succ, List.getElem_cons_zero, Act.put, List.setIfInBounds_toArray, List.set_cons_zero, List.set_cons_succ]
      refine wpAnyH_take (i := 17) (v := .slice (some ⟨b, off, none⟩) n cap) rfl (by kernel_rfl) (by kernel_rfl) (by kernel_rfl) (fun _ _ _ h => h) (Or.inl ⟨by rfl, (fun W _ => by go_simp)⟩) S2.out ?_
      simp only [List.getElem_toArray, List.getElem_cons_succ, List.getElem_cons_zero, Act.put, List.setIfInBounds_toArray, List.set_cons_zero, List.set_cons_succ]
      refine wpAnyH_take (i := 18) (v := .int .i64 (i : Int)) rfl (by kernel_rfl) (by kernel_rfl) (by kernel_rfl) (fun _ _ _ h => h) (Or.inl ⟨by rfl, (fun W _ => by go_simp)⟩) S2.out ?_
      simp only [List.getElem_toArray, List.getElem_cons_succ, List.getElem_cons_zero, Act.put, List.setIfInBounds_toArray, List.set_cons_zero, List.set_cons_succ]
      refine wpAnyH_take (i := 19) (v := .pointer (some ⟨b, off + i * 7, none⟩)) rfl (by kernel_rfl) (by kernel_rfl) (by kernel_rfl) (fun _ _ _ h => h) (Or.inl ⟨by rfl, (fun W _ => by go_simp)⟩) S2.out ?_
      simp only [List.getElem_toArray, List.getElem_cons_succ, List.getElem_cons_zero, Act.put, List.setIfInBounds_toArray, List.set_cons_zero, List.set_cons_succ]
      refine wpAnyH_take (i := 20) (v := .agg c.cells) rfl (by kernel_rfl) (by kernel_rfl) (by kernel_rfl) (fun _ _ _ h => h) (yields_ld (by rfl) 38 (.tmp 94) rfl _ _ (fun W hW => (HSC.out W hW).ld) rfl) S2.out ?_
      simp only [List.getElem_toArray, List.getElem_cons_succ, List.getElem_cons_zero, Act.put, List.setIfInBounds_toArray, List.set_cons_zero, List.set_cons_succ]
      refine wpAnyH_ready (rs := [16]) (by kernel_rfl) (by simp) ?_
      refine AllReadyH.cons rfl (fun K hK => ?_) AllReadyH.nil
      go_simp
      refine (HN1.out _).mono ?_
      rintro e x3 ⟨rfl, y3⟩
      have S3 := Lib.hid (belowThen S2.out y3 S2.out.size)
      clear y3
      refine hK.out _ _ S3.out (fun _ => ?_)
      clear hK K
      refine wpAnyH_ready (rs := [21]) (by kernel_rfl) (by simp) ?_
      refine AllReadyH.cons rfl (fun K hK => ?_) AllReadyH.nil
      go_simp
      refine (HN2.out _).mono ?_
      rintro e x4 ⟨rfl, y4⟩
      have S4 := Lib.hid (belowThen S3.out y4 S3.out.size)
      clear y4
      refine hK.out _ _ S4.out (fun _ => ?_)
      clear hK K
      refine wpAnyH_take (i := 22) (v := .bool false) rfl (by kernel_rfl) (by kernel_rfl) (by kernel_rfl) (fun _ _ _ h => h) (Or.inl ⟨by rfl, (fun W _ => by go_simp)⟩) S4.out ?_
      simp only [List.getElem_toArray, List.getElem_cons_succ, List.getElem_cons_zero, Act.put, List.setIfInBounds_toArray, List.set_cons_zero, List.set_cons_succ]
      refine wpAnyH_take (i := 23) (v := .bool false) rfl (by kernel_rfl) (by kernel_rfl) (by kernel_rfl) (fun _ _ _ h => h) (Or.inl ⟨by rfl, (fun W _ => by go_simp)⟩) S4.out ?_
      simp only [List.getElem_toArray, List.getElem_cons_succ, List.getElem_cons_zero, Act.put, List.setIfInBounds_toArray, List.set_cons_zero, List.set_cons_succ]
      refine wpAnyH_done (by kernel_rfl) ?_ _
      have HB' := Lib.hid (HB.out.trans ((((Below.refl wr.heap.size wr).drew).trans S4.out).mono HB.out.size))
      clear S0 S1 S2 S3 S4 HSC
      go_wp2
      go_roundw
      case rel => exact ⟨i + 1, HB'.out, by go_num, by omega⟩
      case measure => simp [intOf]; omega
end Go.Proofs.Ytljkngalnoepmaa.capsDeal
