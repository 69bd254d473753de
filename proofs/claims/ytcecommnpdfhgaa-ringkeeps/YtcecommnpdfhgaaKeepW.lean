/-
  The walk of the law RingKeeps: whatever is cut in a Put, what is told behind it is what was there ahead, or what was put; conditions: as each states.
-/
import Derived.Test.YtcecommnpdfhgaaRgK
namespace Go.Proofs.Ytcecommnpdfhgaa.ringKeeps
open Go.RowKit
set_option linter.unusedVariables false
set_option linter.unusedSimpArgs false

/-- So many Puts are made, whatever was cut. -/
def Keep (w : World) (T x g m k len0 : Nat) (v11 v12 v13 : Value) (wr : World) : Prop :=
  ∃ (i : Nat) (seq : Int) (j : Nat) (zs : List Int) (S : Fs), v13 = .int .i64 (i : Int) ∧ i ≤ len0 ∧ v12 = .int .i64 seq ∧ v11 = .string (strOfNums (rawL zs 156)) ∧ Rg w wr T x g m k S ⟨0, 4, 1000⟩ ∧ Kept S ⟨0, 4, 1000⟩ j seq zs ∧ S.ops ≤ 2 * i + 2 ∧ 1 ≤ seq ∧ seq ≤ (i : Int) + 1 ∧ T ≤ wr.heap.size
/-- The row that is put first. -/
def rowK (k : Nat) : List Int := List.replicate 156 0
theorem walk_out (a0 a1 a2 : Option Addr) (len0 cap0 len1 cap1 len2 cap2 : Nat) (w : World) (h : 30 < len0 ∨ len1 < len0 ∨ len2 < len0) :
    Calls Try.prog 3 #[.slice a0 len0 cap0, .slice a1 len1 cap1, .slice a2 len2 cap2] w fun e w' => e = .returned (.bool true) ∧ Below w.heap.size w w' := by
  by_cases h1 : 30 < len0
  · have i1 : (30 : Int) < (len0 : Int) := by omega
    clear h
    go_enter Try.func3, Try.ntmps3
    go_wp2_with (go_at_call 6; refine (alive_any _).mono ?_; rintro e w1 ⟨rfl, H1⟩)
    go_ret
    exact ⟨rfl, H1⟩
  have i1 : ¬ (30 : Int) < (len0 : Int) := by omega
  by_cases h2 : len1 < len0
  · clear h
    go_enter Try.func3, Try.ntmps3
    go_wp2_with (go_at_call 6; refine (alive_any _).mono ?_; rintro e w1 ⟨rfl, H1⟩)
    go_ret
    exact ⟨rfl, H1⟩
  have h3 : len2 < len0 := by omega
  clear h
  go_enter Try.func3, Try.ntmps3
  go_wp2_with (go_at_call 6; refine (alive_any _).mono ?_; rintro e w1 ⟨rfl, H1⟩)
  go_ret
  exact ⟨rfl, H1⟩
set_option maxRecDepth 100000 in
set_option maxHeartbeats 4000000 in
theorem walk_within (a0 : Option Addr) (len0 cap0 : Nat) (A : Nat → Option Addr) (L C : Nat → Nat) (Z : Nat → List Int) (a1 : Option Addr) (len1 cap1 : Nat) (B : Nat → Int) (a2 : Option Addr) (len2 cap2 : Nat) (AM : Nat → Option Addr) (LM CM : Nat → Nat) (ZM : Nat → List Int) (w : World)
    (hp : Parts w a0 len0 A L C Z) (hq : Nums w a1 len1 B) (hr : Parts w a2 len2 AM LM CM ZM) (h30 : len0 ≤ 30) (h01 : len0 ≤ len1) (h02 : len0 ≤ len2) :
    Calls Try.prog 3 #[.slice a0 len0 cap0, .slice a1 len1 cap1, .slice a2 len2 cap2] w fun e w' => e = .returned (.bool true) ∧ Below w.heap.size w w' := by
  have i30 : ¬ (30 : Int) < (len0 : Int) := by omega
  have d01 : ¬ len1 < len0 := by omega
  have d02 : ¬ len2 < len0 := by omega
  have hmk : ∀ w, (Instr.makeSlice 31 (.int .i64 156) (.int .i64 156)).run Try.prog w = .ok (.slice (some ⟨w.heap.size, 0, none⟩) 156 156) (w.alloc (.cells (zeroBytes 156) 5)) := fun w => ce_make_bytes .i64 .i64 156 156 (by omega) (by omega) w
  have HP := Lib.hid hp
  have HQ := Lib.hid hq
  have HRR := Lib.hid hr
  have r0 := rn_made (b := 1000) (by omega) rowK
  have s1 := r0.step (by omega) (by decide) (byt_zeros 156) (by simp [rowK])
  have S1 := Lib.hid s1
  have O0 := Lib.hid (show (fresh 4).ops ≤ 999999 by simp [fresh])
  clear hp hq hr r0 s1
  go_enter Try.func3, Try.ntmps3
  go_wp2_with (first
    | (go_at_call 6; (refine (alive_any _).mono ?_); rintro e u1 ⟨rfl, H1⟩; have hn := Lib.hid (new_any 4 u1))
    | (go_at_call 7; (with_reducible refine hn.out.mono ?_); rintro e u2 ⟨g, m, k, rfl, hg, hm, hk, f2, b2⟩; rw [sect4] at f2; have HN := newArea_any 0 0 4 1000 u2 f2 ⟨i64_of (by omega), i64_of (by omega), i64_of (by omega)⟩; rw [rg_len, made4 (by omega)] at HN; unfold capCells at HN)
    | (go_at_call 8; (with_reducible refine HN.mono ?_); rintro e u3 ⟨x, rfl, hx, a3, b3⟩; clear HN; have s1 := H1.size; have R3 : Hid (Rg w u3 u2.heap.size x g m k (fresh 4) ⟨0, 4, 1000⟩) := Lib.hid (rg_made (w0 := w) (b := 1000) ⟨by omega, by omega⟩ (by omega) (by omega) (by omega) f2 (belowThen H1 b2) hx a3 b3); have hT3 := b3.size; clear s1 hg hm hk f2 b2 hx a3 b3 hn H1; have R4 := Lib.hid (R3.out.lit (.cells (zeroBytes 156) 5)); have HRow := Lib.hid (row_text u3 (List.replicate 156 0) (byt_zeros 156) 156 (by simp) (0, 0)); have HPt := Lib.hid (rg_put R4.out O0.out 156 HRow.out); have HLt := Lib.hid (fun b (hb : In3 g m k b) => R3.out.fl.lt hb); clear R3)
    | (go_at_call 10; (with_reducible refine HPt.out.mono ?_); rintro e u5 ⟨rfl, R5', o5⟩; clear HPt; have R5 := Lib.hid R5'; have hT5 : u2.heap.size ≤ u5.heap.size := Nat.le_trans (Nat.le_trans hT3 (by simp)) o5.size; have r5 := row_keep HRow.out o5 (fun y hy hb => by cases hy; have := HLt.out _ hb; simp only [] at this; omega); have hcv := conv_row (c := 156) r5; rw [show (putR (fresh 4) ⟨0, 4, 1000⟩ (List.replicate 156 0)).1 = 0 from S1.out.1]; clear R5' o5 r5 HLt R4 HRow hT3)
    | (go_at_call 9; (with_reducible refine (lnum_any _ _).mono ?_); rintro e w14 ⟨rfl, rfl⟩))
  obtain ⟨T, hTe⟩ : ∃ T, T = u2.heap.size := ⟨_, rfl⟩
  rw [← hTe] at R5 hT5
  have HS := Lib.hid (show Keep w T x g m k len0 (.string (strOfNums (List.replicate 156 0))) (.int .i64 1) (.int .i64 0) u5 from ⟨0, 1, 0, rowK 0, _, rfl, by omega, rfl, by rw [show rowK 0 = List.replicate 156 0 from rfl, raw_all], R5.out, S1.out.2.2.kept (by omega) (by omega) (byt_zeros 156), S1.out.2.2.ops, by omega, by omega, hT5⟩)
  clear R5 hT5 hTe S1 hcv
  go_loopw [11, 12, 13] (Keep w T x g m k len0) (fun _ _ i _ => len0 - (intOf i).toNat)
  case atStart => exact HS.out
  case round =>
    clear HS hmk
    obtain ⟨i, seq, j, zs, S, rfl, hi, rfl, rfl, hR, hK, hops, hsq1, hsq2, hT⟩ := hrel
    have HR := Lib.hid hR
    have HK := Lib.hid hK
    clear hR hK
    by_cases hlt : i < len0
    · obtain ⟨b0, off0, rfl, hb0, hrows⟩ := HP.out.resolve_left (by omega)
      obtain ⟨b1, off1, rfl, hb1, hnums⟩ := HQ.out.resolve_left (by omega)
      obtain ⟨b2, off2, rfl, hb2, hmasks⟩ := HRR.out.resolve_left (by omega)
      obtain ⟨hc0, hLC, hrow0⟩ := hrows i hlt
      have hc1 := hnums i (by omega)
      obtain ⟨hc2, hLM, hrow2⟩ := hmasks i (by omega)
      have HB0 := Lib.hid hb0
      have HB1 := Lib.hid hb1
      have HB2 := Lib.hid hb2
      have HC0 := Lib.hid hc0
      have HC1 := Lib.hid hc1
      have HC2 := Lib.hid hc2
      have HRL := Lib.hid hrow0
      have HRM := Lib.hid hrow2
      clear hrows hnums hmasks hc0 hc1 hc2 hb0 hb1 hb2 hrow0 hrow2 HP HQ HRR
      have ck : wr.cell? ⟨b0, off0 + i, none⟩ = some (.slice (A i) (L i) (C i)) := (HR.out.bel.cell (p := ⟨b0, off0 + i, none⟩) HB0.out).trans HC0.out
      have cm : wr.cell? ⟨b2, off2 + i, none⟩ = some (.slice (AM i) (LM i) (CM i)) := (HR.out.bel.cell (p := ⟨b2, off2 + i, none⟩) HB2.out).trans HC2.out
      have ik : (i : Int) < (len0 : Int) := by omega
      have ik1 : i < len1 := by omega
      have ik2 : i < len2 := by omega
      by_cases hL : 156 < L i
      · have iL : (156 : Int) < (L i : Int) := by omega
        go_wp2
        go_ret
        exact ⟨rfl, HR.out.bel⟩
      have iL : ¬ (156 : Int) < (L i : Int) := by omega
      by_cases hM : 50 < LM i
      · have iM : (50 : Int) < (LM i : Int) := by omega
        go_wp2
        go_ret
        exact ⟨rfl, HR.out.bel⟩
      have iM : ¬ (50 : Int) < (LM i : Int) := by omega
      obtain ⟨D, hD⟩ : ∃ D, D = 156 - L i := ⟨_, rfl⟩
      have iD : IntKind.i64.wrap (156 - (L i : Int)) = (D : Int) := by rw [IntKind.wrap_i64]; omega
      have HRW := Lib.hid (show Z i ++ List.replicate D 0 = rawL (Z i) 156 by rw [raw_is (by rw [HRL.out.1]; omega), HRL.out.1, hD])
      have HCL := Lib.hid (fun W (hW : Below wr.heap.size wr.drew W) => show W.cell? ⟨b0, off0 + i, none⟩ = some (.slice (A i) (L i) (C i)) from ((((HR.out.drew).kept hW).bel).cell (p := ⟨b0, off0 + i, none⟩) HB0.out).trans HC0.out)
      have HRD := Lib.hid (row_below (HR.out.drew).bel HRL.out)
      have HDL := Lib.hid (show L i + D = 156 by omega)
      clear hD
      · go_wp2_with fail
        clear ck cm
        · refine wp_region_held_drew (S := fun w' => Below wr.heap.size wr.drew w') (by kernel_rfl) (Below.refl _ _) ?_
          intro hS7
          refine wpAnyH_take (i := 0) (v := .slice (some ⟨b0, off0, none⟩) len0 cap0) rfl (by kernel_rfl) (by kernel_rfl) (by kernel_rfl) (fun _ _ _ h => h) (Or.inl ⟨by rfl, (fun W _ => by go_simp)⟩) hS7 ?_
          simp only [List.getElem_toArray, List.getElem_cons_succ, List.getElem_cons_zero, Act.put, List.setIfInBounds_toArray, List.set_cons_zero, List.set_cons_succ]
          refine wpAnyH_take (i := 1) (v := .int .i64 (i : Int)) rfl (by kernel_rfl) (by kernel_rfl) (by kernel_rfl) (fun _ _ _ h => h) (Or.inl ⟨by rfl, (fun W _ => by go_simp)⟩) hS7 ?_
          simp only [List.getElem_toArray, List.getElem_cons_succ, List.getElem_cons_zero, Act.put, List.setIfInBounds_toArray, List.set_cons_zero, List.set_cons_succ]
          refine wpAnyH_take (i := 2) (v := .pointer (some ⟨b0, off0 + i, none⟩)) rfl (by kernel_rfl) (by kernel_rfl) (by kernel_rfl) (fun _ _ _ h => h) (Or.inl ⟨by rfl, (fun W _ => by go_simp)⟩) hS7 ?_
          simp only [List.getElem_toArray, List.getElem_cons_succ, List.getElem_cons_zero, Act.put, List.setIfInBounds_toArray, List.set_cons_zero, List.set_cons_succ]
          refine wpAnyH_take (i := 3) (v := .slice (A i) (L i) (C i)) rfl (by kernel_rfl) (by kernel_rfl) (by kernel_rfl) (fun _ _ _ h => h) (Or.inl ⟨by rfl, (fun W hW => by have hcv := HCL.out W hW; go_simp)⟩) hS7 ?_
          simp only [List.getElem_toArray, List.getElem_cons_succ, List.getElem_cons_zero, Act.put, List.setIfInBounds_toArray, List.set_cons_zero, List.set_cons_succ]
          refine wpAnyH_take (i := 5) (v := .slice (some ⟨b0, off0, none⟩) len0 cap0) rfl (by kernel_rfl) (by kernel_rfl) (by kernel_rfl) (fun _ _ _ h => h) (Or.inl ⟨by rfl, (fun W _ => by go_simp)⟩) hS7 ?_
          simp only [List.getElem_toArray, List.getElem_cons_succ, List.getElem_cons_zero, Act.put, List.setIfInBounds_toArray, List.set_cons_zero, List.set_cons_succ]
          refine wpAnyH_take (i := 6) (v := .int .i64 (i : Int)) rfl (by kernel_rfl) (by kernel_rfl) (by kernel_rfl) (fun _ _ _ h => h) (Or.inl ⟨by rfl, (fun W _ => by go_simp)⟩) hS7 ?_
          simp only [List.getElem_toArray, List.getElem_cons_succ, List.getElem_cons_zero, Act.put, List.setIfInBounds_toArray, List.set_cons_zero, List.set_cons_succ]
          refine wpAnyH_take (i := 7) (v := .pointer (some ⟨b0, off0 + i, none⟩)) rfl (by kernel_rfl) (by kernel_rfl) (by kernel_rfl) (fun _ _ _ h => h) (Or.inl ⟨by rfl, (fun W _ => by go_simp)⟩) hS7 ?_
          simp only [List.getElem_toArray, List.getElem_cons_succ, List.getElem_cons_zero, Act.put, List.setIfInBounds_toArray, List.set_cons_zero, List.set_cons_succ]
          refine wpAnyH_take (i := 8) (v := .slice (A i) (L i) (C i)) rfl (by kernel_rfl) (by kernel_rfl) (by kernel_rfl) (fun _ _ _ h => h) (Or.inl ⟨by rfl, (fun W hW => by have hcv := HCL.out W hW; go_simp)⟩) hS7 ?_
          simp only [List.getElem_toArray, List.getElem_cons_succ, List.getElem_cons_zero, Act.put, List.setIfInBounds_toArray, List.set_cons_zero, List.set_cons_succ]
          refine wpAnyH_take (i := 9) (v := .int .i64 (L i : Int)) rfl (by kernel_rfl) (by kernel_rfl) (by kernel_rfl) (fun _ _ _ h => h) (Or.inl ⟨by rfl, (fun W _ => by go_simp)⟩) hS7 ?_
          simp only [List.getElem_toArray, List.getElem_cons_succ, List.getElem_cons_zero, Act.put, List.setIfInBounds_toArray, List.set_cons_zero, List.set_cons_succ]
          refine wpAnyH_take (i := 10) (v := .int .i64 (D : Int)) rfl (by kernel_rfl) (by kernel_rfl) (by kernel_rfl) (fun _ _ _ h => h) (Or.inl ⟨by rfl, (fun W _ => by go_simp)⟩) hS7 ?_
          simp only [List.getElem_toArray, List.getElem_cons_succ, List.getElem_cons_zero, Act.put, List.setIfInBounds_toArray, List.set_cons_zero, List.set_cons_succ]
          have k7 := row_below (w := wr.drew) hS7 HRD.out
          obtain ⟨v8, w8, hrun8, o8, g8⟩ := runs_app wr.drew wr.heap.size 31 (.slice none 0 0) 0 [] (own_nil _ _) (A i) (L i) (C i) (Z i) k7 (row_none k7) (by omega) (Nat.le_refl _)
          rw [Nat.zero_add, List.nil_append] at o8
          have hS8 : Below wr.heap.size wr.drew w8 := below_own (Below.refl _ wr.drew) (own_nil wr.drew wr.heap.size) g8 (Nat.le_refl _) (Nat.le_refl _)
          refine wpAnyH_ready (rs := [4]) (by kernel_rfl) (by simp) ?_
          refine AllReadyH.cons rfl (fun K hK => ?_) AllReadyH.nil
          refine step_run (by rfl) (.const (.slice none 0 0)) (.tmp 77) rfl 31 rfl (.slice none 0 0) (.slice (A i) (L i) (C i)) v8 rfl rfl hrun8 ?_
          refine hK.out _ _ hS8 (fun _ => ?_)
          clear hK K hrun8
          simp only [List.getElem_toArray, List.getElem_cons_succ, List.getElem_cons_zero, Act.put, List.setIfInBounds_toArray, List.set_cons_zero, List.set_cons_succ]
          obtain ⟨v9, w9, hrun9, o9, g9⟩ := runs_zeros w8 wr.heap.size 31 v8 (L i) (Z i) o8 D (by have := HDL.out; omega) hS8.size
          have hS9 : Below wr.heap.size wr.drew w9 := below_own hS8 o8 g9 (Nat.le_refl _) hS8.size
          refine wpAnyH_ready (rs := [11]) (by kernel_rfl) (by simp) ?_
          refine AllReadyH.cons rfl (fun K hK => ?_) AllReadyH.nil
          refine step_zeros (by rfl) (.tmp 78) (.tmp 84) rfl 31 rfl v8 (.int .i64 (D : Int)) v9 rfl rfl hrun9 ?_
          refine hK.out _ _ hS9 (fun _ => ?_)
          clear hK K hrun9
          simp only [List.getElem_toArray, List.getElem_cons_succ, List.getElem_cons_zero, Act.put, List.setIfInBounds_toArray, List.set_cons_zero, List.set_cons_succ]
          obtain ⟨A9, c9, rfl, hc9, r9, _⟩ := o9.form
          have hcv := conv_row (c := c9) r9
          rw [HRW.out] at hcv
          refine wpAnyH_ready (rs := [12]) (by kernel_rfl) (by simp) ?_
          refine AllReadyH.cons rfl (fun K hK => ?_) AllReadyH.nil
          go_simp
          refine hK.out _ _ hS9 (fun _ => ?_)
          clear hK K hcv
          refine wpAnyH_take (i := 13) (v := .string (strOfNums (rawL (Z i) 156))) rfl (by kernel_rfl) (by kernel_rfl) (by kernel_rfl) (fun _ _ _ h => h) (Or.inl ⟨by rfl, (fun W _ => by go_simp)⟩) hS9 ?_
          simp only [List.getElem_toArray, List.getElem_cons_succ, List.getElem_cons_zero, Act.put, List.setIfInBounds_toArray, List.set_cons_zero, List.set_cons_succ]
          refine wpAnyH_done (by kernel_rfl) ?_ _
          have R9 := Lib.hid ((HR.out.drew).kept hS9)
          have hT9 : T ≤ w9.heap.size := Nat.le_trans hT hS9.size
          clear hS7 hS8 hS9 k7 o8 o9 g8 g9 r9 hc9 HCL HRD
          go_wp2_with fail
          have HLOW := Lib.hid (fun W (hW : Only (In3 g m k) w9.drew W) => (R9.out.drew).bel.trans (hW.to_below (B := w.heap.size) (R9.out.drew).bel.size (by rintro b (rfl | rfl | rfl); exact R9.out.hg; exact R9.out.hm; exact R9.out.hk)))
          have HCC := Lib.hid (fun W (hW : Only (In3 g m k) w9.drew W) => show W.cell? ⟨b1, off1 + i, none⟩ = some (.int .i64 (B i)) from ((HLOW.out W hW).cell (p := ⟨b1, off1 + i, none⟩) HB1.out).trans HC1.out)
          have HCM := Lib.hid (fun W (hW : Only (In3 g m k) w9.drew W) => show W.cell? ⟨b2, off2 + i, none⟩ = some (.slice (AM i) (LM i) (CM i)) from ((HLOW.out W hW).cell (p := ⟨b2, off2 + i, none⟩) HB2.out).trans HC2.out)
          have HCu := Lib.hid (rg_cut (R9.out.drew) (bits .and .i64 (B i) 3) (i64_bits _ _) (row_below (R9.out.drew).bel HRM.out) hLM (by omega) hT9)
          refine wp_region_held_drew (S := fun w' => Only (In3 g m k) w9.drew w') (by kernel_rfl) (Only.refl _ _) ?_
          intro hS7
          refine wpAnyH_take (i := 0) (v := .pointer (some ⟨g, 0, none⟩)) rfl (by kernel_rfl) (by kernel_rfl) (by kernel_rfl) (fun _ _ _ h => h) (Or.inl ⟨by rfl, (fun W _ => by go_simp)⟩) hS7 ?_
          simp only [List.getElem_toArray, List.getElem_cons_succ, List.getElem_cons_zero, Act.put, List.setIfInBounds_toArray, List.set_cons_zero, List.set_cons_succ]
          refine wpAnyH_take (i := 1) (v := .slice (some ⟨b1, off1, none⟩) len1 cap1) rfl (by kernel_rfl) (by kernel_rfl) (by kernel_rfl) (fun _ _ _ h => h) (Or.inl ⟨by rfl, (fun W _ => by go_simp)⟩) hS7 ?_
          simp only [List.getElem_toArray, List.getElem_cons_succ, List.getElem_cons_zero, Act.put, List.setIfInBounds_toArray, List.set_cons_zero, List.set_cons_succ]
          refine wpAnyH_take (i := 2) (v := .int .i64 (i : Int)) rfl (by kernel_rfl) (by kernel_rfl) (by kernel_rfl) (fun _ _ _ h => h) (Or.inl ⟨by rfl, (fun W _ => by go_simp)⟩) hS7 ?_
          simp only [List.getElem_toArray, List.getElem_cons_succ, List.getElem_cons_zero, Act.put, List.setIfInBounds_toArray, List.set_cons_zero, List.set_cons_succ]
          refine wpAnyH_take (i := 3) (v := .pointer (some ⟨b1, off1 + i, none⟩)) rfl (by kernel_rfl) (by kernel_rfl) (by kernel_rfl) (fun _ _ _ h => h) (Or.inl ⟨by rfl, (fun W _ => by go_simp)⟩) hS7 ?_
          simp only [List.getElem_toArray, List.getElem_cons_succ, List.getElem_cons_zero, Act.put, List.setIfInBounds_toArray, List.set_cons_zero, List.set_cons_succ]
          refine wpAnyH_take (i := 4) (v := .int .i64 (B i)) rfl (by kernel_rfl) (by kernel_rfl) (by kernel_rfl) (fun _ _ _ h => h) (Or.inl ⟨by rfl, (fun W hW => by have hcv := HCC.out W hW; go_simp)⟩) hS7 ?_
          simp only [List.getElem_toArray, List.getElem_cons_succ, List.getElem_cons_zero, Act.put, List.setIfInBounds_toArray, List.set_cons_zero, List.set_cons_succ]
          refine wpAnyH_take (i := 5) (v := .int .i64 (bits .and .i64 (B i) 3)) rfl (by kernel_rfl) (by kernel_rfl) (by kernel_rfl) (fun _ _ _ h => h) (Or.inl ⟨by rfl, (fun W _ => by go_simp)⟩) hS7 ?_
          simp only [List.getElem_toArray, List.getElem_cons_succ, List.getElem_cons_zero, Act.put, List.setIfInBounds_toArray, List.set_cons_zero, List.set_cons_succ]
          refine wpAnyH_take (i := 6) (v := .slice (some ⟨b2, off2, none⟩) len2 cap2) rfl (by kernel_rfl) (by kernel_rfl) (by kernel_rfl) (fun _ _ _ h => h) (Or.inl ⟨by rfl, (fun W _ => by go_simp)⟩) hS7 ?_
          simp only [List.getElem_toArray, List.getElem_cons_succ, List.getElem_cons_zero, Act.put, List.setIfInBounds_toArray, List.set_cons_zero, List.set_cons_succ]
          refine wpAnyH_take (i := 7) (v := .int .i64 (i : Int)) rfl (by kernel_rfl) (by kernel_rfl) (by kernel_rfl) (fun _ _ _ h => h) (Or.inl ⟨by rfl, (fun W _ => by go_simp)⟩) hS7 ?_
          simp only [List.getElem_toArray, List.getElem_cons_succ, List.getElem_cons_zero, Act.put, List.setIfInBounds_toArray, List.set_cons_zero, List.set_cons_succ]
          refine wpAnyH_take (i := 8) (v := .pointer (some ⟨b2, off2 + i, none⟩)) rfl (by kernel_rfl) (by kernel_rfl) (by kernel_rfl) (fun _ _ _ h => h) (Or.inl ⟨by rfl, (fun W _ => by go_simp)⟩) hS7 ?_
          simp only [List.getElem_toArray, List.getElem_cons_succ, List.getElem_cons_zero, Act.put, List.setIfInBounds_toArray, List.set_cons_zero, List.set_cons_succ]
          refine wpAnyH_take (i := 9) (v := .slice (AM i) (LM i) (CM i)) rfl (by kernel_rfl) (by kernel_rfl) (by kernel_rfl) (fun _ _ _ h => h) (Or.inl ⟨by rfl, (fun W hW => by have hcv := HCM.out W hW; go_simp)⟩) hS7 ?_
          simp only [List.getElem_toArray, List.getElem_cons_succ, List.getElem_cons_zero, Act.put, List.setIfInBounds_toArray, List.set_cons_zero, List.set_cons_succ]
          refine wpAnyH_ready (rs := [10]) (by kernel_rfl) (by simp) ?_
          refine AllReadyH.cons rfl (fun K hK => ?_) AllReadyH.nil
          go_simp
          refine (HCu.out).mono ?_
          rintro e w10 ⟨rfl, R10', o10⟩; have hS10 : Only (In3 g m k) w9.drew w10 := o10
          refine hK.out _ _ hS10 (fun _ => ?_)
          clear hK K
          refine wpAnyH_done (by kernel_rfl) ?_ _
          have R10 := Lib.hid R10'
          have hT10 : T ≤ w10.heap.size := Nat.le_trans hT9 hS10.size
          clear R10' o10 hS7 hS10 HCu HCC HCM HLOW R9 hT9
          have hcl : w10.cell? ⟨b0, off0 + i, none⟩ = some (.slice (A i) (L i) (C i)) := (R10.out.bel.cell (p := ⟨b0, off0 + i, none⟩) HB0.out).trans HC0.out
          have hK1 := HK.out.cut (max (bits .and .i64 (B i) 3) 0).toNat (m := (ZM i).take S.mem.length) (byt_take HRM.out.2.1 _) (by rw [List.length_take]; have := HRM.out.1; omega)
          have hop1 : (cutAt S (max (bits .and .i64 (B i) 3) 0).toNat ((ZM i).take S.mem.length)).ops = S.ops := rfl
          generalize cutAt S (max (bits .and .i64 (B i) 3) 0).toNat ((ZM i).take S.mem.length) = S1 at *
          have hput := hK1.put (by rw [hop1]; show S.ops < 1000; omega) (by omega) (ys := Z i) HRL.out.2.1 (by rw [HRL.out.1]; omega)
          have HP := Lib.hid (rg_put R10.out (by omega) (C i) (row_below R10.out.bel HRL.out))
          obtain ⟨hee, hop2, hwr2, hok2, hfw2, hres⟩ := hput
          have HF2 := Lib.hid hfw2
          generalize hpr : putR S1 ⟨0, 4, 1000⟩ (Z i) = pr at *
          clear hK1 hok2 hwr2 hfw2
          have q1 : IntKind.i64.wrap (seq + 1) = seq + 1 := by rw [IntKind.wrap_i64]; omega
          have q2 : IntKind.i64.wrap ((i : Int) + 1) = (i : Int) + 1 := by rw [IntKind.wrap_i64]; omega
          obtain ⟨hres', hres0⟩ : ∃ y : Unit, (Kept (power pr.2) ⟨0, 4, 1000⟩ ((j + 1) % 4) (seq + 1) (Z i) ∨ (pr.1 = 4 ∧ Kept (power pr.2) ⟨0, 4, 1000⟩ j seq zs)) := ⟨(), hres⟩
          clear hres
          rcases hres0 with hn | ⟨he0, hn⟩
          · rcases hee with he0 | he0
            · replace hee : True := trivial
              have HH := Lib.hid hn.hd
              have HKN := Lib.hid hn
              have HLL := Lib.hid (raw_len (Z i) 156)
              have d1 : decide (0 < (seq + 1)) = true := decide_eq_true (by omega)
              clear hn hres' hee
              go_wp2_with (first
                | (go_at_call 10; (with_reducible refine HP.out.mono ?_); rintro e w11 ⟨rfl, R11', o11⟩; rw [hpr] at R11' ⊢; clear HP; rw [he0]; have HPw := Lib.hid (rg_power R11'); have hT11 : T ≤ w11.heap.size := Nat.le_trans hT10 o11.size; clear R11' o11)
                | (go_at_call 12; (with_reducible refine HPw.out.mono ?_); rintro e w12 ⟨rfl, R12', o12⟩; clear HPw; have R12 := Lib.hid R12'; have HLa := Lib.hid (rg_last R12'); rw [HH.out] at HLa; have hT12 : T ≤ w12.heap.size := Nat.le_trans hT11 o12.size; clear R12' o12 hT11)
                | (go_at_call 13; (with_reducible refine HLa.out.mono ?_); rintro e w13 ⟨v13, rfl, o13, b13⟩; clear HLa; rw [HLL.out] at o13; obtain ⟨A13, c13, rfl, hc13, r13, _⟩ := o13.form; have hcv := conv_row (c := c13) r13; have R13 := Lib.hid (R12.out.kept b13); have hT13 : T ≤ w13.heap.size := Nat.le_trans hT12 b13.size; clear o13 b13 r13 R12; simp only [d1])
                | (go_at_call 9; (with_reducible refine (lnum_any _ _).mono ?_); rintro e w14 ⟨rfl, rfl⟩))
              go_roundw
              case rel => exact ⟨i + 1, (seq + 1), ((j + 1) % 4), (Z i), _, by simp, by omega, rfl, rfl, R13.out, HKN.out, by show pr.2.ops ≤ _; omega, by omega, by omega, hT13⟩
              case measure => simp only [intOf]; omega
            · replace hee : True := trivial
              have HH := Lib.hid hn.hd
              have HKN := Lib.hid hn
              have HLL := Lib.hid (raw_len (Z i) 156)
              have d1 : decide (0 < (seq + 1)) = true := decide_eq_true (by omega)
              clear hn hres' hee
              go_wp2_with (first
                | (go_at_call 10; (with_reducible refine HP.out.mono ?_); rintro e w11 ⟨rfl, R11', o11⟩; rw [hpr] at R11' ⊢; clear HP; rw [he0]; have HPw := Lib.hid (rg_power R11'); have hT11 : T ≤ w11.heap.size := Nat.le_trans hT10 o11.size; clear R11' o11)
                | (go_at_call 12; (with_reducible refine HPw.out.mono ?_); rintro e w12 ⟨rfl, R12', o12⟩; clear HPw; have R12 := Lib.hid R12'; have HLa := Lib.hid (rg_last R12'); rw [HH.out] at HLa; have hT12 : T ≤ w12.heap.size := Nat.le_trans hT11 o12.size; clear R12' o12 hT11)
                | (go_at_call 13; (with_reducible refine HLa.out.mono ?_); rintro e w13 ⟨v13, rfl, o13, b13⟩; clear HLa; rw [HLL.out] at o13; obtain ⟨A13, c13, rfl, hc13, r13, _⟩ := o13.form; have hcv := conv_row (c := c13) r13; have R13 := Lib.hid (R12.out.kept b13); have hT13 : T ≤ w13.heap.size := Nat.le_trans hT12 b13.size; clear o13 b13 r13 R12; simp only [d1])
                | (go_at_call 9; (with_reducible refine (lnum_any _ _).mono ?_); rintro e w14 ⟨rfl, rfl⟩))
              go_roundw
              case rel => exact ⟨i + 1, (seq + 1), ((j + 1) % 4), (Z i), _, by simp, by omega, rfl, rfl, R13.out, HKN.out, by show pr.2.ops ≤ _; omega, by omega, by omega, hT13⟩
              case measure => simp only [intOf]; omega
          · have HH := Lib.hid hn.hd
            have HKN := Lib.hid hn
            have HLL := Lib.hid (raw_len zs 156)
            have d1 : decide (0 < seq) = true := decide_eq_true (by omega)
            clear hn hres' hee
            go_wp2_with (first
              | (go_at_call 10; (with_reducible refine HP.out.mono ?_); rintro e w11 ⟨rfl, R11', o11⟩; rw [hpr] at R11' ⊢; clear HP; rw [he0]; have HPw := Lib.hid (rg_power R11'); have hT11 : T ≤ w11.heap.size := Nat.le_trans hT10 o11.size; clear R11' o11)
              | (go_at_call 12; (with_reducible refine HPw.out.mono ?_); rintro e w12 ⟨rfl, R12', o12⟩; clear HPw; have R12 := Lib.hid R12'; have HLa := Lib.hid (rg_last R12'); rw [HH.out] at HLa; have hT12 : T ≤ w12.heap.size := Nat.le_trans hT11 o12.size; clear R12' o12 hT11)
              | (go_at_call 13; (with_reducible refine HLa.out.mono ?_); rintro e w13 ⟨v13, rfl, o13, b13⟩; clear HLa; rw [HLL.out] at o13; obtain ⟨A13, c13, rfl, hc13, r13, _⟩ := o13.form; have hcv := conv_row (c := c13) r13; have R13 := Lib.hid (R12.out.kept b13); have hT13 : T ≤ w13.heap.size := Nat.le_trans hT12 b13.size; clear o13 b13 r13 R12; simp only [d1])
              | (go_at_call 9; (with_reducible refine (lnum_any _ _).mono ?_); rintro e w14 ⟨rfl, rfl⟩))
            go_roundw
            case rel => exact ⟨i + 1, seq, j, zs, _, by simp, by omega, rfl, rfl, R13.out, HKN.out, by show pr.2.ops ≤ _; omega, by omega, by omega, hT13⟩
            case measure => simp only [intOf]; omega
    · obtain rfl : i = len0 := by omega
      have ik : ¬ (i : Int) < (i : Int) := by omega
      go_wp2
      go_ret
      exact ⟨rfl, HR.out.bel⟩
theorem walk (a0 : Option Addr) (len0 cap0 : Nat) (A : Nat → Option Addr) (L C : Nat → Nat) (Z : Nat → List Int) (a1 : Option Addr) (len1 cap1 : Nat) (B : Nat → Int) (a2 : Option Addr) (len2 cap2 : Nat) (AM : Nat → Option Addr) (LM CM : Nat → Nat) (ZM : Nat → List Int) (w : World)
    (hp : Parts w a0 len0 A L C Z) (hq : Nums w a1 len1 B) (hr : Parts w a2 len2 AM LM CM ZM) :
    Calls Try.prog 3 #[.slice a0 len0 cap0, .slice a1 len1 cap1, .slice a2 len2 cap2] w fun e w' => e = .returned (.bool true) ∧ Below w.heap.size w w' := by
  by_cases h : 30 < len0 ∨ len1 < len0 ∨ len2 < len0
  · exact walk_out a0 a1 a2 len0 cap0 len1 cap1 len2 cap2 w h
  · exact walk_within a0 len0 cap0 A L C Z a1 len1 cap1 B a2 len2 cap2 AM LM CM ZM w hp hq hr (by omega) (by omega) (by omega)
end Go.Proofs.Ytcecommnpdfhgaa.ringKeeps
